/- record: the law's twin. -/
import Derived.Test.YtljeedgnjgeopaaZb
import Derived.Deep.RegionLaw
namespace Go.Proofs.Ytljeedgnjgeopaa
open Go.ChangeShapes Go.WideShapes Go.ChangeAt Go.RowKit Go.Shelf
set_option linter.unusedVariables false
set_option linter.unusedSimpArgs false
set_option maxRecDepth 100000
set_option maxHeartbeats 4000000
/-- commands of any numbers, all in rows of their own -/
def AI (w : World) (v : Value) (xs : List Larder.ActI) : Prop := ∃ f, Rws w 64 2 v xs.length f ∧ ∀ i x, xs[i]? = some x → ∃ ai ci, f (i * 2) = .int .i64 x.1 ∧ f (i * 2 + 1) = .slice ai x.2.length ci ∧ TL w (.slice ai x.2.length ci) x.2
theorem AI.kt {w w' : World} {v : Value} {xs : List Larder.ActI} {p : TypeId → Prop} (h : AI w v xs) (hk : Kt p w w') (h64 : p 64) (h27 : p 27) (h5 : p 5) : AI w' v xs := by
  obtain ⟨f, h1, h2⟩ := h
  refine ⟨f, h1.kt hk h64, fun i T hT => ?_⟩
  obtain ⟨ai, ci, q1, q2, q3⟩ := h2 i T hT
  exact ⟨ai, ci, q1, q2, q3.kt hk h27 h5⟩
theorem AI.nil (w : World) : AI w (.slice none 0 0) [] := ⟨fun _ => undef, .inl ⟨rfl, rfl⟩, fun i T h => by cases h⟩
theorem AI.push {w w' : World} {v v' : Value} {xs : List Larder.ActI} {d : Int} {V : List (List Nat)} {a : Option Addr} {c : Nat} {f : Nat → Value} {n m cc vn : Nat} (hn : n = xs.length) (hvn : vn = V.length) (hf : ∀ i x, xs[i]? = some x → ∃ ai ci, f (i * 2) = .int .i64 x.1 ∧ f (i * 2 + 1) = .slice ai x.2.length ci ∧ TL w (.slice ai x.2.length ci) x.2) (hr : Rws w 64 2 v n f) (hV : TL w (.slice a vn c) V) (hw : Rws w' 64 2 v' (n + 1) (fun k => if k < n * 2 then f k else [Value.int .i64 d, Value.slice a vn c].getD (k - n * 2) undef)) (hg : Ga 64 cc m w w' v v') : AI w' v' (xs ++ [(d, V)]) := by
  subst hvn
  have hk := Kt.ga hg hr
  refine ⟨_, by rw [List.length_append, ← hn]; exact hw, fun i x hx => ?_⟩
  by_cases hi : i < n
  · rw [if_pos (by omega), if_pos (by omega)]
    rw [List.getElem?_append_left (by omega)] at hx
    obtain ⟨ai, ci, q1, q2, q3⟩ := hf i x hx
    exact ⟨ai, ci, q1, q2, q3.kt hk (by decide) (by decide)⟩
  · rw [if_neg (by omega), if_neg (by omega)]
    rw [List.getElem?_append_right (by omega)] at hx
    have hi2 : i - xs.length = 0 := by
      rcases Nat.eq_zero_or_pos (i - xs.length) with e | e
      · exact e
      · rw [List.getElem?_eq_none (by simp; omega)] at hx; cases hx
    rw [hi2] at hx
    cases hx
    have e1 : i * 2 - n * 2 = 0 := by omega
    have e2 : i * 2 + 1 - n * 2 = 1 := by omega
    rw [e1, e2]
    exact ⟨a, c, rfl, rfl, hV.kt hk (by decide) (by decide)⟩
theorem AI.grpI {w : World} {a : Option Addr} {n c : Nat} {xs : List Larder.ActI} (h : AI w (.slice a n c) xs) : GrpI w a xs := by
  obtain ⟨f, h1, h2⟩ := h
  rcases h1 with ⟨e, e0⟩ | ⟨g, cap, cur, e, hg, q1, q2, q3, q4⟩
  · exact .inl (List.length_eq_zero_iff.1 e0)
  · cases e
    refine .inr ⟨g, 0, rfl, blk_lt hg, fun i x hx => ?_⟩
    obtain ⟨ai, ci, z1, z2, z3⟩ := h2 i x hx
    have hi : i < xs.length := (List.getElem?_eq_some_iff.1 hx).1
    refine ⟨?_, ai, ci, ?_, z3.bl⟩
    · rw [cell_blk hg, Nat.zero_add, q4 (i * 2) (by omega), z1]
    · rw [cell_blk hg, Nat.zero_add, q4 (i * 2 + 1) (by omega), z2]
/-- the bounds of a group that comes in -/
def BdI (g : List Larder.ActI) : Prop := g.length * 32 ≤ 140737488355328 ∧ ∀ a ∈ g, a.2.length * 24 ≤ 140737488355328 ∧ ∀ T ∈ a.2, T.length ≤ 140737488355328
/-- twin under way: i commands are there -/
structure TwS (w : World) (sq : Int) (nw : Nat) (ga : Option Addr) (gn gc : Nat) (g : List Larder.ActI) (i : Nat) (va : Option Addr) (vc : Nat) (W : World) : Prop where
  bel : Below w.heap.size w W
  e : W.heap[w.heap.size]? = some (.cells #[.int .i64 sq, .int .u64 (nw : Nat), .slice ga gn gc] 41 (0, 0))
  r : W.heap[w.heap.size + 1]? = some (.cells #[.int .i64 0, .int .u64 0, .slice none 0 0] 41 (0, 0))
  f : W.heap[w.heap.size + 2]? = some (.cells #[.int .i64 sq, .int .u64 (nw : Nat), .slice va i vc] 41 (0, 0))
  l : AI W (.slice va i vc) (g.take i)
  own : ∀ q, (Value.slice va i vc).ownBlock = some q → w.heap.size + 3 ≤ q
theorem TwS.lt {w W : World} {sq : Int} {nw gn gc i vc : Nat} {ga va : Option Addr} {g : List Larder.ActI} (h : TwS w sq nw ga gn gc g i va vc W) : w.heap.size + 3 ≤ W.heap.size := by
  have := blk_lt h.f; omega
theorem TwS.below {w W W' : World} {sq : Int} {nw gn gc i vc : Nat} {ga va : Option Addr} {g : List Larder.ActI} (h : TwS w sq nw ga gn gc g i va vc W) (hb : Below W.heap.size W W') : TwS w sq nw ga gn gc g i va vc W' :=
  ⟨h.bel.trans (hb.mono (by have := h.lt; omega)), (hb.block _ (blk_lt h.e)).trans h.e, (hb.block _ (blk_lt h.r)).trans h.r, (hb.block _ (blk_lt h.f)).trans h.f, h.l.kt (p := fun _ => True) (Kt.of hb) trivial trivial trivial, h.own⟩
theorem TwS.push {w W W1 W2 : World} {sq d : Int} {nw gn gc i vc vn cc m xc : Nat} {ga va xa : Option Addr} {g : List Larder.ActI} {V : List (List Nat)} {v' : Value} {F : Nat → Value} (h : TwS w sq nw ga gn gc g i va vc W) (hx : g[i]? = some (d, V)) (hvn : vn = V.length) (hV : TL W (.slice xa vn xc) V)
    (hF : Rws W 64 2 (.slice va i vc) i F) (hF2 : ∀ j x, (g.take i)[j]? = some x → ∃ ai ci, F (j * 2) = .int .i64 x.1 ∧ F (j * 2 + 1) = .slice ai x.2.length ci ∧ TL W (.slice ai x.2.length ci) x.2) (hb : Below W.heap.size W W1)
    (hw : Rws W2 64 2 v' (i + 1) (fun k => if k < i * 2 then F k else [Value.int .i64 d, Value.slice xa vn xc].getD (k - i * 2) undef)) (hg : Ga 64 cc m W1 W2 (.slice va i vc) v') :
    W2.cell? ⟨w.heap.size + 2, 2, none⟩ = some (.slice va i vc) ∧ W2.frozen? ⟨w.heap.size + 2, 2, none⟩ = false ∧ ∃ a' c', v' = .slice a' (i + 1) c' ∧ Hid (TwS w sq nw ga gn gc g (i + 1) a' c' (W2.setCell ⟨w.heap.size + 2, 2, none⟩ (.slice a' (i + 1) c'))) := by
  have h1 := h.below hb
  have hlt := h1.lt
  have hil : i = (g.take i).length := by
    have := (List.getElem?_eq_some_iff.1 hx).1
    rw [List.length_take]; omega
  have hAI := AI.push hil hvn (fun j x hj => by
    obtain ⟨ai, ci, q1, q2, q3⟩ := hF2 j x hj
    exact ⟨ai, ci, q1, q2, q3.kt (p := fun _ => True) (Kt.of hb) trivial trivial⟩) (hF.below hb) (hV.kt (p := fun _ => True) (Kt.of hb) trivial trivial) hw hg
  rw [show g.take i ++ [(d, V)] = g.take (i + 1) by rw [List.take_add_one, hx]; rfl] at hAI
  have hlow : ∀ k, k < w.heap.size + 3 → W2.heap[k]? = W1.heap[k]? := fun k hk => by
    rcases hg with ⟨rfl, -⟩ | hg
    · rfl
    · exact hg.other k (by omega) (fun e => by have := h.own k e; omega)
  have hbel : Below w.heap.size w W2 := by
    rcases hg with ⟨rfl, -⟩ | hg
    · exact h1.bel
    · exact h1.bel.trans (hg.below _ (by omega) (fun q hq => by have := h.own q hq; omega))
  have hown : ∀ q, v'.ownBlock = some q → w.heap.size + 3 ≤ q := fun q hq => by
    rcases hg with ⟨-, rfl⟩ | hg
    · exact h.own q hq
    · exact hg.own _ (by omega) h.own q hq
  obtain ⟨a', c', rfl⟩ := hw.shape
  have x2 := (hlow _ (by omega)).trans h1.f
  have y2 := set_block W2 (w.heap.size + 2) 2 (.slice a' (i + 1) c') _ _ _ x2
  refine ⟨cell_blk x2 2, frz x2 2, a', c', rfl, hide ⟨hbel.trans ⟨rfl, rfl, rfl, by simp, fun b hb => set_else _ _ _ _ _ (by omega)⟩, (set_else _ _ _ _ _ (by omega)).trans ((hlow _ (by omega)).trans h1.e), (set_else _ _ _ _ _ (by omega)).trans ((hlow _ (by omega)).trans h1.r), y2, ?_, hown⟩⟩
  exact hAI.kt (p := fun t => t ≠ 41) (fun b C t f' hb' ht => set_else _ _ _ _ _ (fun e => by
    rw [e, x2] at hb'
    cases hb'
    exact ht rfl)) (by decide) (by decide) (by decide)
theorem twin_any (w : World) (sq : Int) (nw : Nat) (ga : Option Addr) (gn gc : Nat) (g : List Larder.ActI) (hg : GrpI w ga g) (hgn : gn = g.length) (hb : BdI g) :
    Calls Try.prog 29 #[.agg #[.int .i64 sq, .int .u64 (nw : Nat), .slice ga gn gc]] w fun e w' => ∃ a c, e = .returned (.agg #[.int .i64 sq, .int .u64 (nw : Nat), .slice a gn c]) ∧ Hid (Below w.heap.size w w' ∧ AI w' (.slice a gn c) g) := by
  obtain ⟨i0, hi0, hz0, hz1, hz2⟩ := info_parts4 info64
  have HG := hide hg
  have HN := hide hgn
  have HBD := hide hb
  have hgn32 : gn * 32 ≤ 140737488355328 := by rw [hgn]; exact hb.1
  clear hg hgn hb
  go_enter Try.func29, Try.ntmps29
  go_wp2_with fail
  have HS0 : Hid (TwS w sq nw ga gn gc g 0 none 0 (((w.alloc (.cells #[.int .i64 sq, .int .u64 (nw : Nat), .slice ga gn gc] 41)).alloc (.cells #[.int .i64 0, .int .u64 0, .slice none 0 0] 41)).alloc (.cells #[.int .i64 sq, .int .u64 (nw : Nat), .slice none 0 0] 41))) := hide (by
    have b1 := (Below.refl w.heap.size w).alloc (Nat.le_refl _) (.cells #[.int .i64 sq, .int .u64 (nw : Nat), .slice ga gn gc] 41)
    have h1 := heap_alloc_new w (.cells #[.int .i64 sq, .int .u64 (nw : Nat), .slice ga gn gc] 41)
    have s1 : (w.alloc (.cells #[.int .i64 sq, .int .u64 (nw : Nat), .slice ga gn gc] 41)).heap.size = w.heap.size + 1 := by simp
    generalize w.alloc (.cells #[.int .i64 sq, .int .u64 (nw : Nat), .slice ga gn gc] 41) = w1 at *
    have b2 := (Below.refl w1.heap.size w1).alloc (Nat.le_refl _) (.cells #[.int .i64 0, .int .u64 0, .slice none 0 0] 41)
    have h2 := heap_alloc_new w1 (.cells #[.int .i64 0, .int .u64 0, .slice none 0 0] 41)
    have s2 : (w1.alloc (.cells #[.int .i64 0, .int .u64 0, .slice none 0 0] 41)).heap.size = w.heap.size + 2 := by simp [s1]
    generalize w1.alloc (.cells #[.int .i64 0, .int .u64 0, .slice none 0 0] 41) = w2 at *
    have b3 := (Below.refl w2.heap.size w2).alloc (Nat.le_refl _) (.cells #[.int .i64 sq, .int .u64 (nw : Nat), .slice none 0 0] 41)
    have h3 := heap_alloc_new w2 (.cells #[.int .i64 sq, .int .u64 (nw : Nat), .slice none 0 0] 41)
    generalize w2.alloc (.cells #[.int .i64 sq, .int .u64 (nw : Nat), .slice none 0 0] 41) = w3 at *
    rw [s1] at h2
    rw [s2] at h3
    exact ⟨b1.trans ((b2.mono (by omega)).trans (b3.mono (by omega))), (b3.block _ (by omega)).trans ((b2.block _ (by omega)).trans h1), (b3.block _ (by omega)).trans h2, h3, AI.nil _, fun q hq => (by cases hq)⟩)
  go_loopw [4] (fun iv wr => ∃ (i : Nat) (va : Option Addr) (vc : Nat), iv = .int .i64 ((i : Nat) : Int) ∧ i ≤ gn ∧ Hid (TwS w sq nw ga gn gc g i va vc wr)) (fun iv _ => gn - (intOf iv).toNat)
  case atStart => exact ⟨0, none, 0, rfl, Nat.zero_le _, HS0⟩
  case round =>
    clear HS0
    obtain ⟨i, va, vc, rfl, hi, HW⟩ := hrel
    have hW := unhide HW
    have hlt := hW.lt
    have e2 := cell_blk hW.e 2
    by_cases hin : i < gn
    · have f1 : decide ((i : Int) < (gn : Int)) = true := decide_eq_true (by omega)
      have f3 : decide (i < gn) = true := decide_eq_true hin
      have g1 : (0 : Int) ≤ (i : Int) := by omega
      have g2 : (i : Int) < (gn : Int) := by omega
      have v2 := cell_blk hW.f 2
      obtain ⟨⟨d, V⟩, hx⟩ : ∃ x, g[i]? = some x := ⟨_, List.getElem?_eq_getElem (by have := unhide HN; omega)⟩
      have hbx := (unhide HBD).2 _ (List.mem_of_getElem? hx)
      obtain ⟨gb, oa, rfl, hla, k1, xa, xc, k2, k3⟩ : ∃ gb oa, ga = some ⟨gb, oa, none⟩ ∧ gb < w.heap.size ∧ wr.cell? ⟨gb, oa + i * 2, none⟩ = some (.int .i64 d) ∧ ∃ xa xc, wr.cell? ⟨gb, oa + i * 2 + 1, none⟩ = some (.slice xa V.length xc) ∧ BL wr xa V := by
        rcases unhide HG with h | ⟨gb, oa, e, hl, hc⟩
        · rw [h] at hx; cases hx
        · obtain ⟨q1, xa, xc, q2, q3⟩ := hc i _ hx
          exact ⟨gb, oa, e, hl, (hW.bel.cell (p := ⟨gb, _, none⟩) hl).trans q1, xa, xc, (hW.bel.cell (p := ⟨gb, _, none⟩) hl).trans q2, q3.below hW.bel⟩
      obtain ⟨F, hF, hF2⟩ := hW.l
      have hil : (g.take i).length = i := by
        have := (List.getElem?_eq_some_iff.1 hx).1
        rw [List.length_take]; omega
      rw [hil] at hF
      have C40 := dcopies_any wr.drew xa xc V hbx.1 hbx.2 k3
      have C40' : Hid (Calls Try.prog 40 #[.slice xa V.length xc] wr.drew fun e w5 => e = .returned (.slice (some ⟨wr.heap.size, 0, none⟩) V.length V.length) ∧ w5.cell? ⟨w.heap.size, 2, none⟩ = some (.slice (some ⟨gb, oa, none⟩) gn gc) ∧ w5.cell? ⟨w.heap.size + 2, 2, none⟩ = some (.slice va i vc) ∧ w5.cell? ⟨gb, oa + i * 2, none⟩ = some (.int .i64 d) ∧ w5.cell? ⟨gb, oa + i * 2 + 1, none⟩ = some (.slice xa V.length xc) ∧ (∀ o, (w5.alloc o).cell? ⟨w.heap.size + 2, 2, none⟩ = some (.slice va i vc)) ∧ Hid (TL w5 (.slice (some ⟨wr.heap.size, 0, none⟩) V.length V.length) V ∧ Below wr.drew.heap.size wr.drew w5)) := hide (C40.mono fun e w5 h => by
        obtain ⟨rfl, h2⟩ := h
        have hb := (unhide h2).2
        have e1 : w.heap.size < wr.drew.heap.size := by show _ < wr.heap.size; omega
        have e3 : w.heap.size + 2 < wr.drew.heap.size := by show _ < wr.heap.size; omega
        have e4 : gb < wr.drew.heap.size := by show _ < wr.heap.size; omega
        have z2 := (hb.cell (p := ⟨w.heap.size + 2, 2, none⟩) e3).trans v2
        exact ⟨rfl, (hb.cell (p := ⟨w.heap.size, 2, none⟩) e1).trans e2, z2, (hb.cell (p := ⟨gb, _, none⟩) e4).trans k1, (hb.cell (p := ⟨gb, _, none⟩) e4).trans k2, fun o => (((hb.alloc hb.size o)).cell (p := ⟨w.heap.size + 2, 2, none⟩) e3).trans v2, h2⟩)
      have HP : Hid (∀ (w5 : World) (v' : Value) (W2 : World), TL w5 (.slice (some ⟨wr.heap.size, 0, none⟩) V.length V.length) V ∧ Below wr.drew.heap.size wr.drew w5 → Rws W2 64 2 v' (i + 1) (fun k => if k < i * 2 then F k else [Value.int .i64 d, Value.slice (some ⟨wr.heap.size, 0, none⟩) V.length V.length].getD (k - i * 2) undef) → Ga 64 (i * 2) 2 (w5.alloc (.cells #[.int .i64 d, .slice (some ⟨wr.heap.size, 0, none⟩) V.length V.length] 64)) W2 (.slice va i vc) v' →
          W2.cell? ⟨w.heap.size + 2, 2, none⟩ = some (.slice va i vc) ∧ W2.frozen? ⟨w.heap.size + 2, 2, none⟩ = false ∧ ∃ a' c', v' = .slice a' (i + 1) c' ∧ Hid (TwS w sq nw (some ⟨gb, oa, none⟩) gn gc g (i + 1) a' c' (W2.setCell ⟨w.heap.size + 2, 2, none⟩ (.slice a' (i + 1) c')))) := hide (fun w5 v' W2 h5 hw hg => by
        have hb5 : Below wr.heap.size wr w5 := (below_drew (Below.refl _ wr)).trans h5.2
        refine TwS.push (hW.below hb5) hx rfl h5.1 (hF.below hb5) (fun j x hj => ?_) ((Below.refl _ _).alloc (Nat.le_refl _) _) hw hg
        obtain ⟨ai, ci, q1, q2, q3⟩ := hF2 j x hj
        exact ⟨ai, ci, q1, q2, q3.kt (p := fun _ => True) (Kt.of hb5) trivial trivial⟩)
      have HR : Hid (∀ w5, TL w5 (.slice (some ⟨wr.heap.size, 0, none⟩) V.length V.length) V ∧ Below wr.drew.heap.size wr.drew w5 → Rws (w5.alloc (.cells #[.int .i64 d, .slice (some ⟨wr.heap.size, 0, none⟩) V.length V.length] 64)) 64 2 (.slice va i vc) i F) := hide (fun w5 h => (hF.below ((below_drew (Below.refl wr.heap.size wr)).trans h.2)).below ((Below.refl _ _).alloc (Nat.le_refl _) _))
      generalize V.length = vn at *
      clear hx hbx k3 hF hF2 hil C40 hW HW HG HBD
      have hi32 : (i + 1) * 32 ≤ 140737488355328 := by omega
      have him : i + 1 ≤ maxLen := by unfold maxLen; omega
      go_wp2_with fail
      go_region_law (first
        | (refine step_append_any rfl (.tmp 18) (.tmp 33) 39 rfl 64 i0 _ 2 32 Try.underlying39 hi0 hz0 hz1 hz2 rfl (.slice va i vc) i F (by simp [Act.eval, Act.put]) ((unhide HR) w5 (unhide k5)) (some ⟨w5.heap.size, 0, none⟩) 1 1 (by simp [Act.eval, Act.put]) [.int .i64 d, .slice (some ⟨wr.heap.size, 0, none⟩) vn vn] rfl (by simp) (new_cells w5 [.int .i64 d, .slice (some ⟨wr.heap.size, 0, none⟩) vn vn] 64) (by simp [Value.oneCell']) hi32 him ?_; intro v6 w6 h6 k6; obtain ⟨z1, z2, a6, c6, rfl, HT⟩ := (unhide HP) w5 v6 w6 (unhide k5) h6 k6; clear h6 k6)
        | (go_simp; refine (unhide C40').mono ?_; rintro e w5 ⟨rfl, y1, y2, y3, y4, y5, k5⟩; dsimp only))
      all_goals go_wp2_with fail
      all_goals exact ⟨⟨i + 1, a6, c6, congrArg (Value.int .i64) (by omega), by omega, HT⟩, by simp [intOf]; omega⟩
    · obtain rfl : gn = i := by omega
      have f1 : decide ((gn : Int) < (gn : Int)) = false := decide_eq_false (by omega)
      have f9 : decide (gn < gn) = false := decide_eq_false (by omega)
      have v0 := cell_blk hW.f 0
      have v1 := cell_blk hW.f 1
      have v2 := cell_blk hW.f 2
      obtain ⟨x0, x1, x2, x3, x4, x5, x6⟩ := box3 (.int .i64 sq) (.int .u64 (nw : Nat)) (.slice va gn vc) hW.r
      have HD : Hid (Below w.heap.size w (((wr.setCell ⟨w.heap.size + 1, 0, none⟩ (.int .i64 sq)).setCell ⟨w.heap.size + 1, 1, none⟩ (.int .u64 (nw : Nat))).setCell ⟨w.heap.size + 1, 2, none⟩ (.slice va gn vc)) ∧ AI (((wr.setCell ⟨w.heap.size + 1, 0, none⟩ (.int .i64 sq)).setCell ⟨w.heap.size + 1, 1, none⟩ (.int .u64 (nw : Nat))).setCell ⟨w.heap.size + 1, 2, none⟩ (.slice va gn vc)) (.slice va gn vc) g) := hide (by
        have zel : ∀ k, k ≠ w.heap.size + 1 → (((wr.setCell ⟨w.heap.size + 1, 0, none⟩ (.int .i64 sq)).setCell ⟨w.heap.size + 1, 1, none⟩ (.int .u64 (nw : Nat))).setCell ⟨w.heap.size + 1, 2, none⟩ (.slice va gn vc)).heap[k]? = wr.heap[k]? := fun k hk => (set_else _ _ _ _ _ hk).trans ((set_else _ _ _ _ _ hk).trans (set_else _ _ _ _ _ hk))
        have hl := hW.l
        rw [List.take_of_length_le (Nat.le_of_eq (unhide HN).symm)] at hl
        refine ⟨hW.bel.trans ⟨rfl, rfl, rfl, by simp, fun b hb => zel b (by omega)⟩, hl.kt (p := fun t => t ≠ 41) (fun b C t f' hb' ht => zel b (fun e => ?_)) (by decide) (by decide) (by decide)⟩
        rw [e, hW.r] at hb'
        cases hb'
        exact ht rfl)
      clear hW HW
      go_wp2_with fail
      refine bodyPost_ret (results_box1 (p := 2) (ty := 41) rfl _ _ (w.heap.size + 1) 41 _ (0, 0) _ rfl (unhide x6) Try.underlying41 rfl (by kernel_rfl)) rfl ?_
      exact ⟨va, vc, rfl, HD⟩
end Go.Proofs.Ytljeedgnjgeopaa
