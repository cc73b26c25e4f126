/- record: lent, the law's: an entry whose lists are lent. -/
import Derived.Test.YtljeedgnjgeopaaLc
namespace Go.Proofs.Ytljeedgnjgeopaa
open Go.ChangeShapes Go.WideShapes Go.ChangeAt Go.RowKit Go.Shelf
set_option linter.unusedVariables false
set_option linter.unusedSimpArgs false
set_option maxRecDepth 100000
set_option maxHeartbeats 4000000
/-- a list that was lent lies there, and its block is none of these -/
def Fr (w : World) (base g c : Nat) (T : List Nat) (LL : List LT) : Prop := Ld.Lent w base g c T ∧ g ∉ LL.map (·.1)
theorem LeS.stepQ {w W1 W2 : World} {sq : Int} {nw gn gc vn vc cc m qn qc g c tn : Nat} {ga va qa : Option Addr} {A : List (Int × List LT)} {LL Q : List LT} {lv v' : Value} {T : List Nat} (h : LeS w sq nw ga gn gc A vn va vc LL lv Q (.slice qa qn qc) W1) (hqn : qn = Q.length) (htn : tn = T.length) (hL : Fr W1 w.heap.size g c T LL)
    (hr : Rws W2 27 1 v' (qn + 1) (fun k => if k < qn * 1 then ltV (Q.getD k (0, 0, [])) else [Value.slice (some ⟨g, 0, none⟩) tn c].getD (k - qn * 1) undef)) (hg : Ga 27 cc m W1 W2 (.slice qa qn qc) v') :
    ∃ a' c', v' = .slice a' (qn + 1) c' ∧ Hid (LeS w sq nw ga gn gc A vn va vc LL lv (Q ++ [(g, c, T)]) (.slice a' (qn + 1) c') W2 ∧ Fr W2 w.heap.size g c T LL) := by
  subst htn
  have ht := TR.push (p := (g, c, T)) hqn hr
  obtain ⟨a', c', rfl⟩ := hr.shape
  exact ⟨a', c', rfl, hide ⟨h.pushQ ht hg, Lent.kt hL.1 (Kt.ga hg h.q) (by decide), hL.2⟩⟩
theorem LeS.stepL {w W1 W2 : World} {sq : Int} {nw gn gc vn vc cc m ln lc g c tn : Nat} {ga va la : Option Addr} {A : List (Int × List LT)} {LL Q : List LT} {av v' : Value} {T : List Nat} (h : LeS w sq nw ga gn gc A vn va vc LL (.slice la ln lc) Q av W1) (hln : ln = LL.length) (htn : tn = T.length) (hL : Fr W1 w.heap.size g c T LL)
    (hr : Rws W2 27 1 v' (ln + 1) (fun k => if k < ln * 1 then ltV (LL.getD k (0, 0, [])) else [Value.slice (some ⟨g, 0, none⟩) tn c].getD (k - ln * 1) undef)) (hg : Ga 27 cc m W1 W2 (.slice la ln lc) v') :
    ∃ a' c', v' = .slice a' (ln + 1) c' ∧ Hid (LeS w sq nw ga gn gc A vn va vc (LL ++ [(g, c, T)]) (.slice a' (ln + 1) c') Q av W2) := by
  subst htn
  have ht := TR.push (p := (g, c, T)) hln hr
  obtain ⟨a', c', rfl⟩ := hr.shape
  exact ⟨a', c', rfl, hide (h.pushL hL.1 hL.2 ht hg)⟩
theorem LeS.fr {w W W' : World} {sq : Int} {nw gn gc vn vc g c : Nat} {ga va : Option Addr} {A : List (Int × List LT)} {LL Q : List LT} {lv av : Value} {T : List Nat} (h : LeS w sq nw ga gn gc A vn va vc LL lv Q av W) (hL : Ld.Lent W' W.heap.size g c T) (hb : Below W.heap.size W W') (hg : W.heap.size ≤ g) : LeS w sq nw ga gn gc A vn va vc LL lv Q av W' ∧ Fr W' w.heap.size g c T LL :=
  ⟨h.below hb, lent_mono hL (by have := h.lt; omega), h.notin g hg⟩
theorem LeS.rq {w W : World} {sq : Int} {nw gn gc vn vc qn qc : Nat} {ga va qa : Option Addr} {A : List (Int × List LT)} {LL Q : List LT} {lv : Value} (h : LeS w sq nw ga gn gc A vn va vc LL lv Q (.slice qa qn qc) W) (hqn : qn = Q.length) : Rws W 27 1 (.slice qa qn qc) qn (fun j => ltV (Q.getD j (0, 0, []))) := by
  subst hqn; exact h.q
theorem LeS.rl {w W : World} {sq : Int} {nw gn gc vn vc ln lc : Nat} {ga va la : Option Addr} {A : List (Int × List LT)} {LL Q : List LT} {av : Value} (h : LeS w sq nw ga gn gc A vn va vc LL (.slice la ln lc) Q av W) (hln : ln = LL.length) : Rws W 27 1 (.slice la ln lc) ln (fun j => ltV (LL.getD j (0, 0, []))) := by
  subst hln; exact h.l
/-- the first commands' arguments are no more than all -/
theorem flat_le {g : List Larder.ActI} {i : Nat} {d : Int} {V : List (List Nat)} (hx : g[i]? = some (d, V)) : ((g.take i).flatMap (·.2)).length + V.length ≤ (g.flatMap (·.2)).length := by
  obtain ⟨hi, e⟩ := List.getElem?_eq_some_iff.1 hx
  have h1 : g = g.take i ++ ((d, V) :: g.drop (i + 1)) := by
    rw [← e, ← List.drop_eq_getElem_cons hi, List.take_append_drop]
  have h2 : (g.flatMap (·.2)).length = ((g.take i ++ ((d, V) :: g.drop (i + 1))).flatMap (·.2)).length := by rw [← h1]
  rw [h2, List.flatMap_append, List.flatMap_cons, List.length_append, List.length_append]
  show _ + V.length ≤ _ + (V.length + _)
  omega
theorem act_len (A : List (Int × List LT)) : (A.flatMap (·.2)).length = ((A.map actQ).flatMap (·.2)).length := by
  induction A with
  | nil => rfl
  | cons x A ih => rw [List.map_cons, List.flatMap_cons, List.flatMap_cons, List.length_append, List.length_append, ih]; unfold actQ; simp
theorem act_push (A : List (Int × List LT)) (d : Int) (Q : List LT) (g : List Larder.ActI) (i : Nat) (V : List (List Nat)) (hA : A.map actQ = g.take i) (hx : g[i]? = some (d, V)) (hQ : Q.map (·.2.2) = V) : (A ++ [(d, Q)]).map actQ = g.take (i + 1) := by
  rw [List.map_append, hA, List.take_add_one, hx]
  show _ ++ [(d, Q.map (·.2.2))] = _
  rw [hQ]
  rfl
theorem flat_push (A : List (Int × List LT)) (d : Int) (Q : List LT) : (A ++ [(d, Q)]).flatMap (·.2) = A.flatMap (·.2) ++ Q := by
  rw [List.flatMap_append]; simp
/-- an entry whose lists are lent -/
structure LeN (w : World) (A : List (Int × List LT)) (v : Value) (lv : Value) (W : World) : Prop where
  bel : Below w.heap.size w W
  a : AQ W v A (fun q => lv.ownBlock = some q)
  l : TR W lv (A.flatMap (·.2))
  ln : ∀ p ∈ A.flatMap (·.2), Ld.Lent W w.heap.size p.1 p.2.1 p.2.2
  nd : ((A.flatMap (·.2)).map (·.1)).Nodup
end Go.Proofs.Ytljeedgnjgeopaa
namespace Go.Proofs.Ytljeedgnjgeopaa
open Go.ChangeShapes Go.WideShapes Go.ChangeAt Go.RowKit Go.Shelf
set_option linter.unusedVariables false
set_option linter.unusedSimpArgs false
set_option maxRecDepth 100000
set_option maxHeartbeats 4000000
/-- the bounds of what is lent -/
def BdL (g : List Larder.ActI) : Prop := g.length * 32 ≤ 140737488355328 ∧ (g.flatMap (·.2)).length * 24 ≤ 140737488355328 ∧ ∀ a ∈ g, ∀ T ∈ a.2, T.length ≤ 1099511627776
theorem lent_any (w : World) (sq : Int) (nw : Nat) (ga : Option Addr) (gn gc : Nat) (g : List Larder.ActI) (hg : GrpI w ga g) (hgn : gn = g.length) (hb : BdL g) :
    Calls Try.prog 14 #[.agg #[.int .i64 sq, .int .u64 (nw : Nat), .slice ga gn gc]] w fun e w' => ∃ a c la ln lc A, e = .returned (.tuple #[.agg #[.int .i64 sq, .int .u64 (nw : Nat), .slice a gn c], .slice la ln lc]) ∧ Hid (LeN w A (.slice a gn c) (.slice la ln lc) w' ∧ A.map actQ = g ∧ ln = (A.flatMap (·.2)).length) := by
  obtain ⟨i0, hi0, hz0, hz1, hz2⟩ := info_parts4 info64
  obtain ⟨i7, hi7, hz7, hs7, hb7⟩ := info_parts4 info27
  have HG := hide hg
  have HN := hide hgn
  have HBD := hide hb
  have hgn32 : gn * 32 ≤ 140737488355328 := by rw [hgn]; exact hb.1
  clear hg hgn hb
  go_enter Try.func14, Try.ntmps14
  go_wp2_with fail
  have HS0 : Hid (LeS w sq nw ga gn gc [] 0 none 0 [] (.slice none 0 0) [] (.slice none 0 0) (((w.alloc (.cells #[.int .i64 sq, .int .u64 (nw : Nat), .slice ga gn gc] 41)).alloc (.cells #[.int .i64 0, .int .u64 0, .slice none 0 0] 41)).alloc (.cells #[.int .i64 sq, .int .u64 (nw : Nat), .slice none 0 0] 41))) := hide (by
    have b1 := (Below.refl w.heap.size w).alloc (Nat.le_refl _) (.cells #[.int .i64 sq, .int .u64 (nw : Nat), .slice ga gn gc] 41)
    have h1 := heap_alloc_new w (.cells #[.int .i64 sq, .int .u64 (nw : Nat), .slice ga gn gc] 41)
    have s1 : (w.alloc (.cells #[.int .i64 sq, .int .u64 (nw : Nat), .slice ga gn gc] 41)).heap.size = w.heap.size + 1 := by simp
    generalize w.alloc (.cells #[.int .i64 sq, .int .u64 (nw : Nat), .slice ga gn gc] 41) = w1 at *
    have b2 := (Below.refl w1.heap.size w1).alloc (Nat.le_refl _) (.cells #[.int .i64 0, .int .u64 0, .slice none 0 0] 41)
    have h2 := heap_alloc_new w1 (.cells #[.int .i64 0, .int .u64 0, .slice none 0 0] 41)
    have s2 : (w1.alloc (.cells #[.int .i64 0, .int .u64 0, .slice none 0 0] 41)).heap.size = w.heap.size + 2 := by simp [s1]
    generalize w1.alloc (.cells #[.int .i64 0, .int .u64 0, .slice none 0 0] 41) = w2 at *
    have b3 := (Below.refl w2.heap.size w2).alloc (Nat.le_refl _) (.cells #[.int .i64 sq, .int .u64 (nw : Nat), .slice none 0 0] 41)
    have h3 := heap_alloc_new w2 (.cells #[.int .i64 sq, .int .u64 (nw : Nat), .slice none 0 0] 41)
    generalize w2.alloc (.cells #[.int .i64 sq, .int .u64 (nw : Nat), .slice none 0 0] 41) = w3 at *
    rw [s1] at h2
    rw [s2] at h3
    exact ⟨b1.trans ((b2.mono (by omega)).trans (b3.mono (by omega))), (b3.block _ (by omega)).trans ((b2.block _ (by omega)).trans h1), (b3.block _ (by omega)).trans h2, h3, rfl, AQ.nil _ _, fun q hq => (by cases hq), TR.nil _, fun q hq => (by cases hq), TR.nil _, fun q hq => (by cases hq), fun p hp => (by cases hp), List.nodup_nil⟩)
  go_loopw [6, 5] (fun iv lv wr => ∃ (i : Nat) (va : Option Addr) (vc : Nat) (la : Option Addr) (ln lc : Nat) (A : List (Int × List LT)), iv = .int .i64 ((i : Nat) : Int) ∧ lv = .slice la ln lc ∧ i ≤ gn ∧ Hid (LeS w sq nw ga gn gc A i va vc (A.flatMap (·.2)) (.slice la ln lc) [] (.slice none 0 0) wr ∧ A.map actQ = g.take i ∧ ln = (A.flatMap (·.2)).length)) (fun iv _ _ => gn - (intOf iv).toNat)
  case atStart => exact ⟨0, none, 0, none, 0, 0, [], rfl, rfl, Nat.zero_le _, hide ⟨unhide HS0, rfl, rfl⟩⟩
  case round =>
    clear HS0
    obtain ⟨i, va, vc, la, ln, lc, A, rfl, rfl, hi, HW⟩ := hrel
    have hW := (unhide HW).1
    have hlt := hW.lt
    have y2 := cell_blk hW.e 2
    by_cases hin : i < gn
    · have f1 : decide ((i : Int) < (gn : Int)) = true := decide_eq_true (by omega)
      have f3 : decide (i < gn) = true := decide_eq_true hin
      have g1 : (0 : Int) ≤ (i : Int) := by omega
      have g2 : (i : Int) < (gn : Int) := by omega
      obtain ⟨⟨d, V⟩, hx⟩ : ∃ x, g[i]? = some x := ⟨_, List.getElem?_eq_getElem (by have := unhide HN; omega)⟩
      have HX := hide hx
      have HTX : Hid (∀ T ∈ V, T.length ≤ 1099511627776) := hide ((unhide HBD).2.2 _ (List.mem_of_getElem? hx))
      obtain ⟨gb, oa, rfl, hla, k1, xa, xc, k2, k3⟩ : ∃ gb oa, ga = some ⟨gb, oa, none⟩ ∧ gb < w.heap.size ∧ w.cell? ⟨gb, oa + i * 2, none⟩ = some (.int .i64 d) ∧ ∃ xa xc, w.cell? ⟨gb, oa + i * 2 + 1, none⟩ = some (.slice xa V.length xc) ∧ BL w xa V := by
        rcases unhide HG with h | ⟨gb, oa, e, hl, hc⟩
        · rw [h] at hx; cases hx
        · obtain ⟨q1, xa, xc, q2, q3⟩ := hc i _ hx
          exact ⟨gb, oa, e, hl, q1, xa, xc, q2, q3⟩
      have HXB := hide k3
      obtain ⟨vn, hvn⟩ : ∃ vn, vn = V.length := ⟨_, rfl⟩
      have HVN := hide hvn
      rw [← hvn] at k2
      have HC : Hid (∀ wr, Below w.heap.size w wr → wr.cell? ⟨gb, oa + i * 2, none⟩ = some (.int .i64 d) ∧ wr.cell? ⟨gb, oa + i * 2 + 1, none⟩ = some (.slice xa vn xc)) := hide (fun wr hb => ⟨(hb.cell (p := ⟨gb, _, none⟩) hla).trans k1, (hb.cell (p := ⟨gb, _, none⟩) hla).trans k2⟩)
      have HLB : Hid ((A.flatMap (·.2)).length + vn ≤ 5864062014805) := hide (by
        have h1 := flat_le hx
        have h2 := (unhide HBD).2.1
        rw [act_len, (unhide HW).2.1, hvn]
        omega)
      have HLN : Hid (ln = (A.flatMap (·.2)).length ∧ A.map actQ = g.take i) := hide ⟨(unhide HW).2.2, (unhide HW).2.1⟩
      have HS1 := hide hW
      clear hx k1 k2 k3 hvn hW HW hlt hla HG
      go_wp2_with fail
      clear y2
      rename World => wo
      go_loopw [8, 7, 5] (fun kv av lv wr => ∃ (k : Nat) (qa : Option Addr) (qn qc : Nat) (la : Option Addr) (ln lc : Nat) (Q : List LT), kv = .int .i64 ((k : Nat) : Int) ∧ av = .slice qa qn qc ∧ lv = .slice la ln lc ∧ k ≤ vn ∧ Hid (LeS w sq nw (some ⟨gb, oa, none⟩) gn gc A i va vc (A.flatMap (·.2) ++ Q) (.slice la ln lc) Q (.slice qa qn qc) wr ∧ Q.map (·.2.2) = V.take k ∧ qn = Q.length ∧ ln = (A.flatMap (·.2) ++ Q).length)) (fun kv _ _ _ => vn - (intOf kv).toNat)
      case atStart => exact ⟨0, none, 0, 0, la, ln, lc, [], rfl, rfl, rfl, Nat.zero_le _, hide ⟨by rw [List.append_nil]; exact unhide HS1, rfl, rfl, by rw [List.append_nil]; exact (unhide HLN).1⟩⟩
      case round =>
        clear HS1
        obtain ⟨k, qa, qn, qc, la, ln, lc, Q, rfl, rfl, rfl, hk, HW⟩ := hrel
        have hW := (unhide HW).1
        have hlt := hW.lt
        have y2 := cell_blk hW.e 2
        obtain ⟨t1, t2⟩ := (unhide HC) wr hW.bel
        have hQV := (unhide HW).2.1
        have hqn := (unhide HW).2.2.1
        have hln := (unhide HW).2.2.2
        have hQk : Q.length = (V.take k).length := by rw [← hQV, List.length_map]
        have hql : qn = k := by
          rw [hqn, hQk, List.length_take]
          have := unhide HVN
          omega
        subst hql
        by_cases hkn : qn < vn
        · have e1 : decide ((qn : Int) < (vn : Int)) = true := decide_eq_true (by omega)
          have e2 : decide (qn < vn) = true := decide_eq_true hkn
          have e3 : (0 : Int) ≤ (qn : Int) := by omega
          have e4 : (qn : Int) < (vn : Int) := by omega
          obtain ⟨T, hT⟩ : ∃ T, V[qn]? = some T := ⟨_, List.getElem?_eq_getElem (by have := unhide HVN; omega)⟩
          obtain ⟨xb, xo, rfl, ai, ci, k4, k5⟩ : ∃ xb xo, xa = some ⟨xb, xo, none⟩ ∧ ∃ ai ci, wr.cell? ⟨xb, xo + qn, none⟩ = some (.slice ai T.length ci) ∧ Bytes wr ai T := by
            rcases unhide HXB with h | ⟨xb, xo, e, hl, hc⟩
            · rw [h] at hT; cases hT
            · obtain ⟨ai, ci, q1, q2⟩ := hc qn T hT
              exact ⟨xb, xo, e, ai, ci, (hW.bel.cell (p := ⟨xb, _, none⟩) hl).trans q1, q2.below' hW.bel⟩
          obtain ⟨tn, htn⟩ : ∃ tn, tn = T.length := ⟨_, rfl⟩
          have hT4 : tn ≤ 1099511627776 := by rw [htn]; exact (unhide HTX) T (List.mem_of_getElem? hT)
          have C24 : Hid (Calls Try.prog 24 #[.slice ai tn ci] wr fun e w' => ∃ g5 c5, e = .returned (.slice (some ⟨g5, 0, none⟩) tn c5) ∧ Hid (LeS w sq nw (some ⟨gb, oa, none⟩) gn gc A i va vc (A.flatMap (·.2) ++ Q) (.slice la ln lc) Q (.slice qa qn qc) w' ∧ Fr w' w.heap.size g5 c5 T (A.flatMap (·.2) ++ Q))) := hide ((lend2_any wr ai tn ci T htn hT4 k5).mono (fun e w' h => by
            obtain ⟨g5, c5, h1, h2⟩ := h
            exact ⟨g5, c5, h1, hide (hW.fr (unhide h2).1 (unhide h2).2.1 (unhide h2).2.2)⟩))
          have HQV : Hid (∀ g5 c5 : Nat, List.map (fun p : LT => p.2.2) (Q ++ [(g5, c5, T)]) = V.take (qn + 1)) := hide (fun g5 c5 => by
            rw [List.map_append, hQV, List.take_add_one, hT]; rfl)
          have HQN := hide hqn
          have HLN2 := hide hln
          have HTN := hide htn
          rw [← htn] at k4
          have hl24 : (ln + 1) * 24 ≤ 140737488355328 := by
            have h1 := unhide HLB
            rw [List.length_append] at hln
            omega
          have hq24 : (qn + 1) * 24 ≤ 140737488355328 := by
            have h1 := unhide HLB
            omega
          have hlm : ln + 1 ≤ maxLen := by unfold maxLen; omega
          have hqm : qn + 1 ≤ maxLen := by unfold maxLen; omega
          clear hT k5 htn hT4 hW HW hQk hqn hln hQV hlt
          go_wp2_with (first
            | (go_at_call 24; refine (unhide C24).mono ?_; clear C24; rintro e w5 ⟨g5, c5, rfl, z5⟩; have S5 := hide ((unhide z5).1.below ((Below.refl _ _).alloc (Nat.le_refl _) (.cells #[.slice (some ⟨g5, 0, none⟩) tn c5] 27))); have F5 : Hid (Fr (w5.alloc (.cells #[.slice (some ⟨g5, 0, none⟩) tn c5] 27)) w.heap.size g5 c5 T (A.flatMap (·.2) ++ Q)) := hide ⟨(unhide z5).2.1.below ((Below.refl _ _).alloc (Nat.le_refl _) _), (unhide z5).2.2⟩; clear z5)
            | (at_builtin; (refine append_gen rfl _ _ 42 rfl 27 i7 _ 1 24 Try.underlying42 hi7 hz7 hs7 hb7 rfl (.slice qa qn qc) qn _ rfl ((unhide S5).rq (unhide HQN)) (some ⟨w5.heap.size, 0, none⟩) 1 1 rfl [.slice (some ⟨g5, 0, none⟩) tn c5] rfl (by simp) (new_cells w5 [.slice (some ⟨g5, 0, none⟩) tn c5] 27) (by simp [Value.oneCell']) hq24 hqm ?_; intro v6 w6 h6 k6; obtain ⟨a6, c6, rfl, z6⟩ := (unhide S5).stepQ (unhide HQN) (unhide HTN) (unhide F5) h6 k6; have S6 := hide ((unhide z6).1.below ((Below.refl _ _).alloc (Nat.le_refl _) (.cells #[.slice (some ⟨g5, 0, none⟩) tn c5] 27))); have F6 : Hid (Fr (w6.alloc (.cells #[.slice (some ⟨g5, 0, none⟩) tn c5] 27)) w.heap.size g5 c5 T (A.flatMap (·.2) ++ Q)) := hide ⟨(unhide z6).2.1.below ((Below.refl _ _).alloc (Nat.le_refl _) _), (unhide z6).2.2⟩; clear h6 k6 S5 F5 z6; go_frame))
            | (at_builtin; (refine append_gen rfl _ _ 42 rfl 27 i7 _ 1 24 Try.underlying42 hi7 hz7 hs7 hb7 rfl (.slice la ln lc) ln _ rfl ((unhide S6).rl (unhide HLN2)) (some ⟨w6.heap.size, 0, none⟩) 1 1 rfl [.slice (some ⟨g5, 0, none⟩) tn c5] rfl (by simp) (new_cells w6 [.slice (some ⟨g5, 0, none⟩) tn c5] 27) (by simp [Value.oneCell']) hl24 hlm ?_; intro v7 w7 h7 k7; obtain ⟨a7, c7, rfl, S7⟩ := (unhide S6).stepL (unhide HLN2) (unhide HTN) (unhide F6) h7 k7; clear h7 k7 S6 F6; go_frame)))
          exact ⟨⟨qn + 1, a6, qn + 1, c6, a7, ln + 1, c7, Q ++ [(g5, c5, T)], congrArg (Value.int .i64) (by omega), rfl, rfl, by omega, hide ⟨by rw [← List.append_assoc]; exact unhide S7, (unhide HQV) g5 c5, by rw [List.length_append, ← unhide HQN]; rfl, by rw [← List.append_assoc, List.length_append, ← unhide HLN2]; rfl⟩⟩, by simp [intOf]; omega⟩
        · obtain rfl : qn = vn := by omega
          have e1 : decide ((qn : Int) < (qn : Int)) = false := decide_eq_false (by omega)
          have e2 : decide (qn < qn) = false := decide_eq_false (by omega)
          have v2 := cell_blk hW.f 2
          obtain ⟨F, hF, hF2⟩ := hW.a
          rw [← hW.hvn] at hF
          have hb64 := below_drew ((Below.refl wr.heap.size wr).alloc (Nat.le_refl _) (.cells #[.int .i64 d, .slice qa qn qc] 64))
          have v3 : (wr.alloc (.cells #[.int .i64 d, .slice qa qn qc] 64)).cell? ⟨w.heap.size + 2, 2, none⟩ = some (.slice va i vc) := (hb64.cell (p := ⟨w.heap.size + 2, 2, none⟩) (by show w.heap.size + 2 < wr.heap.size; omega)).trans v2
          have HR : Hid (Rws (wr.alloc (.cells #[.int .i64 d, .slice qa qn qc] 64)).drew 64 2 (.slice va i vc) i F) := hide (hF.below hb64)
          have HP : Hid (∀ (v' : Value) (W2 : World), Rws W2 64 2 v' (i + 1) (fun k => if k < i * 2 then F k else [Value.int .i64 d, Value.slice qa qn qc].getD (k - i * 2) undef) → Ga 64 (i * 2) 2 (wr.alloc (.cells #[.int .i64 d, .slice qa qn qc] 64)).drew W2 (.slice va i vc) v' →
              W2.cell? ⟨w.heap.size + 2, 2, none⟩ = some (.slice va i vc) ∧ W2.frozen? ⟨w.heap.size + 2, 2, none⟩ = false ∧ ∃ a' c', v' = .slice a' (i + 1) c' ∧ Hid (LeS w sq nw (some ⟨gb, oa, none⟩) gn gc (A ++ [(d, Q)]) (i + 1) a' c' (A.flatMap (·.2) ++ Q) (.slice la ln lc) [] (.slice none 0 0) (W2.setCell ⟨w.heap.size + 2, 2, none⟩ (.slice a' (i + 1) c')))) := hide (fun v' W2 hw hg => by
            refine (hW.below hb64).pushA hqn (hF.below hb64) (fun j x hj => ?_) hw hg
            obtain ⟨ai, ci, q1, q2, q3, q4⟩ := hF2 j x hj
            exact ⟨ai, ci, q1, q2, q3.kt (p := fun _ => True) (Kt.of hb64) trivial, fun q hq e => q4 q hq (.inl e)⟩)
          have HE : Hid ((A ++ [(d, Q)]).map actQ = g.take (i + 1)) := hide (act_push A d Q g i V (unhide HLN).2 (unhide HX) (by rw [hQV]; exact List.take_of_length_le (Nat.le_of_eq (unhide HVN).symm)))
          have HEL := hide hln
          have hi32 : (i + 1) * 32 ≤ 140737488355328 := by omega
          have him : i + 1 ≤ maxLen := by unfold maxLen; omega
          clear hF hF2 hb64 hW HW hQV hqn hln hQk hlt HX HTX HXB HVN HC HLB HLN
          go_wp2_with fail
          go_region_law (first
            | ((refine step_append_any rfl (.tmp 52) (.tmp 61) 39 rfl 64 i0 _ 2 32 Try.underlying39 hi0 hz0 hz1 hz2 rfl (.slice va i vc) i F (by simp [Act.eval, Act.put]) (unhide HR) (some ⟨wr.heap.size, 0, none⟩) 1 1 (by simp [Act.eval, Act.put]) [.int .i64 d, .slice qa qn qc] rfl (by simp) (new_cells wr [.int .i64 d, .slice qa qn qc] 64) (by simp [Value.oneCell']) hi32 him ?_; intro v6 w6 h6 k6; obtain ⟨z1, z2, a6, c6, rfl, HT⟩ := (unhide HP) v6 w6 h6 k6; clear h6 k6)))
          all_goals go_wp2_with fail
          all_goals exact ⟨⟨i + 1, a6, c6, la, ln, lc, A ++ [(d, Q)], congrArg (Value.int .i64) (by omega), rfl, by omega, hide ⟨by rw [flat_push]; exact unhide HT, unhide HE, by rw [flat_push]; exact unhide HEL⟩⟩, by simp [intOf]; omega⟩
    · obtain rfl : i = gn := by omega
      have f1 : decide ((i : Int) < (i : Int)) = false := decide_eq_false (by omega)
      have f9 : decide (i < i) = false := decide_eq_false (by omega)
      have v0 := cell_blk hW.f 0
      have v1 := cell_blk hW.f 1
      have v2 := cell_blk hW.f 2
      obtain ⟨x0, x1, x2, x3, x4, x5, x6⟩ := box3 (.int .i64 sq) (.int .u64 (nw : Nat)) (.slice va i vc) hW.r
      have HD : Hid (LeN w A (.slice va i vc) (.slice la ln lc) (((wr.setCell ⟨w.heap.size + 1, 0, none⟩ (.int .i64 sq)).setCell ⟨w.heap.size + 1, 1, none⟩ (.int .u64 (nw : Nat))).setCell ⟨w.heap.size + 1, 2, none⟩ (.slice va i vc)) ∧ A.map actQ = g ∧ ln = (A.flatMap (·.2)).length) := hide (by
        have zel : ∀ k, k ≠ w.heap.size + 1 → (((wr.setCell ⟨w.heap.size + 1, 0, none⟩ (.int .i64 sq)).setCell ⟨w.heap.size + 1, 1, none⟩ (.int .u64 (nw : Nat))).setCell ⟨w.heap.size + 1, 2, none⟩ (.slice va i vc)).heap[k]? = wr.heap[k]? := fun k hk => (set_else _ _ _ _ _ hk).trans ((set_else _ _ _ _ _ hk).trans (set_else _ _ _ _ _ hk))
        have hk41 : Kt (fun t => t ≠ 41) wr (((wr.setCell ⟨w.heap.size + 1, 0, none⟩ (.int .i64 sq)).setCell ⟨w.heap.size + 1, 1, none⟩ (.int .u64 (nw : Nat))).setCell ⟨w.heap.size + 1, 2, none⟩ (.slice va i vc)) := fun b C t f' hb' ht => zel b (fun e => by
          rw [e, hW.r] at hb'
          cases hb'
          exact ht rfl)
        refine ⟨⟨hW.bel.trans ⟨rfl, rfl, rfl, by simp, fun b hb => zel b (by omega)⟩, ?_, hW.l.kt hk41 (by decide), fun p hp => Lent.kt (hW.ln p hp) hk41 (by decide), hW.nd⟩, ?_, (unhide HW).2.2⟩
        · exact hW.a.frame (fun b C t f hb ht => hk41 b C t f hb (by rw [ht]; decide)) (fun b hb hs hC => by obtain ⟨C, f, hC⟩ := hC; exact hk41 b C 27 f hC (by decide)) (fun q hq => .inl (.inl hq))
        · rw [(unhide HW).2.1, List.take_of_length_le (Nat.le_of_eq (unhide HN).symm)])
      clear hW HW
      go_wp2_with fail
      refine bodyPost_ret (results_box (p := 2) (q := 3) (ty := 41) rfl _ _ (w.heap.size + 1) 41 _ (0, 0) _ rfl (unhide x6) Try.underlying41 rfl (by kernel_rfl) _ rfl) rfl ?_
      exact ⟨va, vc, la, ln, lc, A, rfl, HD⟩
end Go.Proofs.Ytljeedgnjgeopaa
