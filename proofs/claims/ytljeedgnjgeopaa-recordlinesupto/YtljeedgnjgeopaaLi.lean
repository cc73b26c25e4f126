/- record: other bytes in the same places: what lies in memory. -/
import Derived.Test.YtljeedgnjgeopaaLg
namespace Go.Proofs.Ytljeedgnjgeopaa
open Go.ChangeShapes Go.WideShapes Go.ChangeAt Go.RowKit Go.Shelf
set_option linter.unusedVariables false
set_option linter.unusedSimpArgs false
set_option maxRecDepth 100000
set_option maxHeartbeats 4000000
theorem flat_idx {g : List Larder.ActI} {i k : Nat} {d : Int} {V : List (List Nat)} {T : List Nat} (hx : g[i]? = some (d, V)) (hT : V[k]? = some T) : (g.flatMap (·.2))[((g.take i).flatMap (·.2)).length + k]? = some T := by
  obtain ⟨hi, e⟩ := List.getElem?_eq_some_iff.1 hx
  have h1 : g = g.take i ++ ((d, V) :: g.drop (i + 1)) := by
    rw [← e, ← List.drop_eq_getElem_cons hi, List.take_append_drop]
  have h2 : g.flatMap (·.2) = (g.take i).flatMap (·.2) ++ (V ++ (g.drop (i + 1)).flatMap (·.2)) := by
    have h3 : g.flatMap (·.2) = (g.take i ++ ((d, V) :: g.drop (i + 1))).flatMap (·.2) := by rw [← h1]
    rw [h3, List.flatMap_append, List.flatMap_cons]
  rw [h2, List.getElem?_append_right (by omega), Nat.add_sub_cancel_left, List.getElem?_append_left (List.getElem?_eq_some_iff.1 hT).1, hT]
theorem flat_next {g : List Larder.ActI} {i : Nat} {d : Int} {V : List (List Nat)} (hx : g[i]? = some (d, V)) : ((g.take (i + 1)).flatMap (·.2)).length = ((g.take i).flatMap (·.2)).length + V.length := by
  rw [List.take_add_one, hx]
  show ((g.take i ++ [(d, V)]).flatMap (·.2)).length = _
  rw [List.flatMap_append, List.length_append]
  simp
/-- lists that were lent, and where they say what -/
structure Lns (W : World) (base : Nat) (LL : List LT) : Prop where
  ln : ∀ p ∈ LL, Ld.Lent W base p.1 p.2.1 p.2.2
theorem back_any (w : World) (la : Option Addr) (ln lc base : Nat) (LL : List LT) (hl : TR w (.slice la ln lc) LL) (hln : ln = LL.length) (hLn : ∀ p ∈ LL, Ld.Lent w base p.1 p.2.1 p.2.2) (sq : Int) (nw : Nat) (ga : Option Addr) (gn gc : Nat) (g : List Larder.ActI) (hg : GrpI w ga g) (hgn : gn = g.length) (hb : BdL g) (hLL : LL.map (·.2.2) = g.flatMap (·.2)) :
    Calls Try.prog 19 #[.slice la ln lc, .agg #[.int .i64 sq, .int .u64 (nw : Nat), .slice ga gn gc]] w fun e w' => e = .returned (.bool true) ∧ Hid (Below w.heap.size w w') := by
  obtain ⟨w1, hw1⟩ : ∃ w1, w.alloc (.cells #[.int .i64 sq, .int .u64 (nw : Nat), .slice ga gn gc] 41) = w1 := ⟨_, rfl⟩
  have hb1 := (Below.refl w.heap.size w).alloc (Nat.le_refl _) (.cells #[.int .i64 sq, .int .u64 (nw : Nat), .slice ga gn gc] 41)
  have hnew := heap_alloc_new w (.cells #[.int .i64 sq, .int .u64 (nw : Nat), .slice ga gn gc] 41)
  rw [hw1] at hb1 hnew
  have HB1 := hide hb1
  have HBOX : Hid (∀ wr, Below w1.heap.size w1 wr → wr.cell? ⟨w.heap.size, 2, none⟩ = some (.slice ga gn gc)) := hide (fun wr h => cell_blk ((h.block _ (blk_lt hnew)).trans hnew) 2)
  have HG := hide (hg.below hb1)
  have HN := hide hgn
  have HBD := hide hb
  have HLL := hide hLL
  have HL : Hid (∀ wr, Below w1.heap.size w1 wr → ∀ at_ T, (g.flatMap (·.2))[at_]? = some T → ∃ (bl ol : Nat) (p : LT), la = some ⟨bl, ol, none⟩ ∧ at_ < ln ∧ wr.cell? ⟨bl, ol + at_, none⟩ = some (.slice (some ⟨p.1, 0, none⟩) T.length p.2.1) ∧ Ld.Lent wr base p.1 p.2.1 T) := hide (fun wr h at_ T hT => by
    rw [← hLL, List.getElem?_map] at hT
    obtain ⟨p, hp, rfl⟩ := Option.map_eq_some_iff.1 hT
    have hlt : at_ < LL.length := (List.getElem?_eq_some_iff.1 hp).1
    have hbb : Below w.heap.size w wr := hb1.trans (h.mono hb1.size)
    rcases hl with ⟨e, e0⟩ | ⟨bl, cap, cur, e, hg', p1, p2, p3, p4⟩
    · omega
    · cases e
      refine ⟨bl, 0, p, rfl, by omega, ?_, (hLn p (List.mem_of_getElem? hp)).below hbb⟩
      rw [cell_blk ((hbb.block _ (blk_lt hg')).trans hg'), Nat.zero_add, p4 at_ (by omega)]
      show some (ltV (LL.getD at_ (0, 0, []))) = _
      rw [List.getD_eq_getElem?_getD, hp]
      rfl)
  have hgn32 : gn * 32 ≤ 140737488355328 := by rw [hgn]; exact hb.1
  have hlb : ln * 24 ≤ 140737488355328 := by
    have h1 : LL.length = (g.flatMap (·.2)).length := by rw [← hLL, List.length_map]
    have := hb.2.1
    omega
  clear hl hln hLn hg hgn hb hLL hb1 hnew
  have y2 := (unhide HBOX) w1 (Below.refl _ _)
  go_enter Try.func19, Try.ntmps19
  go_wp2_with fail
  clear y2
  go_loopw [5, 6] (fun av iv wr => ∃ i at_ : Nat, av = .int .i64 ((at_ : Nat) : Int) ∧ iv = .int .i64 ((i : Nat) : Int) ∧ i ≤ gn ∧ Hid (Below w1.heap.size w1 wr ∧ at_ = ((g.take i).flatMap (·.2)).length)) (fun _ iv _ => gn - (intOf iv).toNat)
  case atStart => exact ⟨0, 0, rfl, rfl, Nat.zero_le _, hide ⟨Below.refl _ _, rfl⟩⟩
  case round =>
    obtain ⟨i, at_, rfl, rfl, hi, HW⟩ := hrel
    have y2 := (unhide HBOX) wr (unhide HW).1
    by_cases hin : i < gn
    · have f1 : decide ((i : Int) < (gn : Int)) = true := decide_eq_true (by omega)
      have f3 : decide (i < gn) = true := decide_eq_true hin
      have g1 : (0 : Int) ≤ (i : Int) := by omega
      have g2 : (i : Int) < (gn : Int) := by omega
      obtain ⟨⟨d, V⟩, hx⟩ : ∃ x, g[i]? = some x := ⟨_, List.getElem?_eq_getElem (by have := unhide HN; omega)⟩
      have HX := hide hx
      have HTX : Hid (∀ T ∈ V, T.length ≤ 1099511627776) := hide ((unhide HBD).2.2 _ (List.mem_of_getElem? hx))
      obtain ⟨gb, oa, rfl, hla, k1, xa, xc, k2, k3⟩ : ∃ gb oa, ga = some ⟨gb, oa, none⟩ ∧ gb < w1.heap.size ∧ w1.cell? ⟨gb, oa + i * 2, none⟩ = some (.int .i64 d) ∧ ∃ xa xc, w1.cell? ⟨gb, oa + i * 2 + 1, none⟩ = some (.slice xa V.length xc) ∧ BL w1 xa V := by
        rcases unhide HG with h | ⟨gb, oa, e, hl, hc⟩
        · rw [h] at hx; cases hx
        · obtain ⟨q1, xa, xc, q2, q3⟩ := hc i _ hx
          exact ⟨gb, oa, e, hl, q1, xa, xc, q2, q3⟩
      have HXB := hide k3
      obtain ⟨vn, hvn⟩ : ∃ vn, vn = V.length := ⟨_, rfl⟩
      have HVN := hide hvn
      have hvb : vn ≤ 5864062014805 := by
        have h1 := flat_le hx
        have h2 := (unhide HBD).2.1
        omega
      rw [← hvn] at k2
      have HC : Hid (∀ wr, Below w1.heap.size w1 wr → wr.cell? ⟨gb, oa + i * 2 + 1, none⟩ = some (.slice xa vn xc)) := hide (fun wr hb => (hb.cell (p := ⟨gb, _, none⟩) hla).trans k2)
      obtain ⟨A0, hA0⟩ : ∃ A0, A0 = ((g.take i).flatMap (·.2)).length := ⟨_, rfl⟩
      have HA0 := hide hA0
      have hat : at_ = A0 := by rw [hA0]; exact (unhide HW).2
      subst hat
      have HW1 := hide (unhide HW).1
      clear hx k1 k2 k3 hvn hla hA0 HW
      go_wp2_with fail
      clear y2
      rename World => wo
      go_loopw [5, 7] (fun av kv wr => ∃ k aa : Nat, av = .int .i64 ((aa : Nat) : Int) ∧ kv = .int .i64 ((k : Nat) : Int) ∧ aa = at_ + k ∧ k ≤ vn ∧ Hid (Below w1.heap.size w1 wr)) (fun _ kv _ => vn - (intOf kv).toNat)
      case atStart => exact ⟨0, at_, rfl, rfl, rfl, Nat.zero_le _, HW1⟩
      case round =>
        clear HW1
        obtain ⟨k, aa, rfl, rfl, haa, hk, HW⟩ := hrel
        have y2 := (unhide HBOX) wr (unhide HW)
        have t2 := (unhide HC) wr (unhide HW)
        by_cases hkn : k < vn
        · have e1 : decide ((k : Int) < (vn : Int)) = true := decide_eq_true (by omega)
          have e2 : decide (k < vn) = true := decide_eq_true hkn
          have e3 : (0 : Int) ≤ (k : Int) := by omega
          have e4 : (k : Int) < (vn : Int) := by omega
          obtain ⟨T, hT⟩ : ∃ T, V[k]? = some T := ⟨_, List.getElem?_eq_getElem (by have := unhide HVN; omega)⟩
          obtain ⟨xb, xo, rfl, ai, ci, k4, k5⟩ : ∃ xb xo, xa = some ⟨xb, xo, none⟩ ∧ ∃ ai ci, wr.cell? ⟨xb, xo + k, none⟩ = some (.slice ai T.length ci) ∧ Bytes wr ai T := by
            rcases unhide HXB with h | ⟨xb, xo, e, hl, hc⟩
            · rw [h] at hT; cases hT
            · obtain ⟨ai, ci, q1, q2⟩ := hc k T hT
              exact ⟨xb, xo, e, ai, ci, ((unhide HW).cell (p := ⟨xb, _, none⟩) hl).trans q1, q2.below' (unhide HW)⟩
          have hidx := flat_idx (unhide HX) hT
          rw [← unhide HA0, ← haa] at hidx
          obtain ⟨bl, ol, ⟨pg, pc, pl⟩, rfl, hlt, k6, k7⟩ := (unhide HL) wr (unhide HW) aa T hidx
          replace k6 : wr.cell? ⟨bl, ol + aa, none⟩ = some (.slice (some ⟨pg, 0, none⟩) T.length pc) := k6
          replace k7 : Ld.Lent wr base pg pc T := k7
          have hT4 : T.length ≤ 1099511627776 := (unhide HTX) T (List.mem_of_getElem? hT)
          have e5 : (0 : Int) ≤ (aa : Int) := by omega
          have e6 : (aa : Int) < (ln : Int) := by omega
          have C27 := Ld.intact_yes ai ci pg pc base wr.drew T (by omega) k5 (k7.below (below_drew (Below.refl _ _)))
          generalize T.length = tn at k4 k6 C27
          have hd := HW
          have C27' : Calls Try.prog 27 #[.slice (some ⟨pg, 0, none⟩) tn pc, .slice ai tn ci] wr.drew fun e w3 => e = .returned (.bool true) ∧ w3.cell? ⟨w.heap.size, 2, none⟩ = some (.slice (some ⟨gb, oa, none⟩) gn gc) ∧ w3.cell? ⟨gb, oa + i * 2 + 1, none⟩ = some (.slice (some ⟨xb, xo, none⟩) vn xc) ∧ w3.cell? ⟨xb, xo + k, none⟩ = some (.slice ai tn ci) ∧ w3.cell? ⟨bl, ol + aa, none⟩ = some (.slice (some ⟨pg, 0, none⟩) tn pc) ∧ Hid (Below w1.heap.size w1 w3) := C27.mono fun e w3 h => by
            obtain ⟨h1, rfl⟩ := h
            exact ⟨h1, y2, t2, k4, k6, hide (below_drew (unhide hd))⟩
          replace haa := hide haa
          clear hT hidx k5 k7 hT4 C27 hd HW
          go_wp2_with fail
          go_region_held3 (fun W => W.cell? ⟨w.heap.size, 2, none⟩ = some (.slice (some ⟨gb, oa, none⟩) gn gc) ∧ W.cell? ⟨gb, oa + i * 2 + 1, none⟩ = some (.slice (some ⟨xb, xo, none⟩) vn xc) ∧ W.cell? ⟨xb, xo + k, none⟩ = some (.slice ai tn ci) ∧ W.cell? ⟨bl, ol + aa, none⟩ = some (.slice (some ⟨pg, 0, none⟩) tn pc)) (go_keep) (first | (go_at_call 27; refine C27'.mono ?_; clear C27'; rintro e w3 ⟨rfl, z1, z2, z3, z4, H3⟩))
          all_goals go_wp2_with fail
          all_goals exact ⟨⟨k + 1, aa + 1, congrArg (Value.int .i64) (by omega), congrArg (Value.int .i64) (by omega), by (have := unhide haa); omega, by omega, H3⟩, by simp [intOf]; omega⟩
        · obtain rfl : k = vn := by omega
          have e1 : decide ((k : Int) < (k : Int)) = false := decide_eq_false (by omega)
          have e2 : decide (k < k) = false := decide_eq_false (by omega)
          have HE : Hid (Below w1.heap.size w1 wr ∧ aa = ((g.take (i + 1)).flatMap (·.2)).length) := hide ⟨unhide HW, by rw [flat_next (unhide HX), ← unhide HA0, ← unhide HVN]; exact haa⟩
          clear HW
          go_wp2_with fail
          exact ⟨⟨i + 1, aa, rfl, congrArg (Value.int .i64) (by omega), by omega, HE⟩, by simp [intOf]; omega⟩
    · obtain rfl : i = gn := by omega
      have f1 : decide ((i : Int) < (i : Int)) = false := decide_eq_false (by omega)
      have f9 : decide (i < i) = false := decide_eq_false (by omega)
      go_wp2_with fail
      go_ret
      exact ⟨rfl, hide ((unhide HB1).trans ((unhide HW).1.mono (unhide HB1).size))⟩
end Go.Proofs.Ytljeedgnjgeopaa
namespace Go.Proofs.Ytljeedgnjgeopaa
open Go.ChangeShapes Go.WideShapes Go.ChangeAt Go.RowKit Go.Shelf
set_option linter.unusedVariables false
set_option linter.unusedSimpArgs false
set_option maxRecDepth 100000
set_option maxHeartbeats 4000000
/-- where a list lies, and how long it is -/
def sh (p : LT) : Nat × Nat × Nat := (p.1, p.2.1, p.2.2.length)
theorem ltV_sh {p q : LT} (h : sh p = sh q) : ltV p = ltV q := by
  unfold sh at h
  unfold ltV
  injection h with h1 h2
  injection h2 with h2 h3
  rw [h1, h2, h3]
theorem sh_len {l m : List LT} (h : l.map sh = m.map sh) : l.length = m.length := by
  have := congrArg List.length h
  simpa using this
theorem sh_fst {l m : List LT} (h : l.map sh = m.map sh) : l.map (·.1) = m.map (·.1) := by
  have h2 := congrArg (List.map (fun x : Nat × Nat × Nat => x.1)) h
  rw [List.map_map, List.map_map] at h2
  exact h2
theorem sh_at {l m : List LT} (h : l.map sh = m.map sh) (j : Nat) : ltV (l.getD j (0, 0, [])) = ltV (m.getD j (0, 0, [])) := by
  apply ltV_sh
  have h2 := congrArg (fun x => x[j]?) h
  simp only [List.getElem?_map] at h2
  rw [List.getD_eq_getElem?_getD, List.getD_eq_getElem?_getD]
  cases h3 : l[j]? <;> cases h4 : m[j]? <;> rw [h3, h4] at h2 <;> simp_all
theorem TR.sh {W : World} {v : Value} {l m : List LT} (h : TR W v l) (e : l.map sh = m.map sh) : TR W v m := by
  unfold TR at h ⊢
  rw [← sh_len e]
  exact h.congr (fun j hj => by
    show ltV _ = ltV _
    rw [sh_at e])
theorem AQ.sh {W : World} {v : Value} {A A' : List (Int × List LT)} {S : Nat → Prop} (h : AQ W v A S) (e : A.map (fun x => (x.1, x.2.map sh)) = A'.map (fun x => (x.1, x.2.map sh))) : AQ W v A' S := by
  obtain ⟨f, h1, h2⟩ := h
  have hl : A.length = A'.length := by have := congrArg List.length e; simpa using this
  refine ⟨f, by rw [← hl]; exact h1, fun i x hx => ?_⟩
  have h3 := congrArg (fun y => y[i]?) e
  simp only [List.getElem?_map] at h3
  rw [hx] at h3
  cases hy : A[i]? with
  | none => rw [hy] at h3; cases h3
  | some y =>
    rw [hy] at h3
    injection h3 with h3
    injection h3 with h4 h5
    obtain ⟨ai, ci, q1, q2, q3, q4⟩ := h2 i y hy
    have hlen := sh_len h5
    refine ⟨ai, ci, by rw [← h4]; exact q1, by rw [← hlen]; exact q2, ?_, ?_⟩
    · rw [← hlen]; exact q3.sh h5
    · rw [← hlen]; exact q4
/-- lists laid over commands -/
theorem split_sh : ∀ (A : List (Int × List LT)) (L : List LT), L.map sh = (A.flatMap (·.2)).map sh → ∃ A' : List (Int × List LT), A'.flatMap (·.2) = L ∧ A.map (fun x => (x.1, x.2.map sh)) = A'.map (fun x => (x.1, x.2.map sh))
  | [], L, h => by
    refine ⟨[], ?_, rfl⟩
    have := sh_len h
    simp at this
    rw [this]
    rfl
  | x :: A, L, h => by
    rw [List.flatMap_cons, List.map_append] at h
    have h1 : (L.drop x.2.length).map sh = (A.flatMap (·.2)).map sh := by
      rw [List.map_drop, h, List.drop_append, List.drop_eq_nil_of_le (by simp), List.length_map, Nat.sub_self]
      simp
    have h2 : (L.take x.2.length).map sh = x.2.map sh := by
      rw [List.map_take, h, List.take_append_of_le_length (by simp), List.take_of_length_le (by simp)]
    obtain ⟨A', h3, h4⟩ := split_sh A _ h1
    refine ⟨(x.1, L.take x.2.length) :: A', ?_, ?_⟩
    · rw [List.flatMap_cons, h3]
      exact List.take_append_drop _ _
    · rw [List.map_cons, List.map_cons, h4]
      show _ :: _ = (x.1, (L.take x.2.length).map sh) :: _
      rw [h2]
theorem lent_low {w : World} {base g c : Nat} {l : List Nat} (h : Ld.Lent w base g c l) : base ≤ g := by
  rcases h.2 with ⟨q, -⟩ | ⟨g', cap, cur, e, q1, q2⟩
  · cases q
  · cases e; exact q1
theorem lent_only {w w' : World} {base g c g' : Nat} {l : List Nat} (h : Ld.Lent w base g c l) (ho : Ld.Only g' w w') (hne : g ≠ g') : Ld.Lent w' base g c l := by
  obtain ⟨h1, h2⟩ := h
  refine ⟨h1, ?_⟩
  rcases h2 with q | ⟨g'', cap, cur, e, q1, q2, q3⟩
  · exact .inl q
  · cases e
    exact .inr ⟨g, _, cur, rfl, q1, (ho.block _ hne).trans q2, q3⟩
/-- under way: some of the lists hold other bytes; WM is the world in which it began -/
structure Inp (base M : Nat) (w0 WM : World) (LL L : List LT) (W : World) : Prop where
  bel : Below base w0 W
  kt : Kt (fun t => t ≠ 5) WM W
  hi : ∀ b, M ≤ b → b < WM.heap.size → W.heap[b]? = WM.heap[b]?
  size : WM.heap.size ≤ W.heap.size
  ln : ∀ p ∈ L, Ld.Lent W base p.1 p.2.1 p.2.2
  eq : L.map sh = LL.map sh
  sm : ∀ p ∈ L, Small p.2.2
theorem Inp.step {base M k : Nat} {w0 WM W w5 w6 : World} {LL L : List LT} {p : LT} {m : List Nat} (h : Inp base M w0 WM LL L W) (hnd : (LL.map (·.1)).Nodup) (hM : ∀ p ∈ LL, p.1 < M) (hbw : base ≤ WM.heap.size) (hp : L[k]? = some p) (hb : Below W.heap.size W w5) (hm : m.length = p.2.2.length) (hs : Small m) (hL : Ld.Lent w6 base p.1 p.2.1 m) (hO : Ld.Only p.1 w5 w6) : Inp base M w0 WM LL (L.set k (p.1, p.2.1, m)) w6 := by
  have hpm := List.mem_of_getElem? hp
  have hlow := lent_low (h.ln p hpm)
  have hf := sh_fst h.eq
  have hpM : p.1 < M := by
    have : p.1 ∈ LL.map (·.1) := by rw [← hf]; exact List.mem_map.2 ⟨p, hpm, rfl⟩
    obtain ⟨q, hq, e⟩ := List.mem_map.1 this
    rw [← e]; exact hM q hq
  have hnd2 : (L.map (·.1)).Nodup := by rw [hf]; exact hnd
  have hk : k < L.length := (List.getElem?_eq_some_iff.1 hp).1
  refine ⟨hO.below (h.bel.trans (hb.mono (Nat.le_trans hbw h.size))) hlow, fun b C t f hc ht => ?_, fun b hb1 hb2 => ?_, ?_, fun q hq => ?_, ?_, fun q hq => ?_⟩
  · have e1 := h.kt b C t f hc ht
    have e2 := hb.block b (by have := blk_lt hc; have := h.size; omega)
    refine (hO.block b (fun e => ?_)).trans (e2.trans e1)
    obtain ⟨cur, hcur⟩ := Lent.blk (h.ln p hpm)
    rw [← e, e1, hc] at hcur
    cases hcur
    exact ht rfl
  · exact (hO.block b (by omega)).trans ((hb.block b (by have := h.size; omega)).trans (h.hi b hb1 hb2))
  · rw [hO.size]; exact Nat.le_trans h.size hb.size
  · obtain ⟨j, hj⟩ := List.mem_iff_getElem?.1 hq
    by_cases e : k = j
    · subst e
      rw [List.getElem?_set_self hk] at hj
      cases hj
      exact hL
    · rw [List.getElem?_set_ne e] at hj
      refine lent_only ((h.ln q (List.mem_of_getElem? hj)).below hb) hO (fun e2 => ?_)
      have hj2 : j < L.length := (List.getElem?_eq_some_iff.1 hj).1
      have hn := List.pairwise_iff_getElem.1 hnd2
      have e5 : p.1 = (L.map (·.1))[k]'(by simpa using hk) := by
        have := (List.getElem?_eq_some_iff.1 hp).2
        simp [this]
      have e6 : q.1 = (L.map (·.1))[j]'(by simpa using hj2) := by
        have := (List.getElem?_eq_some_iff.1 hj).2
        simp [this]
      rcases Nat.lt_or_gt_of_ne e with l | l
      · exact hn k j (by simpa using hk) (by simpa using hj2) l (by rw [← e5, ← e6, e2])
      · exact hn j k (by simpa using hj2) (by simpa using hk) l (by rw [← e5, ← e6, e2])
  · rw [← h.eq, List.map_set]
    apply List.ext_getElem?
    intro j
    by_cases e : k = j
    · subst e
      rw [List.getElem?_set_self (by simpa using hk), List.getElem?_map, hp]
      show some (p.1, p.2.1, m.length) = some (p.1, p.2.1, p.2.2.length)
      rw [hm]
    · rw [List.getElem?_set_ne e]
  · rcases List.mem_or_eq_of_mem_set hq with hq | e
    · exact h.sm q hq
    · rw [e]; exact hs
end Go.Proofs.Ytljeedgnjgeopaa
