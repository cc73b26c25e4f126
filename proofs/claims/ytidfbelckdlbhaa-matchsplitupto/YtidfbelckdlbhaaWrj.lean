/- MatchSplit: pieces of bounded bulk; what is too long. -/
import Derived.Test.YtidfbelckdlbhaaWri
import Derived.Test.YtidfbelckdlbhaaOpp
import Derived.Test.YtidfbelckdlbhaaOpU
namespace Go.Proofs.Ytidfbelckdlbhaa
open Go.ChangeShapes Go.WideShapes Go.ChangeAt Go.RowKit Go.Joins Go.Deep
set_option linter.unusedVariables false
set_option maxRecDepth 20000
set_option maxHeartbeats 2000000

theorem mems_most : ∀ ms : List Larder.Mb, (Larder.memsL ms).length ≤ 5 * ms.length
  | [] => by simp [Larder.memsL]
  | m :: ms => by
    have h1 := mem_len m
    have h2 := mems_most ms
    simp only [Larder.memsL, List.flatMap_cons, List.length_append, List.length_cons] at *
    omega
theorem write_most (x : Larder.Pcd) : (Larder.writeL x).length ≤ 5 * x.ms.length + 3 := by
  have h := mems_most x.ms
  unfold Larder.writeL
  repeat' split
  all_goals simp
  all_goals omega
/-- a piece that is short -/
def PcFew (x : Larder.Pcd) : Prop := ((-9223372036854775808 ≤ x.d ∧ x.d ≤ 9223372036854775807) ∧ x.b < 256 ∧ MsSmall x.ms) ∧ x.ms.length ≤ 1048576
theorem pat_most : ∀ xs : List Larder.Pcd, (∀ x ∈ xs, PcFew x) → (Larder.patL xs).length ≤ 5242883 * xs.length
  | [], _ => by simp [Larder.patL]
  | x :: xs, h => by
    have h1 := write_most x
    have h2 := pat_most xs (fun y hy => h y (List.mem_cons_of_mem _ hy))
    have h3 := (h x (List.mem_cons_self ..)).2
    simp only [Larder.patL, List.flatMap_cons, List.length_append, List.length_cons] at *
    omega
theorem open_membersU {H : Type} {enc : TypeId × Value → H} {W : World} {fuel : Nat} {v : Value} {y : DataW H × List MemPlace}
    (hf : DataW.trod enc Try.prog W 0 (fun _ => true) true fuel 36 [v] = some y) (hw : Rows.uptoBulk y.1 ≤ 1048576) :
    ∃ a ms cap, v = .slice a (List.length ms) cap ∧ ms.length ≤ 1048576 ∧ MsAt W a ms ∧ MsSmall ms := by
  rcases open_slice Try.underlying36 hf with ⟨hcs, _⟩ | ⟨a, len, cap, m, q, D, Pl, hcs, _, hlc, _, hm, hy, heach⟩
  · cases hcs
    exact ⟨_, [], 0, rfl, by simp, .inl rfl, fun m h => by cases h⟩
  · cases hcs
    simp only [if_true] at hm
    have hlen : len ≤ 1048576 := by
      rw [hy] at hw
      simp only [Rows.uptoBulk] at hw
      have h1 := bulk_len ((List.range len).map D)
      simp only [List.length_map, List.length_range] at h1
      omega
    by_cases h0 : len = 0
    · subst h0
      exact ⟨_, [], cap, rfl, by simp, .inl rfl, fun m h => by cases h⟩
    · rw [Try.cells60] at heach
      obtain ⟨b, off, spot⟩ := a
      obtain ⟨rfl, hb⟩ := place_of (heach 0 (by omega)).choose_spec.1
      obtain ⟨ms, hms, hP⟩ := pick_list (fun k (x : Larder.Mb) => MbAt W b (off + k * 4) x ∧ x.lo < 256 ∧ x.hi < 256) len (fun k hk => by
        obtain ⟨cs', hc, ht⟩ := heach k (by omega)
        obtain ⟨hl, he⟩ := cells_eachP hc
        obtain ⟨x, rfl, h1, h2⟩ := open_member ht
        refine ⟨x, ⟨?_, ?_, ?_, ?_⟩, h1, h2⟩
        · have := he 0 (by omega); rw [add_plain, add_plain] at this; exact this
        · have := he 1 (by omega); rw [add_plain, add_plain] at this; exact this
        · have := he 2 (by omega); rw [add_plain, add_plain] at this; exact this
        · have := he 3 (by omega); rw [add_plain, add_plain] at this; exact this)
      refine ⟨_, ms, cap, by rw [hms], by omega, .inr ⟨b, off, rfl, hb, fun i x hx => (hP i x hx).1⟩, fun x hx => ?_⟩
      obtain ⟨i, hi⟩ := List.getElem?_of_mem hx
      exact (hP i x hi).2
theorem open_pieceU {H : Type} {enc : TypeId × Value → H} {W : World} {n : Nat} {cs : List Value} {y : DataW H × List MemPlace}
    (hf : DataW.trod enc Try.prog W 0 (fun _ => true) true n 38 cs = some y) (hw : Rows.uptoBulk y.1 ≤ 1048576) :
    ∃ (x : Larder.Pcd) (am : Option Addr) (cm : Nat), cs = [.int .i64 x.d, .int .u8 (x.b : Nat), .bool x.nt, .slice am x.ms.length cm] ∧ PcFew x ∧ MsAt W am x.ms := by
  obtain ⟨v0, v1, v2, v3, y0, y1, y2, y3, q, rfl, hd, t0, t1, t2, t3⟩ := open_four Try.underlying38 (by kernel_rfl) rfl (by kernel_rfl) rfl (by kernel_rfl) rfl (by kernel_rfl) rfl (by kernel_rfl) hf
  obtain ⟨d, e0, _, w0⟩ := DataW.trod_int Try.underlying3 t0
  obtain ⟨b, e1, _, w1⟩ := DataW.trod_int Try.underlying5 t1
  obtain ⟨nt, e2, _⟩ := DataW.trod_bool Try.underlying4 t2
  obtain ⟨am, ms, cm, e3, l3, hM, hS⟩ := open_membersU t3 (by
    rw [hd] at hw
    simp only [Rows.uptoBulk, Rows.uptoBulkAll] at hw
    omega)
  have b1 := bounds_u8 w1
  have b0 := bounds_i64 w0
  cases e0
  cases e1
  cases e2
  cases e3
  refine ⟨⟨d, b.toNat, nt, ms⟩, am, cm, ?_, ⟨⟨b0, by dsimp only; omega, hS⟩, l3⟩, hM⟩
  dsimp only
  rw [show ((b.toNat : Nat) : Int) = b by omega]
theorem open_piecesU {H : Type} {enc : TypeId × Value → H} {W : World} {fuel : Nat} {v : Value} {y : DataW H × List MemPlace}
    (hf : DataW.trod enc Try.prog W 0 (fun _ => true) true fuel 33 [v] = some y) (hw : Rows.uptoBulk y.1 ≤ 1048576) :
    ∃ a xs cap, v = .slice a (List.length xs) cap ∧ xs.length ≤ 1048576 ∧ PcsAt W a xs ∧ ∀ x ∈ xs, PcFew x := by
  rcases open_slice Try.underlying33 hf with ⟨hcs, _⟩ | ⟨a, len, cap, m, q, D, Pl, hcs, _, hlc, _, hm, hy, heach⟩
  · cases hcs
    exact ⟨_, [], 0, rfl, by simp, .inl rfl, fun x h => by cases h⟩
  · cases hcs
    simp only [if_true] at hm
    have hlen : len ≤ 1048576 := by
      rw [hy] at hw
      simp only [Rows.uptoBulk] at hw
      have h1 := bulk_len ((List.range len).map D)
      simp only [List.length_map, List.length_range] at h1
      omega
    by_cases h0 : len = 0
    · subst h0
      exact ⟨_, [], cap, rfl, by simp, .inl rfl, fun x h => by cases h⟩
    · rw [Try.cells38] at heach
      obtain ⟨b, off, spot⟩ := a
      obtain ⟨rfl, hb⟩ := place_of (heach 0 (by omega)).choose_spec.1
      obtain ⟨xs, hxs, hP⟩ := pick_list (fun k (x : Larder.Pcd) => PcFew x ∧ ∃ am cm, MsAt W am x.ms ∧ W.cell? ⟨b, off + k * 4, none⟩ = some (.int .i64 x.d) ∧ W.cell? ⟨b, off + k * 4 + 1, none⟩ = some (.int .u8 (x.b : Nat)) ∧ W.cell? ⟨b, off + k * 4 + 2, none⟩ = some (.bool x.nt) ∧ W.cell? ⟨b, off + k * 4 + 3, none⟩ = some (.slice am x.ms.length cm)) len (fun k hk => by
        obtain ⟨cs', hc, ht⟩ := heach k (by omega)
        obtain ⟨hl, he⟩ := cells_eachP hc
        obtain ⟨x, am, cm, rfl, h1, h2⟩ := open_pieceU ht (by
          show Rows.uptoBulk (D k) ≤ 1048576
          rw [hy] at hw
          simp only [Rows.uptoBulk] at hw
          have h1 := bulk_part (d := D k) (l := (List.range len).map D) (List.mem_map.2 ⟨k, List.mem_range.2 hk, rfl⟩)
          omega)
        refine ⟨x, h1, am, cm, h2, ?_, ?_, ?_, ?_⟩
        · have := he 0 (by omega); rw [add_plain, add_plain] at this; exact this
        · have := he 1 (by omega); rw [add_plain, add_plain] at this; exact this
        · have := he 2 (by omega); rw [add_plain, add_plain] at this; exact this
        · have := he 3 (by omega); rw [add_plain, add_plain] at this; exact this)
      refine ⟨_, xs, cap, by rw [hxs], by omega, .inr ⟨b, off, rfl, hb, fun i x hx => ?_⟩, fun x hx => ?_⟩
      · obtain ⟨h1, h2⟩ := hP i x hx
        exact ⟨⟨h1.1.2.1, by have := h1.2; omega, h1.1.2.2⟩, h2⟩
      · obtain ⟨i, hi⟩ := List.getElem?_of_mem hx
        exact (hP i x hi).1
/-- too many pieces, or too long a text -/
theorem split_far (w : World) (aP aQ aT : Option Addr) (nP cP nQ cQ nT cT : Nat) (hP : nP ≤ 1048576) (hQ : nQ ≤ 1048576) (hT : nT ≤ 1048576) (h : 60 < nP + nQ ∨ 100 < nT) :
    Calls Try.prog 5 #[.agg #[.slice aP nP cP, .slice aQ nQ cQ, .slice aT nT cT]] w fun e w' => e = .returned (.bool true) ∧ Below w.heap.size w w' := by
  have hsz : (w.alloc (.cells #[.slice aP nP cP, .slice aQ nQ cQ, .slice aT nT cT] 35)).heap.size = w.heap.size + 1 := by simp
  have CW : Hid (Calls Try.prog 8 #[] (w.alloc (.cells #[.slice aP nP cP, .slice aQ nQ cQ, .slice aT nT cT] 35)) fun e w' => e = .returned (.bool true) ∧ Hid (Below w.heap.size w w') ∧ w'.cell? ⟨w.heap.size, 0, none⟩ = some (.slice aP nP cP) ∧ w'.cell? ⟨w.heap.size, 1, none⟩ = some (.slice aQ nQ cQ) ∧ w'.cell? ⟨w.heap.size, 2, none⟩ = some (.slice aT nT cT)) := hide (by
    refine (wakes_any _).mono ?_
    rintro e w' ⟨rfl, h⟩
    have hr : w'.heap[w.heap.size]? = some (.cells #[.slice aP nP cP, .slice aQ nQ cQ, .slice aT nT cT] 35 (0, 0)) := by rw [h.block _ (by omega)]; exact heap_alloc_new w _
    exact ⟨rfl, hide (((Below.refl _ _).alloc (Nat.le_refl _) _).trans (h.mono (by omega))), by rw [cell_of_row _ _ _ _ _ _ hr]; rfl, by rw [cell_of_row _ _ _ _ _ _ hr]; rfl, by rw [cell_of_row _ _ _ _ _ _ hr]; rfl⟩)
  clear hsz
  by_cases h60 : 60 < nP + nQ
  · have d1 : decide ((60 : Int) < (nP : Int) + (nQ : Int)) = true := decide_eq_true (by omega)
    clear h h60
    go_enter Try.func5, Try.ntmps5
    go_wp2_with (go_at_call 8; refine (unhide CW).mono ?_; rintro e w1 ⟨rfl, k1, x0, x1, x2⟩)
    all_goals go_ret
    all_goals exact ⟨rfl, unhide k1⟩
  · have d1 : decide ((60 : Int) < (nP : Int) + (nQ : Int)) = false := decide_eq_false (by omega)
    have d2 : decide ((100 : Int) < (nT : Int)) = true := decide_eq_true (by omega)
    clear h h60
    go_enter Try.func5, Try.ntmps5
    go_wp2_with (go_at_call 8; refine (unhide CW).mono ?_; rintro e w1 ⟨rfl, k1, x0, x1, x2⟩)
    all_goals go_ret
    all_goals exact ⟨rfl, unhide k1⟩
/-- too long patterns -/
theorem split_long (w : World) (aP aQ aT : Option Addr) (cP cQ cT nT : Nat) (xs zs : List Larder.Pcd) (h60 : xs.length + zs.length ≤ 60) (h100 : nT ≤ 100) (hP : PcsAt w aP xs) (hQ : PcsAt w aQ zs) (dP : ∀ x ∈ xs, PcFew x) (dQ : ∀ x ∈ zs, PcFew x) (h5 : 5000 < (Larder.patL xs).length + (Larder.patL zs).length) :
    Calls Try.prog 5 #[.agg #[.slice aP xs.length cP, .slice aQ zs.length cQ, .slice aT nT cT]] w fun e w' => e = .returned (.bool true) ∧ Below w.heap.size w w' := by
  have mp := pat_most xs dP
  have mq := pat_most zs dQ
  have lp : (Larder.patL xs).length ≤ 1000000000 := by omega
  have lq : (Larder.patL zs).length ≤ 1000000000 := by omega
  obtain ⟨w0, hw0⟩ : ∃ w0, w0 = w.alloc (.cells #[.slice aP xs.length cP, .slice aQ zs.length cQ, .slice aT nT cT] 35) := ⟨_, rfl⟩
  have hs0 : w0.heap.size = w.heap.size + 1 := by rw [hw0]; simp
  have B0 : Below w.heap.size w w0 := by rw [hw0]; exact (Below.refl _ _).alloc (Nat.le_refl _) _
  have hrow : w0.heap[w.heap.size]? = some (.cells #[.slice aP xs.length cP, .slice aQ zs.length cQ, .slice aT nT cT] 35 (0, 0)) := by rw [hw0]; exact heap_alloc_new w _
  have low : ∀ W, Below (w.heap.size + 1) w0 W → Below w.heap.size w W := fun W h => B0.trans (h.mono (by omega))
  have cel : ∀ W, Below (w.heap.size + 1) w0 W → W.cell? ⟨w.heap.size, 0, none⟩ = some (.slice aP xs.length cP) ∧ W.cell? ⟨w.heap.size, 1, none⟩ = some (.slice aQ zs.length cQ) ∧ W.cell? ⟨w.heap.size, 2, none⟩ = some (.slice aT nT cT) := fun W h => by
    have hr : W.heap[w.heap.size]? = some (.cells #[.slice aP xs.length cP, .slice aQ zs.length cQ, .slice aT nT cT] 35 (0, 0)) := by rw [h.block _ (by omega)]; exact hrow
    exact ⟨by rw [cell_of_row _ _ _ _ _ _ hr]; rfl, by rw [cell_of_row _ _ _ _ _ _ hr]; rfl, by rw [cell_of_row _ _ _ _ _ _ hr]; rfl⟩
  have up : ∀ {W W' : World}, Below (w.heap.size + 1) w0 W → Below W.heap.size W W' → Below (w.heap.size + 1) w0 W' := fun h h' => h.trans (h'.mono (by have := h.size; omega))
  obtain ⟨n1, hn1⟩ : ∃ n1, n1 = (Larder.patL xs).length := ⟨_, rfl⟩
  obtain ⟨n2, hn2⟩ : ∃ n2, n2 = (Larder.patL zs).length := ⟨_, rfl⟩
  obtain ⟨nP, hnP⟩ : ∃ nP, nP = xs.length := ⟨_, rfl⟩
  obtain ⟨nQ, hnQ⟩ : ∃ nQ, nQ = zs.length := ⟨_, rfl⟩
  have CW : Hid (Calls Try.prog 8 #[] (w.alloc (.cells #[.slice aP nP cP, .slice aQ nQ cQ, .slice aT nT cT] 35)) fun e w' => e = .returned (.bool true) ∧ Hid (Below (w.heap.size + 1) w0 w') ∧ w'.cell? ⟨w.heap.size, 0, none⟩ = some (.slice aP nP cP) ∧ w'.cell? ⟨w.heap.size, 1, none⟩ = some (.slice aQ nQ cQ) ∧ w'.cell? ⟨w.heap.size, 2, none⟩ = some (.slice aT nT cT)) := hide (by
    rw [hnP, hnQ, ← hw0]
    refine (wakes_any w0).mono ?_
    rintro e w' ⟨rfl, h⟩
    have h2 : Below (w.heap.size + 1) w0 w' := by rw [← hs0]; exact h
    exact ⟨rfl, hide h2, cel w' h2⟩)
  have CP : Hid (∀ W, Hid (Below (w.heap.size + 1) w0 W) → Calls Try.prog 13 #[.slice aP nP cP] W fun e w' => ∃ a1 c1, e = .returned (.slice a1 n1 c1) ∧ Hid (Below (w.heap.size + 1) w0 w') ∧ w'.cell? ⟨w.heap.size, 0, none⟩ = some (.slice aP nP cP) ∧ w'.cell? ⟨w.heap.size, 1, none⟩ = some (.slice aQ nQ cQ) ∧ w'.cell? ⟨w.heap.size, 2, none⟩ = some (.slice aT nT cT)) := hide (fun W hW => by
    rw [hnP, hnQ, hn1]
    refine (pattern_any aP xs.length cP W xs rfl (by omega) lp (hP.below (low W (unhide hW))) (fun x hx => (dP x hx).1.1)).mono ?_
    rintro e w' ⟨v, rfl, ho, hb⟩
    obtain ⟨a, c, rfl, hby, hz⟩ := ho.shape
    have h2 := up (unhide hW) hb
    exact ⟨a, c, rfl, hide h2, cel w' h2⟩)
  have CQ : Hid (∀ W, Hid (Below (w.heap.size + 1) w0 W) → Calls Try.prog 13 #[.slice aQ nQ cQ] W fun e w' => ∃ a1 c1, e = .returned (.slice a1 n2 c1) ∧ Hid (Below w.heap.size w w')) := hide (fun W hW => by
    rw [hnQ, hn2]
    refine (pattern_any aQ zs.length cQ W zs rfl (by omega) lq (hQ.below (low W (unhide hW))) (fun x hx => (dQ x hx).1.1)).mono ?_
    rintro e w' ⟨v, rfl, ho, hb⟩
    obtain ⟨a, c, rfl, hby, hz⟩ := ho.shape
    exact ⟨a, c, rfl, hide (low w' (up (unhide hW) hb))⟩)
  rw [← hnP, ← hnQ]
  have d1 : decide ((60 : Int) < (nP : Int) + (nQ : Int)) = false := decide_eq_false (by omega)
  have d2 : decide ((100 : Int) < (nT : Int)) = false := decide_eq_false (by omega)
  have d3 : decide ((5000 : Int) < (n1 : Int) + (n2 : Int)) = true := decide_eq_true (by omega)
  have q1 : n1 ≤ 1000000000 := by omega
  have q2 : n2 ≤ 1000000000 := by omega
  have q3 : nP ≤ 60 := by omega
  have q4 : nQ ≤ 60 := by omega
  clear up cel low hrow B0 hs0 hw0 lp lq mp mq hn1 hn2 hnP hnQ h5 h60 hP hQ dP dQ
  go_enter Try.func5, Try.ntmps5
  go_wp2_with (first | (go_at_call 8; refine (unhide CW).mono ?_; rintro e w1 ⟨rfl, k1, x0, x1, x2⟩) | (go_at_call 13; with_reducible refine (unhide CP _ k1).mono ?_; rintro e w2 ⟨a1, c1, rfl, k2, y0, y1, y2⟩) | (go_at_call 13; with_reducible refine (unhide CQ _ k2).mono ?_; rintro e w3 ⟨a2, c2, rfl, k3⟩))
  all_goals go_ret
  all_goals exact ⟨rfl, unhide k3⟩
/-- MatchSplit's law -/
theorem split_any (w : World) (aP aQ aT : Option Addr) (cP cQ cT : Nat) (xs zs : List Larder.Pcd) (T : List Nat) (hx : xs.length ≤ 1048576) (hz : zs.length ≤ 1048576) (hl : T.length ≤ 1048576) (hP : PcsAt w aP xs) (hQ : PcsAt w aQ zs) (dP : ∀ x ∈ xs, PcFew x) (dQ : ∀ x ∈ zs, PcFew x) (hT : Bytes w aT T) (sT : Small T) (hcT : T.length ≤ cT) (hcm : cT ≤ 9223372036854775807) :
    Calls Try.prog 5 #[.agg #[.slice aP xs.length cP, .slice aQ zs.length cQ, .slice aT T.length cT]] w fun e w' => e = .returned (.bool true) ∧ Below w.heap.size w w' := by
  by_cases hf : 60 < xs.length + zs.length ∨ 100 < T.length
  · exact split_far w aP aQ aT _ cP _ cQ _ cT hx hz hl hf
  · have h60 : xs.length + zs.length ≤ 60 := by omega
    have h100 : T.length ≤ 100 := by omega
    by_cases h5 : (Larder.patL xs).length + (Larder.patL zs).length ≤ 5000
    · cases aT with
      | none => exact law_nil w aP aQ cP cQ cT xs zs T h60 h100 hcT hcm hP hQ (fun x h => (dP x h).1) (fun x h => (dQ x h).1) h5 hT sT
      | some xT => exact law_some w aP aQ xT cP cQ cT xs zs T h60 h100 hcT hcm hP hQ (fun x h => (dP x h).1) (fun x h => (dQ x h).1) h5 hT sT
    · exact split_long w aP aQ aT cP cQ cT _ xs zs h60 h100 hP hQ dP dQ (by omega)
end Go.Proofs.Ytidfbelckdlbhaa
