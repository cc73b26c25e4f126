/- Told.reply over a Told. -/
import Derived.Test.YtecfgbjnjgjkoaaGreatDoorTdp
namespace Go.Proofs.YtecfgbjnjgjkoaaGreatDoor.Bp
open Go.ChangeShapes Go.WideShapes Go.ChangeAt Go.RowKit Go.Proofs.YtecfgbjnjgjkoaaGreatDoor
set_option linter.unusedVariables false
set_option linter.unusedSimpArgs false
set_option maxRecDepth 20000
set_option maxHeartbeats 4000000

theorem told_walk (W : World) (pb s : Nat) (m k0 k1 : Int) (ta : Option Addr) (tn tc : Nat) (la : Option Addr) (ln lc : Nat) (R : World → Prop) (hs : s ≤ 1099511627776) (hm : -4611686018427387904 ≤ m ∧ m ≤ 4611686018427387904)
    (c1 : ∀ o, (W.alloc o).cell? ⟨pb + 1, 1, none⟩ = some (.int .i64 m))
    (f1 : ∀ o, (W.alloc o).drew.frozen? ⟨pb + 1, 1, none⟩ = false) (hl : pb + 1 < W.heap.size)
    (PB : Hid (∀ w2, Below W.heap.size W w2 → (w2.setCell ⟨pb + 1, 1, none⟩ (.int .i64 (m - (s : Int)))).cell? ⟨pb + 1, 0, none⟩ = some (.pointer (some ⟨pb, 0, none⟩)) ∧ (w2.setCell ⟨pb + 1, 1, none⟩ (.int .i64 (m - (s : Int)))).cell? ⟨pb + 1, 1, none⟩ = some (.int .i64 (m - (s : Int)))))
    (CH : Hid (∀ w2, Below W.heap.size W w2 → 0 ≤ m - (s : Int) → Calls Tryz.prog 55 #[.pointer (some ⟨pb, 0, none⟩), .agg #[.int .i64 k0, .int .i64 k1, .slice ta tn tc, .slice la ln lc]] (w2.setCell ⟨pb + 1, 1, none⟩ (.int .i64 (m - (s : Int)))).drew fun e w' => e = .returned (.tuple #[]) ∧ Hid (R w')))
    (RD : Hid (∀ w2, Below W.heap.size W w2 → m - (s : Int) < 0 → R (w2.setCell ⟨pb + 1, 1, none⟩ (.int .i64 (m - (s : Int))))))
    (CS : Hid (∀ W', Below W.heap.size W W' → Calls Tryz.prog 54 #[.agg #[.int .i64 k0, .int .i64 k1, .slice ta tn tc, .slice la ln lc]] W' fun e w' => e = .returned (.int .i64 (s : Nat)) ∧ Hid (Below W'.heap.size W' w'))) :
    Calls Tryz.prog 31 #[.pointer (some ⟨pb + 1, 0, none⟩), .agg #[.int .i64 k0, .int .i64 k1, .slice ta tn tc, .slice la ln lc]] W fun e w' => e = .returned (.tuple #[]) ∧ Hid (R w') := by
  obtain ⟨W1, hW1⟩ : ∃ W1, W1 = W.alloc (.cells #[.int .i64 k0, .int .i64 k1, .slice ta tn tc, .slice la ln lc] 31) := ⟨_, rfl⟩
  have x0 : W1.cell? ⟨W.heap.size, 0, none⟩ = some (.int .i64 k0) := by rw [hW1, cell_of_row _ _ _ _ _ _ (heap_alloc_new W _)]; rfl
  have x1 : W1.cell? ⟨W.heap.size, 1, none⟩ = some (.int .i64 k1) := by rw [hW1, cell_of_row _ _ _ _ _ _ (heap_alloc_new W _)]; rfl
  have x2 : W1.cell? ⟨W.heap.size, 2, none⟩ = some (.slice ta tn tc) := by rw [hW1, cell_of_row _ _ _ _ _ _ (heap_alloc_new W _)]; rfl
  have x3 : W1.cell? ⟨W.heap.size, 3, none⟩ = some (.slice la ln lc) := by rw [hW1, cell_of_row _ _ _ _ _ _ (heap_alloc_new W _)]; rfl
  have c1' : W1.cell? ⟨pb + 1, 1, none⟩ = some (.int .i64 m) := by rw [hW1]; exact c1 _
  have HW := hide hW1
  go_enter Tryz.func31, Tryz.ntmps31
  go_upto_region 1 with fail
  rw [← unhide HW]
  have hSS : (fun w' : World => w'.cell? ⟨pb + 1, 1, none⟩ = some (.int .i64 m) ∧ w'.cell? ⟨W.heap.size, 0, none⟩ = some (.int .i64 k0) ∧ w'.cell? ⟨W.heap.size, 1, none⟩ = some (.int .i64 k1) ∧ w'.cell? ⟨W.heap.size, 2, none⟩ = some (.slice ta tn tc) ∧ w'.cell? ⟨W.heap.size, 3, none⟩ = some (.slice la ln lc)) W1.drew := ⟨c1', x0, x1, x2, x3⟩
  have HB1 : Hid (Below W.heap.size W W1.drew) := hide (by rw [hW1]; exact ((Below.refl _ _).alloc (Nat.le_refl _) _).trans ⟨rfl, rfl, rfl, Nat.le_refl _, fun _ _ => rfl⟩)
  have HK : Hid (∀ w2, Below W1.drew.heap.size W1.drew w2 → w2.cell? ⟨pb + 1, 1, none⟩ = some (.int .i64 m) ∧ w2.cell? ⟨W.heap.size, 0, none⟩ = some (.int .i64 k0) ∧ w2.cell? ⟨W.heap.size, 1, none⟩ = some (.int .i64 k1) ∧ w2.cell? ⟨W.heap.size, 2, none⟩ = some (.slice ta tn tc) ∧ w2.cell? ⟨W.heap.size, 3, none⟩ = some (.slice la ln lc)) := hide (fun w2 hb => by
    have l1 : pb + 1 < W1.drew.heap.size := by rw [hW1]; simp; omega
    have l2 : W.heap.size < W1.drew.heap.size := by rw [hW1]; simp
    exact ⟨(hb.cell l1).trans c1', (hb.cell l2).trans x0, (hb.cell l2).trans x1, (hb.cell l2).trans x2, (hb.cell l2).trans x3⟩)
  have HF : Hid (∀ w2, Below W1.drew.heap.size W1.drew w2 → w2.frozen? ⟨pb + 1, 1, none⟩ = false) := hide (fun w2 hb => by
    have l1 : pb + 1 < W1.drew.heap.size := by rw [hW1]; simp; omega
    rw [World.frozen?_of_block (a := ⟨pb + 1, 1, none⟩) (hb.block _ l1), hW1]
    exact f1 _)
  have hwr : IntKind.i64.wrap (m - (s : Int)) = m - (s : Int) := by rw [IntKind.wrap_i64]; omega
  clear hW1
  refine till_begin (fun w' : World => w'.cell? ⟨pb + 1, 1, none⟩ = some (.int .i64 m) ∧ w'.cell? ⟨W.heap.size, 0, none⟩ = some (.int .i64 k0) ∧ w'.cell? ⟨W.heap.size, 1, none⟩ = some (.int .i64 k1) ∧ w'.cell? ⟨W.heap.size, 2, none⟩ = some (.slice ta tn tc) ∧ w'.cell? ⟨W.heap.size, 3, none⟩ = some (.slice la ln lc)) 10 (by kernel_rfl) ?_
  refine AnyTill.take 0 (v := ?_) rfl (by kernel_rfl) (by kernel_rfl) (by kernel_rfl) (by kernel_rfl) (fun _ _ _ h => h) ?_ rfl hSS ?_
  rotate_left
  · intro w hSw
    obtain ⟨s1, s2, s3, s4, s5⟩ := hSw
    go_simp
    all_goals with_reducible rfl
  try simp only [Act.put, List.getElem_toArray, List.getElem_cons_succ, List.getElem_cons_zero, List.setIfInBounds_toArray, List.set_cons_zero, List.set_cons_succ]
  refine AnyTill.take 1 (v := ?_) rfl (by kernel_rfl) (by kernel_rfl) (by kernel_rfl) (by kernel_rfl) (fun _ _ _ h => h) ?_ rfl hSS ?_
  rotate_left
  · intro w hSw
    obtain ⟨s1, s2, s3, s4, s5⟩ := hSw
    go_simp
    all_goals with_reducible rfl
  try simp only [Act.put, List.getElem_toArray, List.getElem_cons_succ, List.getElem_cons_zero, List.setIfInBounds_toArray, List.set_cons_zero, List.set_cons_succ]
  refine AnyTill.take 2 (v := ?_) rfl (by kernel_rfl) (by kernel_rfl) (by kernel_rfl) (by kernel_rfl) (fun _ _ _ h => h) ?_ rfl hSS ?_
  rotate_left
  · intro w hSw
    obtain ⟨s1, s2, s3, s4, s5⟩ := hSw
    go_simp
    all_goals with_reducible rfl
  try simp only [Act.put, List.getElem_toArray, List.getElem_cons_succ, List.getElem_cons_zero, List.setIfInBounds_toArray, List.set_cons_zero, List.set_cons_succ]
  refine AnyTill.take 3 (v := ?_) rfl (by kernel_rfl) (by kernel_rfl) (by kernel_rfl) (by kernel_rfl) (fun _ _ _ h => h) ?_ rfl hSS ?_
  rotate_left
  · intro w hSw
    obtain ⟨s1, s2, s3, s4, s5⟩ := hSw
    go_simp
    all_goals with_reducible rfl
  try simp only [Act.put, List.getElem_toArray, List.getElem_cons_succ, List.getElem_cons_zero, List.setIfInBounds_toArray, List.set_cons_zero, List.set_cons_succ]
  refine AnyTill.take 4 (v := ?_) rfl (by kernel_rfl) (by kernel_rfl) (by kernel_rfl) (by kernel_rfl) (fun _ _ _ h => h) ?_ rfl hSS ?_
  rotate_left
  · intro w hSw
    obtain ⟨s1, s2, s3, s4, s5⟩ := hSw
    go_simp
    all_goals with_reducible rfl
  try simp only [Act.put, List.getElem_toArray, List.getElem_cons_succ, List.getElem_cons_zero, List.setIfInBounds_toArray, List.set_cons_zero, List.set_cons_succ]
  refine AnyTill.take 5 (v := ?_) rfl (by kernel_rfl) (by kernel_rfl) (by kernel_rfl) (by kernel_rfl) (fun _ _ _ h => h) ?_ rfl hSS ?_
  rotate_left
  · intro w hSw
    obtain ⟨s1, s2, s3, s4, s5⟩ := hSw
    go_simp
    all_goals with_reducible rfl
  try simp only [Act.put, List.getElem_toArray, List.getElem_cons_succ, List.getElem_cons_zero, List.setIfInBounds_toArray, List.set_cons_zero, List.set_cons_succ]
  refine AnyTill.one (i := 6) (by kernel_rfl) (AnyTill.op rfl rfl fun K hK => ?_)
  go_simp
  go_at_call 54
  with_reducible refine (unhide CS W1.drew (unhide HB1)).mono ?_
  rintro e w2 ⟨rfl, hb2⟩
  have hSS2 : (fun w' : World => w'.cell? ⟨pb + 1, 1, none⟩ = some (.int .i64 m) ∧ w'.cell? ⟨W.heap.size, 0, none⟩ = some (.int .i64 k0) ∧ w'.cell? ⟨W.heap.size, 1, none⟩ = some (.int .i64 k1) ∧ w'.cell? ⟨W.heap.size, 2, none⟩ = some (.slice ta tn tc) ∧ w'.cell? ⟨W.heap.size, 3, none⟩ = some (.slice la ln lc)) w2 := unhide HK w2 (unhide hb2)
  refine hK _ _ (fun _ => hSS2) ?_
  clear hK K
  try simp only [Act.put, List.getElem_toArray, List.getElem_cons_succ, List.getElem_cons_zero, List.setIfInBounds_toArray, List.set_cons_zero, List.set_cons_succ]
  refine AnyTill.take 7 (v := ?_) rfl (by kernel_rfl) (by kernel_rfl) (by kernel_rfl) (by kernel_rfl) (fun _ _ _ h => h) ?_ rfl hSS2 ?_
  rotate_left
  · intro w hSw
    obtain ⟨s1, s2, s3, s4, s5⟩ := hSw
    go_simp
    all_goals with_reducible rfl
  try simp only [Act.put, List.getElem_toArray, List.getElem_cons_succ, List.getElem_cons_zero, List.setIfInBounds_toArray, List.set_cons_zero, List.set_cons_succ]
  refine AnyTill.one (i := 8) (by kernel_rfl) (AnyTill.op rfl rfl fun K hK => ?_)
  go_simp
  refine hK _ _ (fun _ => hSS2) ?_
  clear hK K
  try simp only [Act.put, List.getElem_toArray, List.getElem_cons_succ, List.getElem_cons_zero, List.setIfInBounds_toArray, List.set_cons_zero, List.set_cons_succ]
  refine AnyTill.one (i := 9) (by kernel_rfl) (AnyTill.op rfl rfl fun K hK => ?_)
  go_simp
  refine hK _ _ (fun _ => hSS2) ?_
  clear hK K
  try simp only [Act.put, List.getElem_toArray, List.getElem_cons_succ, List.getElem_cons_zero, List.setIfInBounds_toArray, List.set_cons_zero, List.set_cons_succ]
  have c1d := hSS2.1
  have c1fd := unhide HF w2 (unhide hb2)
  refine AnyTill.one (i := 10) (by kernel_rfl) (AnyTill.op rfl rfl fun K hK => ?_)
  go_simp
  refine hK _ _ (fun h => absurd rfl h) ?_
  clear hK K
  try simp only [Act.put, List.getElem_toArray, List.getElem_cons_succ, List.getElem_cons_zero, List.setIfInBounds_toArray, List.set_cons_zero, List.set_cons_succ]
  refine AnyTill.done (by kernel_rfl) ?_
  obtain ⟨W2, hW2⟩ : ∃ W2, W2 = w2.setCell ⟨pb + 1, 1, none⟩ (.int .i64 (m - (s : Int))) := ⟨_, rfl⟩
  have HW2 : Hid (Below W.heap.size W w2) := hide ((unhide HB1).trans ((unhide hb2).mono (unhide HB1).size))
  have bx : ∀ j v, w2.cell? ⟨W.heap.size, j, none⟩ = some v → W2.cell? ⟨W.heap.size, j, none⟩ = some v := fun j v hv => by
    rw [hW2, World.cell?_of_block (a := ⟨W.heap.size, j, none⟩) (Bk.setCell_else w2 (pb + 1) 1 W.heap.size _ (by omega))]; exact hv
  have y0 := bx 0 _ hSS2.2.1
  have y1 := bx 1 _ hSS2.2.2.1
  have y2 := bx 2 _ hSS2.2.2.2.1
  have y3 := bx 3 _ hSS2.2.2.2.2
  obtain ⟨d0, d1⟩ := unhide PB w2 (unhide HW2)
  rw [← hW2] at d0 d1
  have HCH : Hid (0 ≤ m - (s : Int) → Calls Tryz.prog 55 #[.pointer (some ⟨pb, 0, none⟩), .agg #[.int .i64 k0, .int .i64 k1, .slice ta tn tc, .slice la ln lc]] W2.drew fun e w' => e = .returned (.tuple #[]) ∧ Hid (R w')) := hide (fun q => by rw [hW2]; exact unhide CH w2 (unhide HW2) q)
  have HRD : Hid (m - (s : Int) < 0 → R W2) := hide (fun q => by rw [hW2]; exact unhide RD w2 (unhide HW2) q)
  rw [← hW2]
  clear hW2 bx hSS2 c1d c1fd hSS HK HF HB1 HW2 hb2 PB CH RD CS x0 x1 x2 x3 c1' c1 f1 HW
  by_cases q : 0 ≤ m - (s : Int)
  · have f1 : decide (0 ≤ m - (s : Int)) = true := decide_eq_true q
    have f2 : decide (m - (s : Int) ≥ 0) = true := decide_eq_true q
    have CM := hide (unhide HCH q)
    clear HCH HRD
    go_wp2_with fail
    have hSS : (fun w' : World => w'.cell? ⟨pb + 1, 0, none⟩ = some (.pointer (some ⟨pb, 0, none⟩)) ∧ w'.cell? ⟨W.heap.size, 0, none⟩ = some (.int .i64 k0) ∧ w'.cell? ⟨W.heap.size, 1, none⟩ = some (.int .i64 k1) ∧ w'.cell? ⟨W.heap.size, 2, none⟩ = some (.slice ta tn tc) ∧ w'.cell? ⟨W.heap.size, 3, none⟩ = some (.slice la ln lc)) W2.drew := ⟨d0, y0, y1, y2, y3⟩
    refine till_begin (fun w' : World => w'.cell? ⟨pb + 1, 0, none⟩ = some (.pointer (some ⟨pb, 0, none⟩)) ∧ w'.cell? ⟨W.heap.size, 0, none⟩ = some (.int .i64 k0) ∧ w'.cell? ⟨W.heap.size, 1, none⟩ = some (.int .i64 k1) ∧ w'.cell? ⟨W.heap.size, 2, none⟩ = some (.slice ta tn tc) ∧ w'.cell? ⟨W.heap.size, 3, none⟩ = some (.slice la ln lc)) 5 (by kernel_rfl) ?_
    refine AnyTill.two (i := 0) (j := 4) (by kernel_rfl) (AnyTill.op rfl rfl fun K hK => ?_) (AnyTill.op rfl rfl fun K hK => ?_)
    · skip
      go_simp
      refine hK _ _ (fun _ => hSS) ?_
      clear hK K
      try simp only [Act.put, List.getElem_toArray, List.getElem_cons_succ, List.getElem_cons_zero, List.setIfInBounds_toArray, List.set_cons_zero, List.set_cons_succ]
      refine AnyTill.two (i := 1) (j := 4) (by kernel_rfl) (AnyTill.op rfl rfl fun K hK => ?_) (AnyTill.op rfl rfl fun K hK => ?_)
      · skip
        go_simp
        refine hK _ _ (fun _ => hSS) ?_
        clear hK K
        try simp only [Act.put, List.getElem_toArray, List.getElem_cons_succ, List.getElem_cons_zero, List.setIfInBounds_toArray, List.set_cons_zero, List.set_cons_succ]
        refine AnyTill.two (i := 2) (j := 4) (by kernel_rfl) (AnyTill.op rfl rfl fun K hK => ?_) (AnyTill.op rfl rfl fun K hK => ?_)
        · skip
          go_simp
          refine hK _ _ (fun _ => hSS) ?_
          clear hK K
          try simp only [Act.put, List.getElem_toArray, List.getElem_cons_succ, List.getElem_cons_zero, List.setIfInBounds_toArray, List.set_cons_zero, List.set_cons_succ]
          refine AnyTill.two (i := 3) (j := 4) (by kernel_rfl) (AnyTill.op rfl rfl fun K hK => ?_) (AnyTill.op rfl rfl fun K hK => ?_)
          · skip
            go_simp
            refine hK _ _ (fun _ => hSS) ?_
            clear hK K
            try simp only [Act.put, List.getElem_toArray, List.getElem_cons_succ, List.getElem_cons_zero, List.setIfInBounds_toArray, List.set_cons_zero, List.set_cons_succ]
            refine AnyTill.one (i := 4) (by kernel_rfl) (AnyTill.op rfl rfl fun K hK => ?_)
            go_simp
            refine hK _ _ (fun _ => hSS) ?_
            clear hK K
            try simp only [Act.put, List.getElem_toArray, List.getElem_cons_succ, List.getElem_cons_zero, List.setIfInBounds_toArray, List.set_cons_zero, List.set_cons_succ]
            refine AnyTill.one (i := 5) (by kernel_rfl) (AnyTill.op rfl rfl fun K hK => ?_)
            go_simp
            go_at_call 55
            with_reducible refine (unhide CM).mono ?_
            rintro e w3 ⟨rfl, k3⟩
            refine hK _ _ (fun h => absurd rfl h) ?_
            clear hK K
            try simp only [Act.put, List.getElem_toArray, List.getElem_cons_succ, List.getElem_cons_zero, List.setIfInBounds_toArray, List.set_cons_zero, List.set_cons_succ]
            refine AnyTill.done (by kernel_rfl) ?_
            go_wp2_with fail
            all_goals go_end0
            all_goals exact ⟨rfl, k3⟩
          · skip
            go_simp
            refine hK _ _ (fun _ => hSS) ?_
            clear hK K
            try simp only [Act.put, List.getElem_toArray, List.getElem_cons_succ, List.getElem_cons_zero, List.setIfInBounds_toArray, List.set_cons_zero, List.set_cons_succ]
            refine AnyTill.one (i := 3) (by kernel_rfl) (AnyTill.op rfl rfl fun K hK => ?_)
            go_simp
            refine hK _ _ (fun _ => hSS) ?_
            clear hK K
            try simp only [Act.put, List.getElem_toArray, List.getElem_cons_succ, List.getElem_cons_zero, List.setIfInBounds_toArray, List.set_cons_zero, List.set_cons_succ]
            refine AnyTill.one (i := 5) (by kernel_rfl) (AnyTill.op rfl rfl fun K hK => ?_)
            go_simp
            go_at_call 55
            with_reducible refine (unhide CM).mono ?_
            rintro e w3 ⟨rfl, k3⟩
            refine hK _ _ (fun h => absurd rfl h) ?_
            clear hK K
            try simp only [Act.put, List.getElem_toArray, List.getElem_cons_succ, List.getElem_cons_zero, List.setIfInBounds_toArray, List.set_cons_zero, List.set_cons_succ]
            refine AnyTill.done (by kernel_rfl) ?_
            go_wp2_with fail
            all_goals go_end0
            all_goals exact ⟨rfl, k3⟩
        · skip
          go_simp
          refine hK _ _ (fun _ => hSS) ?_
          clear hK K
          try simp only [Act.put, List.getElem_toArray, List.getElem_cons_succ, List.getElem_cons_zero, List.setIfInBounds_toArray, List.set_cons_zero, List.set_cons_succ]
          refine AnyTill.one (i := 2) (by kernel_rfl) (AnyTill.op rfl rfl fun K hK => ?_)
          go_simp
          refine hK _ _ (fun _ => hSS) ?_
          clear hK K
          try simp only [Act.put, List.getElem_toArray, List.getElem_cons_succ, List.getElem_cons_zero, List.setIfInBounds_toArray, List.set_cons_zero, List.set_cons_succ]
          refine AnyTill.one (i := 3) (by kernel_rfl) (AnyTill.op rfl rfl fun K hK => ?_)
          go_simp
          refine hK _ _ (fun _ => hSS) ?_
          clear hK K
          try simp only [Act.put, List.getElem_toArray, List.getElem_cons_succ, List.getElem_cons_zero, List.setIfInBounds_toArray, List.set_cons_zero, List.set_cons_succ]
          refine AnyTill.one (i := 5) (by kernel_rfl) (AnyTill.op rfl rfl fun K hK => ?_)
          go_simp
          go_at_call 55
          with_reducible refine (unhide CM).mono ?_
          rintro e w3 ⟨rfl, k3⟩
          refine hK _ _ (fun h => absurd rfl h) ?_
          clear hK K
          try simp only [Act.put, List.getElem_toArray, List.getElem_cons_succ, List.getElem_cons_zero, List.setIfInBounds_toArray, List.set_cons_zero, List.set_cons_succ]
          refine AnyTill.done (by kernel_rfl) ?_
          go_wp2_with fail
          all_goals go_end0
          all_goals exact ⟨rfl, k3⟩
      · skip
        go_simp
        refine hK _ _ (fun _ => hSS) ?_
        clear hK K
        try simp only [Act.put, List.getElem_toArray, List.getElem_cons_succ, List.getElem_cons_zero, List.setIfInBounds_toArray, List.set_cons_zero, List.set_cons_succ]
        refine AnyTill.one (i := 1) (by kernel_rfl) (AnyTill.op rfl rfl fun K hK => ?_)
        go_simp
        refine hK _ _ (fun _ => hSS) ?_
        clear hK K
        try simp only [Act.put, List.getElem_toArray, List.getElem_cons_succ, List.getElem_cons_zero, List.setIfInBounds_toArray, List.set_cons_zero, List.set_cons_succ]
        refine AnyTill.one (i := 2) (by kernel_rfl) (AnyTill.op rfl rfl fun K hK => ?_)
        go_simp
        refine hK _ _ (fun _ => hSS) ?_
        clear hK K
        try simp only [Act.put, List.getElem_toArray, List.getElem_cons_succ, List.getElem_cons_zero, List.setIfInBounds_toArray, List.set_cons_zero, List.set_cons_succ]
        refine AnyTill.one (i := 3) (by kernel_rfl) (AnyTill.op rfl rfl fun K hK => ?_)
        go_simp
        refine hK _ _ (fun _ => hSS) ?_
        clear hK K
        try simp only [Act.put, List.getElem_toArray, List.getElem_cons_succ, List.getElem_cons_zero, List.setIfInBounds_toArray, List.set_cons_zero, List.set_cons_succ]
        refine AnyTill.one (i := 5) (by kernel_rfl) (AnyTill.op rfl rfl fun K hK => ?_)
        go_simp
        go_at_call 55
        with_reducible refine (unhide CM).mono ?_
        rintro e w3 ⟨rfl, k3⟩
        refine hK _ _ (fun h => absurd rfl h) ?_
        clear hK K
        try simp only [Act.put, List.getElem_toArray, List.getElem_cons_succ, List.getElem_cons_zero, List.setIfInBounds_toArray, List.set_cons_zero, List.set_cons_succ]
        refine AnyTill.done (by kernel_rfl) ?_
        go_wp2_with fail
        all_goals go_end0
        all_goals exact ⟨rfl, k3⟩
    · skip
      go_simp
      refine hK _ _ (fun _ => hSS) ?_
      clear hK K
      try simp only [Act.put, List.getElem_toArray, List.getElem_cons_succ, List.getElem_cons_zero, List.setIfInBounds_toArray, List.set_cons_zero, List.set_cons_succ]
      refine AnyTill.one (i := 0) (by kernel_rfl) (AnyTill.op rfl rfl fun K hK => ?_)
      go_simp
      refine hK _ _ (fun _ => hSS) ?_
      clear hK K
      try simp only [Act.put, List.getElem_toArray, List.getElem_cons_succ, List.getElem_cons_zero, List.setIfInBounds_toArray, List.set_cons_zero, List.set_cons_succ]
      refine AnyTill.one (i := 1) (by kernel_rfl) (AnyTill.op rfl rfl fun K hK => ?_)
      go_simp
      refine hK _ _ (fun _ => hSS) ?_
      clear hK K
      try simp only [Act.put, List.getElem_toArray, List.getElem_cons_succ, List.getElem_cons_zero, List.setIfInBounds_toArray, List.set_cons_zero, List.set_cons_succ]
      refine AnyTill.one (i := 2) (by kernel_rfl) (AnyTill.op rfl rfl fun K hK => ?_)
      go_simp
      refine hK _ _ (fun _ => hSS) ?_
      clear hK K
      try simp only [Act.put, List.getElem_toArray, List.getElem_cons_succ, List.getElem_cons_zero, List.setIfInBounds_toArray, List.set_cons_zero, List.set_cons_succ]
      refine AnyTill.one (i := 3) (by kernel_rfl) (AnyTill.op rfl rfl fun K hK => ?_)
      go_simp
      refine hK _ _ (fun _ => hSS) ?_
      clear hK K
      try simp only [Act.put, List.getElem_toArray, List.getElem_cons_succ, List.getElem_cons_zero, List.setIfInBounds_toArray, List.set_cons_zero, List.set_cons_succ]
      refine AnyTill.one (i := 5) (by kernel_rfl) (AnyTill.op rfl rfl fun K hK => ?_)
      go_simp
      go_at_call 55
      with_reducible refine (unhide CM).mono ?_
      rintro e w3 ⟨rfl, k3⟩
      refine hK _ _ (fun h => absurd rfl h) ?_
      clear hK K
      try simp only [Act.put, List.getElem_toArray, List.getElem_cons_succ, List.getElem_cons_zero, List.setIfInBounds_toArray, List.set_cons_zero, List.set_cons_succ]
      refine AnyTill.done (by kernel_rfl) ?_
      go_wp2_with fail
      all_goals go_end0
      all_goals exact ⟨rfl, k3⟩
  · have f1 : decide (0 ≤ m - (s : Int)) = false := decide_eq_false q
    have f2 : decide (m - (s : Int) ≥ 0) = false := decide_eq_false q
    have CM := hide (unhide HRD (by omega))
    clear HCH HRD
    go_wp2
    all_goals go_end0
    all_goals exact ⟨rfl, CM⟩
end Go.Proofs.YtecfgbjnjgjkoaaGreatDoor.Bp
namespace Go.Proofs.YtecfgbjnjgjkoaaGreatDoor.Bp
open Go.ChangeShapes Go.WideShapes Go.ChangeAt Go.RowKit Go.Proofs.YtecfgbjnjgjkoaaGreatDoor
set_option linter.unusedVariables false
set_option linter.unusedSimpArgs false
set_option maxRecDepth 20000
set_option maxHeartbeats 4000000

theorem Td.reply {w1 W0 W : World} {pb d : Nat} {m : Int} {x : Tr d} {k0 k1 : Int} {ta : Option Addr} {tn tc : Nat} {la : Option Addr} {ln lc : Nat} (h : Td w1 W0 pb m) (hb : Below W0.heap.size W0 W) (hD : DrAt W d (fun b => W0.heap.size ≤ b) x (.int .i64 k0) (.int .i64 k1) (.slice ta tn tc) (.slice la ln lc)) (hR : RpAt W d x (.int .i64 k0) (.int .i64 k1) (.slice ta tn tc) (.slice la ln lc)) (hd : d ≤ 10) (hz : sz d x ≤ 1099511627776) (hm : -4611686018427387904 ≤ m ∧ m ≤ 4611686018427387904) :
    Calls Tryz.prog 31 #[.pointer (some ⟨pb + 1, 0, none⟩), .agg #[.int .i64 k0, .int .i64 k1, .slice ta tn tc, .slice la ln lc]] W fun e w' => e = .returned (.tuple #[]) ∧ Hid (Td w1 w' pb (m - (sz d x : Nat))) := by
  obtain ⟨tg, S, hS, h0⟩ := h
  have hW := h0.below hb
  have hN := h0.lt
  have hN2 := hW.lt
  have t0 : ∀ g, W0.heap.size ≤ g → tg g = 0 := fun g hg => Classical.byContradiction (fun e => by have := h0.bk.un g e; omega)
  have hcs := cnt_sz d x
  refine told_walk W pb (sz d x) m k0 k1 ta tn tc la ln lc (fun w' => Td w1 w' pb (m - (sz d x : Nat))) hz hm (fun o => ?_) (fun o => ?_) hN2 (hide (fun w2 h2 => ?_)) (hide (fun w2 h2 q => ?_)) (hide (fun w2 h2 q => ?_)) (hide (fun W' hW' => size_any d W' x _ _ _ _ (hR.below hW') hz))
  · have k := hW.below (((Below.refl _ _).alloc (Nat.le_refl _) o))
    rw [cell_of_row _ _ _ _ _ _ k.bud]; rfl
  · have k := hW.below (((Below.refl _ _).alloc (Nat.le_refl _) o))
    have e : (W.alloc o).drew.heap[pb + 1]? = some (.cells #[.pointer (some ⟨pb, 0, none⟩), .int .i64 m] 50 (0, 0)) := k.bud
    simp only [World.frozen?, e]; simp
  · have k := (hW.below h2).spend (m - (sz d x : Nat))
    exact ⟨by rw [cell_of_row _ _ _ _ _ _ k.bud]; rfl, by rw [cell_of_row _ _ _ _ _ _ k.bud]; rfl⟩
  · have k := ((hW.below h2).spend (m - (sz d x : Nat))).below (W' := (w2.setCell ⟨pb + 1, 1, none⟩ (.int .i64 (m - (sz d x : Nat)))).drew) ⟨rfl, rfl, rfl, Nat.le_refl _, fun _ _ => rfl⟩
    have hS2 := hS (by omega)
    refine k.hand (B := W0.heap.size) (hD.same (fun b hb' hl => ?_)) t0 hN hd hz (by omega) (by omega)
    exact (Bk.setCell_else w2 (pb + 1) 1 b _ (by omega)).trans (h2.block b hl)
  · exact ⟨tg, S, fun q2 => by omega, (hW.below h2).spend _⟩
end Go.Proofs.YtecfgbjnjgjkoaaGreatDoor.Bp
