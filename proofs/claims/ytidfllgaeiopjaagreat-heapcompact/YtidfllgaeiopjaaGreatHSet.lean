/- The heap's Set. -/
import Derived.Test.YtidfllgaeiopjaaGreatPool4
import Derived.Test.YtidfllgaeiopjaaGreatEqw
import Derived.Test.YtidfllgaeiopjaaGreatUntil
import Derived.Deep.RegionHeld3
import Derived.Test.YtidfllgaeiopjaaGreatHSmall
namespace Go.Proofs.YtidfllgaeiopjaaGreat
open Go.ChangeShapes Go.WideShapes Go.ChangeAt Go.RowKit
set_option linter.unusedVariables false
set_option linter.unusedSimpArgs false
set_option maxRecDepth 100000
set_option maxHeartbeats 1000000

/-- what packed needs of a world behind the look -/
structure PkW (ps ph px gN N cN n m used large : Nat) (pl : Nat → Nat) (W : World) : Prop where
  p0 : W.cell? ⟨ps, 0, none⟩ = some (.pointer (some ⟨ph, 0, none⟩))
  p1 : W.cell? ⟨ps, 1, none⟩ = some (.slice (some ⟨gN, 0, none⟩) N cN)
  c0 : ∃ aS cS, W.cell? ⟨px, 0, none⟩ = some (.slice aS n cS) ∧ ∀ j, j < n → ∃ g, aS = some ⟨g, 0, none⟩ ∧ W.cell? ⟨g, j, none⟩ = some (.int .u64 (pl j : Nat))
  c1 : ∃ aB cB, W.cell? ⟨px, 1, none⟩ = some (.slice aB m cB)
  c3 : W.cell? ⟨px, 3, none⟩ = some (.int .i64 (used : Nat))
  c4 : W.cell? ⟨px, 4, none⟩ = some (.int .i64 (large : Nat))
theorem packed_walk {w : World} {ps ph gN N cN n m used large limit half roots coll resz moved : Nat} {pl id : Nat → Nat} {kd rl wl : Nat → Nat} {P : Nat → World → Prop}
    (h0 : pl 0 = 1) (hs : ∀ j, j < n → pl (j + 1) = pl j + (1 + rl j + wl j)) (he : pl n = used) (hb : ∀ j, j ≤ n → pl j ≤ 10000000) (hid : ∀ j, j < n → id j < N) (hr : ∀ j, j < n → rl j ≤ 10000000 ∧ wl j ≤ 10000000) (hn : n ≤ 10000000)
    (HP : ∀ px W W', P px W → Below W.heap.size W W' → P px W')
    (H13 : Calls Tryz.prog 13 #[.pointer (some ⟨ps, 0, none⟩)] w fun e w' => ∃ px : Nat, e = .returned (.tuple #[.pointer (some ⟨px, 0, none⟩), .bool true]) ∧ P px w')
    (HC : ∀ px W, P px W → PkW ps ph px gN N cN n m used large pl W)
    (HN : ∀ px W j, P px W → j < n → ∃ ar cr aw cw, W.cell? ⟨gN, id j * 3, none⟩ = some (.int .i64 (kd j : Nat)) ∧ W.cell? ⟨gN, id j * 3 + 1, none⟩ = some (.slice ar (rl j) cr) ∧ W.cell? ⟨gN, id j * 3 + 2, none⟩ = some (.slice aw (wl j) cw))
    (H37 : ∀ px W j, P px W → j < n → Calls Tryz.prog 37 #[.pointer (some ⟨px, 0, none⟩), .int .u64 (pl j : Nat)] W fun e w' => e = .returned (.int .i64 (id j : Nat)) ∧ Still W w')
    (H16 : ∀ px W, P px W → Calls Tryz.prog 16 #[.pointer (some ⟨ph, 0, none⟩)] W fun e w' => e = .returned (stV limit half used large m roots coll resz moved) ∧ Below W.heap.size W w')
    (H15 : ∀ px W, P px W → Calls Tryz.prog 15 #[.pointer (some ⟨ph, 0, none⟩)] W fun e w' => ∃ g, e = .returned (.slice g used used) ∧ Below W.heap.size W w') :
    Calls Tryz.prog 22 #[.pointer (some ⟨ps, 0, none⟩)] w fun e w' => e = .returned (.bool true) ∧ ∃ px, P px w' := by
  have HS := hide hs
  have HB := hide hb
  have HID := hide hid
  have HR := hide hr
  have HPB := hide HP
  have HC' := hide HC
  have HN' := hide HN
  have H37' := hide H37
  have H16' := hide H16
  have H15' := hide H15
  have H13' := hide H13
  have HE := hide he
  have H0 := hide h0
  clear hs hb hid hr HP HC HN H37 H16 H15 H13 he h0
  go_enter Tryz.func22, Tryz.ntmps22
  go_wp2_with fail
  refine (unhide H13').mono ?_
  rintro e w1 ⟨px, rfl, hP⟩
  have HP1 := hide hP
  clear H13' hP
  go_wp2_with fail
  go_loopw [5, 6] (fun av iv wr => ∃ i : Nat, av = .int .u64 (pl i : Nat) ∧ iv = .int .i64 (i : Nat) ∧ i ≤ n ∧ Hid (P px wr)) (fun _ iv _ => n - (intOf iv).toNat)
  case atStart => exact ⟨0, by rw [unhide H0]; rfl, rfl, Nat.zero_le _, HP1⟩
  case round =>
    obtain ⟨j, rfl, rfl, hj, hP⟩ := hrel
    clear HP1
    obtain ⟨p0, p1, ⟨aS, cS, c0, cz⟩, _, _, _⟩ := unhide HC' _ _ (unhide hP)
    by_cases hjn : j < n
    · obtain ⟨g, rfl, e0⟩ := cz j hjn
      obtain ⟨ar, cr, aw, cw, n0, n1, n2⟩ := unhide HN' px wr j (unhide hP) hjn
      have hid := unhide HID j hjn
      obtain ⟨hr1, hr2⟩ := unhide HR j hjn
      have hb1 := unhide HB j hj
      have h37 := hide (fun W hW => unhide H37' px W j hW hjn)
      have hsj := unhide HS j hjn
      have HX := hide (⟨hid, hr1, hr2, hb1, hsj⟩ : _ ∧ _ ∧ _ ∧ _ ∧ _)
      have dl : decide ((j : Int) < (n : Nat)) = true := decide_eq_true (by omega)
      have i1 : (0 : Int) ≤ (j : Nat) := by omega
      have i2 : (j : Int) < (n : Nat) := by omega
      have i3 : (0 : Int) ≤ (id j : Nat) := by omega
      have i4 : (id j : Int) < (N : Nat) := by omega
      have w1' : IntKind.i64.wrap ((j : Int) + 1) = (j : Int) + 1 := wrap_small _ (by omega) (by omega)
      clear hid hr1 hr2 hb1 hsj cz
      go_wp2_with fail
      have HK : Hid (∀ W, Below wr.heap.size wr W → W.cell? ⟨ps, 1, none⟩ = some (.slice (some ⟨gN, 0, none⟩) N cN) ∧ W.cell? ⟨gN, id j * 3, none⟩ = some (.int .i64 (kd j : Nat)) ∧ W.cell? ⟨gN, id j * 3 + 1, none⟩ = some (.slice ar (rl j) cr) ∧ W.cell? ⟨gN, id j * 3 + 2, none⟩ = some (.slice aw (wl j) cw)) := hide (fun W k => ⟨(k.cell (p := ⟨ps, 1, none⟩) (block_lt_of_cell p1)).trans p1, (k.cell (p := ⟨gN, id j * 3, none⟩) (block_lt_of_cell n0)).trans n0, (k.cell (p := ⟨gN, id j * 3 + 1, none⟩) (block_lt_of_cell n1)).trans n1, (k.cell (p := ⟨gN, id j * 3 + 2, none⟩) (block_lt_of_cell n2)).trans n2⟩)
      clear p0 p1 c0 e0 n0 n1 n2
      go_cut [7] (fun nv wx => ∃ gb : Nat, nv = .pointer (some ⟨gb, 0, none⟩) ∧ wx.cell? ⟨gb, 1, none⟩ = some (.slice ar (rl j) cr) ∧ wx.cell? ⟨gb, 2, none⟩ = some (.slice aw (wl j) cw) ∧ Hid (P px wx))
      case first =>
        have hSd := unhide HK wr.drew (Below.refl _ _).drew
        refine till_begin (fun w' => w'.cell? ⟨ps, 1, none⟩ = some (.slice (some ⟨gN, 0, none⟩) N cN) ∧ w'.cell? ⟨gN, id j * 3, none⟩ = some (.int .i64 (kd j : Nat)) ∧ w'.cell? ⟨gN, id j * 3 + 1, none⟩ = some (.slice ar (rl j) cr) ∧ w'.cell? ⟨gN, id j * 3 + 2, none⟩ = some (.slice aw (wl j) cw)) 10 (by kernel_rfl) ?_
        refine AnyTill.take 0 (v := ?_) rfl (by kernel_rfl) (by kernel_rfl) (by kernel_rfl) (by kernel_rfl) (fun _ _ _ h => h) ?_ rfl hSd ?_
        rotate_left
        · intro w hSw
          obtain ⟨s1, s2, s3, s4⟩ := hSw
          go_simp
          all_goals with_reducible rfl
        try simp only [Act.put, List.getElem_toArray, List.getElem_cons_succ, List.getElem_cons_zero, List.setIfInBounds_toArray, List.set_cons_zero, List.set_cons_succ]
        refine AnyTill.take 1 (v := ?_) rfl (by kernel_rfl) (by kernel_rfl) (by kernel_rfl) (by kernel_rfl) (fun _ _ _ h => h) ?_ rfl hSd ?_
        rotate_left
        · intro w hSw
          obtain ⟨s1, s2, s3, s4⟩ := hSw
          go_simp
          all_goals with_reducible rfl
        try simp only [Act.put, List.getElem_toArray, List.getElem_cons_succ, List.getElem_cons_zero, List.setIfInBounds_toArray, List.set_cons_zero, List.set_cons_succ]
        refine AnyTill.take 2 (v := ?_) rfl (by kernel_rfl) (by kernel_rfl) (by kernel_rfl) (by kernel_rfl) (fun _ _ _ h => h) ?_ rfl hSd ?_
        rotate_left
        · intro w hSw
          obtain ⟨s1, s2, s3, s4⟩ := hSw
          go_simp
          all_goals with_reducible rfl
        try simp only [Act.put, List.getElem_toArray, List.getElem_cons_succ, List.getElem_cons_zero, List.setIfInBounds_toArray, List.set_cons_zero, List.set_cons_succ]
        refine AnyTill.take 3 (v := ?_) rfl (by kernel_rfl) (by kernel_rfl) (by kernel_rfl) (by kernel_rfl) (fun _ _ _ h => h) ?_ rfl hSd ?_
        rotate_left
        · intro w hSw
          obtain ⟨s1, s2, s3, s4⟩ := hSw
          go_simp
          all_goals with_reducible rfl
        try simp only [Act.put, List.getElem_toArray, List.getElem_cons_succ, List.getElem_cons_zero, List.setIfInBounds_toArray, List.set_cons_zero, List.set_cons_succ]
        refine AnyTill.take 4 (v := ?_) rfl (by kernel_rfl) (by kernel_rfl) (by kernel_rfl) (by kernel_rfl) (fun _ _ _ h => h) ?_ rfl hSd ?_
        rotate_left
        · intro w hSw
          obtain ⟨s1, s2, s3, s4⟩ := hSw
          go_simp
          all_goals with_reducible rfl
        try simp only [Act.put, List.getElem_toArray, List.getElem_cons_succ, List.getElem_cons_zero, List.setIfInBounds_toArray, List.set_cons_zero, List.set_cons_succ]
        refine AnyTill.take 5 (v := ?_) rfl (by kernel_rfl) (by kernel_rfl) (by kernel_rfl) (by kernel_rfl) (fun _ _ _ h => h) ?_ rfl hSd ?_
        rotate_left
        · intro w hSw
          obtain ⟨s1, s2, s3, s4⟩ := hSw
          go_simp
          all_goals with_reducible rfl
        try simp only [Act.put, List.getElem_toArray, List.getElem_cons_succ, List.getElem_cons_zero, List.setIfInBounds_toArray, List.set_cons_zero, List.set_cons_succ]
        refine AnyTill.two (i := 6) (j := 9) (by kernel_rfl) ?_ ?_
        · refine AnyTill.op rfl rfl fun K hK => ?_
          go_simp
          refine (unhide h37 _ (unhide HPB px wr _ (unhide hP) (Below.refl _ _).drew)).mono ?_
          rintro e w5 ⟨rfl, st5⟩
          try go_wp2_with fail
          refine hK _ _ (fun _ => unhide HK _ ?_) ?_
          · exact (Below.refl _ _).drew.trans (st5.below.mono (Nat.le_refl _))
          clear hK K
          try simp only [Act.put, List.getElem_toArray, List.getElem_cons_succ, List.getElem_cons_zero, List.setIfInBounds_toArray, List.set_cons_zero, List.set_cons_succ]
          have hS5 := unhide HK w5 ((Below.refl _ _).drew.trans (st5.below.mono (Nat.le_refl _)))
          refine AnyTill.take 7 (v := ?_) rfl (by kernel_rfl) (by kernel_rfl) (by kernel_rfl) (by kernel_rfl) (fun _ _ _ h => h) ?_ rfl hS5 ?_
          rotate_left
          · intro w hSw
            obtain ⟨s1, s2, s3, s4⟩ := hSw
            go_simp
            all_goals with_reducible rfl
          try simp only [Act.put, List.getElem_toArray, List.getElem_cons_succ, List.getElem_cons_zero, List.setIfInBounds_toArray, List.set_cons_zero, List.set_cons_succ]
          refine AnyTill.take 8 (v := ?_) rfl (by kernel_rfl) (by kernel_rfl) (by kernel_rfl) (by kernel_rfl) (fun _ _ _ h => h) ?_ rfl hS5 ?_
          rotate_left
          · intro w hSw
            obtain ⟨s1, s2, s3, s4⟩ := hSw
            go_simp
            all_goals with_reducible rfl
          try simp only [Act.put, List.getElem_toArray, List.getElem_cons_succ, List.getElem_cons_zero, List.setIfInBounds_toArray, List.set_cons_zero, List.set_cons_succ]
          refine AnyTill.one (i := 9) (by kernel_rfl) ?_
          refine AnyTill.op rfl rfl fun K hK => ?_
          go_simp
          refine hK _ _ (fun _ => unhide HK _ (((Below.refl _ _).drew.trans (st5.below.mono (Nat.le_refl _))).alloc (by rw [st5.heap]; exact Nat.le_refl _) _)) ?_
          clear hK K
          try simp only [Act.put, List.getElem_toArray, List.getElem_cons_succ, List.getElem_cons_zero, List.setIfInBounds_toArray, List.set_cons_zero, List.set_cons_succ]
          refine AnyTill.one (i := 10) (by kernel_rfl) ?_
          refine AnyTill.op rfl rfl fun K hK => ?_
          go_simp
          refine hK _ _ (fun h => absurd rfl h) ?_
          clear hK K
          try simp only [Act.put, List.getElem_toArray, List.getElem_cons_succ, List.getElem_cons_zero, List.setIfInBounds_toArray, List.set_cons_zero, List.set_cons_succ]
          refine AnyTill.done (by kernel_rfl) ?_
          go_wp2_with fail
          go_meet
          case rel =>
            refine ⟨_, rfl, World.cell?_alloc_at _ _ _ _ rfl, World.cell?_alloc_at _ _ _ _ rfl, hide (unhide HPB px wr _ (unhide hP) (((Below.refl _ _).drew.trans (st5.below.mono (Nat.le_refl _))).alloc (by rw [st5.heap]; exact Nat.le_refl _) _))⟩
        · have hB5 : ∀ w5, Still (wr.drew.alloc (.cells #[.int .i64 0, .slice none 0 0, .slice none 0 0] 69)) w5 → Below wr.heap.size wr w5 := fun w5 s => ((Below.refl _ _).drew.alloc (Nat.le_refl _) _).trans (s.below.mono (by simp))
          have hz0 : (wr.drew.alloc (.cells #[.int .i64 0, .slice none 0 0, .slice none 0 0] 69)).cell? ⟨wr.heap.size, 0, none⟩ = some (.int .i64 0) := World.cell?_alloc_at _ _ _ _ rfl
          have hz1 : (wr.drew.alloc (.cells #[.int .i64 0, .slice none 0 0, .slice none 0 0] 69)).cell? ⟨wr.heap.size, 1, none⟩ = some (.slice none 0 0) := World.cell?_alloc_at _ _ _ _ rfl
          have hz2 : (wr.drew.alloc (.cells #[.int .i64 0, .slice none 0 0, .slice none 0 0] 69)).cell? ⟨wr.heap.size, 2, none⟩ = some (.slice none 0 0) := World.cell?_alloc_at _ _ _ _ rfl
          have hzf : ∀ w5, Still (wr.drew.alloc (.cells #[.int .i64 0, .slice none 0 0, .slice none 0 0] 69)) w5 → ∀ o, w5.frozen? ⟨wr.heap.size, o, none⟩ = false := fun w5 s o => by
            simp only [World.frozen?, s.heap]
            rw [show (wr.drew.alloc (.cells #[.int .i64 0, .slice none 0 0, .slice none 0 0] 69)).heap[wr.heap.size]? = some (.cells #[.int .i64 0, .slice none 0 0, .slice none 0 0] 69) from heap_alloc_new _ _]
            simp
          refine AnyTill.op rfl rfl fun K hK => ?_
          go_simp
          refine hK _ _ (fun _ => unhide HK _ ((Below.refl _ _).drew.alloc (Nat.le_refl _) _)) ?_
          clear hK K
          try simp only [Act.put, List.getElem_toArray, List.getElem_cons_succ, List.getElem_cons_zero, List.setIfInBounds_toArray, List.set_cons_zero, List.set_cons_succ]
          refine AnyTill.one (i := 6) (by kernel_rfl) ?_
          refine AnyTill.op rfl rfl fun K hK => ?_
          go_simp
          refine (unhide h37 _ (unhide HPB px wr _ (unhide hP) ((Below.refl _ _).drew.alloc (Nat.le_refl _) _))).mono ?_
          rintro e w5 ⟨rfl, st5⟩
          try go_wp2_with fail
          refine hK _ _ (fun _ => unhide HK _ ?_) ?_
          · exact hB5 _ st5
          clear hK K
          try simp only [Act.put, List.getElem_toArray, List.getElem_cons_succ, List.getElem_cons_zero, List.setIfInBounds_toArray, List.set_cons_zero, List.set_cons_succ]
          have hS5 := unhide HK w5 (hB5 _ st5)
          have z0 := (st5.cell ⟨wr.heap.size, 0, none⟩).trans hz0
          have z1 := (st5.cell ⟨wr.heap.size, 1, none⟩).trans hz1
          have z2 := (st5.cell ⟨wr.heap.size, 2, none⟩).trans hz2
          have y0 := hzf _ st5 0
          have y1 := hzf _ st5 1
          have y2 := hzf _ st5 2
          refine AnyTill.take 7 (v := ?_) rfl (by kernel_rfl) (by kernel_rfl) (by kernel_rfl) (by kernel_rfl) (fun _ _ _ h => h) ?_ rfl hS5 ?_
          rotate_left
          · intro w hSw
            obtain ⟨s1, s2, s3, s4⟩ := hSw
            go_simp
            all_goals with_reducible rfl
          try simp only [Act.put, List.getElem_toArray, List.getElem_cons_succ, List.getElem_cons_zero, List.setIfInBounds_toArray, List.set_cons_zero, List.set_cons_succ]
          refine AnyTill.take 8 (v := ?_) rfl (by kernel_rfl) (by kernel_rfl) (by kernel_rfl) (by kernel_rfl) (fun _ _ _ h => h) ?_ rfl hS5 ?_
          rotate_left
          · intro w hSw
            obtain ⟨s1, s2, s3, s4⟩ := hSw
            go_simp
            all_goals with_reducible rfl
          try simp only [Act.put, List.getElem_toArray, List.getElem_cons_succ, List.getElem_cons_zero, List.setIfInBounds_toArray, List.set_cons_zero, List.set_cons_succ]
          refine AnyTill.one (i := 10) (by kernel_rfl) ?_
          refine AnyTill.op rfl rfl fun K hK => ?_
          go_simp
          refine hK _ _ (fun h => absurd rfl h) ?_
          clear hK K
          try simp only [Act.put, List.getElem_toArray, List.getElem_cons_succ, List.getElem_cons_zero, List.setIfInBounds_toArray, List.set_cons_zero, List.set_cons_succ]
          refine AnyTill.done (by kernel_rfl) ?_
          go_wp2_with fail
          go_meet
          case rel =>
            refine ⟨_, rfl, ?_, ?_, hide ?_⟩
            · rw [World.cell?_setCell_other _ _ _ _ (by simp)]
              exact World.cell?_setCell_same' _ _ _ (by rw [World.cell?_setCell_other _ _ _ _ (by simp), z1]; rfl)
            · exact World.cell?_setCell_same' _ _ _ (by rw [World.cell?_setCell_other _ _ _ _ (by simp), World.cell?_setCell_other _ _ _ _ (by simp), z2]; rfl)
            · exact unhide HPB px wr _ (unhide hP) ((((hB5 _ st5).setCell (Nat.le_refl _) _).setCell (Nat.le_refl _) _).setCell (Nat.le_refl _) _)
      case rest =>
        obtain ⟨gb, rfl, b1, b2, hP2⟩ := hcut
        obtain ⟨hid, hr1, hr2, hb1, hsj⟩ := unhide HX
        have a1 : IntKind.i64.wrap (1 + (rl j : Int)) = 1 + (rl j : Int) := wrap_small _ (by omega) (by omega)
        have a2 : IntKind.i64.wrap (1 + (rl j : Int) + (wl j : Int)) = 1 + (rl j : Int) + (wl j : Int) := wrap_small _ (by omega) (by omega)
        have a3 : IntKind.u64.wrap (1 + (rl j : Int) + (wl j : Int)) = 1 + (rl j : Int) + (wl j : Int) := by rw [IntKind.wrap_u64]; omega
        have a4 : IntKind.u64.wrap ((pl j : Int) + (1 + (rl j : Int) + (wl j : Int))) = ((pl (j + 1) : Nat) : Int) := by rw [hsj, IntKind.wrap_u64]; omega
        clear hid hr1 hr2 hb1 hsj HX HK h37
        go_wp2_with fail
        all_goals go_roundw
        all_goals first | exact ⟨j + 1, by simp, by simp, by omega, hP2⟩ | (simp [intOf]; omega)
    · have hje : j = n := by omega
      subst hje
      have dl : decide ((j : Int) < (j : Nat)) = false := decide_eq_false (by omega)
      have hb1 := unhide HB j (Nat.le_refl _)
      rw [unhide HE] at hb1
      have h16 := hide (unhide H16' px wr (unhide hP))
      unfold stV at h16
      rw [unhide HE]
      clear cz
      go_wp2_with fail
      refine (unhide h16).mono ?_
      rintro e w2 ⟨rfl, hB2⟩
      have hP2 := unhide HPB px wr w2 (unhide hP) hB2
      have hP3 := fun X W (s : Still (w2.alloc X) W) => unhide HPB px w2 W hP2 (((Below.refl _ _).alloc (Nat.le_refl _) X).trans (s.below.mono (by simp)))
      have HP3 := hide hP3
      have HP2 := hide hP2
      clear hP2 hP3 h16 hB2 p0 p1 c0 hP
      go_wp2_with fail
      obtain ⟨p0, _, _, ⟨aB, cB, c1⟩, c3, c4⟩ := unhide HC' px _ (unhide HP3 (.cells #[.int .i64 (limit : Nat), .int .i64 (half : Nat), .int .i64 (used : Nat), .int .i64 (large : Nat), .int .i64 (m : Nat), .int .i64 (roots : Nat), .int .i64 (coll : Nat), .int .i64 (resz : Nat), .int .i64 (moved : Nat)] 47) _ (Still.refl _))
      have t2 : (w2.alloc (.cells #[.int .i64 (limit : Nat), .int .i64 (half : Nat), .int .i64 (used : Nat), .int .i64 (large : Nat), .int .i64 (m : Nat), .int .i64 (roots : Nat), .int .i64 (coll : Nat), .int .i64 (resz : Nat), .int .i64 (moved : Nat)] 47)).cell? ⟨w2.heap.size, 2, none⟩ = some (.int .i64 (used : Nat)) := World.cell?_alloc_at _ _ _ _ rfl
      have t3 : (w2.alloc (.cells #[.int .i64 (limit : Nat), .int .i64 (half : Nat), .int .i64 (used : Nat), .int .i64 (large : Nat), .int .i64 (m : Nat), .int .i64 (roots : Nat), .int .i64 (coll : Nat), .int .i64 (resz : Nat), .int .i64 (moved : Nat)] 47)).cell? ⟨w2.heap.size, 3, none⟩ = some (.int .i64 (large : Nat)) := World.cell?_alloc_at _ _ _ _ rfl
      have t4 : (w2.alloc (.cells #[.int .i64 (limit : Nat), .int .i64 (half : Nat), .int .i64 (used : Nat), .int .i64 (large : Nat), .int .i64 (m : Nat), .int .i64 (roots : Nat), .int .i64 (coll : Nat), .int .i64 (resz : Nat), .int .i64 (moved : Nat)] 47)).cell? ⟨w2.heap.size, 4, none⟩ = some (.int .i64 (m : Nat)) := World.cell?_alloc_at _ _ _ _ rfl
      have hk : ∀ W, Below (w2.alloc (.cells #[.int .i64 (limit : Nat), .int .i64 (half : Nat), .int .i64 (used : Nat), .int .i64 (large : Nat), .int .i64 (m : Nat), .int .i64 (roots : Nat), .int .i64 (coll : Nat), .int .i64 (resz : Nat), .int .i64 (moved : Nat)] 47)).heap.size (w2.alloc (.cells #[.int .i64 (limit : Nat), .int .i64 (half : Nat), .int .i64 (used : Nat), .int .i64 (large : Nat), .int .i64 (m : Nat), .int .i64 (roots : Nat), .int .i64 (coll : Nat), .int .i64 (resz : Nat), .int .i64 (moved : Nat)] 47)) W → W.cell? ⟨ps, 0, none⟩ = some (.pointer (some ⟨ph, 0, none⟩)) ∧ W.cell? ⟨px, 1, none⟩ = some (.slice aB m cB) ∧ W.cell? ⟨px, 3, none⟩ = some (.int .i64 (used : Nat)) ∧ W.cell? ⟨px, 4, none⟩ = some (.int .i64 (large : Nat)) ∧ W.cell? ⟨w2.heap.size, 2, none⟩ = some (.int .i64 (used : Nat)) ∧ W.cell? ⟨w2.heap.size, 3, none⟩ = some (.int .i64 (large : Nat)) ∧ W.cell? ⟨w2.heap.size, 4, none⟩ = some (.int .i64 (m : Nat)) := fun W k => ⟨(k.cell (p := ⟨ps, 0, none⟩) (block_lt_of_cell p0)).trans p0, (k.cell (p := ⟨px, 1, none⟩) (block_lt_of_cell c1)).trans c1, (k.cell (p := ⟨px, 3, none⟩) (block_lt_of_cell c3)).trans c3, (k.cell (p := ⟨px, 4, none⟩) (block_lt_of_cell c4)).trans c4, (k.cell (p := ⟨w2.heap.size, 2, none⟩) (block_lt_of_cell t2)).trans t2, (k.cell (p := ⟨w2.heap.size, 3, none⟩) (block_lt_of_cell t3)).trans t3, (k.cell (p := ⟨w2.heap.size, 4, none⟩) (block_lt_of_cell t4)).trans t4⟩
      have h15 : Hid (∀ W, Still (w2.alloc (.cells #[.int .i64 (limit : Nat), .int .i64 (half : Nat), .int .i64 (used : Nat), .int .i64 (large : Nat), .int .i64 (m : Nat), .int .i64 (roots : Nat), .int .i64 (coll : Nat), .int .i64 (resz : Nat), .int .i64 (moved : Nat)] 47)) W → Calls Tryz.prog 15 #[.pointer (some ⟨ph, 0, none⟩)] W fun e w' => ∃ g, e = .returned (.slice g used used) ∧ ((w').cell? ⟨ps, 0, none⟩ = some (.pointer (some ⟨ph, 0, none⟩)) ∧ (w').cell? ⟨px, 1, none⟩ = some (.slice aB m cB) ∧ (w').cell? ⟨px, 3, none⟩ = some (.int .i64 (used : Nat)) ∧ (w').cell? ⟨px, 4, none⟩ = some (.int .i64 (large : Nat)) ∧ (w').cell? ⟨w2.heap.size, 2, none⟩ = some (.int .i64 (used : Nat)) ∧ (w').cell? ⟨w2.heap.size, 3, none⟩ = some (.int .i64 (large : Nat)) ∧ (w').cell? ⟨w2.heap.size, 4, none⟩ = some (.int .i64 (m : Nat))) ∧ Hid (P px w')) := hide (fun W s => (unhide H15' px W (unhide HP3 _ W s)).mono fun e w' ⟨g, q1, q2⟩ => ⟨g, q1, hk w' (s.below.trans (q2.mono (by rw [s.heap]; exact Nat.le_refl _))), hide (unhide HPB px W w' (unhide HP3 _ W s) q2)⟩)
      have a0 : IntKind.i64.wrap (used : Int) = (used : Int) := wrap_small _ (by omega) (by omega)
      have HQ : Hid (P px (w2.alloc (.cells #[.int .i64 (limit : Nat), .int .i64 (half : Nat), .int .i64 (used : Nat), .int .i64 (large : Nat), .int .i64 (m : Nat), .int .i64 (roots : Nat), .int .i64 (coll : Nat), .int .i64 (resz : Nat), .int .i64 (moved : Nat)] 47))) := hide (unhide HP3 _ _ (Still.refl _))
      clear hk HP3 HP2 H15' H16' H37' HN' HC' HS HID HR HE H0
      generalize hX : World.alloc w2 _ = W3 at *
      generalize hbz : w2.heap.size = bz at *
      clear hX hbz
      go_region_held3 (fun W => W.cell? ⟨ps, 0, none⟩ = some (.pointer (some ⟨ph, 0, none⟩)) ∧ W.cell? ⟨px, 1, none⟩ = some (.slice aB m cB) ∧ W.cell? ⟨px, 3, none⟩ = some (.int .i64 (used : Nat)) ∧ W.cell? ⟨px, 4, none⟩ = some (.int .i64 (large : Nat)) ∧ W.cell? ⟨bz, 2, none⟩ = some (.int .i64 (used : Nat)) ∧ W.cell? ⟨bz, 3, none⟩ = some (.int .i64 (large : Nat)) ∧ W.cell? ⟨bz, 4, none⟩ = some (.int .i64 (m : Nat))) (go_keep) (first | (go_at_call 15; refine (unhide h15 _ ((Still.refl _).drew _)).mono ?_; rintro e w4 ⟨g, rfl, ⟨z0, z1, z3, z4, y2, y3, y4⟩, hP4⟩))
      all_goals go_wp2_with fail
      all_goals go_ret
      all_goals exact ⟨by simp, px, unhide hP4⟩
end Go.Proofs.YtidfllgaeiopjaaGreat
namespace Go.Proofs.YtidfllgaeiopjaaGreat
open Go.ChangeShapes Go.WideShapes Go.ChangeAt Go.RowKit
set_option linter.unusedVariables false
set_option maxRecDepth 100000
set_option maxHeartbeats 1000000

theorem small_end {w : World} {ph pa k r q s half U at' e0 : Nat} {G : World → Prop} (hat : at' ≤ 1048576) (hU : U ≤ 1048576) (hs : s ≤ 64) (hfit : U + s ≤ half) (hh : half ≤ 1048576) (e1 : w.cell? ⟨ph, 1, none⟩ = some (.pointer (some ⟨pa, 0, none⟩)))
    (HU : ∀ W, Still w W → Calls Tryz.prog 43 #[.pointer (some ⟨pa, 0, none⟩)] W fun e w' => e = .returned (.int .i64 (U : Nat)) ∧ w' = W)
    (HS : ∀ W, Still w W → Calls Tryz.prog 42 #[.pointer (some ⟨pa, 0, none⟩)] W fun e w' => e = .returned (.int .i64 (half : Nat)) ∧ w' = W)
    (HA : ∀ W, Still w W → Calls Tryz.prog 86 #[.pointer (some ⟨pa, 0, none⟩), .int .i64 (k : Nat), .int .i64 (r : Nat), .int .i64 (q : Nat)] W fun e w' => e = .returned (.tuple #[.int .i64 (at' : Nat), .int .i64 0]) ∧ G w') :
    Calls Tryz.prog 52 #[.pointer (some ⟨ph, 0, none⟩), .int .i64 (k : Nat), .int .i64 (r : Nat), .int .i64 (q : Nat), .int .i64 (s : Nat)] w fun e w' => e = .returned (.tuple #[.int .u64 (at' : Nat), .int .i64 0]) ∧ G w' := by
  have H1 := hide HU
  have H2 := hide HS
  have H3 := hide HA
  have a1 : IntKind.i64.wrap ((U : Int) + (s : Nat)) = (U : Int) + (s : Nat) := wrap_small _ (by omega) (by omega)
  have a2 : IntKind.u64.wrap (at' : Int) = at' := by rw [IntKind.wrap_u64]; omega
  have d1 : decide ((half : Int) < (U : Int) + (s : Nat)) = false := decide_eq_false (by omega)
  clear HU HS HA
  go_enter Tryz.func52, Tryz.ntmps52
  go_wp2
  go_quiet (first | (go_at_call 43; exact Calls.quiet_of_same (unhide H1 _ ((Still.refl _).drew _))) | (go_at_call 42; exact Calls.quiet_of_same (unhide H2 _ ((Still.refl _).drew _))))
  clear H1 H2
  go_wp2_with fail
  refine (unhide H3 _ ((Still.refl _).drew _)).mono ?_
  clear H3
  rintro e w2 ⟨rfl, hg⟩
  go_wp2
  go_ret2
  exact ⟨rfl, hg⟩

/-- beside all that is there it finds no room: a collection comes first -/
theorem small_coll {w : World} {ph pa k r q s half U : Nat} {G1 G2 : World → Prop} {G3 : Nat → Nat → World → Prop} (hU : U ≤ 1048576) (hs : s ≤ 64) (hfit : half < U + s) (hh : half ≤ 1048576) (e1 : w.cell? ⟨ph, 1, none⟩ = some (.pointer (some ⟨pa, 0, none⟩)))
    (HU : ∀ W, Still w W → Calls Tryz.prog 43 #[.pointer (some ⟨pa, 0, none⟩)] W fun e w' => e = .returned (.int .i64 (U : Nat)) ∧ w' = W)
    (HS : ∀ W, Still w W → Calls Tryz.prog 42 #[.pointer (some ⟨pa, 0, none⟩)] W fun e w' => e = .returned (.int .i64 (half : Nat)) ∧ w' = W)
    (HC : ∀ W, Still w W → Calls Tryz.prog 39 #[.pointer (some ⟨ph, 0, none⟩)] W fun e w' => e = .returned (.tuple #[]) ∧ G1 w')
    (HF : ∀ W, G1 W → Calls Tryz.prog 40 #[.pointer (some ⟨ph, 0, none⟩), .int .i64 (s : Nat)] W fun e w' => e = .returned (.tuple #[]) ∧ G2 w')
    (HA : ∀ W, G2 W → ∃ pb at' e0 : Nat, W.cell? ⟨ph, 1, none⟩ = some (.pointer (some ⟨pb, 0, none⟩)) ∧ at' ≤ 1048576 ∧ Calls Tryz.prog 86 #[.pointer (some ⟨pb, 0, none⟩), .int .i64 (k : Nat), .int .i64 (r : Nat), .int .i64 (q : Nat)] W fun e w' => e = .returned (.tuple #[.int .i64 (at' : Nat), .int .i64 (e0 : Nat)]) ∧ G3 at' e0 w') :
    Calls Tryz.prog 52 #[.pointer (some ⟨ph, 0, none⟩), .int .i64 (k : Nat), .int .i64 (r : Nat), .int .i64 (q : Nat), .int .i64 (s : Nat)] w fun e w' => ∃ at' e0 : Nat, e = .returned (.tuple #[.int .u64 ((if e0 = 0 then at' else 0 : Nat) : Int), .int .i64 ((if e0 = 0 then 0 else 31 : Nat) : Int)]) ∧ G3 at' e0 w' := by
  have H1 := hide HU
  have H2 := hide HS
  have H3 := hide HC
  have H4 := hide HF
  have H5 := hide HA
  have a1 : IntKind.i64.wrap ((U : Int) + (s : Nat)) = (U : Int) + (s : Nat) := wrap_small _ (by omega) (by omega)
  have d1 : decide ((half : Int) < (U : Int) + (s : Nat)) = true := decide_eq_true (by omega)
  clear HU HS HC HF HA
  go_enter Tryz.func52, Tryz.ntmps52
  go_wp2
  go_quiet (first | (go_at_call 43; exact Calls.quiet_of_same (unhide H1 _ ((Still.refl _).drew _))) | (go_at_call 42; exact Calls.quiet_of_same (unhide H2 _ ((Still.refl _).drew _))))
  clear H1 H2
  go_wp2_with fail
  refine (unhide H3 _ ((Still.refl _).drew _)).mono ?_
  clear H3
  rintro e w2 ⟨rfl, hg1⟩
  have H4' := hide (unhide H4 w2 hg1)
  clear H4 hg1
  go_wp2_with fail
  refine (unhide H4').mono ?_
  clear H4'
  rintro e w3 ⟨rfl, hg2⟩
  obtain ⟨pb, at', e0, c1, hat, hcall⟩ := unhide H5 w3 hg2
  have H6 := hide hcall
  have a2 : IntKind.u64.wrap (at' : Int) = at' := by rw [IntKind.wrap_u64]; omega
  clear H5 hg2 hcall
  by_cases h0 : e0 = 0
  · subst h0
    go_wp2_with fail
    refine (unhide H6).mono ?_
    clear H6
    rintro e w4 ⟨rfl, hg⟩
    go_wp2
    go_ret2
    exact ⟨at', 0, rfl, hg⟩
  · have d2 : (((e0 : Nat) : Int) != 0) = true := by simp; omega
    go_wp2_with fail
    refine (unhide H6).mono ?_
    clear H6
    rintro e w4 ⟨rfl, hg⟩
    go_wp2
    go_ret2
    refine ⟨at', e0, ?_, hg⟩
    rw [if_neg h0, if_neg h0]
    rfl

theorem resize_bad {w : World} {ph : Nat} {n : Int} (h : n < 64 ∨ 524288 < n) :
    Calls Tryz.prog 18 #[.pointer (some ⟨ph, 0, none⟩), .int .i64 n] w fun e w' => e = .returned (.int .i64 36) ∧ w' = w := by
  by_cases h1 : n < 64
  · have d1 : decide (n < 64) = true := decide_eq_true h1
    go_enter Tryz.func18, Tryz.ntmps18
    go_wp2
    go_ret
    exact ⟨rfl, rfl⟩
  · have d1 : decide (n < 64) = false := decide_eq_false h1
    have d2 : decide (524288 < n) = true := decide_eq_true (by omega)
    go_enter Tryz.func18, Tryz.ntmps18
    go_wp2
    go_ret
    exact ⟨rfl, rfl⟩

/-- Resize behind its collection: refused, or carried out -/
theorem resize_walk {w : World} {ph n : Nat} {G1 : World → Prop} {R : Nat → World → Prop} (h1 : 64 ≤ n) (h2 : n ≤ 524288)
    (HC : Calls Tryz.prog 39 #[.pointer (some ⟨ph, 0, none⟩)] w fun e w' => e = .returned (.tuple #[]) ∧ G1 w')
    (HG : ∀ W, G1 W → ∃ pa U limit large : Nat, U ≤ 1048576 ∧ limit ≤ 1048576 ∧ large ≤ 1048576 ∧ W.cell? ⟨ph, 0, none⟩ = some (.int .i64 (limit : Nat)) ∧ W.cell? ⟨ph, 1, none⟩ = some (.pointer (some ⟨pa, 0, none⟩)) ∧ W.cell? ⟨ph, 9, none⟩ = some (.int .i64 (large : Nat)) ∧
      (∀ W', Still W W' → Calls Tryz.prog 43 #[.pointer (some ⟨pa, 0, none⟩)] W' fun e w' => e = .returned (.int .i64 (U : Nat)) ∧ w' = W') ∧
      ((n < U ∨ limit < 2 * n + large) → ∀ W', Still W W' → R 31 W') ∧
      (U ≤ n → 2 * n + large ≤ limit → ∀ W', Still W W' → Calls Tryz.prog 44 #[.pointer (some ⟨ph, 0, none⟩), .int .i64 (n : Nat)] W' fun e w' => e = .returned (.tuple #[]) ∧ R 0 w')) :
    Calls Tryz.prog 18 #[.pointer (some ⟨ph, 0, none⟩), .int .i64 (n : Nat)] w fun e w' => ∃ c : Nat, e = .returned (.int .i64 (c : Nat)) ∧ R c w' := by
  have H1 := hide HC
  have H2 := hide HG
  have d1 : decide ((n : Int) < 64) = false := decide_eq_false (by omega)
  have d2 : decide ((524288 : Int) < (n : Nat)) = false := decide_eq_false (by omega)
  clear HC HG
  go_enter Tryz.func18, Tryz.ntmps18
  go_wp2_with fail
  refine (unhide H1).mono ?_
  clear H1
  rintro e w1 ⟨rfl, hg⟩
  obtain ⟨pa, U, limit, large, b1, b2, b3, c0, c1, c9, HU, HN, HY⟩ := unhide H2 w1 hg
  have H3 := hide HU
  have H4 := hide HN
  have H5 := hide HY
  clear H2 hg HU HN HY
  have a1 : IntKind.i64.wrap (2 * (n : Int)) = 2 * (n : Int) := wrap_small _ (by omega) (by omega)
  have a2 : IntKind.i64.wrap (2 * (n : Int) + (large : Nat)) = 2 * (n : Int) + (large : Nat) := wrap_small _ (by omega) (by omega)
  by_cases k1 : n < U
  · have d3 : decide ((n : Int) < (U : Nat)) = true := decide_eq_true (by omega)
    go_wp2
    go_quiet (first | (go_at_call 43; exact Calls.quiet_of_same (unhide H3 _ ((Still.refl _).drew _))))
    go_wp2
    go_ret
    exact ⟨31, rfl, unhide H4 (.inl k1) _ ((Still.refl _).drew _)⟩
  · have d3 : decide ((n : Int) < (U : Nat)) = false := decide_eq_false (by omega)
    by_cases k2 : limit < 2 * n + large
    · have d4 : decide ((limit : Int) < 2 * (n : Int) + (large : Nat)) = true := decide_eq_true (by omega)
      go_wp2
      go_quiet (first | (go_at_call 43; exact Calls.quiet_of_same (unhide H3 _ ((Still.refl _).drew _))))
      go_wp2
      go_ret
      exact ⟨31, rfl, unhide H4 (.inr k2) _ ((Still.refl _).drew _)⟩
    · have d4 : decide ((limit : Int) < 2 * (n : Int) + (large : Nat)) = false := decide_eq_false (by omega)
      go_wp2
      go_quiet (first | (go_at_call 43; exact Calls.quiet_of_same (unhide H3 _ ((Still.refl _).drew _))))
      have H6 := hide (unhide H5 (by omega) (by omega) (w1.drewN nq) ((Still.refl _).drew _))
      clear H5 H4 H3
      go_wp2_with fail
      refine (unhide H6).mono ?_
      clear H6
      rintro e w3 ⟨rfl, hr⟩
      go_wp2
      go_ret
      exact ⟨0, rfl, hr⟩
end Go.Proofs.YtidfllgaeiopjaaGreat
namespace Go.Proofs.YtidfllgaeiopjaaGreat
open Go.ChangeShapes Go.WideShapes Go.ChangeAt Go.RowKit
set_option linter.unusedVariables false
set_option maxRecDepth 100000
set_option maxHeartbeats 2000000

theorem find_small {w : World} {ph p : Nat} (h : w.cell? ⟨ph, 1, none⟩ = some (.pointer (some ⟨p, 0, none⟩))) (x : Nat) (hx : x < 9223372036854775808) :
    Calls Tryz.prog 53 #[.pointer (some ⟨ph, 0, none⟩), .int .u64 (x : Nat)] w fun e w' => e = .returned (.tuple #[.iface 78 (.pointer (some ⟨p, 0, none⟩)), .int .i64 (x : Nat), .int .i64 0]) ∧ Still w w' := by
  have HL := hide (large_any x (by omega) w)
  have hd : decide (9223372036854775808 ≤ x) = false := decide_eq_false (by omega)
  rw [hd] at HL
  clear hd
  go_enter Tryz.func53, Tryz.ntmps53
  go_wp2_with fail
  refine (unhide HL).mono ?_
  clear HL
  rintro e w1 ⟨rfl, rfl⟩
  go_wp2
  exact bodyPost_ret (v := .tuple #[.iface 78 (.pointer (some ⟨p, 0, none⟩)), .int .i64 (x : Nat), .int .i64 0]) (by simp [results, Tryz.results53, go_sem]) rfl ⟨rfl, Still.refl _⟩
theorem find_large {w : World} {ph : Nat} {c : List (Option Nat)} {fr : List Nat} {vc vf : Value} (h : PoolAt w ph 3 188 encP (.pointer none) c fr vc vf) (s : Nat) (hs : s < 9223372036854775808) (bp : Nat) (hg : c.getD s none = some bp) :
    Calls Tryz.prog 53 #[.pointer (some ⟨ph, 0, none⟩), .int .u64 ((9223372036854775808 + s : Nat) : Int)] w fun e w' => e = .returned (.tuple #[.iface 142 (.pointer (some ⟨bp, 0, none⟩)), .int .i64 1, .int .i64 0]) ∧ Still w w' := by
  have HL := hide (large_any (9223372036854775808 + s) (by omega) w)
  have hd : decide (9223372036854775808 ≤ 9223372036854775808 + s) = true := decide_eq_true (by omega)
  rw [hd] at HL
  have HS := hide (fun W => slot_any (9223372036854775808 + s) (by omega) (by omega) W)
  have hsub : 9223372036854775808 + s - 9223372036854775808 = s := by omega
  have HS := hide (show ∀ W, Calls Tryz.prog 90 #[.int .u64 ((9223372036854775808 + s : Nat) : Int)] W fun e w' => e = .returned (.int .i64 (s : Nat)) ∧ w' = W from fun W => by have := unhide HS W; rw [hsub] at this; exact this)
  clear hsub
  have hpg : poolGet c (s : Nat) = some bp := by simpa [poolGet] using hg
  have HG := hide (show ∀ W, Still w W → Calls Tryz.prog 89 #[.pointer (some ⟨ph, 3, none⟩), .int .i64 (s : Nat)] W fun e w' => e = .returned (.tuple #[.pointer (some ⟨bp, 0, none⟩), .bool true]) ∧ w' = W from fun W k => by have := getB_any (h.still k) (s : Nat); rw [hpg] at this; exact this)
  clear hd h hg hpg
  obtain ⟨X, hX⟩ : ∃ X : Nat, X = 9223372036854775808 + s := ⟨_, rfl⟩
  rw [← hX] at HL HS ⊢
  clear hX
  go_enter Tryz.func53, Tryz.ntmps53
  go_wp2_with fail
  refine (unhide HL).mono ?_
  clear HL
  rintro e w1 ⟨rfl, rfl⟩
  go_wp2_with fail
  go_region_with (first | (go_at_call 90; refine (unhide HS _).mono ?_; rintro e w' ⟨rfl, hw'⟩; obtain rfl := hw'.symm) | (go_at_call 89; refine (unhide HG w1.drew ⟨rfl, rfl, rfl, rfl⟩).mono ?_; rintro e w' ⟨rfl, hw'⟩; obtain rfl := hw'.symm))
  all_goals (clear HS HG)
  all_goals go_wp2
  all_goals exact bodyPost_ret (v := .tuple #[.iface 142 (.pointer (some ⟨bp, 0, none⟩)), .int .i64 1, .int .i64 0]) (by simp [results, Tryz.results53, go_sem]) rfl ⟨rfl, ⟨rfl, rfl, rfl, rfl⟩⟩
/-- no block there -/
theorem find_none {w : World} {ph : Nat} {c : List (Option Nat)} {fr : List Nat} {vc vf : Value} (h : PoolAt w ph 3 188 encP (.pointer none) c fr vc vf) (s : Nat) (hs : s < 9223372036854775808) (hg : c.getD s none = none) :
    Calls Tryz.prog 53 #[.pointer (some ⟨ph, 0, none⟩), .int .u64 ((9223372036854775808 + s : Nat) : Int)] w fun e w' => e = .returned (.tuple #[.nilIface, .int .i64 0, .int .i64 32]) ∧ Still w w' := by
  have HL := hide (large_any (9223372036854775808 + s) (by omega) w)
  have hd : decide (9223372036854775808 ≤ 9223372036854775808 + s) = true := decide_eq_true (by omega)
  rw [hd] at HL
  have HS := hide (fun W => slot_any (9223372036854775808 + s) (by omega) (by omega) W)
  have hsub : 9223372036854775808 + s - 9223372036854775808 = s := by omega
  have HS := hide (show ∀ W, Calls Tryz.prog 90 #[.int .u64 ((9223372036854775808 + s : Nat) : Int)] W fun e w' => e = .returned (.int .i64 (s : Nat)) ∧ w' = W from fun W => by have := unhide HS W; rw [hsub] at this; exact this)
  clear hsub
  have hpg : poolGet c (s : Nat) = none := by simpa [poolGet] using hg
  have HG := hide (show ∀ W, Still w W → Calls Tryz.prog 89 #[.pointer (some ⟨ph, 3, none⟩), .int .i64 (s : Nat)] W fun e w' => e = .returned (.tuple #[.pointer none, .bool false]) ∧ w' = W from fun W k => by have := getB_any (h.still k) (s : Nat); rw [hpg] at this; exact this)
  clear hd h hg hpg
  obtain ⟨X, hX⟩ : ∃ X : Nat, X = 9223372036854775808 + s := ⟨_, rfl⟩
  rw [← hX] at HL HS ⊢
  clear hX
  go_enter Tryz.func53, Tryz.ntmps53
  go_wp2_with fail
  refine (unhide HL).mono ?_
  clear HL
  rintro e w1 ⟨rfl, rfl⟩
  go_wp2_with fail
  go_region_with (first | (go_at_call 90; refine (unhide HS _).mono ?_; rintro e w' ⟨rfl, hw'⟩; obtain rfl := hw'.symm) | (go_at_call 89; refine (unhide HG w1.drew ⟨rfl, rfl, rfl, rfl⟩).mono ?_; rintro e w' ⟨rfl, hw'⟩; obtain rfl := hw'.symm))
  all_goals (clear HS HG)
  all_goals go_wp2
  all_goals exact bodyPost_ret (v := .tuple #[.nilIface, .int .i64 0, .int .i64 32]) (by simp [results, Tryz.results53, go_sem]) rfl ⟨rfl, ⟨rfl, rfl, rfl, rfl⟩⟩
theorem m_obj_b0 (W : World) (p : Nat) : (method 338 142 (.pointer (some ⟨p, 0, none⟩)) "Object").run Tryz.prog W = ((load ⟨p, 0, none⟩) >>= fun v => pure (103, v)).run Tryz.prog W := by kernel_rfl
end Go.Proofs.YtidfllgaeiopjaaGreat
namespace Go.Proofs.YtidfllgaeiopjaaGreat
open Go.ChangeShapes Go.WideShapes Go.ChangeAt Go.RowKit
set_option linter.unusedVariables false
set_option maxRecDepth 100000
set_option maxHeartbeats 2000000

theorem hobject_core {w : World} {ph t q p x : Nat} {at' : Int} {bw bh : Nat} {ws : List Nat} {hs : List Bool} {used : Nat} {R : RefSt}
    (HF : Calls Tryz.prog 53 #[.pointer (some ⟨ph, 0, none⟩), .int .u64 (x : Nat)] w fun e w' => e = .returned (.tuple #[.iface t (.pointer (some ⟨q, 0, none⟩)), .int .i64 at', .int .i64 0]) ∧ Still w w')
    (hm : ∀ W, Still w W → (method 338 t (.pointer (some ⟨q, 0, none⟩)) "Object").run Tryz.prog W = .ok (103, .pointer (some ⟨p, 0, none⟩)) W) (hA : Ar w p bw bh ws hs used) (r : Rel ws hs used R) (o : RefOk R) :
    Calls Tryz.prog 45 #[.pointer (some ⟨ph, 0, none⟩), .int .u64 (x : Nat)] w fun e w' => e = .returned (.tuple #[.int .i64 ((robj R at').1 : Nat), .int .i64 ((robj R at').2.1 : Nat), .int .i64 ((robj R at').2.2.1 : Nat), .int .i64 (heapErr (robj R at').2.2.2 : Nat)]) ∧ Below w.heap.size w w' := by
  have H1 := hide HF
  have H2 : Hid (∀ W, Still w W → Calls Tryz.prog 103 #[.pointer (some ⟨p, 0, none⟩), .int .i64 at'] W fun e w' => e = .returned (.tuple #[.int .i64 ((robj R at').1 : Nat), .int .i64 ((robj R at').2.1 : Nat), .int .i64 ((robj R at').2.2.1 : Nat), .int .i64 ((robj R at').2.2.2 : Nat)]) ∧ Below w.heap.size w w') := hide (fun W k => (p_object (hA.below k.below) r o at').mono (fun e w' hh => ⟨hh.1, k.below.trans (by have h2 := hh.2; rw [k.heap] at h2; exact h2)⟩))
  have HM := hide hm
  have H3 : Hid (∀ W, Calls Tryz.prog 54 #[.int .i64 ((robj R at').2.2.2 : Nat)] W fun e w' => e = .returned (.int .i64 (heapErr (robj R at').2.2.2 : Nat)) ∧ w' = W) := hide (fun W => asHeap_any _ W)
  clear HF hm hA r o
  generalize heapErr (robj R at').2.2.2 = f' at *
  generalize (robj R at').2.2.2 = f at *
  generalize (robj R at').1 = y1 at *
  generalize (robj R at').2.1 = y2 at *
  generalize (robj R at').2.2.1 = y3 at *
  go_enter Tryz.func45, Tryz.ntmps45
  go_wp2_with fail
  refine (unhide H1).mono ?_
  clear H1
  rintro e w1 ⟨rfl, hst⟩
  have hm1 := unhide HM w1 hst
  have H2' := hide (unhide H2 w1 hst)
  clear H2 HM hst
  go_wp2_with fail
  refine (unhide H2').mono ?_
  clear H2' hm1
  rintro e w2 ⟨rfl, hb2⟩
  have HB := hide hb2
  clear hb2
  go_wp2_with fail
  refine (unhide H3 _).mono ?_
  rintro e w3 ⟨rfl, rfl⟩
  go_wp2
  exact bodyPost_ret (v := .tuple #[.int .i64 (y1 : Nat), .int .i64 (y2 : Nat), .int .i64 (y3 : Nat), .int .i64 (f' : Nat)]) (by simp [results, Tryz.results45, go_sem]) rfl ⟨rfl, unhide HB⟩
theorem m_obj_b (W : World) (q p : Nat) (h : W.cell? ⟨q, 0, none⟩ = some (.pointer (some ⟨p, 0, none⟩))) : (method 338 142 (.pointer (some ⟨q, 0, none⟩)) "Object").run Tryz.prog W = .ok (103, .pointer (some ⟨p, 0, none⟩)) W := by
  rw [m_obj_b0, Sem.run_bind, run_load, h]; rfl
end Go.Proofs.YtidfllgaeiopjaaGreat
namespace Go.Proofs.YtidfllgaeiopjaaGreat
open Go.ChangeShapes Go.WideShapes Go.ChangeAt Go.RowKit
set_option linter.unusedVariables false
set_option maxRecDepth 100000
set_option maxHeartbeats 2000000

theorem hget_core {w : World} {ph t q p x : Nat} {at' i : Int} {bw bh : Nat} {ws : List Nat} {hs : List Bool} {used : Nat} {R : RefSt}
    (HF : Calls Tryz.prog 53 #[.pointer (some ⟨ph, 0, none⟩), .int .u64 (x : Nat)] w fun e w' => e = .returned (.tuple #[.iface t (.pointer (some ⟨q, 0, none⟩)), .int .i64 at', .int .i64 0]) ∧ Still w w')
    (hm : ∀ W, Still w W → (method 338 t (.pointer (some ⟨q, 0, none⟩)) "Get").run Tryz.prog W = .ok (166, .pointer (some ⟨p, 0, none⟩)) W) (hA : Ar w p bw bh ws hs used) (r : Rel ws hs used R) (o : RefOk R) :
    Calls Tryz.prog 29 #[.pointer (some ⟨ph, 0, none⟩), .int .u64 (x : Nat), .int .i64 i] w fun e w' => e = .returned (.tuple #[.int .u64 ((rget R at' i).1 : Nat), .int .i64 (heapErr (rget R at' i).2 : Nat)]) ∧ Below w.heap.size w w' := by
  have H1 := hide HF
  have H2 : Hid (∀ W, Still w W → Calls Tryz.prog 166 #[.pointer (some ⟨p, 0, none⟩), .int .i64 at', .int .i64 i] W fun e w' => e = .returned (.tuple #[.int .u64 ((rget R at' i).1 : Nat), .int .i64 ((rget R at' i).2 : Nat)]) ∧ Below w.heap.size w w') := hide (fun W k => (p_get (hA.below k.below) r o at' i).mono (fun e w' hh => ⟨hh.1, k.below.trans (by have h2 := hh.2; rw [k.heap] at h2; exact h2)⟩))
  have HM := hide hm
  have H3 : Hid (∀ W, Calls Tryz.prog 54 #[.int .i64 ((rget R at' i).2 : Nat)] W fun e w' => e = .returned (.int .i64 (heapErr (rget R at' i).2 : Nat)) ∧ w' = W) := hide (fun W => asHeap_any _ W)
  clear HF hm hA r o
  generalize heapErr (rget R at' i).2 = f' at *
  generalize (rget R at' i).2 = f at *
  generalize (rget R at' i).1 = y1 at *
  go_enter Tryz.func29, Tryz.ntmps29
  go_wp2_with fail
  refine (unhide H1).mono ?_
  clear H1
  rintro e w1 ⟨rfl, hst⟩
  have hm1 := unhide HM w1 hst
  have H2' := hide (unhide H2 w1 hst)
  clear H2 HM hst
  go_wp2_with fail
  refine (unhide H2').mono ?_
  clear H2' hm1
  rintro e w2 ⟨rfl, hb2⟩
  have HB := hide hb2
  clear hb2
  go_wp2_with fail
  refine (unhide H3 _).mono ?_
  rintro e w3 ⟨rfl, rfl⟩
  go_wp2
  go_ret2
  exact ⟨rfl, unhide HB⟩
theorem mayHold_nil (w : World) (ph : Nat) : Calls Tryz.prog 55 #[.pointer (some ⟨ph, 0, none⟩), .int .u64 0] w fun e w' => e = .returned (.bool true) ∧ w' = w := by
  go_enter Tryz.func55, Tryz.ntmps55
  go_wp2
  go_ret
  exact ⟨rfl, rfl⟩
theorem mayHold_core {w : World} {ph x k1 k2 k3 f : Nat} (hx : x ≠ 0)
    (HO : Calls Tryz.prog 45 #[.pointer (some ⟨ph, 0, none⟩), .int .u64 (x : Nat)] w fun e w' => e = .returned (.tuple #[.int .i64 (k1 : Nat), .int .i64 (k2 : Nat), .int .i64 (k3 : Nat), .int .i64 (f : Nat)]) ∧ Below w.heap.size w w') :
    Calls Tryz.prog 55 #[.pointer (some ⟨ph, 0, none⟩), .int .u64 (x : Nat)] w fun e w' => e = .returned (.bool (decide (f = 0))) ∧ Below w.heap.size w w' := by
  have H1 := hide HO
  clear HO
  have e1 : ((x : Int) == 0) = false := by rw [beq_eq_false_iff_ne]; omega
  have e2 : ((f : Int) == 0) = decide (f = 0) := by
    by_cases h : f = 0
    · subst h; rfl
    · rw [decide_eq_false h, beq_eq_false_iff_ne]; omega
  go_enter Tryz.func55, Tryz.ntmps55
  go_wp2_with fail
  refine (unhide H1).mono ?_
  clear H1
  rintro e w1 ⟨rfl, hb⟩
  have HB := hide hb
  clear hb
  go_wp2
  go_ret
  refine ⟨?_, unhide HB⟩
  first | rfl | (rw [← e2]; rfl) | (congr 2)
/-- no block there: Object refuses -/
theorem hobject_none {w : World} {ph x : Nat} (HF : Calls Tryz.prog 53 #[.pointer (some ⟨ph, 0, none⟩), .int .u64 (x : Nat)] w fun e w' => e = .returned (.tuple #[.nilIface, .int .i64 0, .int .i64 32]) ∧ Still w w') :
    Calls Tryz.prog 45 #[.pointer (some ⟨ph, 0, none⟩), .int .u64 (x : Nat)] w fun e w' => e = .returned (.tuple #[.int .i64 ((0 : Nat) : Int), .int .i64 ((0 : Nat) : Int), .int .i64 ((0 : Nat) : Int), .int .i64 ((32 : Nat) : Int)]) ∧ Below w.heap.size w w' := by
  have H1 := hide HF
  clear HF
  go_enter Tryz.func45, Tryz.ntmps45
  go_wp2_with fail
  refine (unhide H1).mono ?_
  clear H1
  rintro e w1 ⟨rfl, hst⟩
  have HB := hide hst.below
  clear hst
  go_wp2
  exact bodyPost_ret (v := .tuple #[.int .i64 0, .int .i64 0, .int .i64 0, .int .i64 32]) (by simp [results, Tryz.results45, go_sem]) rfl ⟨rfl, unhide HB⟩
/-- no block there: Get refuses -/
theorem hget_none {w : World} {ph x : Nat} {i : Int} (HF : Calls Tryz.prog 53 #[.pointer (some ⟨ph, 0, none⟩), .int .u64 (x : Nat)] w fun e w' => e = .returned (.tuple #[.nilIface, .int .i64 0, .int .i64 32]) ∧ Still w w') :
    Calls Tryz.prog 29 #[.pointer (some ⟨ph, 0, none⟩), .int .u64 (x : Nat), .int .i64 i] w fun e w' => e = .returned (.tuple #[.int .u64 0, .int .i64 32]) ∧ Below w.heap.size w w' := by
  have H1 := hide HF
  clear HF
  go_enter Tryz.func29, Tryz.ntmps29
  go_wp2_with fail
  refine (unhide H1).mono ?_
  clear H1
  rintro e w1 ⟨rfl, hst⟩
  have HB := hide hst.below
  clear hst
  go_wp2
  go_ret2
  exact ⟨rfl, unhide HB⟩
end Go.Proofs.YtidfllgaeiopjaaGreat
namespace Go.Proofs.YtidfllgaeiopjaaGreat
open Go.ChangeShapes Go.WideShapes Go.ChangeAt Go.RowKit
set_option linter.unusedVariables false
set_option maxRecDepth 100000
set_option maxHeartbeats 2000000

/-- what a handle holds, or none; handles count from 1 on -/
def handGet (c : List (Option Nat)) (n : Int) : Option Nat := poolGet c (n - 1)
theorem hand_wrap {c : List (Option Nat)} (hl : c.length ≤ 1000000) (n : Int) (h1 : -9223372036854775808 ≤ n) (h2 : n ≤ 9223372036854775807) : poolGet c (wrap64 (n - 1)) = handGet c n := by
  unfold handGet
  by_cases e : n = -9223372036854775808
  · subst e
    have : wrap64 (-9223372036854775808 - 1) = 9223372036854775807 := by unfold wrap64; omega
    rw [this]
    unfold poolGet
    rw [if_pos (by decide), if_neg (by decide), List.getD_eq_getElem?_getD, List.getElem?_eq_none (by omega)]; rfl
  · have : wrap64 (n - 1) = n - 1 := by unfold wrap64; omega
    rw [this]
theorem hat_any {w : World} {ph : Nat} {c : List (Option Nat)} {fr : List Nat} {vc vf : Value} (h : PoolAt w ph 6 149 encU (.int .u64 0) c fr vc vf) (n : Int) (h1 : -9223372036854775808 ≤ n) (h2 : n ≤ 9223372036854775807) :
    Calls Tryz.prog 28 #[.pointer (some ⟨ph, 0, none⟩), .int .i64 n] w fun e w' => e = .returned (.tuple #[.int .u64 ((handGet c n).getD 0 : Nat), .int .i64 (if (handGet c n).isSome then (0 : Int) else 35)]) ∧ Still w w' := by
  have HG : Hid (∀ W, Still w W → Calls Tryz.prog 57 #[.pointer (some ⟨ph, 6, none⟩), .int .i64 (wrap64 (n - 1))] W fun e w' => e = .returned (.tuple #[.int .u64 ((handGet c n).getD 0 : Nat), .bool (handGet c n).isSome]) ∧ w' = W) := hide (fun W k => by
    have := get_any (h.still k) (wrap64 (n - 1))
    rw [hand_wrap h.lc n h1 h2] at this
    cases hh : handGet c n with
    | none => rw [hh] at this; exact this
    | some y => rw [hh] at this; exact this)
  clear h
  cases hh : handGet c n with
  | none =>
    rw [hh] at HG
    clear hh
    obtain ⟨m, hm⟩ : ∃ m, wrap64 (n - 1) = m := ⟨_, rfl⟩
    rw [hm] at HG
    go_enter Tryz.func28, Tryz.ntmps28
    go_wp2_with fail
    refine (unhide HG w (Still.refl _)).mono ?_
    clear HG
    rintro e w1 ⟨rfl, rfl⟩
    go_wp2
    go_ret2
    exact ⟨rfl, ⟨rfl, rfl, rfl, rfl⟩⟩
  | some y =>
    rw [hh] at HG
    clear hh
    obtain ⟨m, hm⟩ : ∃ m, wrap64 (n - 1) = m := ⟨_, rfl⟩
    rw [hm] at HG
    go_enter Tryz.func28, Tryz.ntmps28
    go_wp2_with fail
    refine (unhide HG w (Still.refl _)).mono ?_
    clear HG
    rintro e w1 ⟨rfl, rfl⟩
    go_wp2
    go_ret2
    exact ⟨rfl, ⟨rfl, rfl, rfl, rfl⟩⟩
/-- Drop of one in use -/
theorem hdrop_yes {w : World} {ph : Nat} {c : List (Option Nat)} {fr : List Nat} {vc vf : Value} (h : PoolAt w ph 6 149 encU (.int .u64 0) c fr vc vf) (m y : Nat) (hy : c.getD m none = some y) (hlf : fr.length < 1000000) :
    Calls Tryz.prog 34 #[.pointer (some ⟨ph, 0, none⟩), .int .i64 ((m : Int) + 1)] w fun e w' => e = .returned (.int .i64 0) ∧ ∃ c' fr' vc' vf', PoolAt w' ph 6 149 encU (.int .u64 0) c' fr' vc' vf' ∧ (∀ q, c'.getD q none = if q = m then none else c.getD q none) ∧ c'.length ≤ c.length ∧ fr'.length ≤ fr.length + 1 ∧ (∀ q ∈ fr', q = m ∨ q ∈ fr) ∧ vc'.ownBlock = vc.ownBlock ∧ Own2 w vf vf' ∧ PChg ph 6 vc vf w w' := by
  have hml : m < c.length := by
    by_cases h1 : m < c.length
    · exact h1
    · rw [List.getD_eq_getElem?_getD, List.getElem?_eq_none (by omega)] at hy; cases hy
  have hlc := h.lc
  have HG : Hid (Calls Tryz.prog 61 #[.pointer (some ⟨ph, 6, none⟩), .int .i64 (m : Nat)] w fun e w' => e = .returned (.bool true) ∧ w' = w) := hide (by
    have := has_any h (m : Nat)
    have e : poolHas c (m : Nat) = true := by rw [has_get]; unfold poolGet; rw [if_pos (by omega), Int.toNat_natCast, hy]; rfl
    rw [e] at this
    exact this)
  have HD := hide (drop_any h m (by rw [hy]; simp) hlf)
  clear h hy
  go_enter Tryz.func34, Tryz.ntmps34
  go_wp2_with fail
  refine (unhide HG).mono ?_
  clear HG
  rintro e w1 ⟨rfl, rfl⟩
  go_wp2_with fail
  refine (unhide HD).mono ?_
  clear HD
  rintro e w2 ⟨rfl, hst⟩
  have HF := hide hst
  clear hst
  go_wp2
  go_ret
  exact ⟨rfl, unhide HF⟩
end Go.Proofs.YtidfllgaeiopjaaGreat
namespace Go.Proofs.YtidfllgaeiopjaaGreat
open Go.ChangeShapes Go.WideShapes Go.ChangeAt Go.RowKit
set_option linter.unusedVariables false
set_option maxRecDepth 100000
set_option maxHeartbeats 2000000

theorem PoolAt.below {w w' : World} {b o : Nat} {E : TypeId} {enc : Nat → Value} {z : Value} {c : List (Option Nat)} {fr : List Nat} {vc vf : Value} (h : PoolAt w b o E enc z c fr vc vf) (k : Below w.heap.size w w') : PoolAt w' b o E enc z c fr vc vf := by
  have hbw : b < w.heap.size := by have := block_lt_of_cell h.c0; simpa using this
  have hb := k.block b hbw
  have hc : ∀ q, w'.cell? ⟨b, q, none⟩ = w.cell? ⟨b, q, none⟩ := fun q => by simp only [World.cell?, hb]
  have hf : ∀ q, w'.frozen? ⟨b, q, none⟩ = w.frozen? ⟨b, q, none⟩ := fun q => by simp only [World.frozen?, hb]
  exact ⟨(hc _).trans h.c0, (hc _).trans h.c1, (hc _).trans h.c2, (hf _).trans h.f0, (hf _).trans h.f1, (hf _).trans h.f2, h.row.same (fun g hg => k.block g (h.row.lt g hg)), h.frl.same (fun g hg => k.block g (h.frl.lt g hg)), h.a0, h.a1, h.a2, h.ok, h.lc, h.lf⟩
/-- Root: the lowest free handle -/
theorem hroot_yes {w : World} {ph x : Nat} {c : List (Option Nat)} {fr : List Nat} {vc vf : Value} (h : PoolAt w ph 6 149 encU (.int .u64 0) c fr vc vf) (hlc : c.length < 1000000) (hbig : ∀ q ∈ fr, q ≤ 1099511627776)
    (HM : Calls Tryz.prog 55 #[.pointer (some ⟨ph, 0, none⟩), .int .u64 (x : Nat)] w fun e w' => e = .returned (.bool true) ∧ Below w.heap.size w w') :
    Calls Tryz.prog 27 #[.pointer (some ⟨ph, 0, none⟩), .int .u64 (x : Nat)] w fun e w' => ∃ n : Nat, e = .returned (.tuple #[.int .i64 (1 + (n : Int)), .int .i64 0]) ∧ c.getD n none = none ∧ (∀ q, q < n → c.getD q none ≠ none) ∧ n ≤ c.length ∧ ∃ fr' vc' vf' w0, Below w.heap.size w w0 ∧ PoolAt w' ph 6 149 encU (.int .u64 0) (poolPut c n x) fr' vc' vf' ∧ (∀ q ∈ fr', q ∈ fr) ∧ fr'.length ≤ fr.length ∧ Own2 w0 vc vc' ∧ (∀ g, vf'.ownBlock = some g → vf.ownBlock = some g) ∧ ∃ w1, PChg ph 6 vc vf w0 w1 ∧ PChg ph 6 vc' vf' w1 w' := by
  have H1 := hide HM
  have H2 : Hid (∀ w0, Below w.heap.size w w0 → Calls Tryz.prog 56 #[.pointer (some ⟨ph, 6, none⟩), .int .u64 (x : Nat)] w0 fun e w' => ∃ n, e = .returned (.int .i64 (n : Nat)) ∧ c.getD n none = none ∧ (∀ q, q < n → c.getD q none ≠ none) ∧ n ≤ c.length ∧ ∃ fr' vc' vf', PoolAt w' ph 6 149 encU (.int .u64 0) (poolPut c n x) fr' vc' vf' ∧ (∀ q ∈ fr', q ∈ fr) ∧ fr'.length ≤ fr.length ∧ Own2 w0 vc vc' ∧ (∀ g, vf'.ownBlock = some g → vf.ownBlock = some g) ∧ ∃ w1, PChg ph 6 vc vf w0 w1 ∧ PChg ph 6 vc' vf' w1 w') := hide (fun w0 k => add_any (h.below k) hlc hbig x)
  clear HM h hbig
  go_enter Tryz.func27, Tryz.ntmps27
  go_wp2_with fail
  refine (unhide H1).mono ?_
  clear H1
  rintro e w0 ⟨rfl, hb⟩
  have H2' := hide (unhide H2 w0 hb)
  have HB := hide hb
  clear hb H2
  go_wp2_with fail
  refine (unhide H2').mono ?_
  clear H2'
  rintro e w2 ⟨n, rfl, q1, q2, q3, fr', vc', vf', q4, q5, q6, q7, q8, q9⟩
  have HF := hide (show c.getD n none = none ∧ (∀ q, q < n → c.getD q none ≠ none) ∧ n ≤ c.length ∧ ∃ fr' vc' vf' w0, Below w.heap.size w w0 ∧ PoolAt w2 ph 6 149 encU (.int .u64 0) (poolPut c n x) fr' vc' vf' ∧ (∀ q ∈ fr', q ∈ fr) ∧ fr'.length ≤ fr.length ∧ Own2 w0 vc vc' ∧ (∀ g, vf'.ownBlock = some g → vf.ownBlock = some g) ∧ ∃ w1, PChg ph 6 vc vf w0 w1 ∧ PChg ph 6 vc' vf' w1 w2 from ⟨q1, q2, q3, fr', vc', vf', w0, unhide HB, q4, q5, q6, q7, q8, q9⟩)
  have hnb : n ≤ 1000000 := by omega
  clear q1 q2 q3 q4 q5 q6 q7 q8 q9 HB
  go_wp2
  go_ret2
  exact ⟨n, rfl, unhide HF⟩
/-- Put at one in use -/
theorem hput_yes {w : World} {ph x : Nat} {c : List (Option Nat)} {fr : List Nat} {vc vf : Value} (h : PoolAt w ph 6 149 encU (.int .u64 0) c fr vc vf) (m y : Nat) (hy : c.getD m none = some y) (u : Bool)
    (HM : Calls Tryz.prog 55 #[.pointer (some ⟨ph, 0, none⟩), .int .u64 (x : Nat)] w fun e w' => e = .returned (.bool u) ∧ Below w.heap.size w w') :
    Calls Tryz.prog 35 #[.pointer (some ⟨ph, 0, none⟩), .int .i64 ((m : Int) + 1), .int .u64 (x : Nat)] w fun e w' => e = .returned (.int .i64 (if u then (0 : Int) else 32)) ∧ ∃ w0, Below w.heap.size w w0 ∧ (u = false → w' = w0) ∧ (u = true → PoolAt w' ph 6 149 encU (.int .u64 0) (c.set m (some x)) fr vc vf ∧ But (gB vc) w0 w') := by
  have hml : m < c.length := by
    by_cases h1 : m < c.length
    · exact h1
    · rw [List.getD_eq_getElem?_getD, List.getElem?_eq_none (by omega)] at hy; cases hy
  have hlc := h.lc
  have H1 := hide HM
  have HG : Hid (Calls Tryz.prog 61 #[.pointer (some ⟨ph, 6, none⟩), .int .i64 (m : Nat)] w fun e w' => e = .returned (.bool true) ∧ w' = w) := hide (by
    have := has_any h (m : Nat)
    have e : poolHas c (m : Nat) = true := by rw [has_get]; unfold poolGet; rw [if_pos (by omega), Int.toNat_natCast, hy]; rfl
    rw [e] at this
    exact this)
  have HS : Hid (∀ w0, Below w.heap.size w w0 → Calls Tryz.prog 63 #[.pointer (some ⟨ph, 6, none⟩), .int .i64 (m : Nat), .int .u64 (x : Nat)] w0 fun e w' => e = .returned (.tuple #[]) ∧ PoolAt w' ph 6 149 encU (.int .u64 0) (c.set m (some x)) fr vc vf ∧ But (gB vc) w0 w') := hide (fun w0 k => set_any (h.below k) m x (by rw [hy]; simp))
  clear h hy HM
  cases u with
  | false =>
    clear HS
    go_enter Tryz.func35, Tryz.ntmps35
    go_wp2_with fail
    refine (unhide HG).mono ?_
    clear HG
    rintro e w1 ⟨rfl, rfl⟩
    go_wp2_with fail
    refine (unhide H1).mono ?_
    clear H1
    rintro e w2 ⟨rfl, hb⟩
    have HB := hide hb
    clear hb
    go_wp2
    go_ret
    exact ⟨rfl, unhide HB⟩
  | true =>
    go_enter Tryz.func35, Tryz.ntmps35
    go_wp2_with fail
    refine (unhide HG).mono ?_
    clear HG
    rintro e w1 ⟨rfl, rfl⟩
    go_wp2_with fail
    refine (unhide H1).mono ?_
    clear H1
    rintro e w2 ⟨rfl, hb⟩
    have HS' := hide (unhide HS w2 hb)
    have HB := hide hb
    clear hb HS
    go_wp2_with fail
    refine (unhide HS').mono ?_
    clear HS'
    rintro e w3 ⟨rfl, hp3, hb3⟩
    have HF := hide (And.intro hp3 hb3)
    clear hp3 hb3
    go_wp2
    go_ret
    exact ⟨rfl, w2, unhide HB, unhide HF⟩
end Go.Proofs.YtidfllgaeiopjaaGreat
namespace Go.Proofs.YtidfllgaeiopjaaGreat
open Go.ChangeShapes Go.WideShapes Go.ChangeAt Go.RowKit
set_option linter.unusedVariables false
set_option maxRecDepth 100000
set_option maxHeartbeats 2000000

/-- what find answers, and how its holder answers Object -/
structure Holds (w : World) (ph t q p x : Nat) (at' : Int) : Prop where
  find : Calls Tryz.prog 53 #[.pointer (some ⟨ph, 0, none⟩), .int .u64 (x : Nat)] w fun e w' => e = .returned (.tuple #[.iface t (.pointer (some ⟨q, 0, none⟩)), .int .i64 at', .int .i64 0]) ∧ Still w w'
  obj : ∀ W, Below w.heap.size w W → (method 338 t (.pointer (some ⟨q, 0, none⟩)) "Object").run Tryz.prog W = .ok (103, .pointer (some ⟨p, 0, none⟩)) W
  get : ∀ W, Below w.heap.size w W → (method 338 t (.pointer (some ⟨q, 0, none⟩)) "Get").run Tryz.prog W = .ok (166, .pointer (some ⟨p, 0, none⟩)) W
  set : ∀ W, Below w.heap.size w W → (method 338 t (.pointer (some ⟨q, 0, none⟩)) "Set").run Tryz.prog W = .ok (167, .pointer (some ⟨p, 0, none⟩)) W
  byt : ∀ W, Below w.heap.size w W → (method 338 t (.pointer (some ⟨q, 0, none⟩)) "Bytes").run Tryz.prog W = .ok (165, .pointer (some ⟨p, 0, none⟩)) W
  setb : ∀ W, Below w.heap.size w W → (method 338 t (.pointer (some ⟨q, 0, none⟩)) "SetBytes").run Tryz.prog W = .ok (168, .pointer (some ⟨p, 0, none⟩)) W
theorem holds_small {w : World} {ph p : Nat} (h : w.cell? ⟨ph, 1, none⟩ = some (.pointer (some ⟨p, 0, none⟩))) (x : Nat) (hx : x < 9223372036854775808) : Holds w ph 78 p p x (x : Nat) :=
  ⟨find_small h x hx, fun W _ => by kernel_rfl, fun W _ => by kernel_rfl, fun W _ => by kernel_rfl, fun W _ => by kernel_rfl, fun W _ => by kernel_rfl⟩
theorem m_get_b0 (W : World) (p : Nat) : (method 338 142 (.pointer (some ⟨p, 0, none⟩)) "Get").run Tryz.prog W = ((load ⟨p, 0, none⟩) >>= fun v => pure (166, v)).run Tryz.prog W := by kernel_rfl
theorem m_set_b0 (W : World) (p : Nat) : (method 338 142 (.pointer (some ⟨p, 0, none⟩)) "Set").run Tryz.prog W = ((load ⟨p, 0, none⟩) >>= fun v => pure (167, v)).run Tryz.prog W := by kernel_rfl
theorem m_byt_b0 (W : World) (p : Nat) : (method 338 142 (.pointer (some ⟨p, 0, none⟩)) "Bytes").run Tryz.prog W = ((load ⟨p, 0, none⟩) >>= fun v => pure (165, v)).run Tryz.prog W := by kernel_rfl
theorem m_setb_b0 (W : World) (p : Nat) : (method 338 142 (.pointer (some ⟨p, 0, none⟩)) "SetBytes").run Tryz.prog W = ((load ⟨p, 0, none⟩) >>= fun v => pure (168, v)).run Tryz.prog W := by kernel_rfl
theorem holds_large {w : World} {ph : Nat} {c : List (Option Nat)} {fr : List Nat} {vc vf : Value} (h : PoolAt w ph 3 188 encP (.pointer none) c fr vc vf) (s : Nat) (hs : s < 9223372036854775808) (bp p : Nat) (hg : c.getD s none = some bp) (hp : w.cell? ⟨bp, 0, none⟩ = some (.pointer (some ⟨p, 0, none⟩))) : Holds w ph 142 bp p (9223372036854775808 + s) 1 := by
  have hb : bp < w.heap.size := by have := block_lt_of_cell hp; simpa using this
  have hc : ∀ W, Below w.heap.size w W → W.cell? ⟨bp, 0, none⟩ = some (.pointer (some ⟨p, 0, none⟩)) := fun W k => (k.cell (p := ⟨bp, 0, none⟩) hb).trans hp
  exact ⟨find_large h s hs bp hg, fun W k => by rw [m_obj_b0, Sem.run_bind, run_load, hc W k]; rfl, fun W k => by rw [m_get_b0, Sem.run_bind, run_load, hc W k]; rfl, fun W k => by rw [m_set_b0, Sem.run_bind, run_load, hc W k]; rfl, fun W k => by rw [m_byt_b0, Sem.run_bind, run_load, hc W k]; rfl, fun W k => by rw [m_setb_b0, Sem.run_bind, run_load, hc W k]; rfl⟩
/-- Set where no object begins -/
theorem hset_noobj {w : World} {ph t q p x v : Nat} {at' i : Int} {bw bh : Nat} {ws : List Nat} {hs : List Bool} {used : Nat} {R : RefSt} (H : Holds w ph t q p x at') (hA : Ar w p bw bh ws hs used) (r : Rel ws hs used R) (o : RefOk R) (he : (robj R at').2.2.2 ≠ 0) :
    Calls Tryz.prog 26 #[.pointer (some ⟨ph, 0, none⟩), .int .u64 (x : Nat), .int .i64 i, .int .u64 (v : Nat)] w fun e w' => e = .returned (.int .i64 (heapErr (robj R at').2.2.2 : Nat)) ∧ Below w.heap.size w w' := by
  have H1 := hide H.find
  have HM := hide H.obj
  have H2 : Hid (∀ W, Still w W → Calls Tryz.prog 103 #[.pointer (some ⟨p, 0, none⟩), .int .i64 at'] W fun e w' => e = .returned (.tuple #[.int .i64 ((robj R at').1 : Nat), .int .i64 ((robj R at').2.1 : Nat), .int .i64 ((robj R at').2.2.1 : Nat), .int .i64 ((robj R at').2.2.2 : Nat)]) ∧ Below w.heap.size w w') := hide (fun W k => (p_object (hA.below k.below) r o at').mono (fun e w' hh => ⟨hh.1, k.below.trans (by have h2 := hh.2; rw [k.heap] at h2; exact h2)⟩))
  have H3 : Hid (∀ W, Calls Tryz.prog 54 #[.int .i64 ((robj R at').2.2.2 : Nat)] W fun e w' => e = .returned (.int .i64 (heapErr (robj R at').2.2.2 : Nat)) ∧ w' = W) := hide (fun W => asHeap_any _ W)
  clear H hA r o
  generalize heapErr (robj R at').2.2.2 = f' at *
  generalize (robj R at').2.2.2 = f at *
  generalize (robj R at').1 = y1 at *
  generalize (robj R at').2.1 = y2 at *
  generalize (robj R at').2.2.1 = y3 at *
  have e1 : ((f : Int) == 0) = false := by rw [beq_eq_false_iff_ne]; omega
  go_enter Tryz.func26, Tryz.ntmps26
  go_wp2_with fail
  refine (unhide H1).mono ?_
  clear H1
  rintro e w1 ⟨rfl, hst⟩
  have hm1 := unhide HM w1 hst.below
  have H2' := hide (unhide H2 w1 hst)
  clear H2 HM hst
  go_wp2_with fail
  refine (unhide H2').mono ?_
  clear H2' hm1
  rintro e w2 ⟨rfl, hb2⟩
  have HB := hide hb2
  clear hb2
  go_wp2_with fail
  refine (unhide H3 _).mono ?_
  rintro e w3 ⟨rfl, rfl⟩
  go_wp2
  go_ret
  exact ⟨rfl, unhide HB⟩
end Go.Proofs.YtidfllgaeiopjaaGreat
