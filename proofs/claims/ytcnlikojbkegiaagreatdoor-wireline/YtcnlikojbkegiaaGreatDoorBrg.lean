/- The Look of the book with rows. -/
import Derived.Test.YtcnlikojbkegiaaGreatDoorBrf
import Derived.Test.YtcnlikojbkegiaaGreatDoorBre
import Derived.Test.YtcnlikojbkegiaaGreatDoorBookLook
namespace Go.Proofs.YtcnlikojbkegiaaGreatDoor.Br
open Go.ChangeShapes Go.WideShapes Go.ChangeAt Go.RowKit Go.Proofs.YtcnlikojbkegiaaGreatDoor.Bk
set_option linter.unusedVariables false
set_option maxRecDepth 100000
set_option maxHeartbeats 8000000

/-- a field that is set to what it was -/
theorem BookAt.again {w : World} {pb o : Nat} {tag : Nat → Nat} {S : BookSt} (h : BookAt w pb o tag S) (i : Nat) (hi : i < 33) (v : Value) (hv : S.flds.set i v = S.flds) : BookAt (w.setCell ⟨pb, o + i, none⟩ v) pb o tag S ∧ Noted pb o tag tag w (w.setCell ⟨pb, o + i, none⟩ v) := by
  have hm := h.mid.set i hi v
  rw [hv] at hm
  exact ⟨⟨hm.fl, hm.hb, hm.hu, hm.un, hm.tp, h.eb, h.eu, h.nb, h.nu, h.cnt, h.us, h.tn⟩, hm.no⟩
theorem growW_any {w : World} {pb o : Nat} {tag : Nat → Nat} {S : BookSt} (h : BookAt w pb o tag S) :
    Calls Tryz.prog 102 #[.pointer (some ⟨pb, o, none⟩)] w fun e w' => e = .returned (.tuple #[]) ∧ BookAt w' pb o tag S ∧ Noted pb o tag tag w w' := by
  have c0 : w.cell? ⟨pb, o + 6, none⟩ = some (.slice none 0 0) := h.fl.c 6 (by decide)
  have c2 : w.cell? ⟨pb, o + 8, none⟩ = some (.int .i64 0) := h.fl.c 8 (by decide)
  have f2 := h.fl.f 8 (by decide)
  have HEN := hide (h.again 8 (by decide) (.int .i64 0) rfl)
  clear h
  go_enter Tryz.func102, Tryz.ntmps102
  go_wp2_with fail
  go_loopw [3, 4] (fun i _ wz => i = .int .i64 0 ∧ wz = w) (fun _ _ _ => 0)
  case atStart => exact ⟨rfl, rfl⟩
  case round =>
    obtain ⟨rfl, hww⟩ := hrel
    obtain rfl := hww.symm
    go_wp2
    go_end0
    exact ⟨rfl, unhide HEN⟩
theorem grow81_any {w : World} {pb o : Nat} {tag : Nat → Nat} {S : BookSt} (h : BookAt w pb o tag S) :
    Calls Tryz.prog 103 #[.pointer (some ⟨pb, o, none⟩)] w fun e w' => e = .returned (.tuple #[]) ∧ BookAt w' pb o tag S ∧ Noted pb o tag tag w w' := by
  have c0 : w.cell? ⟨pb, o + 9, none⟩ = some (.slice none 0 0) := h.fl.c 9 (by decide)
  have c2 : w.cell? ⟨pb, o + 11, none⟩ = some (.int .i64 0) := h.fl.c 11 (by decide)
  have f2 := h.fl.f 11 (by decide)
  have HEN := hide (h.again 11 (by decide) (.int .i64 0) rfl)
  clear h
  go_enter Tryz.func103, Tryz.ntmps103
  go_wp2_with fail
  go_loopw [3, 4] (fun i _ wz => i = .int .i64 0 ∧ wz = w) (fun _ _ _ => 0)
  case atStart => exact ⟨rfl, rfl⟩
  case round =>
    obtain ⟨rfl, hww⟩ := hrel
    obtain rfl := hww.symm
    go_wp2
    go_end0
    exact ⟨rfl, unhide HEN⟩
theorem grow82_any {w : World} {pb o : Nat} {tag : Nat → Nat} {S : BookSt} (h : BookAt w pb o tag S) :
    Calls Tryz.prog 104 #[.pointer (some ⟨pb, o, none⟩)] w fun e w' => e = .returned (.tuple #[]) ∧ BookAt w' pb o tag S ∧ Noted pb o tag tag w w' := by
  have c0 : w.cell? ⟨pb, o + 12, none⟩ = some (.slice none 0 0) := h.fl.c 12 (by decide)
  have c2 : w.cell? ⟨pb, o + 14, none⟩ = some (.int .i64 0) := h.fl.c 14 (by decide)
  have f2 := h.fl.f 14 (by decide)
  have HEN := hide (h.again 14 (by decide) (.int .i64 0) rfl)
  clear h
  go_enter Tryz.func104, Tryz.ntmps104
  go_wp2_with fail
  go_loopw [3, 4] (fun i _ wz => i = .int .i64 0 ∧ wz = w) (fun _ _ _ => 0)
  case atStart => exact ⟨rfl, rfl⟩
  case round =>
    obtain ⟨rfl, hww⟩ := hrel
    obtain rfl := hww.symm
    go_wp2
    go_end0
    exact ⟨rfl, unhide HEN⟩
theorem grow83_any {w : World} {pb o : Nat} {tag : Nat → Nat} {S : BookSt} (h : BookAt w pb o tag S) :
    Calls Tryz.prog 105 #[.pointer (some ⟨pb, o, none⟩)] w fun e w' => e = .returned (.tuple #[]) ∧ BookAt w' pb o tag S ∧ Noted pb o tag tag w w' := by
  have c0 : w.cell? ⟨pb, o + 15, none⟩ = some (.slice none 0 0) := h.fl.c 15 (by decide)
  have c2 : w.cell? ⟨pb, o + 17, none⟩ = some (.int .i64 0) := h.fl.c 17 (by decide)
  have f2 := h.fl.f 17 (by decide)
  have HEN := hide (h.again 17 (by decide) (.int .i64 0) rfl)
  clear h
  go_enter Tryz.func105, Tryz.ntmps105
  go_wp2_with fail
  go_loopw [3, 4] (fun i _ wz => i = .int .i64 0 ∧ wz = w) (fun _ _ _ => 0)
  case atStart => exact ⟨rfl, rfl⟩
  case round =>
    obtain ⟨rfl, hww⟩ := hrel
    obtain rfl := hww.symm
    go_wp2
    go_end0
    exact ⟨rfl, unhide HEN⟩
theorem grow84_any {w : World} {pb o : Nat} {tag : Nat → Nat} {S : BookSt} (h : BookAt w pb o tag S) :
    Calls Tryz.prog 106 #[.pointer (some ⟨pb, o, none⟩)] w fun e w' => e = .returned (.tuple #[]) ∧ BookAt w' pb o tag S ∧ Noted pb o tag tag w w' := by
  have c0 : w.cell? ⟨pb, o + 18, none⟩ = some (.slice none 0 0) := h.fl.c 18 (by decide)
  have c2 : w.cell? ⟨pb, o + 20, none⟩ = some (.int .i64 0) := h.fl.c 20 (by decide)
  have f2 := h.fl.f 20 (by decide)
  have HEN := hide (h.again 20 (by decide) (.int .i64 0) rfl)
  clear h
  go_enter Tryz.func106, Tryz.ntmps106
  go_wp2_with fail
  go_loopw [3, 4] (fun i _ wz => i = .int .i64 0 ∧ wz = w) (fun _ _ _ => 0)
  case atStart => exact ⟨rfl, rfl⟩
  case round =>
    obtain ⟨rfl, hww⟩ := hrel
    obtain rfl := hww.symm
    go_wp2
    go_end0
    exact ⟨rfl, unhide HEN⟩
theorem grow85_any {w : World} {pb o : Nat} {tag : Nat → Nat} {S : BookSt} (h : BookAt w pb o tag S) :
    Calls Tryz.prog 107 #[.pointer (some ⟨pb, o, none⟩)] w fun e w' => e = .returned (.tuple #[]) ∧ BookAt w' pb o tag S ∧ Noted pb o tag tag w w' := by
  have c0 : w.cell? ⟨pb, o + 21, none⟩ = some (.slice none 0 0) := h.fl.c 21 (by decide)
  have c2 : w.cell? ⟨pb, o + 23, none⟩ = some (.int .i64 0) := h.fl.c 23 (by decide)
  have f2 := h.fl.f 23 (by decide)
  have HEN := hide (h.again 23 (by decide) (.int .i64 0) rfl)
  clear h
  go_enter Tryz.func107, Tryz.ntmps107
  go_wp2_with fail
  go_loopw [3, 4] (fun i _ wz => i = .int .i64 0 ∧ wz = w) (fun _ _ _ => 0)
  case atStart => exact ⟨rfl, rfl⟩
  case round =>
    obtain ⟨rfl, hww⟩ := hrel
    obtain rfl := hww.symm
    go_wp2
    go_end0
    exact ⟨rfl, unhide HEN⟩
theorem grow86_any {w : World} {pb o : Nat} {tag : Nat → Nat} {S : BookSt} (h : BookAt w pb o tag S) :
    Calls Tryz.prog 108 #[.pointer (some ⟨pb, o, none⟩)] w fun e w' => e = .returned (.tuple #[]) ∧ BookAt w' pb o tag S ∧ Noted pb o tag tag w w' := by
  have c0 : w.cell? ⟨pb, o + 24, none⟩ = some (.slice none 0 0) := h.fl.c 24 (by decide)
  have c2 : w.cell? ⟨pb, o + 26, none⟩ = some (.int .i64 0) := h.fl.c 26 (by decide)
  have f2 := h.fl.f 26 (by decide)
  have HEN := hide (h.again 26 (by decide) (.int .i64 0) rfl)
  clear h
  go_enter Tryz.func108, Tryz.ntmps108
  go_wp2_with fail
  go_loopw [3, 4] (fun i _ wz => i = .int .i64 0 ∧ wz = w) (fun _ _ _ => 0)
  case atStart => exact ⟨rfl, rfl⟩
  case round =>
    obtain ⟨rfl, hww⟩ := hrel
    obtain rfl := hww.symm
    go_wp2
    go_end0
    exact ⟨rfl, unhide HEN⟩
theorem grow87_any {w : World} {pb o : Nat} {tag : Nat → Nat} {S : BookSt} (h : BookAt w pb o tag S) :
    Calls Tryz.prog 109 #[.pointer (some ⟨pb, o, none⟩)] w fun e w' => e = .returned (.tuple #[]) ∧ BookAt w' pb o tag S ∧ Noted pb o tag tag w w' := by
  have c0 : w.cell? ⟨pb, o + 27, none⟩ = some (.slice none 0 0) := h.fl.c 27 (by decide)
  have c2 : w.cell? ⟨pb, o + 29, none⟩ = some (.int .i64 0) := h.fl.c 29 (by decide)
  have f2 := h.fl.f 29 (by decide)
  have HEN := hide (h.again 29 (by decide) (.int .i64 0) rfl)
  clear h
  go_enter Tryz.func109, Tryz.ntmps109
  go_wp2_with fail
  go_loopw [3, 4] (fun i _ wz => i = .int .i64 0 ∧ wz = w) (fun _ _ _ => 0)
  case atStart => exact ⟨rfl, rfl⟩
  case round =>
    obtain ⟨rfl, hww⟩ := hrel
    obtain rfl := hww.symm
    go_wp2
    go_end0
    exact ⟨rfl, unhide HEN⟩
theorem BookAt.done {w : World} {pb o : Nat} {tag : Nat → Nat} {S : BookSt} (h : BookAt w pb o tag S) : BookAt (w.setCell ⟨pb, o + 31, none⟩ (intV S.turn)) pb o tag { S with done := S.turn } ∧ Noted pb o tag tag w (w.setCell ⟨pb, o + 31, none⟩ (intV S.turn)) := by
  have hm := h.mid.set 31 (by decide) (intV S.turn)
  exact ⟨⟨hm.fl, hm.hb, hm.hu, hm.un, hm.tp, h.eb, h.eu, h.nb, h.nu, h.cnt, h.us, h.tn⟩, hm.no⟩
theorem grow_any {w : World} {pb o : Nat} {tag : Nat → Nat} {S : BookSt} (h : BookAt w pb o tag S) :
    Calls Tryz.prog 76 #[.pointer (some ⟨pb, o, none⟩)] w fun e w' => e = .returned (.tuple #[]) ∧ ∃ tag' S', BookAt w' pb o tag' S' ∧ S'.turn = S.turn ∧ Noted pb o tag tag' w w' := by
  have H0 := hide (growBytes_any h)
  clear h
  go_enter Tryz.func76, Tryz.ntmps76
  go_wp2_with fail
  refine (unhide H0).mono ?_
  rintro e w0 ⟨rfl, t0, S0, b0, q0, _, n0⟩
  have HQ := hide q0
  clear q0
  have H2 := hide (growRows_any b0)
  have HN2 := hide n0
  clear b0 n0
  go_wp2_with fail
  refine (unhide H2).mono ?_
  rintro e w2 ⟨rfl, t2, S2, b2', q2, _, m2⟩
  have n2' := (unhide HN2).trans m2
  have HR := hide (q2.trans (unhide HQ))
  clear HN2 H2 m2 q2 HQ
  have H1 := hide (growW_any b2')
  have HN1 := hide n2'
  clear b2' n2'
  go_wp2_with fail
  refine (unhide H1).mono ?_
  rintro e w1 ⟨rfl, b2, m1⟩
  have n2 := (unhide HN1).trans m1
  clear HN1 H1 m1
  have H3 := hide (grow81_any b2)
  have HN3 := hide n2
  clear b2 n2
  go_wp2_with fail
  refine (unhide H3).mono ?_
  rintro e w3 ⟨rfl, b3, m3⟩
  have n3 := (unhide HN3).trans m3
  clear HN3 H3 m3
  have H4 := hide (grow82_any b3)
  have HN4 := hide n3
  clear b3 n3
  go_wp2_with fail
  refine (unhide H4).mono ?_
  rintro e w4 ⟨rfl, b4, m4⟩
  have n4 := (unhide HN4).trans m4
  clear HN4 H4 m4
  have H5 := hide (grow83_any b4)
  have HN5 := hide n4
  clear b4 n4
  go_wp2_with fail
  refine (unhide H5).mono ?_
  rintro e w5 ⟨rfl, b5, m5⟩
  have n5 := (unhide HN5).trans m5
  clear HN5 H5 m5
  have H6 := hide (grow84_any b5)
  have HN6 := hide n5
  clear b5 n5
  go_wp2_with fail
  refine (unhide H6).mono ?_
  rintro e w6 ⟨rfl, b6, m6⟩
  have n6 := (unhide HN6).trans m6
  clear HN6 H6 m6
  have H7 := hide (grow85_any b6)
  have HN7 := hide n6
  clear b6 n6
  go_wp2_with fail
  refine (unhide H7).mono ?_
  rintro e w7 ⟨rfl, b7, m7⟩
  have n7 := (unhide HN7).trans m7
  clear HN7 H7 m7
  have H8 := hide (grow86_any b7)
  have HN8 := hide n7
  clear b7 n7
  go_wp2_with fail
  refine (unhide H8).mono ?_
  rintro e w8 ⟨rfl, b8, m8⟩
  have n8 := (unhide HN8).trans m8
  clear HN8 H8 m8
  have H9 := hide (grow87_any b8)
  have HN9 := hide n8
  clear b8 n8
  go_wp2_with fail
  refine (unhide H9).mono ?_
  rintro e w9 ⟨rfl, b9, m9⟩
  have n9 := (unhide HN9).trans m9
  clear HN9 H9 m9
  have c30 : w9.cell? ⟨pb, o + 30, none⟩ = some (.int .i64 (S2.turn : Nat)) := b9.fl.c 30 (by decide)
  have c31 : w9.cell? ⟨pb, o + 31, none⟩ = some (.int .i64 (S2.done : Nat)) := b9.fl.c 31 (by decide)
  have f31 := b9.fl.f 31 (by decide)
  have HEN : Hid (∃ tag' S', BookAt (w9.setCell ⟨pb, o + 31, none⟩ (.int .i64 (S2.turn : Nat))) pb o tag' S' ∧ S'.turn = S.turn ∧ Noted pb o tag tag' w (w9.setCell ⟨pb, o + 31, none⟩ (.int .i64 (S2.turn : Nat)))) := hide ⟨_, _, b9.done.1, unhide HR, n9.trans b9.done.2⟩
  clear b9 n9
  go_wp2
  go_end0
  exact ⟨rfl, unhide HEN⟩
theorem look_any {w : World} {pb o : Nat} {tag : Nat → Nat} {S : BookSt} (h : BookAt w pb o tag S) :
    Calls Tryz.prog 56 #[.pointer (some ⟨pb, o, none⟩)] w fun e w' => e = .returned (.bool true) ∧ ∃ tag' S', BookAt w' pb o tag' S' ∧ S'.turn = S.turn ∧ Noted pb o tag tag' w w' := by
  have H1 := hide (bookholds_any h)
  have HB := hide (fun w' (k : Still w w') => h.still k)
  clear h
  go_enter Tryz.func56, Tryz.ntmps56
  go_wp2_with fail
  refine (unhide H1).mono ?_
  rintro e w1 ⟨rfl, k1⟩
  have b1 := unhide HB w1 k1
  have c30 : w1.cell? ⟨pb, o + 30, none⟩ = some (.int .i64 (S.turn : Nat)) := b1.fl.c 30 (by decide)
  have c31 : w1.cell? ⟨pb, o + 31, none⟩ = some (.int .i64 (S.done : Nat)) := b1.fl.c 31 (by decide)
  have HK1 := hide k1
  clear b1 k1 H1
  by_cases hd : S.done = S.turn
  · have d1 : ((S.done : Int) == (S.turn : Int)) = true := by rw [hd]; simp
    have d1' : (S.done == S.turn) = true := by rw [hd]; simp
    clear hd
    go_wp2_with fail
    go_quiet (fail)
    have k2 := (unhide HK1).drew nq
    have HE : Hid (∃ tag' S', BookAt (w1.drewN nq) pb o tag' S' ∧ S'.turn = S.turn ∧ Noted pb o tag tag' w (w1.drewN nq)) := hide ⟨tag, S, unhide HB _ k2, rfl, k2.noted pb o tag⟩
    clear k2 HK1 c30 c31
    generalize w1.drewN nq = w2 at *
    go_wp2
    go_ret
    exact ⟨rfl, unhide HE⟩
  · have d1 : ((S.done : Int) == (S.turn : Int)) = false := by rw [beq_eq_false_iff_ne]; omega
    have d1' : (S.done == S.turn) = false := by rw [beq_eq_false_iff_ne]; exact hd
    clear hd
    go_wp2_with fail
    go_quiet (fail)
    have k2 := (unhide HK1).drew nq
    have H2 := hide (grow_any (unhide HB _ k2))
    have HN1 := hide (k2.noted pb o tag)
    clear k2 HK1 c30 c31
    generalize w1.drewN nq = w8 at *
    go_wp2_with fail
    refine (unhide H2).mono ?_
    rintro e w2 ⟨rfl, t2, S2, b2, q2, n2⟩
    have n12 := (unhide HN1).trans n2
    have H3 := hide (bookholds_any b2)
    have HB2 := hide b2
    have HN2 := hide n12
    have HQ2 := hide q2
    clear b2 n2 n12 q2 HN1 H2
    go_wp2_with fail
    refine (unhide H3).mono ?_
    rintro e w3 ⟨rfl, k3⟩
    have b3 := (unhide HB2).still k3
    have n3 := (unhide HN2).trans (k3.noted pb o t2)
    have HE : Hid (∃ tag' S', BookAt w3 pb o tag' S' ∧ S'.turn = S.turn ∧ Noted pb o tag tag' w w3) := hide ⟨t2, S2, b3, unhide HQ2, n3⟩
    clear b3 n3 k3
    go_wp2
    go_ret
    exact ⟨rfl, unhide HE⟩
end Go.Proofs.YtcnlikojbkegiaaGreatDoor.Br
