/- bytes appended: whatever lies at the source. -/
import Derived.Test.YtecfgbjnjgjkoaaGreatDoorBookHold
import Derived.Test.YtecfgbjnjgjkoaaGreatDoorBookGrowW
import Derived.Test.YtecfgbjnjgjkoaaGreatDoorRw
import Derived.Deep.RegionHeld3
import Derived.Deep.MidRow
import Derived.Test.YtecfgbjnjgjkoaaGreatDoorCpE
import Derived.Lib.ConvBytes
import Derived.Lib.SmallJoins
namespace Go.Proofs.YtecfgbjnjgjkoaaGreatDoor.Bk
open Go.ChangeShapes Go.WideShapes Go.ChangeAt Go.RowKit
set_option linter.unusedVariables false
set_option maxRecDepth 100000
set_option maxHeartbeats 8000000

/-- a field that is set to what it was -/
theorem BookAt.again {w : World} {pb o : Nat} {tag : Nat → Nat} {S : BookSt} (h : BookAt w pb o tag S) (i : Nat) (hi : i < 33) (v : Value) (hv : S.flds.set i v = S.flds) : BookAt (w.setCell ⟨pb, o + i, none⟩ v) pb o tag S ∧ Noted pb o tag tag w (w.setCell ⟨pb, o + i, none⟩ v) := by
  have hm := h.mid.set i hi v
  rw [hv] at hm
  exact ⟨⟨hm.fl, hm.hb, hm.hu, hm.un, hm.tp, h.eb, h.eu, h.nb, h.nu, h.cnt, h.us, h.tn⟩, hm.no⟩
theorem grow79_any {w : World} {pb o : Nat} {tag : Nat → Nat} {S : BookSt} (h : BookAt w pb o tag S) :
    Calls Tryz.prog 101 #[.pointer (some ⟨pb, o, none⟩)] w fun e w' => e = .returned (.tuple #[]) ∧ BookAt w' pb o tag S ∧ Noted pb o tag tag w w' := by
  have c0 : w.cell? ⟨pb, o + 3, none⟩ = some (.slice none 0 0) := h.fl.c 3 (by decide)
  have c2 : w.cell? ⟨pb, o + 5, none⟩ = some (.int .i64 0) := h.fl.c 5 (by decide)
  have f2 := h.fl.f 5 (by decide)
  have HEN := hide (h.again 5 (by decide) (.int .i64 0) rfl)
  clear h
  go_enter Tryz.func101, Tryz.ntmps101
  go_wp2_with fail
  go_loopw [3, 4] (fun i _ wz => i = .int .i64 0 ∧ wz = w) (fun _ _ _ => 0)
  case atStart => exact ⟨rfl, rfl⟩
  case round =>
    obtain ⟨rfl, hww⟩ := hrel
    obtain rfl := hww.symm
    go_wp2
    go_end0
    exact ⟨rfl, unhide HEN⟩
theorem grow81_any {w : World} {pb o : Nat} {tag : Nat → Nat} {S : BookSt} (h : BookAt w pb o tag S) :
    Calls Tryz.prog 103 #[.pointer (some ⟨pb, o, none⟩)] w fun e w' => e = .returned (.tuple #[]) ∧ BookAt w' pb o tag S ∧ Noted pb o tag tag w w' := by
  have c0 : w.cell? ⟨pb, o + 9, none⟩ = some (.slice none 0 0) := h.fl.c 9 (by decide)
  have c2 : w.cell? ⟨pb, o + 11, none⟩ = some (.int .i64 0) := h.fl.c 11 (by decide)
  have f2 := h.fl.f 11 (by decide)
  have HEN := hide (h.again 11 (by decide) (.int .i64 0) rfl)
  clear h
  go_enter Tryz.func103, Tryz.ntmps103
  go_wp2_with fail
  go_loopw [3, 4] (fun i _ wz => i = .int .i64 0 ∧ wz = w) (fun _ _ _ => 0)
  case atStart => exact ⟨rfl, rfl⟩
  case round =>
    obtain ⟨rfl, hww⟩ := hrel
    obtain rfl := hww.symm
    go_wp2
    go_end0
    exact ⟨rfl, unhide HEN⟩
theorem grow82_any {w : World} {pb o : Nat} {tag : Nat → Nat} {S : BookSt} (h : BookAt w pb o tag S) :
    Calls Tryz.prog 104 #[.pointer (some ⟨pb, o, none⟩)] w fun e w' => e = .returned (.tuple #[]) ∧ BookAt w' pb o tag S ∧ Noted pb o tag tag w w' := by
  have c0 : w.cell? ⟨pb, o + 12, none⟩ = some (.slice none 0 0) := h.fl.c 12 (by decide)
  have c2 : w.cell? ⟨pb, o + 14, none⟩ = some (.int .i64 0) := h.fl.c 14 (by decide)
  have f2 := h.fl.f 14 (by decide)
  have HEN := hide (h.again 14 (by decide) (.int .i64 0) rfl)
  clear h
  go_enter Tryz.func104, Tryz.ntmps104
  go_wp2_with fail
  go_loopw [3, 4] (fun i _ wz => i = .int .i64 0 ∧ wz = w) (fun _ _ _ => 0)
  case atStart => exact ⟨rfl, rfl⟩
  case round =>
    obtain ⟨rfl, hww⟩ := hrel
    obtain rfl := hww.symm
    go_wp2
    go_end0
    exact ⟨rfl, unhide HEN⟩
theorem grow83_any {w : World} {pb o : Nat} {tag : Nat → Nat} {S : BookSt} (h : BookAt w pb o tag S) :
    Calls Tryz.prog 105 #[.pointer (some ⟨pb, o, none⟩)] w fun e w' => e = .returned (.tuple #[]) ∧ BookAt w' pb o tag S ∧ Noted pb o tag tag w w' := by
  have c0 : w.cell? ⟨pb, o + 15, none⟩ = some (.slice none 0 0) := h.fl.c 15 (by decide)
  have c2 : w.cell? ⟨pb, o + 17, none⟩ = some (.int .i64 0) := h.fl.c 17 (by decide)
  have f2 := h.fl.f 17 (by decide)
  have HEN := hide (h.again 17 (by decide) (.int .i64 0) rfl)
  clear h
  go_enter Tryz.func105, Tryz.ntmps105
  go_wp2_with fail
  go_loopw [3, 4] (fun i _ wz => i = .int .i64 0 ∧ wz = w) (fun _ _ _ => 0)
  case atStart => exact ⟨rfl, rfl⟩
  case round =>
    obtain ⟨rfl, hww⟩ := hrel
    obtain rfl := hww.symm
    go_wp2
    go_end0
    exact ⟨rfl, unhide HEN⟩
theorem grow84_any {w : World} {pb o : Nat} {tag : Nat → Nat} {S : BookSt} (h : BookAt w pb o tag S) :
    Calls Tryz.prog 106 #[.pointer (some ⟨pb, o, none⟩)] w fun e w' => e = .returned (.tuple #[]) ∧ BookAt w' pb o tag S ∧ Noted pb o tag tag w w' := by
  have c0 : w.cell? ⟨pb, o + 18, none⟩ = some (.slice none 0 0) := h.fl.c 18 (by decide)
  have c2 : w.cell? ⟨pb, o + 20, none⟩ = some (.int .i64 0) := h.fl.c 20 (by decide)
  have f2 := h.fl.f 20 (by decide)
  have HEN := hide (h.again 20 (by decide) (.int .i64 0) rfl)
  clear h
  go_enter Tryz.func106, Tryz.ntmps106
  go_wp2_with fail
  go_loopw [3, 4] (fun i _ wz => i = .int .i64 0 ∧ wz = w) (fun _ _ _ => 0)
  case atStart => exact ⟨rfl, rfl⟩
  case round =>
    obtain ⟨rfl, hww⟩ := hrel
    obtain rfl := hww.symm
    go_wp2
    go_end0
    exact ⟨rfl, unhide HEN⟩
theorem grow85_any {w : World} {pb o : Nat} {tag : Nat → Nat} {S : BookSt} (h : BookAt w pb o tag S) :
    Calls Tryz.prog 107 #[.pointer (some ⟨pb, o, none⟩)] w fun e w' => e = .returned (.tuple #[]) ∧ BookAt w' pb o tag S ∧ Noted pb o tag tag w w' := by
  have c0 : w.cell? ⟨pb, o + 21, none⟩ = some (.slice none 0 0) := h.fl.c 21 (by decide)
  have c2 : w.cell? ⟨pb, o + 23, none⟩ = some (.int .i64 0) := h.fl.c 23 (by decide)
  have f2 := h.fl.f 23 (by decide)
  have HEN := hide (h.again 23 (by decide) (.int .i64 0) rfl)
  clear h
  go_enter Tryz.func107, Tryz.ntmps107
  go_wp2_with fail
  go_loopw [3, 4] (fun i _ wz => i = .int .i64 0 ∧ wz = w) (fun _ _ _ => 0)
  case atStart => exact ⟨rfl, rfl⟩
  case round =>
    obtain ⟨rfl, hww⟩ := hrel
    obtain rfl := hww.symm
    go_wp2
    go_end0
    exact ⟨rfl, unhide HEN⟩
theorem grow86_any {w : World} {pb o : Nat} {tag : Nat → Nat} {S : BookSt} (h : BookAt w pb o tag S) :
    Calls Tryz.prog 108 #[.pointer (some ⟨pb, o, none⟩)] w fun e w' => e = .returned (.tuple #[]) ∧ BookAt w' pb o tag S ∧ Noted pb o tag tag w w' := by
  have c0 : w.cell? ⟨pb, o + 24, none⟩ = some (.slice none 0 0) := h.fl.c 24 (by decide)
  have c2 : w.cell? ⟨pb, o + 26, none⟩ = some (.int .i64 0) := h.fl.c 26 (by decide)
  have f2 := h.fl.f 26 (by decide)
  have HEN := hide (h.again 26 (by decide) (.int .i64 0) rfl)
  clear h
  go_enter Tryz.func108, Tryz.ntmps108
  go_wp2_with fail
  go_loopw [3, 4] (fun i _ wz => i = .int .i64 0 ∧ wz = w) (fun _ _ _ => 0)
  case atStart => exact ⟨rfl, rfl⟩
  case round =>
    obtain ⟨rfl, hww⟩ := hrel
    obtain rfl := hww.symm
    go_wp2
    go_end0
    exact ⟨rfl, unhide HEN⟩
theorem grow87_any {w : World} {pb o : Nat} {tag : Nat → Nat} {S : BookSt} (h : BookAt w pb o tag S) :
    Calls Tryz.prog 109 #[.pointer (some ⟨pb, o, none⟩)] w fun e w' => e = .returned (.tuple #[]) ∧ BookAt w' pb o tag S ∧ Noted pb o tag tag w w' := by
  have c0 : w.cell? ⟨pb, o + 27, none⟩ = some (.slice none 0 0) := h.fl.c 27 (by decide)
  have c2 : w.cell? ⟨pb, o + 29, none⟩ = some (.int .i64 0) := h.fl.c 29 (by decide)
  have f2 := h.fl.f 29 (by decide)
  have HEN := hide (h.again 29 (by decide) (.int .i64 0) rfl)
  clear h
  go_enter Tryz.func109, Tryz.ntmps109
  go_wp2_with fail
  go_loopw [3, 4] (fun i _ wz => i = .int .i64 0 ∧ wz = w) (fun _ _ _ => 0)
  case atStart => exact ⟨rfl, rfl⟩
  case round =>
    obtain ⟨rfl, hww⟩ := hrel
    obtain rfl := hww.symm
    go_wp2
    go_end0
    exact ⟨rfl, unhide HEN⟩
theorem BookAt.done {w : World} {pb o : Nat} {tag : Nat → Nat} {S : BookSt} (h : BookAt w pb o tag S) : BookAt (w.setCell ⟨pb, o + 31, none⟩ (intV S.turn)) pb o tag { S with done := S.turn } ∧ Noted pb o tag tag w (w.setCell ⟨pb, o + 31, none⟩ (intV S.turn)) := by
  have hm := h.mid.set 31 (by decide) (intV S.turn)
  exact ⟨⟨hm.fl, hm.hb, hm.hu, hm.un, hm.tp, h.eb, h.eu, h.nb, h.nu, h.cnt, h.us, h.tn⟩, hm.no⟩
theorem grow_any {w : World} {pb o : Nat} {tag : Nat → Nat} {S : BookSt} (h : BookAt w pb o tag S) :
    Calls Tryz.prog 76 #[.pointer (some ⟨pb, o, none⟩)] w fun e w' => e = .returned (.tuple #[]) ∧ ∃ tag' S', BookAt w' pb o tag' S' ∧ S'.turn = S.turn ∧ Noted pb o tag tag' w w' := by
  have H0 := hide (growBytes_any h)
  clear h
  go_enter Tryz.func76, Tryz.ntmps76
  go_wp2_with fail
  refine (unhide H0).mono ?_
  rintro e w0 ⟨rfl, t0, S0, b0, q0, _, n0⟩
  have HQ := hide q0
  clear q0
  have H1 := hide (grow79_any b0)
  have HN1 := hide n0
  clear b0 n0
  go_wp2_with fail
  refine (unhide H1).mono ?_
  rintro e w1 ⟨rfl, b1, m1⟩
  have n1 := (unhide HN1).trans m1
  clear HN1 H1 m1
  have H2 := hide (growWords_any b1)
  have HN2 := hide n1
  clear b1 n1
  go_wp2_with fail
  refine (unhide H2).mono ?_
  rintro e w2 ⟨rfl, t2, S2, b2, q2, _, m2⟩
  have n2 := (unhide HN2).trans m2
  have HR := hide (q2.trans (unhide HQ))
  clear HN2 H2 m2 q2 HQ
  have H3 := hide (grow81_any b2)
  have HN3 := hide n2
  clear b2 n2
  go_wp2_with fail
  refine (unhide H3).mono ?_
  rintro e w3 ⟨rfl, b3, m3⟩
  have n3 := (unhide HN3).trans m3
  clear HN3 H3 m3
  have H4 := hide (grow82_any b3)
  have HN4 := hide n3
  clear b3 n3
  go_wp2_with fail
  refine (unhide H4).mono ?_
  rintro e w4 ⟨rfl, b4, m4⟩
  have n4 := (unhide HN4).trans m4
  clear HN4 H4 m4
  have H5 := hide (grow83_any b4)
  have HN5 := hide n4
  clear b4 n4
  go_wp2_with fail
  refine (unhide H5).mono ?_
  rintro e w5 ⟨rfl, b5, m5⟩
  have n5 := (unhide HN5).trans m5
  clear HN5 H5 m5
  have H6 := hide (grow84_any b5)
  have HN6 := hide n5
  clear b5 n5
  go_wp2_with fail
  refine (unhide H6).mono ?_
  rintro e w6 ⟨rfl, b6, m6⟩
  have n6 := (unhide HN6).trans m6
  clear HN6 H6 m6
  have H7 := hide (grow85_any b6)
  have HN7 := hide n6
  clear b6 n6
  go_wp2_with fail
  refine (unhide H7).mono ?_
  rintro e w7 ⟨rfl, b7, m7⟩
  have n7 := (unhide HN7).trans m7
  clear HN7 H7 m7
  have H8 := hide (grow86_any b7)
  have HN8 := hide n7
  clear b7 n7
  go_wp2_with fail
  refine (unhide H8).mono ?_
  rintro e w8 ⟨rfl, b8, m8⟩
  have n8 := (unhide HN8).trans m8
  clear HN8 H8 m8
  have H9 := hide (grow87_any b8)
  have HN9 := hide n8
  clear b8 n8
  go_wp2_with fail
  refine (unhide H9).mono ?_
  rintro e w9 ⟨rfl, b9, m9⟩
  have n9 := (unhide HN9).trans m9
  clear HN9 H9 m9
  have c30 : w9.cell? ⟨pb, o + 30, none⟩ = some (.int .i64 (S2.turn : Nat)) := b9.fl.c 30 (by decide)
  have c31 : w9.cell? ⟨pb, o + 31, none⟩ = some (.int .i64 (S2.done : Nat)) := b9.fl.c 31 (by decide)
  have f31 := b9.fl.f 31 (by decide)
  have HEN : Hid (∃ tag' S', BookAt (w9.setCell ⟨pb, o + 31, none⟩ (.int .i64 (S2.turn : Nat))) pb o tag' S' ∧ S'.turn = S.turn ∧ Noted pb o tag tag' w (w9.setCell ⟨pb, o + 31, none⟩ (.int .i64 (S2.turn : Nat)))) := hide ⟨_, _, b9.done.1, unhide HR, n9.trans b9.done.2⟩
  clear b9 n9
  go_wp2
  go_end0
  exact ⟨rfl, unhide HEN⟩
theorem look_any {w : World} {pb o : Nat} {tag : Nat → Nat} {S : BookSt} (h : BookAt w pb o tag S) :
    Calls Tryz.prog 56 #[.pointer (some ⟨pb, o, none⟩)] w fun e w' => e = .returned (.bool true) ∧ ∃ tag' S', BookAt w' pb o tag' S' ∧ S'.turn = S.turn ∧ Noted pb o tag tag' w w' := by
  have H1 := hide (bookholds_any h)
  have HB := hide (fun w' (k : Still w w') => h.still k)
  clear h
  go_enter Tryz.func56, Tryz.ntmps56
  go_wp2_with fail
  refine (unhide H1).mono ?_
  rintro e w1 ⟨rfl, k1⟩
  have b1 := unhide HB w1 k1
  have c30 : w1.cell? ⟨pb, o + 30, none⟩ = some (.int .i64 (S.turn : Nat)) := b1.fl.c 30 (by decide)
  have c31 : w1.cell? ⟨pb, o + 31, none⟩ = some (.int .i64 (S.done : Nat)) := b1.fl.c 31 (by decide)
  have HK1 := hide k1
  clear b1 k1 H1
  by_cases hd : S.done = S.turn
  · have d1 : ((S.done : Int) == (S.turn : Int)) = true := by rw [hd]; simp
    have d1' : (S.done == S.turn) = true := by rw [hd]; simp
    clear hd
    go_wp2_with fail
    go_quiet (fail)
    have k2 := (unhide HK1).drew nq
    have HE : Hid (∃ tag' S', BookAt (w1.drewN nq) pb o tag' S' ∧ S'.turn = S.turn ∧ Noted pb o tag tag' w (w1.drewN nq)) := hide ⟨tag, S, unhide HB _ k2, rfl, k2.noted pb o tag⟩
    clear k2 HK1 c30 c31
    generalize w1.drewN nq = w2 at *
    go_wp2
    go_ret
    exact ⟨rfl, unhide HE⟩
  · have d1 : ((S.done : Int) == (S.turn : Int)) = false := by rw [beq_eq_false_iff_ne]; omega
    have d1' : (S.done == S.turn) = false := by rw [beq_eq_false_iff_ne]; exact hd
    clear hd
    go_wp2_with fail
    go_quiet (fail)
    have k2 := (unhide HK1).drew nq
    have H2 := hide (grow_any (unhide HB _ k2))
    have HN1 := hide (k2.noted pb o tag)
    clear k2 HK1 c30 c31
    generalize w1.drewN nq = w8 at *
    go_wp2_with fail
    refine (unhide H2).mono ?_
    rintro e w2 ⟨rfl, t2, S2, b2, q2, n2⟩
    have n12 := (unhide HN1).trans n2
    have H3 := hide (bookholds_any b2)
    have HB2 := hide b2
    have HN2 := hide n12
    have HQ2 := hide q2
    clear b2 n2 n12 q2 HN1 H2
    go_wp2_with fail
    refine (unhide H3).mono ?_
    rintro e w3 ⟨rfl, k3⟩
    have b3 := (unhide HB2).still k3
    have n3 := (unhide HN2).trans (k3.noted pb o t2)
    have HE : Hid (∃ tag' S', BookAt w3 pb o tag' S' ∧ S'.turn = S.turn ∧ Noted pb o tag tag' w w3) := hide ⟨t2, S2, b3, unhide HQ2, n3⟩
    clear b3 n3 k3
    go_wp2
    go_ret
    exact ⟨rfl, unhide HE⟩
end Go.Proofs.YtecfgbjnjgjkoaaGreatDoor.Bk
namespace Go.Proofs.YtecfgbjnjgjkoaaGreatDoor
open Go.ChangeShapes Go.WideShapes Go.ChangeAt Go.RowKit
set_option linter.unusedVariables false
set_option maxRecDepth 20000
set_option maxHeartbeats 2000000

/-- byte k of the mark of list n -/
def sgN (n k : Nat) : Nat := if k % 2 = 0 then 1 + n % 251 else 1 + (7 * n + n / 251) % 251
theorem sgN_lt (n k : Nat) : sgN n k < 256 := by unfold sgN; split <;> omega
def sgV (n k : Nat) : Value := .int .u8 (sgN n k : Nat)
theorem block_lt {w : World} {b : Nat} {o : Obj} (h : w.heap[b]? = some o) : b < w.heap.size := (Array.getElem?_eq_some_iff.1 h).1
/-- a spread that holds lists of bytes alone -/
def SpAt (W : World) (py : Nat) (yv : Value) : Prop := W.heap[py]? = some (.cells #[yv, .slice none 0 0, .slice none 0 0, .slice none 0 0] 107 (0, 0))
/-- its lists: each in memory of its own; the first i are written full, of list i the first k -/
structure Mk (W : World) (py : Nat) (yv : Value) (n : Nat) (F : Nat → Value) (L : Nat → Nat) (i k : Nat) : Prop where
  at' : SpAt W py yv
  row : Rws W 25 1 yv n F
  ent : ∀ j, j < n → ∃ f, Rws W 5 1 (F j) (L j) f ∧ ∀ q, q < L j → (j < i ∨ (j = i ∧ q < k)) → f q = sgV j q
  one : ∀ i j g, i < n → j < n → (F i).ownBlock = some g → (F j).ownBlock = some g → i = j
  len : ∀ j, j < n → L j ≤ 8388608
/-- only the lists' own memory has changed, and memory has been made -/
structure Tch (n : Nat) (F : Nat → Value) (w w' : World) : Prop where
  os : w'.os = w.os
  tape : w'.tape = w.tape
  output : w'.output = w.output
  size : w.heap.size ≤ w'.heap.size
  blk : ∀ b, b < w.heap.size → (∀ j, j < n → (F j).ownBlock ≠ some b) → w'.heap[b]? = w.heap[b]?
theorem Tch.refl (n : Nat) (F : Nat → Value) (w : World) : Tch n F w w := ⟨rfl, rfl, rfl, Nat.le_refl _, fun _ _ _ => rfl⟩
theorem Tch.trans {n : Nat} {F : Nat → Value} {a b c : World} (h : Tch n F a b) (k : Tch n F b c) : Tch n F a c :=
  ⟨k.os.trans h.os, k.tape.trans h.tape, k.output.trans h.output, Nat.le_trans h.size k.size, fun x hx hF => (k.blk x (Nat.lt_of_lt_of_le hx h.size) hF).trans (h.blk x hx hF)⟩
theorem Tch.below {n : Nat} {F : Nat → Value} {w w' : World} (h : Below w.heap.size w w') : Tch n F w w' := ⟨h.os, h.tape, h.output, h.size, fun b hb _ => h.block b hb⟩
theorem Mk.next {W : World} {py : Nat} {yv : Value} {n : Nat} {F : Nat → Value} {L : Nat → Nat} {i k : Nat} (h : Mk W py yv n F L i k) (hk : L i ≤ k) : Mk W py yv n F L (i + 1) 0 :=
  ⟨h.at', h.row, fun j hj => by
    obtain ⟨f, h1, h2⟩ := h.ent j hj
    refine ⟨f, h1, fun q hq hh => h2 q hq ?_⟩
    rcases Nat.lt_trichotomy j i with e | e | e
    · exact .inl e
    · subst e; exact .inr ⟨rfl, by omega⟩
    · omega, h.one, h.len⟩
theorem Mk.below {W W' : World} {py : Nat} {yv : Value} {n : Nat} {F : Nat → Value} {L : Nat → Nat} {i k : Nat} (h : Mk W py yv n F L i k) (hb : Below W.heap.size W W') : Mk W' py yv n F L i k :=
  ⟨by unfold SpAt; rw [hb.block _ (block_lt h.at')]; exact h.at', h.row.below hb, fun j hj => by
    obtain ⟨f, h1, h2⟩ := h.ent j hj
    exact ⟨f, h1.below hb, h2⟩, h.one, h.len⟩
theorem setCell_block (w : World) (g k : Nat) (u : Value) (cur : Array Value) (e : TypeId) (fr : Nat × Nat) (hg : w.heap[g]? = some (.cells cur e fr)) : (w.setCell ⟨g, k, none⟩ u).heap[g]? = some (.cells (cur.setIfInBounds k u) e fr) := by
  simp only [World.setCell, Array.getElem?_modify, if_true, hg, Option.map_some]
  rfl
theorem setCell_else (w : World) (g k j : Nat) (u : Value) (h : j ≠ g) : (w.setCell ⟨g, k, none⟩ u).heap[j]? = w.heap[j]? := by
  simp [World.setCell, Array.getElem?_modify, Ne.symm h]
theorem Rws.put {w : World} {t : TypeId} {v : Value} {n : Nat} {f : Nat → Value} (h : Rws w t 1 v n f) {g : Nat} (hg : v.ownBlock = some g) (k : Nat) (u : Value) : Rws (w.setCell ⟨g, k, none⟩ u) t 1 v n (fun j => if j = k then u else f j) := by
  rcases h with ⟨rfl, h0⟩ | ⟨g', cap, cur, rfl, hg', hn, hc, hs, hh⟩
  · simp [Value.ownBlock] at hg
  · simp [Value.ownBlock] at hg
    subst hg
    refine .inr ⟨g', cap, cur.setIfInBounds k u, rfl, setCell_block w g' k u cur t _ hg', hn, hc, by simpa using hs, fun j hj => ?_⟩
    have hj' : j < n * 1 := hj
    rw [Array.getElem?_setIfInBounds]
    show _ = some (if j = k then u else f j)
    by_cases e1 : k = j
    · subst e1
      rw [if_pos rfl, if_pos (by omega), if_pos rfl]
    · rw [if_neg e1, if_neg (fun h => e1 h.symm), hh j hj]
/-- a byte of list i is written -/
theorem Mk.put {W : World} {py : Nat} {yv : Value} {n : Nat} {F : Nat → Value} {L : Nat → Nat} {i k g : Nat} (h : Mk W py yv n F L i k) (hi : i < n) (hg : (F i).ownBlock = some g) :
    Mk (W.setCell ⟨g, k, none⟩ (sgV i k)) py yv n F L i (k + 1) ∧ Tch n F W (W.setCell ⟨g, k, none⟩ (sgV i k)) := by
  obtain ⟨f0, r0, _⟩ := h.ent i hi
  obtain ⟨c0, hc0⟩ := r0.type g hg
  have hpy : py ≠ g := fun e => by
    have := h.at'
    unfold SpAt at this
    rw [e, hc0] at this
    cases this
  refine ⟨⟨?_, ?_, fun j hj => ?_, h.one, h.len⟩, ⟨rfl, rfl, rfl, by simp [World.setCell], fun b hb hF => setCell_else _ _ _ _ _ (fun e => hF i hi (by rw [hg, e]))⟩⟩
  · unfold SpAt; rw [setCell_else _ _ _ _ _ hpy]; exact h.at'
  · refine h.row.same (fun x hx => setCell_else _ _ _ _ _ (fun e => ?_))
    obtain ⟨c, hc⟩ := h.row.type x hx
    rw [e, hc0] at hc
    cases hc
  · obtain ⟨f, h1, h2⟩ := h.ent j hj
    by_cases e : (F j).ownBlock = some g
    · have hij := h.one j i g hj hi e hg
      subst hij
      refine ⟨_, h1.put e k (sgV j k), fun q hq hh => ?_⟩
      by_cases eq : q = k
      · subst eq; simp
      · simp only [if_neg eq]
        exact h2 q hq (by omega)
    · refine ⟨f, h1.same (fun x hx => setCell_else _ _ _ _ _ (fun e2 => e (by rw [← e2]; exact hx))), fun q hq hh => h2 q hq ?_⟩
      rcases hh with hh | ⟨hh, _⟩
      · exact .inl hh
      · subst hh; exact absurd hg e
end Go.Proofs.YtecfgbjnjgjkoaaGreatDoor
namespace Go.Proofs.YtecfgbjnjgjkoaaGreatDoor
open Go.ChangeShapes Go.WideShapes Go.ChangeAt Go.RowKit
set_option linter.unusedVariables false
set_option maxRecDepth 100000
set_option maxHeartbeats 2000000

theorem eq_any {w : World} {a b : Option Addr} {c1 c2 : Nat} {la lb : List Nat} (hA : la.length ≤ 140737488355328) (hB : lb.length ≤ 140737488355328) (h1 : Bytes w a la) (h2 : Bytes w b lb) :
    Calls Tryz.prog 12 #[.slice a la.length c1, .slice b lb.length c2] w fun e w' => e = .returned (.bool (decide (la = lb))) ∧ Still w w' := by
  have H1 := hide (cmp_any (c1 := c1) (c2 := c2) hA hB h1 h2)
  have H2 : Hid ((Larder.cmpL la lb == 0) = decide (la = lb)) := hide (by
    by_cases h : la = lb
    · rw [decide_eq_true h, h, Larder.cmpL_self]; rfl
    · rw [decide_eq_false h, beq_eq_false_iff_ne]; exact fun z => h (Larder.cmpL_zero _ _ z))
  clear h1 h2 hA hB
  generalize Larder.cmpL la lb = R at *
  generalize la.length = n1 at *
  generalize lb.length = n2 at *
  generalize decide (la = lb) = D at *
  go_enter Tryz.func12, Tryz.ntmps12
  go_wp2_with fail
  refine (unhide H1).mono ?_
  rintro e w1 ⟨rfl, h1⟩
  go_wp2
  go_ret
  exact ⟨ret_bool (unhide H2), h1⟩

/-- a text's bytes in new memory -/
theorem text_conv (S : ByteArray) (w : World) :
    ∃ c w', (convert 9 25 (.string S)).run Tryz.prog w = .ok (.slice (some ⟨w.heap.size, 0, none⟩) S.size c) w' ∧ (∀ j, j < S.size → w'.cell? ⟨w.heap.size, j, none⟩ = some (.int .u8 (S.data.toList.getD j 0).toNat)) ∧ Below w.heap.size w w' ∧ w'.heap.size = w.heap.size + 1 := by
  have h := Lib.run_convert_string_bytes (P := Tryz.prog) w 9 25 5 S Tryz.underlying9 Tryz.underlying25 Tryz.underlying5
  exact ⟨_, _, h, fun j hj => Lib.bytesWorld_cell w 5 S j hj, Go.Joins.below_bytesWorld _ w 5 S (Nat.le_refl _), Lib.bytesWorld_size w 5 S⟩

theorem is_any {w : World} {a : Option Addr} {c1 : Nat} {l : List Nat} (S : ByteArray) (m : List Nat) (hz : S.size = m.length) (hm : ∀ j, j < m.length → (S.data.toList.getD j 0).toNat = m.getD j 0) (hA : l.length ≤ 140737488355328) (hB : m.length ≤ 140737488355328) (h1 : Bytes w a l) :
    Calls Tryz.prog 8 #[.slice a l.length c1, .string S] w fun e w' => e = .returned (.bool (decide (l = m))) ∧ Below w.heap.size w w' := by
  obtain ⟨c, w1, hcv, hcells, hb2, hs2⟩ := text_conv S w
  have hB1 : Bytes w1 (some ⟨w.heap.size, 0, none⟩) m := .inr ⟨w.heap.size, 0, rfl, by omega, fun j hj => by
    rw [Nat.zero_add, hcells j (by omega), ← hm j hj]⟩
  have H1 := hide (eq_any (w := w1) (c1 := c1) (c2 := c) hA hB (h1.below hb2) hB1)
  have HB := hide hb2
  rw [hz] at hcv
  clear h1 hB1 hcells hb2 hs2 hA hB hm hz
  generalize decide (l = m) = D at *
  generalize l.length = n1 at *
  generalize m.length = n2 at *
  go_enter Tryz.func8, Tryz.ntmps8
  go_wp2_with fail
  refine (unhide H1).mono ?_
  rintro e w2 ⟨rfl, h1⟩
  go_wp2
  go_ret
  exact ⟨rfl, (unhide HB).trans (h1.below.mono (unhide HB).size)⟩

/-- bytes as the model's own -/
def ints (l : List Nat) : List Int := l.map fun (c : Nat) => (c : Int)
def cmpI (a b : List Nat) : Int := Lib.compareBytes (Lib.bytesOf (ints a)) (Lib.bytesOf (ints b))
theorem cmpI_eq : ∀ (a b : List Nat), Small a → Small b → cmpI a b = Larder.cmpL a b
  | [], [], _, _ => rfl
  | [], _ :: _, _, _ => rfl
  | _ :: _, [], _, _ => rfl
  | x :: a, y :: b, ha, hb => by
    have ih := cmpI_eq a b (fun i hi => ha (i + 1) (by simpa using hi)) (fun i hi => hb (i + 1) (by simpa using hi))
    have hx : x < 256 := ha 0 (by simp)
    have hy : y < 256 := hb 0 (by simp)
    have lt : ∀ p q : Nat, p < 256 → q < 256 → ((UInt8.ofNat p < UInt8.ofNat q) ↔ p < q) := fun p q hp hq => by
      rw [UInt8.lt_iff_toNat_lt, UInt8.toNat_ofNat', UInt8.toNat_ofNat', Nat.mod_eq_of_lt hp, Nat.mod_eq_of_lt hq]
    have e : cmpI (x :: a) (y :: b) = if UInt8.ofNat x < UInt8.ofNat y then -1 else if UInt8.ofNat y < UInt8.ofNat x then 1 else cmpI a b := rfl
    have e2 : Larder.cmpL (x :: a) (y :: b) = if x < y then -1 else if y < x then 1 else Larder.cmpL a b := rfl
    rw [e, ih, e2]
    simp only [lt x y hx hy, lt y x hy hx]
theorem load_any {w : World} {a : Option Addr} {cap : Nat} {l : List Nat} (hB : Bytes w a l) : (Extern.Bytes.bytesOf (.slice a l.length cap)).run Tryz.prog w = .ok ⟨(Lib.bytesOf (ints l)).toArray⟩ w := by
  cases a with
  | none =>
    have : l = [] := by
      rcases hB with z | ⟨_, _, z, _⟩
      · exact z
      · cases z
    subst this
    rfl
  | some x =>
    have hc : ∀ j y, (ints l)[j]? = some y → w.cell? (x.add j) = some (.int .u8 y) := fun j y hj => by
      have hjl : j < l.length := by
        have := (List.getElem?_eq_some_iff.1 hj).1
        simpa [ints] using this
      rcases hB with z | ⟨b, off, e, hb, hcc⟩
      · rw [z] at hjl; cases hjl
      · cases e
        have e : (⟨b, off, none⟩ : Addr).add j = ⟨b, off + j, none⟩ := by unfold Addr.add; split <;> simp_all
        rw [e, hcc j hjl]
        unfold ints at hj
        rw [List.getElem?_map, List.getElem?_eq_getElem hjl] at hj
        cases hj
        rw [List.getD_eq_getElem?_getD, List.getElem?_eq_getElem hjl]
        rfl
    have := Lib.run_loadBytesX (P := Tryz.prog) w (ints l) x .empty hc
    rw [show (ints l).length = l.length from List.length_map ..] at this
    show (Extern.Bytes.loadBytes x l.length .empty).run Tryz.prog w = _
    rw [this]
    congr 1
    apply ByteArray.ext
    simp
end Go.Proofs.YtecfgbjnjgjkoaaGreatDoor
namespace Go.Proofs.YtecfgbjnjgjkoaaGreatDoor
open Go.ChangeShapes Go.WideShapes Go.ChangeAt Go.RowKit
set_option linter.unusedVariables false
set_option linter.unusedSimpArgs false
set_option maxRecDepth 20000
set_option maxHeartbeats 4000000
def byV (l : List Nat) (q : Nat) : Value := .int .u8 (l.getD q 0 : Nat)
theorem Rws.bytes {W : World} {v : Value} {l : List Nat} (h : Rws W 5 1 v l.length (byV l)) : ∃ a c, v = .slice a l.length c ∧ Bytes W a l ∧ (a = none → c = 0) := by
  rcases h with ⟨rfl, h0⟩ | ⟨b, cap, cur, rfl, hg, hn, hm, hs, hh⟩
  · exact ⟨none, 0, by rw [h0], .inl (List.eq_nil_of_length_eq_zero h0), fun _ => rfl⟩
  · refine ⟨_, cap, rfl, .inr ⟨b, 0, rfl, block_lt hg, fun i hi => ?_⟩, fun h => by cases h⟩
    rw [Nat.zero_add, cell_of_row _ _ _ _ _ _ hg, hh i (by omega)]
    rfl
theorem OwnB.rws {w : World} {b : Nat} {v : Value} {l : List Nat} (h : OwnB w b v l) : Rws w 5 1 v l.length (byV l) := by
  rcases h.2 with ⟨h1, h2⟩ | ⟨g, cap, cur, h1, _, h3, h4, h5, h6, h7⟩
  · exact .inl ⟨h1, h2⟩
  · refine .inr ⟨g, cap, cur, h1, h3, h4, h5, h6, fun k hk => ?_⟩
    have e : cur[k]? = (cellsOf l)[k]? := by rw [← h7, List.getElem?_take, if_pos hk]; simp
    have hk' : k < l.length := by omega
    rw [e]
    unfold cellsOf byV
    rw [List.getElem?_map, List.getElem?_eq_getElem hk', List.getD_eq_getElem?_getD, List.getElem?_eq_getElem hk']
    rfl
theorem OwnB.ge {w : World} {b : Nat} {v : Value} {l : List Nat} (h : OwnB w b v l) : ∀ g, v.ownBlock = some g → b ≤ g := fun g hg => by
  rcases h.2 with ⟨rfl, h2⟩ | ⟨g', cap, cur, rfl, h2, _⟩
  · simp [Value.ownBlock] at hg
  · simp [Value.ownBlock] at hg
    omega
theorem Rws.inb' {W : World} {a : Option Addr} {n c : Nat} {l : List Nat} (h : Rws W 5 1 (.slice a n c) l.length (byV l)) : Bytes W a l ∧ l.length ≤ c ∧ c ≤ 9223372036854775807 ∧ (a = none → c = 0) := by
  rcases h with ⟨e, h0⟩ | ⟨b, cap, cur, e, hg, hn, hm, hs, hh⟩
  · simp only [Value.slice.injEq] at e
    obtain ⟨rfl, h1, rfl⟩ := e
    exact ⟨.inl (List.eq_nil_of_length_eq_zero h0), by omega, by omega, fun _ => rfl⟩
  · simp only [Value.slice.injEq] at e
    obtain ⟨rfl, h1, rfl⟩ := e
    refine ⟨.inr ⟨b, 0, rfl, block_lt hg, fun i hi => ?_⟩, hn, hm, fun h => by cases h⟩
    rw [Nat.zero_add, cell_of_row _ _ _ _ _ _ hg, hh i (by omega)]
    rfl
theorem Rws.take {w : World} {t : TypeId} {a : Option Addr} {n c m : Nat} {f : Nat → Value} (h : Rws w t 1 (.slice a n c) n f) (hm : m ≤ n) (f' : Nat → Value) (hf : ∀ k, k < m → f k = f' k) : Rws w t 1 (.slice a m c) m f' := by
  rcases h with ⟨e, h0⟩ | ⟨b, cap, cur, e, h1, h2, h3, h4, h5⟩
  · cases e
    obtain rfl : m = 0 := by omega
    exact .inl ⟨rfl, rfl⟩
  · cases e
    exact .inr ⟨b, c, cur, rfl, h1, by omega, h3, h4, fun k hk => by rw [h5 k (by omega), hf k (by omega)]⟩
theorem bookAt_keep {w w' : World} {pb o : Nat} {tag : Nat → Nat} {S : Bk.BookSt} (h : Bk.BookAt w pb o tag S) (hs : w.heap.size ≤ w'.heap.size) (hb : ∀ g, tag g ≠ 0 → w'.heap[g]? = w.heap[g]?) (hp : w'.heap[pb]? = w.heap[pb]?) : Bk.BookAt w' pb o tag S :=
  ⟨h.fl.same hp hs, h.hb.same hb (Nat.le_refl _), h.hu.same hb (Nat.le_refl _), fun g hg => Nat.lt_of_lt_of_le (h.un g hg) hs, h.tp, h.eb, h.eu, h.nb, h.nu, h.cnt, h.us, h.tn⟩
theorem Rws.line {w : World} {t : TypeId} {v : Value} {n : Nat} {f : Nat → Value} (h : Rws w t 1 v n f) : Bk.Line w t v n f := by
  rcases h with h | ⟨b, cap, cur, h1, h2, h3, h4, h5, h6⟩
  · exact .inl h
  · exact .inr ⟨b, cap, cur, h1, h2, h3, h4, by omega, fun j hj => h6 j (by omega)⟩
end Go.Proofs.YtecfgbjnjgjkoaaGreatDoor
namespace Go.Proofs.YtecfgbjnjgjkoaaGreatDoor
open Go.ChangeShapes Go.WideShapes Go.ChangeAt Go.RowKit
set_option linter.unusedVariables false
set_option linter.unusedSimpArgs false
set_option maxRecDepth 100000
set_option maxHeartbeats 4000000

theorem run_append_rws_at {P : Program} {w : World} (ty t e : TypeId) (i : TypeInfo) (z : Value) (s bytes : Nat) (ht : P.underlying t = some (.slice e)) (hi : P.info? e = some i) (hz : i.zero = some z) (hsize : i.size = s) (hby : i.bytes = bytes) (hzs : z.cells.size = s)
    (tb : TypeId) (v : Value) (n : Nat) (f : Nat → Value) (hown : Rws w tb s v n f) (hfull : tb = e ∨ ∀ b cap, v = .slice (some b) n cap → cap = n) (ad : Addr) (m mc : Nat) (news : List Value) (hm : 0 < m) (hl : news.length = m * s) (hc : ∀ j x, news[j]? = some x → w.cell? (ad.add j) = some x) (h1 : ∀ x ∈ news, x.oneCell' = true) (hn : (n + m) * bytes ≤ 140737488355328) (hn2 : n + m ≤ 9007199254740992) :
    ∃ v' w', (Builtin.append_ #[t, t] ty #[v, .slice (some ad) m mc]).run P w = .ok v' w' ∧ Rws w' e s v' (n + m) (fun k => if k < n * s then f k else news.getD (k - n * s) undef) ∧ Gr e (n * s) news.length w w' v v' := by
  have hnews := hc
  have hml : n + m ≤ maxLen := by simp only [maxLen]; omega
  have hnm : (n + m) * s = n * s + m * s := Nat.add_mul _ _ _
  rcases hown with ⟨rfl, rfl⟩ | ⟨g, cap, cur, rfl, hg, hnc, hcm, hcs, hf⟩
  · simp only [Nat.zero_add, Nat.zero_mul, Nat.not_lt_zero, if_false, Nat.sub_zero] at *
    have hr := run_append_nil (P := P) w t ty e i z ht hi hz ad m mc news (by rw [hsize]; exact hl) hnews hm (by omega) (by rw [hby]; omega)
    have hge := grownCap_ge w m 0 e
    have hcm2 : grownCap w m 0 e ≤ maxLen := grownCap_le_maxLen w m 0 e hml
    refine ⟨_, _, hr, .inr ⟨w.heap.size, _, _, rfl, heap_alloc_new w.drew _, hge, hcm2, ?_, fun j hj => ?_⟩, ⟨rfl, rfl, rfl, .inr ⟨rfl, by simp, fun k hk => heap_alloc_old w.drew _ hk⟩⟩⟩
    · simp only [Array.size_append, List.size_toArray, size_zeroCells, hzs, hl]
      rw [← Nat.add_mul]
      congr 1
      omega
    · show _ = some (news.getD j undef)
      rw [Array.getElem?_append_left (by rw [List.size_toArray, hl]; exact hj), List.getElem?_toArray, List.getD_eq_getElem?_getD, List.getElem?_eq_getElem (by omega)]
      rfl
  · by_cases hroom : n + m ≤ cap
    · have hte : tb = e := by
        rcases hfull with h | h
        · exact h
        · have := h _ _ rfl; omega
      subst hte
      have hcap : (n + m) * s ≤ cap * s := Nat.mul_le_mul_right _ hroom
      have hr := run_append_room (P := P) w t ty tb i ht hi g n cap cur hg ad m mc news (by rw [hsize]; exact hl) hnews h1 hroom (by rw [hsize, hcs, hl]; omega)
      rw [hsize] at hr
      have hlt : (cur.toList.take (n * s)).length = n * s := by simp; omega
      have hcur : ∀ j, j < n * s ∨ n * s + news.length ≤ j → (cur.toList.take (n * s) ++ news ++ cur.toList.drop (n * s + news.length)).toArray[j]? = cur[j]? := by
        intro j hj
        rw [List.getElem?_toArray]
        rcases hj with hj | hj
        · rw [List.append_assoc, List.getElem?_append_left (by omega), List.getElem?_take, if_pos hj]
          simp
        · rw [List.getElem?_append_right (by simp only [List.length_append, hlt]; omega), List.length_append, hlt, List.getElem?_drop]
          rw [show n * s + news.length + (j - (n * s + news.length)) = j by omega]
          simp
      have hnew : ∀ j, n * s ≤ j → j < n * s + news.length → (cur.toList.take (n * s) ++ news ++ cur.toList.drop (n * s + news.length)).toArray[j]? = some (news.getD (j - n * s) undef) := by
        intro j hj hj2
        rw [List.getElem?_toArray, List.append_assoc, List.getElem?_append_right (by omega), hlt, List.getElem?_append_left (by omega), List.getD_eq_getElem?_getD, List.getElem?_eq_getElem (by omega)]
        rfl
      have hsz : (cur.toList.take (n * s) ++ news ++ cur.toList.drop (n * s + news.length)).toArray.size = cur.size := by
        simp only [List.size_toArray, List.length_append, hlt, List.length_drop, Array.length_toList]
        omega
      have hblk := setRow_heap w g cur (cur.toList.take (n * s) ++ news ++ cur.toList.drop (n * s + news.length)).toArray tb _ hg
      generalize (cur.toList.take (n * s) ++ news ++ cur.toList.drop (n * s + news.length)).toArray = cur' at *
      refine ⟨_, _, hr, .inr ⟨g, cap, cur', rfl, hblk, hroom, hcm, by omega, fun j hj => ?_⟩, ⟨rfl, rfl, rfl, .inl ⟨g, cur, cur', rfl, rfl, hg, hblk, hsz, hcur, by simp [World.setRow], fun k hk => setRow_other w g k _ hk⟩⟩⟩
      by_cases e1 : j < n * s
      · simp only [if_pos e1]
        rw [hcur j (.inl e1), hf j e1]
      · simp only [if_neg e1]
        exact hnew j (by omega) (by omega)
    · have hol : (cur.toList.take (n * s)).length = n * s := by
        have := Nat.mul_le_mul_right s hnc
        simp; omega
      have holds : ∀ j x, (cur.toList.take (n * s))[j]? = some x → w.cell? ((⟨g, 0, none⟩ : Addr).add j) = some x := by
        intro j x hj
        rw [addr0]
        simp only [World.cell?, hg]
        rw [List.getElem?_take] at hj
        split at hj
        · simpa using hj
        · cases hj
      have hr := run_append_grow (P := P) w t ty e i z ht hi hz ⟨g, 0, none⟩ n cap (cur.toList.take (n * s)) (by rw [hsize]; omega) holds ad m mc news (by rw [hsize]; exact hl) hnews (by omega) (by omega) (by rw [hby]; exact growslice_fits (by omega) hn)
      have hge := grownCap_ge w (n + m) cap e
      have hcm2 : grownCap w (n + m) cap e ≤ maxLen := grownCap_le_maxLen w (n + m) cap e hml
      refine ⟨_, _, hr, .inr ⟨w.heap.size, _, _, rfl, heap_alloc_new w.drew _, hge, hcm2, ?_, fun j hj => ?_⟩, ⟨rfl, rfl, rfl, .inr ⟨rfl, by simp, fun k hk => heap_alloc_old w.drew _ hk⟩⟩⟩
      · simp only [Array.size_append, List.size_toArray, size_zeroCells, hzs, hol, hl]
        rw [← Nat.add_mul, ← Nat.add_mul]
        congr 1
        omega
      · rw [Array.getElem?_append_left (by simp only [Array.size_append, List.size_toArray, hol, hl]; omega)]
        by_cases e1 : j < n * s
        · simp only [if_pos e1]
          rw [← hf j e1, Array.getElem?_append_left (by simp only [List.size_toArray, hol]; omega), List.getElem?_toArray, List.getElem?_take, if_pos e1]
          simp
        · simp only [if_neg e1]
          rw [Array.getElem?_append_right (by simp only [List.size_toArray, hol]; omega), List.size_toArray, hol, List.getElem?_toArray, List.getD_eq_getElem?_getD, List.getElem?_eq_getElem (by omega)]
          rfl
/-- what a list that grew left as it was -/
structure Gw (w w' : World) (v v' : Value) : Prop where
  os : w'.os = w.os
  tape : w'.tape = w.tape
  output : w'.output = w.output
  size : w.heap.size ≤ w'.heap.size
  oth : ∀ k, k < w.heap.size → v.ownBlock ≠ some k → w'.heap[k]? = w.heap[k]?
  own : ∀ g, v'.ownBlock = some g → v.ownBlock = some g ∨ w.heap.size ≤ g
theorem Gr.gw {e : TypeId} {c m : Nat} {w w' : World} {v v' : Value} (h : Gr e c m w w' v v') : Gw w w' v v' := ⟨h.os, h.tape, h.output, h.size, fun k hk hv => h.other k hk hv, fun g hg => by
  rcases h.how with ⟨g', _, _, h1, h3, _⟩ | ⟨h3, _⟩
  · rw [hg] at h3; cases h3; exact .inl h1
  · rw [hg] at h3; cases h3; exact .inr (Nat.le_refl _)⟩
theorem Gw.refl (w : World) (v : Value) : Gw w w v v := ⟨rfl, rfl, rfl, Nat.le_refl _, fun _ _ _ => rfl, fun g hg => .inl hg⟩
theorem run_append_zero {P : Program} {w : World} (ty t e : TypeId) (i : TypeInfo) (ht : P.underlying t = some (.slice e)) (hi : P.info? e = some i) (d : Option Addr) (n cap : Nat) (hn : n ≤ cap) (a : Option Addr) (c : Nat) :
    (Builtin.append_ #[t, t] ty #[.slice d n cap, .slice a 0 c]).run P w = .ok (.slice d n cap) w := by
  cases a with
  | none => cases d <;> simp [Builtin.append_, run_underlying ht, sizeOf, typeInfo, hi, Builtin.lenOf, Builtin.firstCells, storeCells, hn]
  | some x =>
    have hf := run_firstCells_some (P := P) w i.size 0 x 0 c [] (by simp) (fun j v h => by simp at h)
    cases d <;> simp [Builtin.append_, run_underlying ht, sizeOf, typeInfo, hi, Builtin.lenOf, hf, storeCells, hn]
theorem run_append_bytes {P : Program} {w : World} (ty t : TypeId) (i : TypeInfo) (ht : P.underlying t = some (.slice 5)) (hi : P.info? 5 = some i) (hz : i.zero = some (.int .u8 0)) (hsize : i.size = 1) (hby : i.bytes = 1)
    (v : Value) (n : Nat) (f : Nat → Value) (h : Rws w 5 1 v n f) (a : Option Addr) (c : Nat) (l : List Nat) (hB : Bytes w a l) (hn : n + l.length ≤ 140737488355328) :
    ∃ v' w', (Builtin.append_ #[t, t] ty #[v, .slice a l.length c]).run P w = .ok v' w' ∧ Rws w' 5 1 v' (n + l.length) (fun k => if k < n then f k else byV l (k - n)) ∧ Gw w w' v v' := by
  rcases List.eq_nil_or_concat l with rfl | hl
  · obtain ⟨d, cap, rfl⟩ := h.shape
    have hc : n ≤ cap := by
      rcases h with ⟨e, h0⟩ | ⟨b, c2, cur, e, _, h2, _⟩
      · omega
      · cases e; exact h2
    refine ⟨_, _, run_append_zero ty t 5 i ht hi d n cap hc a c, ?_, Gw.refl _ _⟩
    exact h.congr (fun k hk => by rw [if_pos (by omega)])
  · have hp : 0 < l.length := by obtain ⟨L, b, rfl⟩ := hl; simp
    rcases hB with rfl | ⟨b, off, rfl, hb, hc⟩
    · simp at hp
    · obtain ⟨v', w', r1, r2, r3⟩ := run_append_rws_at (P := P) (w := w) ty t 5 i (.int .u8 0) 1 1 ht hi hz hsize hby rfl 5 v n f h (.inl rfl) ⟨b, off, none⟩ l.length c (cellsOf l) hp (by unfold cellsOf; simp) (fun j x hx => by
        have hj : j < l.length := by have := (List.getElem?_eq_some_iff.1 hx).1; simpa [cellsOf] using this
        rw [add_plain, hc j hj]
        unfold cellsOf at hx
        rw [List.getElem?_map, List.getElem?_eq_getElem hj] at hx
        rw [List.getD_eq_getElem?_getD, List.getElem?_eq_getElem hj]
        exact hx) (fun x hx => by
        unfold cellsOf at hx
        obtain ⟨y, _, rfl⟩ := List.mem_map.1 hx
        rfl) (by omega) (by omega)
      refine ⟨v', w', r1, r2.congr (fun k hk => ?_), r3.gw⟩
      by_cases q : k < n
      · rw [if_pos (by omega), if_pos q]
      · rw [if_neg (by omega), if_neg q]
        have hj : k - n * 1 < l.length := by omega
        unfold cellsOf byV
        rw [List.getD_eq_getElem?_getD, List.getElem?_map, List.getElem?_eq_getElem hj, List.getD_eq_getElem?_getD, show k - n = k - n * 1 by omega, List.getElem?_eq_getElem hj]
        rfl
theorem append_bytes {P : Program} {w : World} {ops : Array Oper} {rest : List Oper} {o : Oper} {act : Act} {Q : Exit → Act → World → Prop} (hgd : o.guard = none) (so x : Operand) (t : TypeId) (ho : o.op = .call { callee := .builtin .append, args := #[so, x], argTypes := #[t, t] })
    (i : TypeInfo) (ht : P.underlying t = some (.slice 5)) (hi : P.info? 5 = some i) (hz : i.zero = some (.int .u8 0)) (hsize : i.size = 1) (hby : i.bytes = 1)
    (v : Value) (n : Nat) (f : Nat → Value) (hs : act.eval so = v) (h : Rws w 5 1 v n f) (a : Option Addr) (c : Nat) (l : List Nat) (hx : act.eval x = .slice a l.length c) (hB : Bytes w a l) (hn : n + l.length ≤ 140737488355328)
    (hk : ∀ v' w', Rws w' 5 1 v' (n + l.length) (fun k => if k < n then f k else byV l (k - n)) → Gw w w' v v' → wpList P ops Q rest (act.put o.dst v') w') : wpList P ops Q (o :: rest) act w := by
  refine wpList_plain hgd fun _ hK => ?_
  obtain ⟨v', w', hr, h2, h3⟩ := run_append_bytes (P := P) (w := w) o.type t i ht hi hz hsize hby v n f h a c l hB hn
  exact wp_appended so x t ho _ _ hs hx _ _ hr (hK _ _ (hk v' w' h2 h3))
theorem step_append_bytes {P : Program} {ops : Array Oper} {o : Oper} {act : Act} {w : World} {K : Act → World → Prop} {Q : Exit → Act → World → Prop} {E : Prop} (hg : o.guard = none) (so x : Operand) (t : TypeId) (ho : o.op = .call { callee := .builtin .append, args := #[so, x], argTypes := #[t, t] })
    (i : TypeInfo) (ht : P.underlying t = some (.slice 5)) (hi : P.info? 5 = some i) (hz : i.zero = some (.int .u8 0)) (hsize : i.size = 1) (hby : i.bytes = 1)
    (v : Value) (n : Nat) (f : Nat → Value) (hs : act.eval so = v) (h : Rws w 5 1 v n f) (a : Option Addr) (c : Nat) (l : List Nat) (hx : act.eval x = .slice a l.length c) (hB : Bytes w a l) (hn : n + l.length ≤ 140737488355328)
    (hk : ∀ v' w', Rws w' 5 1 v' (n + l.length) (fun k => if k < n then f k else byV l (k - n)) → Gw w w' v v' → K (act.put o.dst v') w') : if Region.wanted o (yielded ops act.tmps) = true then Oper.wp P o act w K Q else E := by
  have hw : Region.wanted o (yielded ops act.tmps) = true := by simp [Region.wanted, hg]
  rw [if_pos hw]
  obtain ⟨v', w', hr, h2, h3⟩ := run_append_bytes (P := P) (w := w) o.type t i ht hi hz hsize hby v n f h a c l hB hn
  exact wp_appended so x t ho _ _ hs hx _ _ hr (hk v' w' h2 h3)
theorem Rws.none' {w : World} {t : TypeId} {v : Value} {n : Nat} {f : Nat → Value} (h : Rws w t 1 v n f) (f' : Nat → Value) : ∃ a cap, v = .slice a n cap ∧ Rws w t 1 (.slice a 0 cap) 0 f' := by
  rcases h with ⟨rfl, h0⟩ | ⟨b, cap, cur, rfl, h1, h2, h3, h4, h5⟩
  · exact ⟨none, 0, by rw [h0], .inl ⟨rfl, rfl⟩⟩
  · exact ⟨_, cap, rfl, .inr ⟨b, cap, cur, rfl, h1, Nat.zero_le _, h3, h4, fun k hk => by omega⟩⟩
/-- what has changed lies in S, or is new -/
structure Kept (S : Nat → Prop) (w w' : World) : Prop where
  os : w'.os = w.os
  tape : w'.tape = w.tape
  output : w'.output = w.output
  size : w.heap.size ≤ w'.heap.size
  blk : ∀ b, b < w.heap.size → ¬ S b → w'.heap[b]? = w.heap[b]?
theorem Kept.refl (S : Nat → Prop) (w : World) : Kept S w w := ⟨rfl, rfl, rfl, Nat.le_refl _, fun _ _ _ => rfl⟩
theorem Kept.trans {S : Nat → Prop} {w w' w'' : World} (h : Kept S w w') (h' : Kept S w' w'') : Kept S w w'' := ⟨h'.os.trans h.os, h'.tape.trans h.tape, h'.output.trans h.output, Nat.le_trans h.size h'.size, fun b hb hS => (h'.blk b (Nat.lt_of_lt_of_le hb h.size) hS).trans (h.blk b hb hS)⟩
theorem Kept.below {S : Nat → Prop} {w w' : World} (h : Below w.heap.size w w') : Kept S w w' := ⟨h.os, h.tape, h.output, h.size, fun b hb _ => h.block b hb⟩
theorem Gw.kept {w w' : World} {v v' : Value} {S : Nat → Prop} (h : Gw w w' v v') (hS : ∀ g, v.ownBlock = some g → S g) : Kept S w w' := ⟨h.os, h.tape, h.output, h.size, fun b hb hs => h.oth b hb (fun e => hs (hS b e))⟩
theorem Kept.put {S : Nat → Prop} {w : World} {g k : Nat} {u : Value} (hg : S g) : Kept S w (w.setCell ⟨g, k, none⟩ u) := ⟨rfl, rfl, rfl, by simp only [World.setCell, Array.size_modify]; exact Nat.le_refl _, fun b hb hs => setCell_else _ _ _ _ _ (fun e => hs (by rw [e]; exact hg))⟩
end Go.Proofs.YtecfgbjnjgjkoaaGreatDoor
