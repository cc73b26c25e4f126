/- bytes.IndexAny with the two bytes of a line's end: one byte. -/
import Derived.Shelf.Spec.DecodeRune
import Derived.Lib.LaidU8T
import Derived.Lib.DecodeN
import Derived.Test.YtfgemcmiilbodaaDoorProg
import Derived.Test.YtfgemcmiilbodaaDoorBase
import Derived.Test.YtfgemcmiilbodaaDoorFit
import Derived.Laws.RangeAny
import Derived.Laws.RangeString
import Derived.Laws.Runes
import Derived.Lib.IndexEntry
import Derived.Lib.Bytealg
namespace Go.Proofs
open Go.Shelf
def Tryd.l7ren : Go.Shelf.Ren := ⟨fun | 32 => 39 | 49 => 48 | n => n, fun | 0 => 0 | 3 => 3 | 4 => 4 | 5 => 5 | 21 => 21 | 25 => 83 | 30 => 22 | 33 => 75 | 66 => 90 | 68 => 92 | 69 => 93 | n => n, fun | 2 => 1 | 3 => 2 | n => n⟩
theorem Tryd.l7n32 : Go.Proofs.Lays7.n32 Tryd.prog Tryd.l7ren := {
  mixed := by kernel_rfl
  f32 := Tryd.func39.trans (congrArg some (by kernel_rfl))
  f49 := Tryd.func48.trans (congrArg some (by kernel_rfl))
  g2 := by kernel_rfl
  g3 := by kernel_rfl
  t0 := Tryd.underlying0
  a0 := Tryd.isAgg0
  z0 := Tryd.sizeOf0
  v0 := Tryd.zeroValue0
  i0 := by kernel_rfl
  t3 := Tryd.underlying3
  a3 := Tryd.isAgg3
  z3 := Tryd.sizeOf3
  v3 := Tryd.zeroValue3
  i3 := by kernel_rfl
  t4 := Tryd.underlying4
  a4 := Tryd.isAgg4
  z4 := Tryd.sizeOf4
  v4 := Tryd.zeroValue4
  i4 := by kernel_rfl
  t5 := Tryd.underlying5
  a5 := Tryd.isAgg5
  z5 := Tryd.sizeOf5
  v5 := Tryd.zeroValue5
  i5 := by kernel_rfl
  t21 := Tryd.underlying21
  a21 := Tryd.isAgg21
  z21 := Tryd.sizeOf21
  v21 := Tryd.zeroValue21
  i21 := by kernel_rfl
  t25 := Tryd.underlying83
  a25 := Tryd.isAgg83
  z25 := Tryd.sizeOf83
  v25 := Tryd.zeroValue83
  i25 := by kernel_rfl
  t30 := Tryd.underlying22
  a30 := Tryd.isAgg22
  z30 := Tryd.sizeOf22
  v30 := Tryd.zeroValue22
  i30 := by kernel_rfl
  t33 := Tryd.underlying75
  a33 := Tryd.isAgg75
  z33 := Tryd.sizeOf75
  v33 := Tryd.zeroValue75
  i33 := by kernel_rfl
  t66 := Tryd.underlying90
  a66 := Tryd.isAgg90
  z66 := Tryd.sizeOf90
  t68 := Tryd.underlying92
  a68 := Tryd.isAgg92
  z68 := Tryd.sizeOf92
  v68 := Tryd.zeroValue92
  i68 := by kernel_rfl
  t69 := Tryd.underlying93
  a69 := Tryd.isAgg93
  z69 := Tryd.sizeOf93
  v69 := Tryd.zeroValue93
  i69 := by kernel_rfl
}
end Go.Proofs
namespace Go.Proofs.YtfgemcmiilbodaaDoor
open Go.ChangeShapes Go.WideShapes Go.ChangeAt Go.RowKit
theorem decode_any (s : ByteArray) (b off cap : Nat) (w : World) (hT : Lib.Utf8Tabs 1 2 w) (hp : ∀ j, j < s.size → w.cell? ⟨b, off + j, none⟩ = some (.int .u8 (s.get! j).toNat)) :
    Calls Tryd.prog 39 #[.slice (some ⟨b, off, none⟩) s.size cap] w fun e w' => e = .returned (.tuple #[.int .i32 (Lib.decodeGo s).1, .int .i64 (Lib.decodeGo s).2]) ∧ Below w.heap.size w w' :=
  Any7.utf8_DecodeRune Tryd.l7n32 s b off cap w hT hp
end Go.Proofs.YtfgemcmiilbodaaDoor
namespace Go.Proofs.YtfgemcmiilbodaaDoor
open Go.ChangeShapes Go.WideShapes Go.ChangeAt Go.RowKit
set_option linter.unusedVariables false
set_option linter.unusedSimpArgs false
set_option maxRecDepth 20000
set_option maxHeartbeats 4000000

theorem eol_ib (c : Nat) (hc : c < 256) : ∃ r : Int, (∀ W : World, (Extern.BytealgIndexByte.indexByte #[.string ⟨#[13, 10]⟩, .int .u8 (c : Nat)]).run Tryd.prog W = .ok (.int .i64 r) W) ∧ (decide (0 ≤ r) = (c == 13 || c == 10)) := by
  refine ⟨_, fun W => Lib.run_indexByteString _ _ W, ?_⟩
  have : ∀ c : Fin 256, decide ((0 : Int) ≤ Lib.indexByte [13, 10] ((c.val : Int).toNat.toUInt8)) = (c.val == 13 || c.val == 10) := by decide +kernel
  exact this ⟨c, hc⟩
theorem eol_next (w : World) (pos : Nat) (ty : TypeId) (h : pos < 2) : (Instr.next (.pointer (some ⟨w.heap.size, 0, none⟩)) true ty).run Tryd.prog (w.iter ⟨#[13, 10]⟩ pos) = .ok (.tuple #[.bool true, .int .i64 pos, .int .i32 ((if pos = 0 then 13 else 10 : Nat) : Nat)]) (w.iter ⟨#[13, 10]⟩ (pos + 1)) := by
  have := run_next_any (P := Tryd.prog) w ⟨#[13, 10]⟩ pos ty h
  rw [this]
  match pos, h with
  | 0, _ => rfl
  | 1, _ => rfl
theorem idx_one (w : World) (b off c x : Nat) (hx : x < 256) (h0 : w.cell? ⟨b, off, none⟩ = some (.int .u8 (x : Nat))) :
    Calls Tryd.prog 27 #[.slice (some ⟨b, off, none⟩) 1 c, .string ⟨#[13, 10]⟩] w fun e w' => ∃ r : Int, e = .returned (.int .i64 r) ∧ Hid (decide (0 ≤ r) = (x == 13 || x == 10)) ∧ Below w.heap.size w w' := by
  obtain ⟨r, hr, hr2⟩ := eol_ib x hx
  rcases Nat.lt_or_ge x 128 with hlt | hge
  · have f1 : decide ((x : Int) ≥ 128) = false := decide_eq_false (by omega)
    have f2 : decide ((128 : Int) ≤ (x : Int)) = false := decide_eq_false (by omega)
    have f3 : decide (128 ≤ x) = false := decide_eq_false (by omega)
    have HR := hide hr2
    by_cases q : 0 ≤ r
    · have g1 : decide (0 ≤ r) = true := decide_eq_true q
      have g2 : decide (r ≥ 0) = true := decide_eq_true q
      have HQ : Hid ((x == 13 || x == 10) = true) := hide (by rw [← hr2, g1])
      clear hr2
      go_enter Tryd.func27, Tryd.ntmps27
      go_wp2
      rw [run_callFunc_extern Tryd.func34 (by kernel_rfl) (by kernel_rfl) (by kernel_rfl) (e := Extern.BytealgIndexByte.indexByte) (by kernel_rfl), hr]
      simp only [Result.andThen]
      rw [Oper.upon_value]
      go_wp2
      all_goals go_ret
      all_goals exact ⟨_, rfl, hide (by rw [unhide HQ]; rfl), Below.refl _ _⟩
    · have g1 : decide (0 ≤ r) = false := decide_eq_false q
      have g2 : decide (r ≥ 0) = false := decide_eq_false q
      have HQ : Hid ((x == 13 || x == 10) = false) := hide (by rw [← hr2, g1])
      clear hr2
      go_enter Tryd.func27, Tryd.ntmps27
      go_wp2
      rw [run_callFunc_extern Tryd.func34 (by kernel_rfl) (by kernel_rfl) (by kernel_rfl) (e := Extern.BytealgIndexByte.indexByte) (by kernel_rfl), hr]
      simp only [Result.andThen]
      rw [Oper.upon_value]
      go_wp2
      all_goals go_ret
      all_goals exact ⟨_, rfl, hide (by rw [unhide HQ]; rfl), Below.refl _ _⟩
  · have f1 : decide ((x : Int) ≥ 128) = true := decide_eq_true (by omega)
    have f2 : decide ((128 : Int) ≤ (x : Int)) = true := decide_eq_true (by omega)
    have f3 : decide (128 ≤ x) = true := decide_eq_true (by omega)
    have HX : Hid ((x == 13 || x == 10) = false) := hide (by
      rw [Bool.or_eq_false_iff]; constructor <;> (rw [beq_eq_false_iff_ne]; omega))
    clear hr hr2
    go_enter Tryd.func27, Tryd.ntmps27
    go_wp2
    go_loopw [5] (fun rv w' => ∃ pos : Nat, w' = w.iter ⟨#[13, 10]⟩ pos ∧ pos ≤ 2) (fun _ w' => 2 - w'.iterPos w.heap.size)
    case atStart => exact ⟨0, rfl, by omega⟩
    case round =>
      obtain ⟨pos, rfl, hp⟩ := hrel
      rcases Nat.lt_or_ge pos 2 with h2 | h2
      · have hnx := fun ty => eol_next w pos ty h2
        have hne : (((if pos = 0 then 13 else 10 : Nat) : Int) == 65533) = false := by split <;> decide
        generalize ((if pos = 0 then 13 else 10 : Nat) : Int) = q at *
        go_wp2
        all_goals go_roundw
        all_goals first | exact ⟨pos + 1, rfl, by omega⟩ | (simp; omega)
      · have hnx : ∀ ty, (Instr.next (.pointer (some ⟨w.heap.size, 0, none⟩)) true ty).run Tryd.prog (w.iter ⟨#[13, 10]⟩ pos) = _ := fun ty => run_next_end w ⟨#[13, 10]⟩ pos ty (by show ¬ pos < 2; omega)
        go_wp2
        all_goals go_ret
        all_goals exact ⟨_, rfl, hide (by rw [unhide HX]; rfl), (Below.refl _ _).alloc (Nat.le_refl _) _⟩
end Go.Proofs.YtfgemcmiilbodaaDoor
