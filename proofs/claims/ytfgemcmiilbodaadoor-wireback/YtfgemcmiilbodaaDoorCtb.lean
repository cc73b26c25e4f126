/- DecodeRune of a byte that is no ASCII: what is skipped is none. -/
import Derived.Shelf.Spec.DecodeRune
import Derived.Lib.LaidU8T
import Derived.Lib.DecodeN
import Derived.Test.YtfgemcmiilbodaaDoorProg
import Derived.Test.YtfgemcmiilbodaaDoorBase
import Derived.Test.YtfgemcmiilbodaaDoorFit
import Derived.Laws.RangeAny
import Derived.Laws.RangeString
import Derived.Laws.Runes
import Derived.Lib.IndexEntry
import Derived.Lib.Bytealg
namespace Go.Proofs
open Go.Shelf
def Tryd.l7ren : Go.Shelf.Ren := ⟨fun | 32 => 39 | 49 => 48 | n => n, fun | 0 => 0 | 3 => 3 | 4 => 4 | 5 => 5 | 21 => 21 | 25 => 83 | 30 => 22 | 33 => 75 | 66 => 90 | 68 => 92 | 69 => 93 | n => n, fun | 2 => 1 | 3 => 2 | n => n⟩
theorem Tryd.l7n32 : Go.Proofs.Lays7.n32 Tryd.prog Tryd.l7ren := {
  mixed := by kernel_rfl
  f32 := Tryd.func39.trans (congrArg some (by kernel_rfl))
  f49 := Tryd.func48.trans (congrArg some (by kernel_rfl))
  g2 := by kernel_rfl
  g3 := by kernel_rfl
  t0 := Tryd.underlying0
  a0 := Tryd.isAgg0
  z0 := Tryd.sizeOf0
  v0 := Tryd.zeroValue0
  i0 := by kernel_rfl
  t3 := Tryd.underlying3
  a3 := Tryd.isAgg3
  z3 := Tryd.sizeOf3
  v3 := Tryd.zeroValue3
  i3 := by kernel_rfl
  t4 := Tryd.underlying4
  a4 := Tryd.isAgg4
  z4 := Tryd.sizeOf4
  v4 := Tryd.zeroValue4
  i4 := by kernel_rfl
  t5 := Tryd.underlying5
  a5 := Tryd.isAgg5
  z5 := Tryd.sizeOf5
  v5 := Tryd.zeroValue5
  i5 := by kernel_rfl
  t21 := Tryd.underlying21
  a21 := Tryd.isAgg21
  z21 := Tryd.sizeOf21
  v21 := Tryd.zeroValue21
  i21 := by kernel_rfl
  t25 := Tryd.underlying83
  a25 := Tryd.isAgg83
  z25 := Tryd.sizeOf83
  v25 := Tryd.zeroValue83
  i25 := by kernel_rfl
  t30 := Tryd.underlying22
  a30 := Tryd.isAgg22
  z30 := Tryd.sizeOf22
  v30 := Tryd.zeroValue22
  i30 := by kernel_rfl
  t33 := Tryd.underlying75
  a33 := Tryd.isAgg75
  z33 := Tryd.sizeOf75
  v33 := Tryd.zeroValue75
  i33 := by kernel_rfl
  t66 := Tryd.underlying90
  a66 := Tryd.isAgg90
  z66 := Tryd.sizeOf90
  t68 := Tryd.underlying92
  a68 := Tryd.isAgg92
  z68 := Tryd.sizeOf92
  v68 := Tryd.zeroValue92
  i68 := by kernel_rfl
  t69 := Tryd.underlying93
  a69 := Tryd.isAgg93
  z69 := Tryd.sizeOf93
  v69 := Tryd.zeroValue93
  i69 := by kernel_rfl
}
end Go.Proofs
namespace Go.Proofs.YtfgemcmiilbodaaDoor
open Go.ChangeShapes Go.WideShapes Go.ChangeAt Go.RowKit
theorem decode_any (s : ByteArray) (b off cap : Nat) (w : World) (hT : Lib.Utf8Tabs 1 2 w) (hp : ∀ j, j < s.size → w.cell? ⟨b, off + j, none⟩ = some (.int .u8 (s.get! j).toNat)) :
    Calls Tryd.prog 39 #[.slice (some ⟨b, off, none⟩) s.size cap] w fun e w' => e = .returned (.tuple #[.int .i32 (Lib.decodeGo s).1, .int .i64 (Lib.decodeGo s).2]) ∧ Below w.heap.size w w' :=
  Any7.utf8_DecodeRune Tryd.l7n32 s b off cap w hT hp
end Go.Proofs.YtfgemcmiilbodaaDoor
namespace Go.Proofs.YtfgemcmiilbodaaDoor
open Go.ChangeShapes Go.WideShapes Go.ChangeAt Go.RowKit
set_option linter.unusedVariables false
set_option linter.unusedSimpArgs false
set_option maxRecDepth 20000
set_option maxHeartbeats 4000000

theorem eol_ib (c : Nat) (hc : c < 256) : ∃ r : Int, (∀ W : World, (Extern.BytealgIndexByte.indexByte #[.string ⟨#[13, 10]⟩, .int .u8 (c : Nat)]).run Tryd.prog W = .ok (.int .i64 r) W) ∧ (decide (0 ≤ r) = (c == 13 || c == 10)) := by
  refine ⟨_, fun W => Lib.run_indexByteString _ _ W, ?_⟩
  have : ∀ c : Fin 256, decide ((0 : Int) ≤ Lib.indexByte [13, 10] ((c.val : Int).toNat.toUInt8)) = (c.val == 13 || c.val == 10) := by decide +kernel
  exact this ⟨c, hc⟩
theorem eol_next (w : World) (pos : Nat) (ty : TypeId) (h : pos < 2) : (Instr.next (.pointer (some ⟨w.heap.size, 0, none⟩)) true ty).run Tryd.prog (w.iter ⟨#[13, 10]⟩ pos) = .ok (.tuple #[.bool true, .int .i64 pos, .int .i32 ((if pos = 0 then 13 else 10 : Nat) : Nat)]) (w.iter ⟨#[13, 10]⟩ (pos + 1)) := by
  have := run_next_any (P := Tryd.prog) w ⟨#[13, 10]⟩ pos ty h
  rw [this]
  match pos, h with
  | 0, _ => rfl
  | 1, _ => rfl
theorem idx_one (w : World) (b off c x : Nat) (hx : x < 256) (h0 : w.cell? ⟨b, off, none⟩ = some (.int .u8 (x : Nat))) :
    Calls Tryd.prog 27 #[.slice (some ⟨b, off, none⟩) 1 c, .string ⟨#[13, 10]⟩] w fun e w' => ∃ r : Int, e = .returned (.int .i64 r) ∧ Hid (decide (0 ≤ r) = (x == 13 || x == 10)) ∧ Below w.heap.size w w' := by
  obtain ⟨r, hr, hr2⟩ := eol_ib x hx
  rcases Nat.lt_or_ge x 128 with hlt | hge
  · have f1 : decide ((x : Int) ≥ 128) = false := decide_eq_false (by omega)
    have f2 : decide ((128 : Int) ≤ (x : Int)) = false := decide_eq_false (by omega)
    have f3 : decide (128 ≤ x) = false := decide_eq_false (by omega)
    have HR := hide hr2
    by_cases q : 0 ≤ r
    · have g1 : decide (0 ≤ r) = true := decide_eq_true q
      have g2 : decide (r ≥ 0) = true := decide_eq_true q
      have HQ : Hid ((x == 13 || x == 10) = true) := hide (by rw [← hr2, g1])
      clear hr2
      go_enter Tryd.func27, Tryd.ntmps27
      go_wp2
      rw [run_callFunc_extern Tryd.func34 (by kernel_rfl) (by kernel_rfl) (by kernel_rfl) (e := Extern.BytealgIndexByte.indexByte) (by kernel_rfl), hr]
      simp only [Result.andThen]
      rw [Oper.upon_value]
      go_wp2
      all_goals go_ret
      all_goals exact ⟨_, rfl, hide (by rw [unhide HQ]; rfl), Below.refl _ _⟩
    · have g1 : decide (0 ≤ r) = false := decide_eq_false q
      have g2 : decide (r ≥ 0) = false := decide_eq_false q
      have HQ : Hid ((x == 13 || x == 10) = false) := hide (by rw [← hr2, g1])
      clear hr2
      go_enter Tryd.func27, Tryd.ntmps27
      go_wp2
      rw [run_callFunc_extern Tryd.func34 (by kernel_rfl) (by kernel_rfl) (by kernel_rfl) (e := Extern.BytealgIndexByte.indexByte) (by kernel_rfl), hr]
      simp only [Result.andThen]
      rw [Oper.upon_value]
      go_wp2
      all_goals go_ret
      all_goals exact ⟨_, rfl, hide (by rw [unhide HQ]; rfl), Below.refl _ _⟩
  · have f1 : decide ((x : Int) ≥ 128) = true := decide_eq_true (by omega)
    have f2 : decide ((128 : Int) ≤ (x : Int)) = true := decide_eq_true (by omega)
    have f3 : decide (128 ≤ x) = true := decide_eq_true (by omega)
    have HX : Hid ((x == 13 || x == 10) = false) := hide (by
      rw [Bool.or_eq_false_iff]; constructor <;> (rw [beq_eq_false_iff_ne]; omega))
    clear hr hr2
    go_enter Tryd.func27, Tryd.ntmps27
    go_wp2
    go_loopw [5] (fun rv w' => ∃ pos : Nat, w' = w.iter ⟨#[13, 10]⟩ pos ∧ pos ≤ 2) (fun _ w' => 2 - w'.iterPos w.heap.size)
    case atStart => exact ⟨0, rfl, by omega⟩
    case round =>
      obtain ⟨pos, rfl, hp⟩ := hrel
      rcases Nat.lt_or_ge pos 2 with h2 | h2
      · have hnx := fun ty => eol_next w pos ty h2
        have hne : (((if pos = 0 then 13 else 10 : Nat) : Int) == 65533) = false := by split <;> decide
        generalize ((if pos = 0 then 13 else 10 : Nat) : Int) = q at *
        go_wp2
        all_goals go_roundw
        all_goals first | exact ⟨pos + 1, rfl, by omega⟩ | (simp; omega)
      · have hnx : ∀ ty, (Instr.next (.pointer (some ⟨w.heap.size, 0, none⟩)) true ty).run Tryd.prog (w.iter ⟨#[13, 10]⟩ pos) = _ := fun ty => run_next_end w ⟨#[13, 10]⟩ pos ty (by show ¬ pos < 2; omega)
        go_wp2
        all_goals go_ret
        all_goals exact ⟨_, rfl, hide (by rw [unhide HX]; rfl), (Below.refl _ _).alloc (Nat.le_refl _) _⟩
end Go.Proofs.YtfgemcmiilbodaaDoor
namespace Go.Proofs.YtfgemcmiilbodaaDoor
open Go.ChangeShapes Go.WideShapes Go.ChangeAt Go.RowKit
set_option linter.unusedVariables false
set_option linter.unusedSimpArgs false
set_option maxRecDepth 20000
set_option maxHeartbeats 4000000

theorem decodeN_high (n b0 b1 b2 b3 : Nat) (hn : 1 ≤ n) (h0 : 128 ≤ b0) (l0 : b0 < 256) (l1 : b1 < 256) (l2 : b2 < 256) (l3 : b3 < 256) :
    128 ≤ (Lib.decodeN n b0 b1 b2 b3).1 ∧ (Lib.decodeN n b0 b1 b2 b3).1 ≤ 1114111 ∧ 1 ≤ (Lib.decodeN n b0 b1 b2 b3).2 ∧ (Lib.decodeN n b0 b1 b2 b3).2 ≤ 4 ∧ (Lib.decodeN n b0 b1 b2 b3).2 ≤ n ∧
    (1 < (Lib.decodeN n b0 b1 b2 b3).2 → 128 ≤ b1) ∧ (2 < (Lib.decodeN n b0 b1 b2 b3).2 → 128 ≤ b2) ∧ (3 < (Lib.decodeN n b0 b1 b2 b3).2 → 128 ≤ b3) ∧
    ((Lib.decodeN n b0 b1 b2 b3).1 ≠ 65533 → ((Lib.decodeN n b0 b1 b2 b3).2 = 2 ∧ (Lib.decodeN n b0 b1 b2 b3).1 < 2048) ∨ ((Lib.decodeN n b0 b1 b2 b3).2 = 3 ∧ 2048 ≤ (Lib.decodeN n b0 b1 b2 b3).1 ∧ (Lib.decodeN n b0 b1 b2 b3).1 < 65536 ∧ ((Lib.decodeN n b0 b1 b2 b3).1 < 55296 ∨ 57343 < (Lib.decodeN n b0 b1 b2 b3).1)) ∨ ((Lib.decodeN n b0 b1 b2 b3).2 = 4 ∧ 65536 ≤ (Lib.decodeN n b0 b1 b2 b3).1)) := by
  unfold Lib.decodeN
  repeat' split
  all_goals (try dsimp only)
  all_goals omega
theorem encode_size (R : Nat) (h : R ≤ 1114111) (hv : R < 55296 ∨ 57343 < R) : (128 ≤ R → R < 2048 → (Utf8.encode (R : Nat)).size = 2) ∧ (2048 ≤ R → R < 65536 → (Utf8.encode (R : Nat)).size = 3) ∧ (65536 ≤ R → (Utf8.encode (R : Nat)).size = 4) := by
  have hval : Utf8.valid (R : Int) = true := by
    unfold Utf8.valid
    simp
    omega
  refine ⟨fun a b => ?_, fun a b => ?_, fun a => ?_⟩ <;> unfold Utf8.encode <;> simp only [hval, if_true, Int.toNat_natCast]
  · rw [if_neg (by omega), if_pos (by omega)]; rfl
  · rw [if_neg (by omega), if_neg (by omega), if_pos (by omega)]; rfl
  · rw [if_neg (by omega), if_neg (by omega), if_neg (by omega)]; rfl
theorem dec_high (T : List Nat) (i b off c : Nat) (w : World) (hU : Lib.Utf8Tabs 1 2 w) (hB : ∀ j, j < T.length → w.cell? ⟨b, off + j, none⟩ = some (.int .u8 (T.getD j 0 : Nat))) (hi : i < T.length) (hS : Small T) (hx : 128 ≤ T.getD i 0) :
    ∃ R K : Nat, 128 ≤ R ∧ R ≤ 1114111 ∧ 1 ≤ K ∧ K ≤ 4 ∧ i + K ≤ T.length ∧ (∀ j, i ≤ j → j < i + K → 128 ≤ T.getD j 0) ∧ (R ≠ 65533 → (Utf8.encode (R : Nat)).size = K ∧ 2 ≤ K) ∧
      ∀ n, n = T.length - i → Calls Tryd.prog 39 #[.slice (some ⟨b, off + i, none⟩) n c] w fun e w' => e = .returned (.tuple #[.int .i32 (R : Nat), .int .i64 (K : Nat)]) ∧ Below w.heap.size w w' := by
  obtain ⟨s, hs⟩ : ∃ s : ByteArray, s = ⟨((T.drop i).map UInt8.ofNat).toArray⟩ := ⟨_, rfl⟩
  have hsz : s.size = T.length - i := by rw [hs]; simp [ByteArray.size]
  have hget : ∀ j, i + j < T.length → (s.get! j).toNat = T.getD (i + j) 0 := fun j hj => by
    have h8 := hS (i + j) hj
    have hjs : j < s.size := by omega
    have e1 : s.get! j = UInt8.ofNat (T.getD (i + j) 0) := by
      rw [hs]
      simp only [ByteArray.get!]
      rw [getElem!_pos _ j (by simp; omega)]
      simp [List.getD_eq_getElem?_getD, List.getElem?_eq_getElem hj]
    rw [e1, UInt8.toNat_ofNat']
    exact Nat.mod_eq_of_lt h8
  have hlt : ∀ j, (s.get! j).toNat < 256 := fun j => UInt8.toNat_lt _
  have hdec : Lib.decodeGo s = Lib.decodeN (s.size - 0) (s.get! 0).toNat (s.get! (0 + 1)).toNat (s.get! (0 + 2)).toNat (s.get! (0 + 3)).toNat := by
    unfold Lib.decodeGo
    rw [if_neg (by omega), Lib.decode_at]
  have g0 := hget 0 (by omega)
  have hh := decodeN_high (s.size - 0) (s.get! 0).toNat (s.get! (0 + 1)).toNat (s.get! (0 + 2)).toNat (s.get! (0 + 3)).toNat (by omega) (by rw [g0]; exact hx) (hlt _) (hlt _) (hlt _) (hlt _)
  rw [← hdec] at hh
  obtain ⟨h1, h2, h3, h4, h5, h6, h7, h8, h9⟩ := hh
  refine ⟨(Lib.decodeGo s).1, (Lib.decodeGo s).2, h1, h2, h3, h4, by omega, fun j ha hb => ?_, fun hne => ?_, fun n hn => ?_⟩
  · rcases Nat.lt_or_ge j (i + 1) with q | q
    · obtain rfl : j = i := by omega
      exact hx
    · rcases Nat.lt_or_ge j (i + 2) with q2 | q2
      · obtain rfl : j = i + 1 := by omega
        rw [← hget 1 (by omega)]; exact h6 (by omega)
      · rcases Nat.lt_or_ge j (i + 3) with q3 | q3
        · obtain rfl : j = i + 2 := by omega
          rw [← hget 2 (by omega)]; exact h7 (by omega)
        · obtain rfl : j = i + 3 := by omega
          rw [← hget 3 (by omega)]; exact h8 (by omega)
  · rcases h9 hne with ⟨k, r⟩ | ⟨k, r1, r2, r3⟩ | ⟨k, r⟩
    · exact ⟨by rw [(encode_size _ h2 (by omega)).1 h1 r, k], by omega⟩
    · exact ⟨by rw [(encode_size _ h2 r3).2.1 r1 r2, k], by omega⟩
    · exact ⟨by rw [(encode_size _ h2 (by omega)).2.2 r, k], by omega⟩
  · subst hn
    rw [← hsz]
    exact decode_any s b (off + i) c w hU (fun j hj => by rw [Nat.add_assoc, hB (i + j) (by omega), hget j (by omega)])
theorem encode_head (R : Nat) (h : 128 ≤ R) : ∃ x, (Utf8.encode (R : Nat)).data.toList[0]? = some x ∧ 128 ≤ x.toNat := by
  unfold Utf8.encode
  have key : ∀ c : Nat, 128 ≤ c → c ≤ 1114111 → ∃ x, (if c < 0x80 then (⟨#[UInt8.ofNat c]⟩ : ByteArray) else if c < 0x800 then ⟨#[UInt8.ofNat (0xC0 + c / 64), UInt8.ofNat (0x80 + c % 64)]⟩ else if c < 0x10000 then ⟨#[UInt8.ofNat (0xE0 + c / 4096), UInt8.ofNat (0x80 + c / 64 % 64), UInt8.ofNat (0x80 + c % 64)]⟩ else ⟨#[UInt8.ofNat (0xF0 + c / 262144), UInt8.ofNat (0x80 + c / 4096 % 64), UInt8.ofNat (0x80 + c / 64 % 64), UInt8.ofNat (0x80 + c % 64)]⟩).data.toList[0]? = some x ∧ 128 ≤ x.toNat := fun c hc hc2 => by
    rw [if_neg (by omega)]
    split
    · exact ⟨_, rfl, by rw [UInt8.toNat_ofNat']; omega⟩
    · split
      · exact ⟨_, rfl, by rw [UInt8.toNat_ofNat']; omega⟩
      · exact ⟨_, rfl, by rw [UInt8.toNat_ofNat']; omega⟩
  by_cases hv : Utf8.valid (R : Int) = true
  · simp only [hv, if_true, Int.toNat_natCast]
    refine key R h ?_
    unfold Utf8.valid at hv
    simp at hv
    omega
  · simp only [hv]
    exact key 65533 (by decide) (by decide)
end Go.Proofs.YtfgemcmiilbodaaDoor
