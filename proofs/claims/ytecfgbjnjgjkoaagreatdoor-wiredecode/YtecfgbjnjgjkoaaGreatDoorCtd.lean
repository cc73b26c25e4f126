/- bytes.IndexAny with the two bytes of a line's end: the long road; ContainsAny. -/
import Derived.Shelf.Spec.DecodeRune
import Derived.Lib.LaidU8T
import Derived.Lib.DecodeN
import Derived.Test.YtecfgbjnjgjkoaaGreatDoorProg
import Derived.Test.YtecfgbjnjgjkoaaGreatDoorSame
import Derived.Test.YtecfgbjnjgjkoaaGreatDoorFit
import Derived.Laws.RangeAny
import Derived.Laws.RangeString
import Derived.Laws.Runes
import Derived.Lib.IndexEntry
import Derived.Lib.Bytealg
import Derived.Deep.MidRow
import Derived.Deep.WholeRow
import Derived.Great.BuildSlice
import Derived.Great.Walk
namespace Go.Proofs
open Go.Shelf
def Tryz.l7ren : Go.Shelf.Ren := ⟨fun | 32 => 82 | 49 => 114 | n => n, fun | 0 => 0 | 3 => 3 | 4 => 4 | 5 => 5 | 21 => 21 | 25 => 143 | 30 => 25 | 33 => 126 | 66 => 180 | 68 => 182 | 69 => 183 | n => n, fun | 2 => 1 | 3 => 2 | n => n⟩
theorem Tryz.l7n32 : Go.Proofs.Lays7.n32 Tryz.prog Tryz.l7ren := {
  mixed := by kernel_rfl
  f32 := Tryz.func82.trans (congrArg some (by kernel_rfl))
  f49 := Tryz.func114.trans (congrArg some (by kernel_rfl))
  g2 := by kernel_rfl
  g3 := by kernel_rfl
  t0 := Tryz.underlying0
  a0 := Tryz.isAgg0
  z0 := Tryz.sizeOf0
  v0 := Tryz.zeroValue0
  i0 := by kernel_rfl
  t3 := Tryz.underlying3
  a3 := Tryz.isAgg3
  z3 := Tryz.sizeOf3
  v3 := Tryz.zeroValue3
  i3 := by kernel_rfl
  t4 := Tryz.underlying4
  a4 := Tryz.isAgg4
  z4 := Tryz.sizeOf4
  v4 := Tryz.zeroValue4
  i4 := by kernel_rfl
  t5 := Tryz.underlying5
  a5 := Tryz.isAgg5
  z5 := Tryz.sizeOf5
  v5 := Tryz.zeroValue5
  i5 := by kernel_rfl
  t21 := Tryz.underlying21
  a21 := Tryz.isAgg21
  z21 := Tryz.sizeOf21
  v21 := Tryz.zeroValue21
  i21 := by kernel_rfl
  t25 := Tryz.underlying143
  a25 := Tryz.isAgg143
  z25 := Tryz.sizeOf143
  v25 := Tryz.zeroValue143
  i25 := by kernel_rfl
  t30 := Tryz.underlying25
  a30 := Tryz.isAgg25
  z30 := Tryz.sizeOf25
  v30 := Tryz.zeroValue25
  i30 := by kernel_rfl
  t33 := Tryz.underlying126
  a33 := Tryz.isAgg126
  z33 := Tryz.sizeOf126
  v33 := Tryz.zeroValue126
  i33 := by kernel_rfl
  t66 := Tryz.underlying180
  a66 := Tryz.isAgg180
  z66 := Tryz.sizeOf180
  t68 := Tryz.underlying182
  a68 := Tryz.isAgg182
  z68 := Tryz.sizeOf182
  v68 := Tryz.zeroValue182
  i68 := by kernel_rfl
  t69 := Tryz.underlying183
  a69 := Tryz.isAgg183
  z69 := Tryz.sizeOf183
  v69 := Tryz.zeroValue183
  i69 := by kernel_rfl
}
end Go.Proofs
namespace Go.Proofs.YtecfgbjnjgjkoaaGreatDoor
open Go.ChangeShapes Go.WideShapes Go.ChangeAt Go.RowKit
theorem decode_any (s : ByteArray) (b off cap : Nat) (w : World) (hT : Lib.Utf8Tabs 1 2 w) (hp : ∀ j, j < s.size → w.cell? ⟨b, off + j, none⟩ = some (.int .u8 (s.get! j).toNat)) :
    Calls Tryz.prog 82 #[.slice (some ⟨b, off, none⟩) s.size cap] w fun e w' => e = .returned (.tuple #[.int .i32 (Lib.decodeGo s).1, .int .i64 (Lib.decodeGo s).2]) ∧ Below w.heap.size w w' :=
  Any7.utf8_DecodeRune Tryz.l7n32 s b off cap w hT hp
end Go.Proofs.YtecfgbjnjgjkoaaGreatDoor
namespace Go.Proofs.YtecfgbjnjgjkoaaGreatDoor
open Go.ChangeShapes Go.WideShapes Go.ChangeAt Go.RowKit
set_option linter.unusedVariables false
set_option linter.unusedSimpArgs false
set_option maxRecDepth 20000
set_option maxHeartbeats 4000000

theorem eol_ib (c : Nat) (hc : c < 256) : ∃ r : Int, (∀ W : World, (Extern.BytealgIndexByte.indexByte #[.string ⟨#[13, 10]⟩, .int .u8 (c : Nat)]).run Tryz.prog W = .ok (.int .i64 r) W) ∧ (decide (0 ≤ r) = (c == 13 || c == 10)) := by
  refine ⟨_, fun W => Lib.run_indexByteString _ _ W, ?_⟩
  have : ∀ c : Fin 256, decide ((0 : Int) ≤ Lib.indexByte [13, 10] ((c.val : Int).toNat.toUInt8)) = (c.val == 13 || c.val == 10) := by decide +kernel
  exact this ⟨c, hc⟩
theorem eol_next (w : World) (pos : Nat) (ty : TypeId) (h : pos < 2) : (Instr.next (.pointer (some ⟨w.heap.size, 0, none⟩)) true ty).run Tryz.prog (w.iter ⟨#[13, 10]⟩ pos) = .ok (.tuple #[.bool true, .int .i64 pos, .int .i32 ((if pos = 0 then 13 else 10 : Nat) : Nat)]) (w.iter ⟨#[13, 10]⟩ (pos + 1)) := by
  have := run_next_any (P := Tryz.prog) w ⟨#[13, 10]⟩ pos ty h
  rw [this]
  match pos, h with
  | 0, _ => rfl
  | 1, _ => rfl
theorem idx_one (w : World) (b off c x : Nat) (hx : x < 256) (h0 : w.cell? ⟨b, off, none⟩ = some (.int .u8 (x : Nat))) :
    Calls Tryz.prog 57 #[.slice (some ⟨b, off, none⟩) 1 c, .string ⟨#[13, 10]⟩] w fun e w' => ∃ r : Int, e = .returned (.int .i64 r) ∧ Hid (decide (0 ≤ r) = (x == 13 || x == 10)) ∧ Below w.heap.size w w' := by
  obtain ⟨r, hr, hr2⟩ := eol_ib x hx
  rcases Nat.lt_or_ge x 128 with hlt | hge
  · have f1 : decide ((x : Int) ≥ 128) = false := decide_eq_false (by omega)
    have f2 : decide ((128 : Int) ≤ (x : Int)) = false := decide_eq_false (by omega)
    have f3 : decide (128 ≤ x) = false := decide_eq_false (by omega)
    have HR := hide hr2
    by_cases q : 0 ≤ r
    · have g1 : decide (0 ≤ r) = true := decide_eq_true q
      have g2 : decide (r ≥ 0) = true := decide_eq_true q
      have HQ : Hid ((x == 13 || x == 10) = true) := hide (by rw [← hr2, g1])
      clear hr2
      go_enter Tryz.func57, Tryz.ntmps57
      go_wp2
      rw [run_callFunc_extern Tryz.func77 (by kernel_rfl) (by kernel_rfl) (by kernel_rfl) (e := Extern.BytealgIndexByte.indexByte) (by kernel_rfl), hr]
      simp only [Result.andThen]
      rw [Oper.upon_value]
      go_wp2
      all_goals go_ret
      all_goals exact ⟨_, rfl, hide (by rw [unhide HQ]; rfl), Below.refl _ _⟩
    · have g1 : decide (0 ≤ r) = false := decide_eq_false q
      have g2 : decide (r ≥ 0) = false := decide_eq_false q
      have HQ : Hid ((x == 13 || x == 10) = false) := hide (by rw [← hr2, g1])
      clear hr2
      go_enter Tryz.func57, Tryz.ntmps57
      go_wp2
      rw [run_callFunc_extern Tryz.func77 (by kernel_rfl) (by kernel_rfl) (by kernel_rfl) (e := Extern.BytealgIndexByte.indexByte) (by kernel_rfl), hr]
      simp only [Result.andThen]
      rw [Oper.upon_value]
      go_wp2
      all_goals go_ret
      all_goals exact ⟨_, rfl, hide (by rw [unhide HQ]; rfl), Below.refl _ _⟩
  · have f1 : decide ((x : Int) ≥ 128) = true := decide_eq_true (by omega)
    have f2 : decide ((128 : Int) ≤ (x : Int)) = true := decide_eq_true (by omega)
    have f3 : decide (128 ≤ x) = true := decide_eq_true (by omega)
    have HX : Hid ((x == 13 || x == 10) = false) := hide (by
      rw [Bool.or_eq_false_iff]; constructor <;> (rw [beq_eq_false_iff_ne]; omega))
    clear hr hr2
    go_enter Tryz.func57, Tryz.ntmps57
    go_wp2
    go_loopw [5] (fun rv w' => ∃ pos : Nat, w' = w.iter ⟨#[13, 10]⟩ pos ∧ pos ≤ 2) (fun _ w' => 2 - w'.iterPos w.heap.size)
    case atStart => exact ⟨0, rfl, by omega⟩
    case round =>
      obtain ⟨pos, rfl, hp⟩ := hrel
      rcases Nat.lt_or_ge pos 2 with h2 | h2
      · have hnx := fun ty => eol_next w pos ty h2
        have hne : (((if pos = 0 then 13 else 10 : Nat) : Int) == 65533) = false := by split <;> decide
        generalize ((if pos = 0 then 13 else 10 : Nat) : Int) = q at *
        go_wp2
        all_goals go_roundw
        all_goals first | exact ⟨pos + 1, rfl, by omega⟩ | (simp; omega)
      · have hnx : ∀ ty, (Instr.next (.pointer (some ⟨w.heap.size, 0, none⟩)) true ty).run Tryz.prog (w.iter ⟨#[13, 10]⟩ pos) = _ := fun ty => run_next_end w ⟨#[13, 10]⟩ pos ty (by show ¬ pos < 2; omega)
        go_wp2
        all_goals go_ret
        all_goals exact ⟨_, rfl, hide (by rw [unhide HX]; rfl), (Below.refl _ _).alloc (Nat.le_refl _) _⟩
end Go.Proofs.YtecfgbjnjgjkoaaGreatDoor
namespace Go.Proofs.YtecfgbjnjgjkoaaGreatDoor
open Go.ChangeShapes Go.WideShapes Go.ChangeAt Go.RowKit
set_option linter.unusedVariables false
set_option linter.unusedSimpArgs false
set_option maxRecDepth 20000
set_option maxHeartbeats 4000000

theorem decodeN_high (n b0 b1 b2 b3 : Nat) (hn : 1 ≤ n) (h0 : 128 ≤ b0) (l0 : b0 < 256) (l1 : b1 < 256) (l2 : b2 < 256) (l3 : b3 < 256) :
    128 ≤ (Lib.decodeN n b0 b1 b2 b3).1 ∧ (Lib.decodeN n b0 b1 b2 b3).1 ≤ 1114111 ∧ 1 ≤ (Lib.decodeN n b0 b1 b2 b3).2 ∧ (Lib.decodeN n b0 b1 b2 b3).2 ≤ 4 ∧ (Lib.decodeN n b0 b1 b2 b3).2 ≤ n ∧
    (1 < (Lib.decodeN n b0 b1 b2 b3).2 → 128 ≤ b1) ∧ (2 < (Lib.decodeN n b0 b1 b2 b3).2 → 128 ≤ b2) ∧ (3 < (Lib.decodeN n b0 b1 b2 b3).2 → 128 ≤ b3) ∧
    ((Lib.decodeN n b0 b1 b2 b3).1 ≠ 65533 → ((Lib.decodeN n b0 b1 b2 b3).2 = 2 ∧ (Lib.decodeN n b0 b1 b2 b3).1 < 2048) ∨ ((Lib.decodeN n b0 b1 b2 b3).2 = 3 ∧ 2048 ≤ (Lib.decodeN n b0 b1 b2 b3).1 ∧ (Lib.decodeN n b0 b1 b2 b3).1 < 65536 ∧ ((Lib.decodeN n b0 b1 b2 b3).1 < 55296 ∨ 57343 < (Lib.decodeN n b0 b1 b2 b3).1)) ∨ ((Lib.decodeN n b0 b1 b2 b3).2 = 4 ∧ 65536 ≤ (Lib.decodeN n b0 b1 b2 b3).1)) := by
  unfold Lib.decodeN
  repeat' split
  all_goals (try dsimp only)
  all_goals omega
theorem encode_size (R : Nat) (h : R ≤ 1114111) (hv : R < 55296 ∨ 57343 < R) : (128 ≤ R → R < 2048 → (Utf8.encode (R : Nat)).size = 2) ∧ (2048 ≤ R → R < 65536 → (Utf8.encode (R : Nat)).size = 3) ∧ (65536 ≤ R → (Utf8.encode (R : Nat)).size = 4) := by
  have hval : Utf8.valid (R : Int) = true := by
    unfold Utf8.valid
    simp
    omega
  refine ⟨fun a b => ?_, fun a b => ?_, fun a => ?_⟩ <;> unfold Utf8.encode <;> simp only [hval, if_true, Int.toNat_natCast]
  · rw [if_neg (by omega), if_pos (by omega)]; rfl
  · rw [if_neg (by omega), if_neg (by omega), if_pos (by omega)]; rfl
  · rw [if_neg (by omega), if_neg (by omega), if_neg (by omega)]; rfl
theorem dec_high (T : List Nat) (i b off c : Nat) (w : World) (hU : Lib.Utf8Tabs 1 2 w) (hB : ∀ j, j < T.length → w.cell? ⟨b, off + j, none⟩ = some (.int .u8 (T.getD j 0 : Nat))) (hi : i < T.length) (hS : Small T) (hx : 128 ≤ T.getD i 0) :
    ∃ R K : Nat, 128 ≤ R ∧ R ≤ 1114111 ∧ 1 ≤ K ∧ K ≤ 4 ∧ i + K ≤ T.length ∧ (∀ j, i ≤ j → j < i + K → 128 ≤ T.getD j 0) ∧ (R ≠ 65533 → (Utf8.encode (R : Nat)).size = K ∧ 2 ≤ K) ∧
      ∀ n, n = T.length - i → Calls Tryz.prog 82 #[.slice (some ⟨b, off + i, none⟩) n c] w fun e w' => e = .returned (.tuple #[.int .i32 (R : Nat), .int .i64 (K : Nat)]) ∧ Below w.heap.size w w' := by
  obtain ⟨s, hs⟩ : ∃ s : ByteArray, s = ⟨((T.drop i).map UInt8.ofNat).toArray⟩ := ⟨_, rfl⟩
  have hsz : s.size = T.length - i := by rw [hs]; simp [ByteArray.size]
  have hget : ∀ j, i + j < T.length → (s.get! j).toNat = T.getD (i + j) 0 := fun j hj => by
    have h8 := hS (i + j) hj
    have hjs : j < s.size := by omega
    have e1 : s.get! j = UInt8.ofNat (T.getD (i + j) 0) := by
      rw [hs]
      simp only [ByteArray.get!]
      rw [getElem!_pos _ j (by simp; omega)]
      simp [List.getD_eq_getElem?_getD, List.getElem?_eq_getElem hj]
    rw [e1, UInt8.toNat_ofNat']
    exact Nat.mod_eq_of_lt h8
  have hlt : ∀ j, (s.get! j).toNat < 256 := fun j => UInt8.toNat_lt _
  have hdec : Lib.decodeGo s = Lib.decodeN (s.size - 0) (s.get! 0).toNat (s.get! (0 + 1)).toNat (s.get! (0 + 2)).toNat (s.get! (0 + 3)).toNat := by
    unfold Lib.decodeGo
    rw [if_neg (by omega), Lib.decode_at]
  have g0 := hget 0 (by omega)
  have hh := decodeN_high (s.size - 0) (s.get! 0).toNat (s.get! (0 + 1)).toNat (s.get! (0 + 2)).toNat (s.get! (0 + 3)).toNat (by omega) (by rw [g0]; exact hx) (hlt _) (hlt _) (hlt _) (hlt _)
  rw [← hdec] at hh
  obtain ⟨h1, h2, h3, h4, h5, h6, h7, h8, h9⟩ := hh
  refine ⟨(Lib.decodeGo s).1, (Lib.decodeGo s).2, h1, h2, h3, h4, by omega, fun j ha hb => ?_, fun hne => ?_, fun n hn => ?_⟩
  · rcases Nat.lt_or_ge j (i + 1) with q | q
    · obtain rfl : j = i := by omega
      exact hx
    · rcases Nat.lt_or_ge j (i + 2) with q2 | q2
      · obtain rfl : j = i + 1 := by omega
        rw [← hget 1 (by omega)]; exact h6 (by omega)
      · rcases Nat.lt_or_ge j (i + 3) with q3 | q3
        · obtain rfl : j = i + 2 := by omega
          rw [← hget 2 (by omega)]; exact h7 (by omega)
        · obtain rfl : j = i + 3 := by omega
          rw [← hget 3 (by omega)]; exact h8 (by omega)
  · rcases h9 hne with ⟨k, r⟩ | ⟨k, r1, r2, r3⟩ | ⟨k, r⟩
    · exact ⟨by rw [(encode_size _ h2 (by omega)).1 h1 r, k], by omega⟩
    · exact ⟨by rw [(encode_size _ h2 r3).2.1 r1 r2, k], by omega⟩
    · exact ⟨by rw [(encode_size _ h2 (by omega)).2.2 r, k], by omega⟩
  · subst hn
    rw [← hsz]
    exact decode_any s b (off + i) c w hU (fun j hj => by rw [Nat.add_assoc, hB (i + j) (by omega), hget j (by omega)])
theorem encode_head (R : Nat) (h : 128 ≤ R) : ∃ x, (Utf8.encode (R : Nat)).data.toList[0]? = some x ∧ 128 ≤ x.toNat := by
  unfold Utf8.encode
  have key : ∀ c : Nat, 128 ≤ c → c ≤ 1114111 → ∃ x, (if c < 0x80 then (⟨#[UInt8.ofNat c]⟩ : ByteArray) else if c < 0x800 then ⟨#[UInt8.ofNat (0xC0 + c / 64), UInt8.ofNat (0x80 + c % 64)]⟩ else if c < 0x10000 then ⟨#[UInt8.ofNat (0xE0 + c / 4096), UInt8.ofNat (0x80 + c / 64 % 64), UInt8.ofNat (0x80 + c % 64)]⟩ else ⟨#[UInt8.ofNat (0xF0 + c / 262144), UInt8.ofNat (0x80 + c / 4096 % 64), UInt8.ofNat (0x80 + c / 64 % 64), UInt8.ofNat (0x80 + c % 64)]⟩).data.toList[0]? = some x ∧ 128 ≤ x.toNat := fun c hc hc2 => by
    rw [if_neg (by omega)]
    split
    · exact ⟨_, rfl, by rw [UInt8.toNat_ofNat']; omega⟩
    · split
      · exact ⟨_, rfl, by rw [UInt8.toNat_ofNat']; omega⟩
      · exact ⟨_, rfl, by rw [UInt8.toNat_ofNat']; omega⟩
  by_cases hv : Utf8.valid (R : Int) = true
  · simp only [hv, if_true, Int.toNat_natCast]
    refine key R h ?_
    unfold Utf8.valid at hv
    simp at hv
    omega
  · simp only [hv]
    exact key 65533 (by decide) (by decide)
end Go.Proofs.YtecfgbjnjgjkoaaGreatDoor
namespace Go.Proofs.YtecfgbjnjgjkoaaGreatDoor
open Go.ChangeShapes Go.WideShapes Go.ChangeAt Go.RowKit
set_option linter.unusedVariables false
set_option linter.unusedSimpArgs false
set_option maxRecDepth 20000
set_option maxHeartbeats 8000000

theorem eol_is (E : ByteArray) (w : World) (M : Int) (hm : w.cell? ⟨0, 0, none⟩ = some (.int .i64 M)) (h3 : 3 ≤ E.size) (hM : (E.size : Int) ≤ M) : (Extern.BytealgIndex.index #[.string ⟨#[13, 10]⟩, .string E]).run Tryz.prog w = .ok (.int .i64 (-1)) w := by
  rw [Lib.run_indexString ⟨#[13, 10]⟩ E w 0 M (by kernel_rfl) hm (by omega) hM (by decide), ← Lib.find_index ⟨#[13, 10]⟩ E (by omega)]
  have : (⟨#[13, 10]⟩ : ByteArray).size + 1 - E.size = 0 := by show 2 + 1 - E.size = 0; omega
  rw [this]
  rfl
theorem crlf_step (T : List Nat) (i : Nat) (h : crlf (T.take i) = false) (k : Nat) (hk : ∀ j, i ≤ j → j < i + k → (T.getD j 0 == 13 || T.getD j 0 == 10) = false) (hl : i + k ≤ T.length) : crlf (T.take (i + k)) = false := by
  induction k with
  | zero => exact h
  | succ k ih =>
    have h1 := ih (fun j ha hb => hk j ha (by omega)) (by omega)
    unfold crlf at h1 ⊢
    rw [← Nat.add_assoc, List.take_add_one, List.any_append, h1]
    have := hk (i + k) (by omega) (by omega)
    rw [List.getElem?_eq_getElem (by omega)]
    rw [List.getD_eq_getElem?_getD, List.getElem?_eq_getElem (by omega)] at this
    simpa using this
theorem crlf_hit (T : List Nat) (i : Nat) (hi : i < T.length) (h : (T.getD i 0 == 13 || T.getD i 0 == 10) = true) : crlf T = true := by
  unfold crlf
  rw [List.any_eq_true]
  refine ⟨T.getD i 0, ?_, h⟩
  rw [List.getD_eq_getElem?_getD, List.getElem?_eq_getElem hi]
  exact List.getElem_mem hi
def UOk (w : World) : Prop := Lib.Utf8Tabs 1 2 w ∧ (∃ M : Int, w.cell? ⟨0, 0, none⟩ = some (.int .i64 M)) ∧ 2 < w.heap.size
theorem UOk.below : StaysB UOk := fun w w' ⟨⟨h1, h2⟩, ⟨M, hM⟩, hs⟩ hb => ⟨⟨fun c hc => by rw [hb.cell (p := ⟨1, c, none⟩) (by show 1 < _; omega)]; exact h1 c hc, fun i hi => ⟨by rw [hb.cell (p := ⟨2, 2 * i, none⟩) (by show 2 < _; omega)]; exact (h2 i hi).1, by rw [hb.cell (p := ⟨2, 2 * i + 1, none⟩) (by show 2 < _; omega)]; exact (h2 i hi).2⟩⟩, ⟨M, by rw [hb.cell (p := ⟨0, 0, none⟩) (by show 0 < _; omega)]; exact hM⟩, Nat.lt_of_lt_of_le hs hb.size⟩
theorem should_no (n : Nat) (h8 : n ≤ 8) (W : World) : Calls Tryz.prog 79 #[.int .i64 (n : Nat)] W fun e w' => e = .returned (.bool false) ∧ w' = W := by
  have g1 : decide ((n : Int) > 8) = false := decide_eq_false (by omega)
  have g2 : decide ((8 : Int) < (n : Int)) = false := decide_eq_false (by omega)
  have g3 : decide (8 < n) = false := decide_eq_false (by omega)
  go_enter Tryz.func79, Tryz.ntmps79
  go_wp2
  go_ret
  exact ⟨rfl, rfl⟩
theorem should_yes (n : Nat) (h8 : 8 < n) (W : World) : Calls Tryz.prog 79 #[.int .i64 (n : Nat)] W fun e w' => e = .returned (.bool true) ∧ w' = W := by
  have g1 : decide ((n : Int) > 8) = true := decide_eq_true (by omega)
  have g2 : decide ((8 : Int) < (n : Int)) = true := decide_eq_true (by omega)
  have g3 : decide (8 < n) = true := decide_eq_true (by omega)
  go_enter Tryz.func79, Tryz.ntmps79
  go_wp2
  go_ret
  exact ⟨rfl, rfl⟩
theorem idx_short (w : World) (a : Option Addr) (c n : Nat) (T : List Nat) (hn : n = T.length) (hU : UOk w) (hB : Bytes w a T) (hS : Small T) (h1 : n ≠ 1) (h8 : n ≤ 8) (hc : n ≤ c) :
    Calls Tryz.prog 57 #[.slice a n c, .string ⟨#[13, 10]⟩] w fun e w' => ∃ r : Int, e = .returned (.int .i64 r) ∧ Hid (decide (0 ≤ r) = crlf T) ∧ Below w.heap.size w w' := by
  have f1 : ((n : Int) == 1) = false := by rw [beq_eq_false_iff_ne]; omega
  have f1b : (n == 1) = false := by rw [beq_eq_false_iff_ne]; omega
  have SH : Hid (∀ W : World, Calls Tryz.prog 79 #[.int .i64 (n : Nat)] W fun e w' => e = .returned (.bool false) ∧ w' = W) := hide (fun W => should_no n h8 W)
  have HU := hide hU
  have HB := hide hB
  have HS := hide hS
  have HN := hide hn
  clear hU hB hS hn
  go_enter Tryz.func57, Tryz.ntmps57
  go_wp2_with (go_at_call 79; refine (unhide SH _).mono ?_; rintro e w1 ⟨rfl, hw1⟩; obtain rfl := hw1.symm)
  go_loopw [11, 12] (fun wv iv wr => ∃ (i k : Nat), wv = .int .i64 (k : Nat) ∧ iv = .int .i64 (i : Nat) ∧ i ≤ n ∧ Hid (crlf (T.take i) = false) ∧ Hid (Below w.heap.size w wr)) (fun _ iv _ => n - (intOf iv).toNat)
  case atStart => exact ⟨0, 0, rfl, rfl, Nat.zero_le _, hide (by simp [crlf]), hide (Below.refl _ _)⟩
  case round =>
    obtain ⟨i, k, rfl, rfl, hi, hcr, p⟩ := hrel
    rcases Nat.lt_or_ge i n with hlt | hge
    rotate_left
    · obtain rfl : i = n := by omega
      have g0 : decide ((i : Int) < (i : Int)) = false := decide_eq_false (by omega)
      go_wp2
      go_ret
      refine ⟨_, rfl, hide ?_, unhide p⟩
      have := unhide hcr
      rw [unhide HN, List.take_length] at this
      rw [this]
      rfl
    have g0 : decide ((i : Int) < (n : Int)) = true := decide_eq_true (by omega)
    have y1 : (0 : Int) ≤ (i : Int) := by omega
    have y2 : (i : Int) < (n : Int) := by omega
    have y3 : (i : Int) ≤ (n : Int) := by omega
    have y4 : (n : Int) ≤ (c : Int) := by omega
    have hNT := unhide HN
    obtain ⟨b, off, rfl, hb, hcell⟩ : ∃ b off, a = some ⟨b, off, none⟩ ∧ b < w.heap.size ∧ ∀ i, i < T.length → w.cell? ⟨b, off + i, none⟩ = some (.int .u8 (T.getD i 0 : Nat)) := by
      rcases unhide HB with h | h
      · rw [h] at hNT; simp at hNT; omega
      · exact h
    obtain ⟨x, hx⟩ : ∃ x, x = T.getD i 0 := ⟨_, rfl⟩
    have hx8 : x < 256 := by rw [hx]; exact unhide HS i (by omega)
    have c1 : wr.cell? ⟨b, off + i, none⟩ = some (.int .u8 (x : Nat)) := by rw [(unhide p).cell hb, hcell i (by omega), hx]
    rcases Nat.lt_or_ge x 128 with hlo | hhi
    · have g1 : decide ((x : Int) < 128) = true := decide_eq_true (by omega)
      have g1b : decide (x < 128) = true := decide_eq_true hlo
      obtain ⟨r, hr, hr2⟩ := eol_ib x hx8
      by_cases q : 0 ≤ r
      · have g2 : decide (0 ≤ r) = true := decide_eq_true q
        have g3 : decide (r ≥ 0) = true := decide_eq_true q
        have HQ : Hid (crlf T = true) := hide (crlf_hit T i (by omega) (by rw [← hx, ← hr2, g2]))
        clear hr2 hcell hx hNT
        go_wp2
        rw [run_callFunc_extern Tryz.func77 (by kernel_rfl) (by kernel_rfl) (by kernel_rfl) (e := Extern.BytealgIndexByte.indexByte) (by kernel_rfl), hr]
        simp only [Result.andThen]
        rw [Oper.upon_value]
        go_wp2
        all_goals go_ret
        all_goals exact ⟨_, rfl, hide (by rw [unhide HQ]; exact decide_eq_true (Int.natCast_nonneg i)), unhide p⟩
      · have g2 : decide (0 ≤ r) = false := decide_eq_false q
        have g3 : decide (r ≥ 0) = false := decide_eq_false q
        have HQ : Hid (crlf (T.take (i + 1)) = false) := hide (crlf_step T i (unhide hcr) 1 (fun j ha hb => by
          obtain rfl : j = i := (by omega)
          rw [← hx, ← hr2, g2]) (by omega))
        clear hr2 hcell hx hNT
        go_wp2
        rw [run_callFunc_extern Tryz.func77 (by kernel_rfl) (by kernel_rfl) (by kernel_rfl) (e := Extern.BytealgIndexByte.indexByte) (by kernel_rfl), hr]
        simp only [Result.andThen]
        rw [Oper.upon_value]
        go_wp2
        all_goals go_roundw
        case rel => exact ⟨i + 1, 1, rfl, by go_num, by omega, HQ, p⟩
        case measure => simp [intOf]; omega
    · have g1 : decide ((x : Int) < 128) = false := decide_eq_false (by omega)
      have g1b : decide (x < 128) = false := decide_eq_false (by omega)
      obtain ⟨U1, ⟨M, hM⟩, U3⟩ := UOk.below w wr (unhide HU) (unhide p)
      obtain ⟨R, K, r1, r2, r3, r4, r5, r6, r7, r8⟩ := dec_high T i b off (c - i) wr U1 (fun j hj => by rw [(unhide p).cell hb, hcell j hj]) (by omega) (unhide HS) (by rw [← hx]; exact hhi)
      have HQ : Hid (crlf (T.take (i + K)) = false) := hide (crlf_step T i (unhide hcr) K (fun j ha hb => by
        have := r6 j ha hb
        rw [Bool.or_eq_false_iff]; constructor <;> (rw [beq_eq_false_iff_ne]; omega)) r5)
      have CD : Hid (Calls Tryz.prog 82 #[.slice (some ⟨b, off + i, none⟩) (n - i) (c - i)] wr fun e w' => e = .returned (.tuple #[.int .i32 (R : Nat), .int .i64 (K : Nat)]) ∧ Hid (Below w.heap.size w w') ∧ w'.cell? ⟨0, 0, none⟩ = some (.int .i64 M)) := hide ((r8 (n - i) (by omega)).mono (fun e w' ⟨h1, h2⟩ => ⟨h1, hide ((unhide p).trans (h2.mono (unhide p).size)), by rw [h2.cell (p := ⟨0, 0, none⟩) (by show 0 < _; omega)]; exact hM⟩))
      have hiK : i + K ≤ n := by omega
      -- the look at the two bytes, one by one
      have hr13 : ((R : Int) == 13) = false := by rw [beq_eq_false_iff_ne]; omega
      have hr10 : ((R : Int) == 10) = false := by rw [beq_eq_false_iff_ne]; omega
      clear hcell hx r8 hM U1 hNT r5 r6
      by_cases hR : R = 65533
      · subst hR
        clear r7 hr13 hr10
        go_wp2_with (go_at_call 82; refine (unhide CD).mono ?_; rintro e w5 ⟨rfl, k5, m5⟩)
        go_loopw [15] (fun _ w' => ∃ pos : Nat, w' = w5.iter ⟨#[13, 10]⟩ pos ∧ pos ≤ 2) (fun _ w' => 2 - w'.iterPos w5.heap.size)
        case atStart => exact ⟨0, rfl, by omega⟩
        case round =>
          obtain ⟨pos, rfl, hp⟩ := hrel
          rcases Nat.lt_or_ge pos 2 with h2 | h2
          · have hnx := fun ty => eol_next w5 pos ty h2
            have hne : ((65533 : Int) == ((if pos = 0 then 13 else 10 : Nat) : Int)) = false := by split <;> (rw [beq_eq_false_iff_ne]; omega)
            generalize ((if pos = 0 then 13 else 10 : Nat) : Int) = q at *
            go_wp2
            all_goals go_roundw
            all_goals first | exact ⟨pos + 1, rfl, by omega⟩ | (simp; omega)
          · have hnx : ∀ ty, (Instr.next (.pointer (some ⟨w5.heap.size, 0, none⟩)) true ty).run Tryz.prog (w5.iter ⟨#[13, 10]⟩ pos) = _ := fun ty => run_next_end w5 ⟨#[13, 10]⟩ pos ty (by show ¬ pos < 2; omega)
            have P5 : Hid (Below w.heap.size w (w5.iter ⟨#[13, 10]⟩ pos)) := hide ((unhide k5).alloc (unhide k5).size _)
            go_wp2
            go_roundw
            case rel => exact ⟨i + K, K, rfl, by go_num, by omega, HQ, P5⟩
            case measure => simp [intOf]; omega
      · obtain ⟨hEs, hK2⟩ := r7 hR
        obtain ⟨eh, he1, he2⟩ := encode_head R r1
        have hne1 : ((R : Int) == 65533) = false := by rw [beq_eq_false_iff_ne]; omega
        have hne2 : (R == 65533) = false := by rw [beq_eq_false_iff_ne]; omega
        have hne3 : ((R : Int) != 65533) = true := by rw [bne, hne1]; rfl
        obtain ⟨E, hE⟩ : ∃ E, E = Utf8.encode (R : Nat) := ⟨_, rfl⟩
        have hconv : ∀ W, (convert 21 9 (.int .i32 (R : Nat))).run Tryz.prog W = .ok (.string E) W := fun W => by rw [hE]; exact run_convert_int_string W 21 9 .i32 (R : Nat) (by rw [Tryz.underlying21]; rfl) Tryz.underlying9
        rw [← hE] at hEs he1
        have q1 : (([13, 10] : List UInt8) == E.toList) = false := by
          rw [beq_eq_false_iff_ne]
          intro h
          rw [Lib.toList_data] at h
          rw [← h] at he1
          cases he1
          exact absurd he2 (by decide)
        clear hE he1 he2
        by_cases hk2 : K = 2
        · subst hk2
          go_wp2_with (go_at_call 82; refine (unhide CD).mono ?_; rintro e w5 ⟨rfl, k5, m5⟩)
          all_goals go_roundw
          all_goals first | exact ⟨i + 2, 2, rfl, by go_num, by omega, HQ, k5⟩ | (simp [intOf]; omega)
        · have hk3 : ((2 : Int) == (K : Int)) = false := by rw [beq_eq_false_iff_ne]; omega
          have hk4 : (2 == K) = false := by rw [beq_eq_false_iff_ne]; omega
          by_cases hMK : (K : Int) ≤ M
          · have m1 : decide (M ≥ (K : Int)) = true := decide_eq_true hMK
            have m2 : decide ((K : Int) ≤ M) = true := decide_eq_true hMK
            go_wp2_with (go_at_call 82; refine (unhide CD).mono ?_; rintro e w5 ⟨rfl, k5, m5⟩)
            rw [run_callFunc_extern Tryz.func83 (by kernel_rfl) (by kernel_rfl) (by kernel_rfl) (e := Extern.BytealgIndex.index) (by kernel_rfl), eol_is E w5 M m5 (by omega) (by omega)]
            simp only [Result.andThen]
            rw [Oper.upon_value]
            go_wp2
            all_goals go_roundw
            all_goals first | exact ⟨i + K, K, rfl, by go_num, by omega, HQ, k5⟩ | (simp [intOf]; omega)
          · have m1 : decide (M ≥ (K : Int)) = false := decide_eq_false hMK
            have m2 : decide ((K : Int) ≤ M) = false := decide_eq_false hMK
            go_wp2_with (go_at_call 82; refine (unhide CD).mono ?_; rintro e w5 ⟨rfl, k5, m5⟩)
            go_loopw [15] (fun _ w' => ∃ pos : Nat, w' = w5.iter ⟨#[13, 10]⟩ pos ∧ pos ≤ 2) (fun _ w' => 2 - w'.iterPos w5.heap.size)
            case atStart => exact ⟨0, rfl, by omega⟩
            case round =>
              obtain ⟨pos, rfl, hp⟩ := hrel
              rcases Nat.lt_or_ge pos 2 with h2 | h2
              · have hnx := fun ty => eol_next w5 pos ty h2
                have hne : ((R : Int) == ((if pos = 0 then 13 else 10 : Nat) : Int)) = false := by
                  split
                  · exact hr13
                  · exact hr10
                generalize ((if pos = 0 then 13 else 10 : Nat) : Int) = q at *
                go_wp2
                all_goals go_roundw
                all_goals first | exact ⟨pos + 1, rfl, by omega⟩ | (simp; omega)
              · have hnx : ∀ ty, (Instr.next (.pointer (some ⟨w5.heap.size, 0, none⟩)) true ty).run Tryz.prog (w5.iter ⟨#[13, 10]⟩ pos) = _ := fun ty => run_next_end w5 ⟨#[13, 10]⟩ pos ty (by show ¬ pos < 2; omega)
                have P5 : Hid (Below w.heap.size w (w5.iter ⟨#[13, 10]⟩ pos)) := hide ((unhide k5).alloc (unhide k5).size _)
                go_wp2
                go_roundw
                case rel => exact ⟨i + K, K, rfl, by go_num, by omega, HQ, P5⟩
                case measure => simp [intOf]; omega
end Go.Proofs.YtecfgbjnjgjkoaaGreatDoor
namespace Go.Proofs.YtecfgbjnjgjkoaaGreatDoor
open Go.ChangeShapes Go.WideShapes Go.ChangeAt Go.RowKit
set_option linter.unusedVariables false
set_option linter.unusedSimpArgs false
set_option maxRecDepth 100000
set_option maxHeartbeats 4000000

theorem results_cellT {P : Program} {fn : Func} {p q : Tmp} {ty : TypeId} (h : fn.results = #[.cell p ty, .tmp q]) (tmps : Array Value) (w : World) (g : Nat) (t : TypeId) (cs : Array Value) (fr : Nat × Nat) (d : TypeDesc)
    (hp : tmps.getD p undef = .pointer (some ⟨g, 0, none⟩)) (hg : w.heap[g]? = some (.cells cs t fr))
    (hu : P.underlying ty = some d) (hd : (match d with | .struct _ | .array _ _ => true | _ => false) = true) (hi : (P.info? ty).map (·.size) = some cs.size) (v : Value) (hv : tmps.getD q undef = v) :
    (results fn tmps).run P w = .ok (.tuple #[.agg cs, v]) w := by
  have hp' : tmps[p]?.getD undef = .pointer (some ⟨g, 0, none⟩) := by simpa using hp
  have hv' : tmps[q]?.getD undef = v := by simpa using hv
  simp [results, h, hp', hv', asAddr, run_loadVar_row w g t ty cs fr d hg hu hd hi]
/-- an empty set -/
def zs : Array Value := Array.replicate 256 (.bool false)
theorem zs_size : zs.size = 256 := by unfold zs; simp
theorem zs_at (k : Nat) (h : k < 256) : zs[k]? = some (.bool false) := by unfold zs; simp [h]
theorem Tryz.zero123 : (Tryz.prog.info? 123).map (fun i => (i.zero, i.size, i.bytes)) = some (some (.agg zs), 256, 256) := by kernel_rfl
theorem size123 {C : Array Value} (h : C.size = 256) : (Tryz.prog.info? 123).map (fun i => i.size) = some C.size := by rw [h]; kernel_rfl
structure IsA (C : Array Value) (f : Nat → Bool) : Prop where
  size : C.size = 256
  has : ∀ k, k < 256 → C[k]? = some (.bool (f k))
theorem IsA.zero : IsA zs (fun _ => false) := ⟨zs_size, fun k hk => zs_at _ hk⟩
theorem IsA.one {C : Array Value} {f : Nat → Bool} (h : IsA C f) : C.all (fun v => v.oneCell') = true := by
  rw [Array.all_eq_true]
  intro i hi
  have hs := h.size
  have := h.has i (by omega)
  rw [Array.getElem?_eq_getElem hi] at this
  rw [Option.some.inj this]; rfl
theorem IsA.set {C : Array Value} {f : Nat → Bool} (h : IsA C f) (k : Nat) (hk : k < 256) : IsA (C.setIfInBounds k (.bool true)) (fun c => c == k || f c) := by
  have hs := h.size
  refine ⟨by simpa using hs, fun c hc => ?_⟩
  rw [Array.getElem?_setIfInBounds]
  by_cases e : k = c
  · subst e; rw [if_pos rfl, if_pos (by omega)]; simp
  · rw [if_neg e, h.has c hc]
    have : (c == k) = false := by rw [beq_eq_false_iff_ne]; omega
    rw [this]; rfl
section
variable {ops : Array Oper} {rest : List Oper} {o : Oper} {a : Act} {w : World} {Q : Exit → Act → World → Prop}
theorem wpList_alloc123 (hgd : o.guard = none) (ho : o.op = .alloc 123) (g : Nat) (hg : w.heap.size = g)
    (h : ∀ w', Hid (w'.heap[g]? = some (.cells zs 123 (0, 0)) ∧ w'.heap.size = g + 1 ∧ Below g w w') → wpList Tryz.prog ops Q rest (a.put o.dst (.pointer (some ⟨g, 0, none⟩))) w') : wpList Tryz.prog ops Q (o :: rest) a w := by
  subst hg
  obtain ⟨i, hi, h1⟩ := Option.map_eq_some_iff.1 Tryz.zero123
  simp only [Prod.mk.injEq] at h1
  refine wpList_plain hgd fun _ hK => ?_
  have hr : (execOp a.eval o).run Tryz.prog w = .ok (.value (.pointer (some ⟨w.heap.size, 0, none⟩))) (w.alloc (.cells zs 123)) := by
    unfold execOp
    simp only [ho]
    simp [Instr.alloc, zeroValue, typeInfo, hi, h1.1, newVar, newRow, Value.cells]
  unfold Oper.wp
  rw [hr, Oper.upon_value]
  exact hK _ _ (h _ (hide ⟨heap_alloc_last w _, by simp, (Below.refl _ _).alloc (Nat.le_refl _) _⟩))
theorem wpList_store123 (hgd : o.guard = none) (x y : Operand) (ho : o.op = .store 123 x y) (hd : o.dst = none) (g : Nat) (C : Array Value) (hx : a.eval x = .pointer (some ⟨g, 0, none⟩)) (hy : a.eval y = .agg C)
    (old : Array Value) (hg : w.heap[g]? = some (.cells old 123 (0, 0))) (hs : C.size = 256) (hold : old.size = 256) (h1 : C.all (fun v => v.oneCell') = true)
    (h : ∀ w', Hid (w'.heap[g]? = some (.cells C 123 (0, 0)) ∧ Kept (fun b => b = g) w w') → wpList Tryz.prog ops Q rest a w') : wpList Tryz.prog ops Q (o :: rest) a w :=
  wpList_store_rowTo hgd 123 x y ho hd g C hx hy 123 old hg (size123 hs) (by omega) h1 (h _ (hide ⟨setRow_heap w g old C 123 _ hg, ⟨rfl, rfl, rfl, by simp [World.setRow], fun k _ hk => setRow_other w g k _ hk⟩⟩))
theorem wpList_load123 (hgd : o.guard = none) (x : Operand) (ho : o.op = .load 123 x) (g : Nat) (hx : a.eval x = .pointer (some ⟨g, 0, none⟩)) (C : Array Value) (hg : w.heap[g]? = some (.cells C 123 (0, 0))) (hs : C.size = 256)
    (h : wpList Tryz.prog ops Q rest (a.put o.dst (.agg C)) w) : wpList Tryz.prog ops Q (o :: rest) a w :=
  wpList_load_row hgd 123 x ho g hx 123 C (0, 0) _ hg Tryz.underlying123 rfl (size123 hs) h
end
/-- the set while it is made -/
structure Mst (w wr : World) (C : Array Value) (f : Nat → Bool) : Prop where
  blk : wr.heap[w.heap.size]? = some (.cells C 123 (0, 0))
  bel : Below w.heap.size w wr
  is : IsA C f
theorem Mst.put {w wr : World} {C : Array Value} {f : Nat → Bool} (h : Mst w wr C f) (k : Nat) (hk : k < 256) : Mst w (wr.setCell ⟨w.heap.size, k, none⟩ (.bool true)) (C.setIfInBounds k (.bool true)) (fun c => c == k || f c) :=
  ⟨setCell_block wr _ k _ C 123 _ h.blk, h.bel.trans ⟨rfl, rfl, rfl, by simp, fun b hb => setCell_else wr _ _ b _ (by omega)⟩, h.is.set k hk⟩
theorem make_set (w : World) : Calls Tryz.prog 80 #[.string ⟨#[13, 10]⟩] w fun e w' => ∃ C, e = .returned (.tuple #[.agg C, .bool true]) ∧ Hid (Below w.heap.size w w' ∧ IsA C (fun c => c == 10 || (c == 13 || false))) := by
  go_enter Tryz.func80, Tryz.ntmps80
  go_wp2_with (refine wpList_alloc123 rfl rfl w.heap.size rfl ?_; intro w1 k1)
  have M0 : Hid (Mst w w1 zs (fun _ => false)) := hide ⟨(unhide k1).1, (unhide k1).2.2, IsA.zero⟩
  go_loopw [4] (fun iv wr => (iv = .int .i64 0 ∧ Hid (Mst w wr zs (fun _ => false))) ∨ (iv = .int .i64 1 ∧ ∃ C, Hid (Mst w wr C (fun c => c == 13 || false))) ∨ (iv = .int .i64 2 ∧ ∃ C, Hid (Mst w wr C (fun c => c == 10 || (c == 13 || false))))) (fun iv _ => 2 - (intOf iv).toNat)
  case atStart => exact .inl ⟨rfl, M0⟩
  case round =>
    clear M0 k1
    rcases hrel with ⟨rfl, m⟩ | ⟨rfl, C, m⟩ | ⟨rfl, C, m⟩
    · have c1 : wr.cell? ⟨w.heap.size, 13, none⟩ = some (.bool false) := by rw [cell_of_row _ _ _ _ _ _ (unhide m).blk]; exact (unhide m).is.has 13 (by decide)
      have c2 : wr.frozen? ⟨w.heap.size, 13, none⟩ = false := by simp only [World.frozen?, (unhide m).blk]; simp
      have N := hide ((unhide m).put 13 (by decide))
      have e0 : (({ data := #[13, 10] } : ByteArray)[0]'(by decide)).toNat = 13 := rfl
      go_wp2
      all_goals go_roundw
      all_goals first | exact .inr (.inl ⟨rfl, _, N⟩) | (simp [intOf])
    · have c1 : wr.cell? ⟨w.heap.size, 10, none⟩ = some (.bool false) := by rw [cell_of_row _ _ _ _ _ _ (unhide m).blk]; exact (unhide m).is.has 10 (by decide)
      have c2 : wr.frozen? ⟨w.heap.size, 10, none⟩ = false := by simp only [World.frozen?, (unhide m).blk]; simp
      have N := hide ((unhide m).put 10 (by decide))
      have e0 : (({ data := #[13, 10] } : ByteArray)[1]'(by decide)).toNat = 10 := rfl
      go_wp2
      all_goals go_roundw
      all_goals first | exact .inr (.inr ⟨rfl, _, N⟩) | (simp [intOf])
    · go_wp2_with (first
        | (refine wpList_load123 rfl _ rfl w.heap.size rfl C (unhide m).blk (unhide m).is.size ?_)
        | (refine wpList_store123 rfl _ _ rfl rfl w.heap.size C rfl rfl C (unhide m).blk (unhide m).is.size (unhide m).is.size (unhide m).is.one ?_; intro w6 k6))
      all_goals refine bodyPost_ret (results_cellT (p := 2) (q := 3) (ty := 123) rfl _ _ w.heap.size 123 C (0, 0) _ rfl (unhide k6).1 Tryz.underlying123 rfl (size123 (unhide m).is.size) _ rfl) rfl ?_
      all_goals exact ⟨C, rfl, hide ⟨(unhide m).bel.trans ⟨(unhide k6).2.os, (unhide k6).2.tape, (unhide k6).2.output, (unhide k6).2.size, fun b hb => (unhide k6).2.blk b (Nat.lt_of_lt_of_le hb (unhide m).bel.size) (by omega)⟩, (unhide m).is⟩⟩
theorem contains_any (w : World) (g x : Nat) (C : Array Value) (f : Nat → Bool) (hx : x < 256) (hg : w.heap[g]? = some (.cells C 123 (0, 0))) (hC : IsA C f) : Calls Tryz.prog 81 #[.pointer (some ⟨g, 0, none⟩), .int .u8 (x : Nat)] w fun e w' => e = .returned (.bool (f x)) ∧ w' = w := by
  have c1 : w.cell? ⟨g, x, none⟩ = some (.bool (f x)) := by rw [cell_of_row _ _ _ _ _ _ hg]; exact hC.has x hx
  have y1 : (0 : Int) ≤ (x : Int) := by omega
  have y2 : (x : Int) < 256 := by omega
  clear hg hC
  generalize f x = q at *
  go_enter Tryz.func81, Tryz.ntmps81
  go_wp2
  go_ret
  exact ⟨rfl, rfl⟩
theorem idx_long (w : World) (b off c n : Nat) (T : List Nat) (hn : n = T.length) (hb : b < w.heap.size) (hB : ∀ j, j < T.length → w.cell? ⟨b, off + j, none⟩ = some (.int .u8 (T.getD j 0 : Nat))) (hS : Small T) (h8 : 8 < n) (hc : n ≤ 1073741824) :
    Calls Tryz.prog 57 #[.slice (some ⟨b, off, none⟩) n c, .string ⟨#[13, 10]⟩] w fun e w' => ∃ r : Int, e = .returned (.int .i64 r) ∧ Hid (decide (0 ≤ r) = crlf T) ∧ Below w.heap.size w w' := by
  have f1 : ((n : Int) == 1) = false := by rw [beq_eq_false_iff_ne]; omega
  have f1b : (n == 1) = false := by rw [beq_eq_false_iff_ne]; omega
  have SH : Hid (∀ W : World, Calls Tryz.prog 79 #[.int .i64 (n : Nat)] W fun e w' => e = .returned (.bool true) ∧ w' = W) := hide (fun W => should_yes n h8 W)
  have CM : Hid (Calls Tryz.prog 80 #[.string ⟨#[13, 10]⟩] w fun e w' => ∃ C, e = .returned (.tuple #[.agg C, .bool true]) ∧ Hid (Below w.heap.size w w' ∧ IsA C (fun c => c == 10 || (c == 13 || false)))) := hide (make_set w)
  have HB := hide hB
  have HS := hide hS
  have HN := hide hn
  clear hB hS hn
  go_enter Tryz.func57, Tryz.ntmps57
  go_wp2_with (first
    | (go_at_call 79; refine (unhide SH _).mono ?_; rintro e w1 ⟨rfl, hw1⟩; obtain rfl := hw1.symm)
    | (go_at_call 80; refine (unhide CM).mono ?_; rintro e w2 ⟨C, rfl, k2⟩)
    | (refine wpList_alloc123 rfl rfl w2.heap.size rfl ?_; intro w3 k3)
    | (refine wpList_store123 rfl _ _ rfl rfl w2.heap.size C rfl rfl zs (unhide k3).1 (unhide k2).2.size zs_size (unhide k2).2.one ?_; intro w4 k4))
  have HG : Hid (w4.heap[w2.heap.size]? = some (.cells C 123 (0, 0)) ∧ Below w.heap.size w w4 ∧ IsA C (fun c => c == 10 || (c == 13 || false))) := hide ⟨(unhide k4).1, ((unhide k2).1.trans ((unhide k3).2.2.mono (unhide k2).1.size)).trans ⟨(unhide k4).2.os, (unhide k4).2.tape, (unhide k4).2.output, (unhide k4).2.size, fun b hb => (unhide k4).2.blk b (by have := (unhide k2).1.size; have := (unhide k3).2.1; omega) (by have := (unhide k2).1.size; omega)⟩, (unhide k2).2⟩
  clear k2 k3 k4
  go_loopw [62] (fun iv wr => ∃ i : Nat, iv = .int .i64 (i : Nat) ∧ i ≤ n ∧ Hid (crlf (T.take i) = false) ∧ wr = w4) (fun iv _ => n - (intOf iv).toNat)
  case atStart => exact ⟨0, rfl, Nat.zero_le _, hide (by simp [crlf]), rfl⟩
  case round =>
    obtain ⟨i, rfl, hi, hcr, rfl⟩ := hrel
    rcases Nat.lt_or_ge i n with hlt | hge
    · have g0 : decide ((i : Int) < (n : Int)) = true := decide_eq_true (by omega)
      have y1 : (0 : Int) ≤ (i : Int) := by omega
      have y2 : (i : Int) < (n : Int) := by omega
      have hNT := unhide HN
      obtain ⟨x, hx⟩ : ∃ x, x = T.getD i 0 := ⟨_, rfl⟩
      have hx8 : x < 256 := by rw [hx]; exact unhide HS i (by omega)
      have c1 : wr.cell? ⟨b, off + i, none⟩ = some (.int .u8 (x : Nat)) := by rw [(unhide HG).2.1.cell hb, unhide HB i (by omega), hx]
      have CC : Hid (Calls Tryz.prog 81 #[.pointer (some ⟨w2.heap.size, 0, none⟩), .int .u8 (x : Nat)] wr fun e w' => ∃ q, e = .returned (.bool q) ∧ Hid (q = (x == 10 || (x == 13 || false))) ∧ w' = wr) := hide ((contains_any wr w2.heap.size x C _ hx8 (unhide HG).1 (unhide HG).2.2).mono (fun e w' ⟨h1, h2⟩ => ⟨_, h1, hide rfl, h2⟩))
      have H1 : Hid ((x == 10 || (x == 13 || false)) = true → crlf T = true) := hide (fun h => crlf_hit T i (by omega) (by rw [← hx]; simpa [Bool.or_comm] using h))
      have H0 : Hid ((x == 10 || (x == 13 || false)) = false → crlf (T.take (i + 1)) = false) := hide (fun h => crlf_step T i (unhide hcr) 1 (fun j ha hb => by
          obtain rfl : j = i := (by omega)
          rw [← hx]; simpa [Bool.or_comm, and_comm] using h) (by omega))
      clear hNT hx
      go_wp2_with (go_at_call 81; refine (unhide CC).mono ?_; rintro e w5 ⟨q, rfl, hq, h5⟩; obtain rfl := h5.symm; cases q)
      · go_roundw
        case rel => exact ⟨i + 1, by go_num, by omega, hide (unhide H0 (unhide hq).symm), by first | rfl | trivial⟩
        case measure => simp [intOf]; omega
      · go_ret
        exact ⟨_, rfl, hide (by rw [unhide H1 (unhide hq).symm]; exact decide_eq_true (Int.natCast_nonneg i)), (unhide HG).2.1⟩
    · obtain rfl : i = n := by omega
      have g0 : decide ((i : Int) < (i : Int)) = false := decide_eq_false (by omega)
      go_wp2
      go_ret
      refine ⟨_, rfl, hide ?_, (unhide HG).2.1⟩
      have := unhide hcr
      rw [unhide HN, List.take_length] at this
      rw [this]
      rfl
theorem cta_any : CtaOk UOk := by
  intro w a c T hU hB hS hl hc
  have IX : Hid (Calls Tryz.prog 57 #[.slice a T.length c, .string ⟨#[13, 10]⟩] w fun e w' => ∃ r : Int, e = .returned (.int .i64 r) ∧ Hid (decide (0 ≤ r) = crlf T) ∧ Below w.heap.size w w') := hide (by
    rcases hB with rfl | ⟨b, off, rfl, hb, hcell⟩
    · exact idx_short w a c 0 [] rfl hU (.inl rfl) hS (by decide) (by decide) (Nat.zero_le _)
    · by_cases h1 : T.length = 1
      · match T, h1 with
        | [x], _ =>
          refine (idx_one w b off c x (hS 0 (by simp)) (hcell 0 (by simp))).mono ?_
          rintro e w' ⟨r, h1, h2, h3⟩
          exact ⟨r, h1, hide (by rw [unhide h2]; simp [crlf]), h3⟩
      · by_cases h8 : T.length ≤ 8
        · exact idx_short w _ c T.length T rfl hU (.inr ⟨b, off, rfl, hb, hcell⟩) hS h1 h8 hc
        · exact idx_long w b off c T.length T rfl hb hcell hS (by omega) (by omega))
  obtain ⟨n, hn⟩ : ∃ n, n = T.length := ⟨_, rfl⟩
  rw [← hn] at IX ⊢
  clear hn hl hB hc
  go_enter Tryz.func33, Tryz.ntmps33
  go_wp2_with (go_at_call 57; refine (unhide IX).mono ?_; rintro e w1 ⟨r, rfl, hr, k1⟩)
  go_ret
  exact ⟨by rw [← unhide hr]; rfl, k1⟩
end Go.Proofs.YtecfgbjnjgjkoaaGreatDoor
