/- The document's Text and Digits. -/
import Derived.Test.YtcnlikojbkegiaaGreatDoorSame
import Derived.Test.YtcnlikojbkegiaaGreatDoorTextMath
import Derived.Laws.IdiomStrings
import Derived.Laws.Concat
import Derived.Lib.ConvBytes
import Derived.Lib.SmallJoins
import Derived.Lib.ItoaLen
import Derived.Lib.SlBytesConst
namespace Go.Proofs.YtcnlikojbkegiaaGreatDoor
open Go.ChangeShapes Go.WideShapes Go.ChangeAt Go.RowKit
set_option linter.unusedVariables false
theorem one_digit (u : Nat) (wr : World) :
    (convert 25 9 (.slice (some ⟨wr.heap.size, 0, none⟩) 1 1)).run Tryz.prog (wr.alloc (.cells #[.int .u8 (48 + (u : Int) % 10)] 5)) = .ok (.string ⟨[UInt8.ofNat (48 + u % 10)].toArray⟩) (wr.alloc (.cells #[.int .u8 (48 + (u : Int) % 10)] 5)) := by
  refine run_convert_bytes_back (P := Tryz.prog) _ 25 9 5 ⟨wr.heap.size, 0, none⟩ 1 [UInt8.ofNat (48 + u % 10)] Tryz.underlying25 Tryz.underlying5 Tryz.underlying9 (fun j hj => ?_)
  obtain rfl : j = 0 := by simp at hj; exact hj
  rw [add_plain, Nat.add_zero, World.cell?_alloc_new]
  have e : (UInt8.ofNat (48 + u % 10)).toNat = 48 + u % 10 := by rw [UInt8.toNat_ofNat']; omega
  have e2 : ((48 + u % 10 : Nat) : Int) = 48 + (u : Int) % 10 := by omega
  simp only [List.getElem_cons_zero, e, e2]
  rfl

theorem nums_at (S : List UInt8) (i : Nat) (hi : i < S.length) : (Larder.nums S).getD i 0 = (S.getD i 0).toNat := by
  unfold Larder.nums
  rw [List.getD_eq_getElem?_getD, List.getD_eq_getElem?_getD, List.getElem?_map, List.getElem?_eq_getElem hi]; rfl

/-- a text's bytes in new memory -/
theorem text_bytes (S : List UInt8) (T : ByteArray) (hT : T = ⟨S.toArray⟩) (w : World) :
    ∃ c w', (convert 9 25 (.string T)).run Tryz.prog w = .ok (.slice (some ⟨w.heap.size, 0, none⟩) S.length c) w' ∧ Bytes w' (some ⟨w.heap.size, 0, none⟩) (Larder.nums S) ∧ Below w.heap.size w w' := by
  have hsz : T.size = S.length := by rw [hT]; show S.toArray.size = _; simp
  have h := Lib.run_convert_string_bytes (P := Tryz.prog) w 9 25 5 T Tryz.underlying9 Tryz.underlying25 Tryz.underlying5
  rw [hsz] at h
  refine ⟨_, _, h, .inr ⟨w.heap.size, 0, rfl, ?_, fun i hi => ?_⟩, Go.Joins.below_bytesWorld _ w 5 T (Nat.le_refl _)⟩
  · rw [Lib.bytesWorld_size]; omega
  · rw [Larder.nums_length] at hi
    rw [Nat.zero_add, Lib.bytesWorld_cell w 5 T i (by omega), hT]
    exact congrArg (fun x : Nat => some (Value.int .u8 (x : Int))) (nums_at S i hi).symm

set_option maxRecDepth 100000 in
theorem rtext_pos (n : Int) (h0 : 0 < n) (h1 : n ≤ 9223372036854775807) (w : World) :
    Calls Tryz.prog 65 #[.int .i64 n] w fun e w' => ∃ a c, e = .returned (.slice a (Larder.spellI n).length c) ∧ Bytes w' a (Larder.spellI n) ∧ Below w.heap.size w w' := by
  have hlen : (Larder.pre n.toNat).length ≤ 20 := by
    rw [Larder.pre_pos _ (by omega), Lib.decDigits_length]; exact Lib.nDigits_le20 _ (by omega)
  have HL := hide hlen
  clear hlen
  have HP : Hid (Larder.spellI n = Larder.nums (Larder.pre n.toNat)) := hide (by rw [Larder.spellI_pos n (by omega), Larder.pre_pos _ (by omega)]; rfl)
  go_enter Tryz.func65, Tryz.ntmps65
  go_wp2
  go_loopw [3, 4] (fun m s wr => ∃ (u : Nat) (S : List UInt8) (T : ByteArray), (u : Int) ≤ n ∧ m = .int .i64 (-(u : Int)) ∧ s = .string T ∧ T = ⟨S.toArray⟩ ∧ Larder.pre u ++ S = Larder.pre n.toNat ∧ Below w.heap.size w wr) (fun m _ _ => (-(intOf m)).toNat)
  case atStart => exact ⟨n.toNat, [], _, by omega, by congr 1; omega, rfl, rfl, by simp, Below.refl _ _⟩
  case round =>
    obtain ⟨u, S, T, hu, rfl, rfl, hT, hS, hb⟩ := hrel
    have HS := hide hS
    have HT := hide hT
    by_cases hz : u = 0
    · subst hz
      have e2 : decide (n < 0) = false := by simp; omega
      obtain ⟨c, w', hcv, hB, hbl⟩ := text_bytes S T hT wr
      clear hS hT
      go_wp2
      go_ret
      have hS := unhide HS
      rw [Larder.pre_zero, List.nil_append] at hS
      rw [unhide HP, ← hS, Larder.nums_length]
      exact ⟨_, _, rfl, hB, hb.trans (hbl.mono hb.size)⟩
    · have hs : Larder.pre u = Larder.pre (u / 10) ++ [UInt8.ofNat (48 + u % 10)] := Larder.pre_step u (by omega)
      have Hs := hide hs
      have hsz : S.length ≤ 20 := by
        have h := congrArg List.length hS
        rw [List.length_append] at h
        have := unhide HL
        omega
      have hcv := one_digit u wr
      obtain ⟨D, hD⟩ : ∃ D : ByteArray, D = ⟨[UInt8.ofNat (48 + u % 10)].toArray⟩ := ⟨_, rfl⟩
      obtain ⟨T', hT'⟩ : ∃ T' : ByteArray, T' = ⟨(UInt8.ofNat (48 + u % 10) :: S).toArray⟩ := ⟨_, rfl⟩
      have hadd : ∀ w', (Op.stringOp .add D T).run Tryz.prog w' = .ok (.string T') w' := by
        intro w'
        rw [hD, hT, hT', run_string_add_lists w' _ S (by simp) (by omega)]; rfl
      rw [← hD] at hcv
      have HT' := hide hT'
      clear hD hT hT' hS hs
      go_wp2
      go_roundw
      case rel => 
        refine ⟨u / 10, _, T', by omega, ?_, rfl, unhide HT', ?_, ?_⟩
        · congr 1
        · have hS := unhide HS
          rw [unhide Hs, List.append_assoc] at hS
          exact hS
        · exact hb.alloc hb.size _
      case measure => 
        simp [intOf]; omega

set_option maxRecDepth 100000 in
theorem rtext_neg (n : Int) (h0 : n < 0) (h1 : -9223372036854775808 ≤ n) (w : World) :
    Calls Tryz.prog 65 #[.int .i64 n] w fun e w' => ∃ a c, e = .returned (.slice a (Larder.spellI n).length c) ∧ Bytes w' a (Larder.spellI n) ∧ Below w.heap.size w w' := by
  have hlen : (Larder.pre n.natAbs).length ≤ 20 := by
    rw [Larder.pre_pos _ (by omega), Lib.decDigits_length]; exact Lib.nDigits_le20 _ (by omega)
  have HL := hide hlen
  clear hlen
  have HP : Hid (Larder.spellI n = Larder.nums (45 :: Larder.pre n.natAbs)) := hide (by rw [Larder.spellI_neg n (by omega), Larder.pre_pos _ (by omega)]; rfl)
  go_enter Tryz.func65, Tryz.ntmps65
  go_wp2
  go_loopw [3, 4] (fun m s wr => ∃ (u : Nat) (S : List UInt8) (T : ByteArray), (u : Int) ≤ -n ∧ m = .int .i64 (-(u : Int)) ∧ s = .string T ∧ T = ⟨S.toArray⟩ ∧ Larder.pre u ++ S = Larder.pre n.natAbs ∧ Below w.heap.size w wr) (fun m _ _ => (-(intOf m)).toNat)
  case atStart => exact ⟨n.natAbs, [], _, by omega, by congr 1; omega, rfl, rfl, by simp, Below.refl _ _⟩
  case round =>
    obtain ⟨u, S, T, hu, rfl, rfl, hT, hS, hb⟩ := hrel
    have HS := hide hS
    have HT := hide hT
    by_cases hz : u = 0
    · subst hz
      have hsz : S.length ≤ 20 := by
        have h := congrArg List.length hS
        rw [List.length_append] at h
        have := unhide HL
        omega
      obtain ⟨T', hT'⟩ : ∃ T' : ByteArray, T' = ⟨(45 :: S).toArray⟩ := ⟨_, rfl⟩
      have hadd : ∀ w', (Op.stringOp .add ⟨#[45]⟩ T).run Tryz.prog w' = .ok (.string T') w' := by
        intro w'
        rw [hT, hT']
        exact run_string_add_lists w' [45] S (by simp) (by omega)
      obtain ⟨c, w', hcv, hB, hbl⟩ := text_bytes (45 :: S) T' hT' wr
      clear hT'
      clear hS hT
      go_wp2
      go_ret
      have hS := unhide HS
      rw [Larder.pre_zero, List.nil_append] at hS
      rw [unhide HP, ← hS, Larder.nums_length]
      exact ⟨_, _, rfl, hB, hb.trans (hbl.mono hb.size)⟩
    · have hs : Larder.pre u = Larder.pre (u / 10) ++ [UInt8.ofNat (48 + u % 10)] := Larder.pre_step u (by omega)
      have Hs := hide hs
      have hsz : S.length ≤ 20 := by
        have h := congrArg List.length hS
        rw [List.length_append] at h
        have := unhide HL
        omega
      have hcv := one_digit u wr
      obtain ⟨D, hD⟩ : ∃ D : ByteArray, D = ⟨[UInt8.ofNat (48 + u % 10)].toArray⟩ := ⟨_, rfl⟩
      obtain ⟨T', hT'⟩ : ∃ T' : ByteArray, T' = ⟨(UInt8.ofNat (48 + u % 10) :: S).toArray⟩ := ⟨_, rfl⟩
      have hadd : ∀ w', (Op.stringOp .add D T).run Tryz.prog w' = .ok (.string T') w' := by
        intro w'
        rw [hD, hT, hT', run_string_add_lists w' _ S (by simp) (by omega)]; rfl
      rw [← hD] at hcv
      have HT' := hide hT'
      clear hD hT hT' hS hs
      go_wp2
      go_roundw
      case rel => 
        refine ⟨u / 10, _, T', by omega, ?_, rfl, unhide HT', ?_, ?_⟩
        · congr 1
        · have hS := unhide HS
          rw [unhide Hs, List.append_assoc] at hS
          exact hS
        · exact hb.alloc hb.size _
      case measure => 
        simp [intOf]; omega

set_option maxRecDepth 100000 in
theorem rtext_zero (w : World) :
    Calls Tryz.prog 65 #[.int .i64 0] w fun e w' => ∃ a c, e = .returned (.slice a (Larder.spellI 0).length c) ∧ Bytes w' a (Larder.spellI 0) ∧ Below w.heap.size w w' := by
  have HP : Hid (Larder.spellI 0 = Larder.nums [48]) := hide (by rw [Larder.spellI_pos 0 (by omega)]; unfold Larder.spell; rw [Lib.decDigits_one (by decide)]; rfl)
  have kc := fun (w : World) (C : Array Value) (n c : Nat) => Lib.run_convert_bytes_const (P := Tryz.prog) w 25 5 C n c Tryz.underlying25 Tryz.underlying5
  go_enter Tryz.func65, Tryz.ntmps65
  go_wp2
  go_ret
  rw [unhide HP, Larder.nums_length]
  refine ⟨_, _, rfl, .inr ⟨w.heap.size, 0, rfl, by simp, fun i hi => ?_⟩, (Below.refl _ w).alloc (Nat.le_refl _) _⟩
  obtain rfl : i = 0 := by rw [Larder.nums_length] at hi; simp at hi; exact hi
  rw [World.cell?_alloc_mark]; rfl

theorem rtext_any (n : Int) (h0 : -9223372036854775808 ≤ n) (h1 : n ≤ 9223372036854775807) (w : World) :
    Calls Tryz.prog 65 #[.int .i64 n] w fun e w' => ∃ a c, e = .returned (.slice a (Larder.spellI n).length c) ∧ Bytes w' a (Larder.spellI n) ∧ Below w.heap.size w w' := by
  by_cases hp : 0 < n
  · exact rtext_pos n hp h1 w
  · by_cases hn : n < 0
    · exact rtext_neg n hn h0 w
    · obtain rfl : n = 0 := by omega
      exact rtext_zero w

end Go.Proofs.YtcnlikojbkegiaaGreatDoor
