/- The document's Text, once more: its answer lies in new memory. -/
import Derived.Test.YtochdajeocganabDoorRText
namespace Go.Proofs.YtochdajeocganabDoor
open Go.ChangeShapes Go.WideShapes Go.ChangeAt Go.RowKit
set_option linter.unusedVariables false

set_option maxRecDepth 100000 in
theorem rtextF_pos (n : Int) (h0 : 0 < n) (h1 : n ≤ 9223372036854775807) (w : World) :
    Calls Tryd.prog 24 #[.int .i64 n] w fun e w' => ∃ a c, e = .returned (.slice a (Larder.spellI n).length c) ∧ Bytes w' a (Larder.spellI n) ∧ (∀ b off, a = some ⟨b, off, none⟩ → w.heap.size ≤ b) ∧ Below w.heap.size w w' := by
  have hlen : (Larder.pre n.toNat).length ≤ 20 := by
    rw [Larder.pre_pos _ (by omega), Lib.decDigits_length]; exact Lib.nDigits_le20 _ (by omega)
  have HL := hide hlen
  clear hlen
  have HP : Hid (Larder.spellI n = Larder.nums (Larder.pre n.toNat)) := hide (by rw [Larder.spellI_pos n (by omega), Larder.pre_pos _ (by omega)]; rfl)
  go_enter Tryd.func24, Tryd.ntmps24
  go_wp2
  go_loopw [3, 4] (fun m s wr => ∃ (u : Nat) (S : List UInt8) (T : ByteArray), (u : Int) ≤ n ∧ m = .int .i64 (-(u : Int)) ∧ s = .string T ∧ T = ⟨S.toArray⟩ ∧ Larder.pre u ++ S = Larder.pre n.toNat ∧ Below w.heap.size w wr) (fun m _ _ => (-(intOf m)).toNat)
  case atStart => exact ⟨n.toNat, [], _, by omega, by congr 1; omega, rfl, rfl, by simp, Below.refl _ _⟩
  case round =>
    obtain ⟨u, S, T, hu, rfl, rfl, hT, hS, hb⟩ := hrel
    have HS := hide hS
    have HT := hide hT
    by_cases hz : u = 0
    · subst hz
      have e2 : decide (n < 0) = false := by simp; omega
      obtain ⟨c, w', hcv, hB, hbl⟩ := text_bytes S T hT wr
      clear hS hT
      go_wp2
      go_ret
      have hS := unhide HS
      rw [Larder.pre_zero, List.nil_append] at hS
      rw [unhide HP, ← hS, Larder.nums_length]
      exact ⟨_, _, rfl, hB, (fun b off e => by cases e; exact hb.size), hb.trans (hbl.mono hb.size)⟩
    · have hs : Larder.pre u = Larder.pre (u / 10) ++ [UInt8.ofNat (48 + u % 10)] := Larder.pre_step u (by omega)
      have Hs := hide hs
      have hsz : S.length ≤ 20 := by
        have h := congrArg List.length hS
        rw [List.length_append] at h
        have := unhide HL
        omega
      have hcv := one_digit u wr
      obtain ⟨D, hD⟩ : ∃ D : ByteArray, D = ⟨[UInt8.ofNat (48 + u % 10)].toArray⟩ := ⟨_, rfl⟩
      obtain ⟨T', hT'⟩ : ∃ T' : ByteArray, T' = ⟨(UInt8.ofNat (48 + u % 10) :: S).toArray⟩ := ⟨_, rfl⟩
      have hadd : ∀ w', (Op.stringOp .add D T).run Tryd.prog w' = .ok (.string T') w' := by
        intro w'
        rw [hD, hT, hT', run_string_add_lists w' _ S (by simp) (by omega)]; rfl
      rw [← hD] at hcv
      have HT' := hide hT'
      clear hD hT hT' hS hs
      go_wp2
      go_roundw
      case rel => 
        refine ⟨u / 10, _, T', by omega, ?_, rfl, unhide HT', ?_, ?_⟩
        · congr 1
        · have hS := unhide HS
          rw [unhide Hs, List.append_assoc] at hS
          exact hS
        · exact hb.alloc hb.size _
      case measure => 
        simp [intOf]; omega

set_option maxRecDepth 100000 in
theorem rtextF_neg (n : Int) (h0 : n < 0) (h1 : -9223372036854775808 ≤ n) (w : World) :
    Calls Tryd.prog 24 #[.int .i64 n] w fun e w' => ∃ a c, e = .returned (.slice a (Larder.spellI n).length c) ∧ Bytes w' a (Larder.spellI n) ∧ (∀ b off, a = some ⟨b, off, none⟩ → w.heap.size ≤ b) ∧ Below w.heap.size w w' := by
  have hlen : (Larder.pre n.natAbs).length ≤ 20 := by
    rw [Larder.pre_pos _ (by omega), Lib.decDigits_length]; exact Lib.nDigits_le20 _ (by omega)
  have HL := hide hlen
  clear hlen
  have HP : Hid (Larder.spellI n = Larder.nums (45 :: Larder.pre n.natAbs)) := hide (by rw [Larder.spellI_neg n (by omega), Larder.pre_pos _ (by omega)]; rfl)
  go_enter Tryd.func24, Tryd.ntmps24
  go_wp2
  go_loopw [3, 4] (fun m s wr => ∃ (u : Nat) (S : List UInt8) (T : ByteArray), (u : Int) ≤ -n ∧ m = .int .i64 (-(u : Int)) ∧ s = .string T ∧ T = ⟨S.toArray⟩ ∧ Larder.pre u ++ S = Larder.pre n.natAbs ∧ Below w.heap.size w wr) (fun m _ _ => (-(intOf m)).toNat)
  case atStart => exact ⟨n.natAbs, [], _, by omega, by congr 1; omega, rfl, rfl, by simp, Below.refl _ _⟩
  case round =>
    obtain ⟨u, S, T, hu, rfl, rfl, hT, hS, hb⟩ := hrel
    have HS := hide hS
    have HT := hide hT
    by_cases hz : u = 0
    · subst hz
      have hsz : S.length ≤ 20 := by
        have h := congrArg List.length hS
        rw [List.length_append] at h
        have := unhide HL
        omega
      obtain ⟨T', hT'⟩ : ∃ T' : ByteArray, T' = ⟨(45 :: S).toArray⟩ := ⟨_, rfl⟩
      have hadd : ∀ w', (Op.stringOp .add ⟨#[45]⟩ T).run Tryd.prog w' = .ok (.string T') w' := by
        intro w'
        rw [hT, hT']
        exact run_string_add_lists w' [45] S (by simp) (by omega)
      obtain ⟨c, w', hcv, hB, hbl⟩ := text_bytes (45 :: S) T' hT' wr
      clear hT'
      clear hS hT
      go_wp2
      go_ret
      have hS := unhide HS
      rw [Larder.pre_zero, List.nil_append] at hS
      rw [unhide HP, ← hS, Larder.nums_length]
      exact ⟨_, _, rfl, hB, (fun b off e => by cases e; exact hb.size), hb.trans (hbl.mono hb.size)⟩
    · have hs : Larder.pre u = Larder.pre (u / 10) ++ [UInt8.ofNat (48 + u % 10)] := Larder.pre_step u (by omega)
      have Hs := hide hs
      have hsz : S.length ≤ 20 := by
        have h := congrArg List.length hS
        rw [List.length_append] at h
        have := unhide HL
        omega
      have hcv := one_digit u wr
      obtain ⟨D, hD⟩ : ∃ D : ByteArray, D = ⟨[UInt8.ofNat (48 + u % 10)].toArray⟩ := ⟨_, rfl⟩
      obtain ⟨T', hT'⟩ : ∃ T' : ByteArray, T' = ⟨(UInt8.ofNat (48 + u % 10) :: S).toArray⟩ := ⟨_, rfl⟩
      have hadd : ∀ w', (Op.stringOp .add D T).run Tryd.prog w' = .ok (.string T') w' := by
        intro w'
        rw [hD, hT, hT', run_string_add_lists w' _ S (by simp) (by omega)]; rfl
      rw [← hD] at hcv
      have HT' := hide hT'
      clear hD hT hT' hS hs
      go_wp2
      go_roundw
      case rel => 
        refine ⟨u / 10, _, T', by omega, ?_, rfl, unhide HT', ?_, ?_⟩
        · congr 1
        · have hS := unhide HS
          rw [unhide Hs, List.append_assoc] at hS
          exact hS
        · exact hb.alloc hb.size _
      case measure => 
        simp [intOf]; omega

set_option maxRecDepth 100000 in
theorem rtextF_zero (w : World) :
    Calls Tryd.prog 24 #[.int .i64 0] w fun e w' => ∃ a c, e = .returned (.slice a (Larder.spellI 0).length c) ∧ Bytes w' a (Larder.spellI 0) ∧ (∀ b off, a = some ⟨b, off, none⟩ → w.heap.size ≤ b) ∧ Below w.heap.size w w' := by
  have HP : Hid (Larder.spellI 0 = Larder.nums [48]) := hide (by rw [Larder.spellI_pos 0 (by omega)]; unfold Larder.spell; rw [Lib.decDigits_one (by decide)]; rfl)
  have kc := fun (w : World) (C : Array Value) (n c : Nat) => Lib.run_convert_bytes_const (P := Tryd.prog) w 46 5 C n c Tryd.underlying46 Tryd.underlying5
  go_enter Tryd.func24, Tryd.ntmps24
  go_wp2
  go_ret
  rw [unhide HP, Larder.nums_length]
  refine ⟨_, _, rfl, .inr ⟨w.heap.size, 0, rfl, by simp, fun i hi => ?_⟩, (fun b off e => by cases e; exact Nat.le_refl _), (Below.refl _ w).alloc (Nat.le_refl _) _⟩
  obtain rfl : i = 0 := by rw [Larder.nums_length] at hi; simp at hi; exact hi
  rw [World.cell?_alloc_mark]; rfl

theorem rtextF_any (n : Int) (h0 : -9223372036854775808 ≤ n) (h1 : n ≤ 9223372036854775807) (w : World) :
    Calls Tryd.prog 24 #[.int .i64 n] w fun e w' => ∃ a c, e = .returned (.slice a (Larder.spellI n).length c) ∧ Bytes w' a (Larder.spellI n) ∧ (∀ b off, a = some ⟨b, off, none⟩ → w.heap.size ≤ b) ∧ Below w.heap.size w w' := by
  by_cases hp : 0 < n
  · exact rtextF_pos n hp h1 w
  · by_cases hn : n < 0
    · exact rtextF_neg n hn h0 w
    · obtain rfl : n = 0 := by omega
      exact rtextF_zero w

end Go.Proofs.YtochdajeocganabDoor
