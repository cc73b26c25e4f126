/- DecodeRune of a byte that is no ASCII: what is skipped is none. -/
import Derived.Test.YtfgemcmiilbodaaDoorCta
namespace Go.Proofs.YtfgemcmiilbodaaDoor
open Go.ChangeShapes Go.WideShapes Go.ChangeAt Go.RowKit
set_option linter.unusedVariables false
set_option linter.unusedSimpArgs false
set_option maxRecDepth 20000
set_option maxHeartbeats 4000000

theorem decodeN_high (n b0 b1 b2 b3 : Nat) (hn : 1 ≤ n) (h0 : 128 ≤ b0) (l0 : b0 < 256) (l1 : b1 < 256) (l2 : b2 < 256) (l3 : b3 < 256) :
    128 ≤ (Lib.decodeN n b0 b1 b2 b3).1 ∧ (Lib.decodeN n b0 b1 b2 b3).1 ≤ 1114111 ∧ 1 ≤ (Lib.decodeN n b0 b1 b2 b3).2 ∧ (Lib.decodeN n b0 b1 b2 b3).2 ≤ 4 ∧ (Lib.decodeN n b0 b1 b2 b3).2 ≤ n ∧
    (1 < (Lib.decodeN n b0 b1 b2 b3).2 → 128 ≤ b1) ∧ (2 < (Lib.decodeN n b0 b1 b2 b3).2 → 128 ≤ b2) ∧ (3 < (Lib.decodeN n b0 b1 b2 b3).2 → 128 ≤ b3) ∧
    ((Lib.decodeN n b0 b1 b2 b3).1 ≠ 65533 → ((Lib.decodeN n b0 b1 b2 b3).2 = 2 ∧ (Lib.decodeN n b0 b1 b2 b3).1 < 2048) ∨ ((Lib.decodeN n b0 b1 b2 b3).2 = 3 ∧ 2048 ≤ (Lib.decodeN n b0 b1 b2 b3).1 ∧ (Lib.decodeN n b0 b1 b2 b3).1 < 65536 ∧ ((Lib.decodeN n b0 b1 b2 b3).1 < 55296 ∨ 57343 < (Lib.decodeN n b0 b1 b2 b3).1)) ∨ ((Lib.decodeN n b0 b1 b2 b3).2 = 4 ∧ 65536 ≤ (Lib.decodeN n b0 b1 b2 b3).1)) := by
  unfold Lib.decodeN
  repeat' split
  all_goals (try dsimp only)
  all_goals omega
theorem encode_size (R : Nat) (h : R ≤ 1114111) (hv : R < 55296 ∨ 57343 < R) : (128 ≤ R → R < 2048 → (Utf8.encode (R : Nat)).size = 2) ∧ (2048 ≤ R → R < 65536 → (Utf8.encode (R : Nat)).size = 3) ∧ (65536 ≤ R → (Utf8.encode (R : Nat)).size = 4) := by
  have hval : Utf8.valid (R : Int) = true := by
    unfold Utf8.valid
    simp
    omega
  refine ⟨fun a b => ?_, fun a b => ?_, fun a => ?_⟩ <;> unfold Utf8.encode <;> simp only [hval, if_true, Int.toNat_natCast]
  · rw [if_neg (by omega), if_pos (by omega)]; rfl
  · rw [if_neg (by omega), if_neg (by omega), if_pos (by omega)]; rfl
  · rw [if_neg (by omega), if_neg (by omega), if_neg (by omega)]; rfl
theorem dec_high (T : List Nat) (i b off c : Nat) (w : World) (hU : Lib.Utf8Tabs 1 2 w) (hB : ∀ j, j < T.length → w.cell? ⟨b, off + j, none⟩ = some (.int .u8 (T.getD j 0 : Nat))) (hi : i < T.length) (hS : Small T) (hx : 128 ≤ T.getD i 0) :
    ∃ R K : Nat, 128 ≤ R ∧ R ≤ 1114111 ∧ 1 ≤ K ∧ K ≤ 4 ∧ i + K ≤ T.length ∧ (∀ j, i ≤ j → j < i + K → 128 ≤ T.getD j 0) ∧ (R ≠ 65533 → (Utf8.encode (R : Nat)).size = K ∧ 2 ≤ K) ∧
      ∀ n, n = T.length - i → Calls Tryd.prog 39 #[.slice (some ⟨b, off + i, none⟩) n c] w fun e w' => e = .returned (.tuple #[.int .i32 (R : Nat), .int .i64 (K : Nat)]) ∧ Below w.heap.size w w' := by
  obtain ⟨s, hs⟩ : ∃ s : ByteArray, s = ⟨((T.drop i).map UInt8.ofNat).toArray⟩ := ⟨_, rfl⟩
  have hsz : s.size = T.length - i := by rw [hs]; simp [ByteArray.size]
  have hget : ∀ j, i + j < T.length → (s.get! j).toNat = T.getD (i + j) 0 := fun j hj => by
    have h8 := hS (i + j) hj
    have hjs : j < s.size := by omega
    have e1 : s.get! j = UInt8.ofNat (T.getD (i + j) 0) := by
      rw [hs]
      simp only [ByteArray.get!]
      rw [getElem!_pos _ j (by simp; omega)]
      simp [List.getD_eq_getElem?_getD, List.getElem?_eq_getElem hj]
    rw [e1, UInt8.toNat_ofNat']
    exact Nat.mod_eq_of_lt h8
  have hlt : ∀ j, (s.get! j).toNat < 256 := fun j => UInt8.toNat_lt _
  have hdec : Lib.decodeGo s = Lib.decodeN (s.size - 0) (s.get! 0).toNat (s.get! (0 + 1)).toNat (s.get! (0 + 2)).toNat (s.get! (0 + 3)).toNat := by
    unfold Lib.decodeGo
    rw [if_neg (by omega), Lib.decode_at]
  have g0 := hget 0 (by omega)
  have hh := decodeN_high (s.size - 0) (s.get! 0).toNat (s.get! (0 + 1)).toNat (s.get! (0 + 2)).toNat (s.get! (0 + 3)).toNat (by omega) (by rw [g0]; exact hx) (hlt _) (hlt _) (hlt _) (hlt _)
  rw [← hdec] at hh
  obtain ⟨h1, h2, h3, h4, h5, h6, h7, h8, h9⟩ := hh
  refine ⟨(Lib.decodeGo s).1, (Lib.decodeGo s).2, h1, h2, h3, h4, by omega, fun j ha hb => ?_, fun hne => ?_, fun n hn => ?_⟩
  · rcases Nat.lt_or_ge j (i + 1) with q | q
    · obtain rfl : j = i := by omega
      exact hx
    · rcases Nat.lt_or_ge j (i + 2) with q2 | q2
      · obtain rfl : j = i + 1 := by omega
        rw [← hget 1 (by omega)]; exact h6 (by omega)
      · rcases Nat.lt_or_ge j (i + 3) with q3 | q3
        · obtain rfl : j = i + 2 := by omega
          rw [← hget 2 (by omega)]; exact h7 (by omega)
        · obtain rfl : j = i + 3 := by omega
          rw [← hget 3 (by omega)]; exact h8 (by omega)
  · rcases h9 hne with ⟨k, r⟩ | ⟨k, r1, r2, r3⟩ | ⟨k, r⟩
    · exact ⟨by rw [(encode_size _ h2 (by omega)).1 h1 r, k], by omega⟩
    · exact ⟨by rw [(encode_size _ h2 r3).2.1 r1 r2, k], by omega⟩
    · exact ⟨by rw [(encode_size _ h2 (by omega)).2.2 r, k], by omega⟩
  · subst hn
    rw [← hsz]
    exact decode_any s b (off + i) c w hU (fun j hj => by rw [Nat.add_assoc, hB (i + j) (by omega), hget j (by omega)])
theorem encode_head (R : Nat) (h : 128 ≤ R) : ∃ x, (Utf8.encode (R : Nat)).data.toList[0]? = some x ∧ 128 ≤ x.toNat := by
  unfold Utf8.encode
  have key : ∀ c : Nat, 128 ≤ c → c ≤ 1114111 → ∃ x, (if c < 0x80 then (⟨#[UInt8.ofNat c]⟩ : ByteArray) else if c < 0x800 then ⟨#[UInt8.ofNat (0xC0 + c / 64), UInt8.ofNat (0x80 + c % 64)]⟩ else if c < 0x10000 then ⟨#[UInt8.ofNat (0xE0 + c / 4096), UInt8.ofNat (0x80 + c / 64 % 64), UInt8.ofNat (0x80 + c % 64)]⟩ else ⟨#[UInt8.ofNat (0xF0 + c / 262144), UInt8.ofNat (0x80 + c / 4096 % 64), UInt8.ofNat (0x80 + c / 64 % 64), UInt8.ofNat (0x80 + c % 64)]⟩).data.toList[0]? = some x ∧ 128 ≤ x.toNat := fun c hc hc2 => by
    rw [if_neg (by omega)]
    split
    · exact ⟨_, rfl, by rw [UInt8.toNat_ofNat']; omega⟩
    · split
      · exact ⟨_, rfl, by rw [UInt8.toNat_ofNat']; omega⟩
      · exact ⟨_, rfl, by rw [UInt8.toNat_ofNat']; omega⟩
  by_cases hv : Utf8.valid (R : Int) = true
  · simp only [hv, if_true, Int.toNat_natCast]
    refine key R h ?_
    unfold Utf8.valid at hv
    simp at hv
    omega
  · simp only [hv]
    exact key 65533 (by decide) (by decide)
end Go.Proofs.YtfgemcmiilbodaaDoor
