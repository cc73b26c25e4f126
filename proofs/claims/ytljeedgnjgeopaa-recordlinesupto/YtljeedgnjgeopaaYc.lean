/- record: the reader: numbers. -/
import Derived.Test.YtljeedgnjgeopaaYb
namespace Go.Proofs.Ytljeedgnjgeopaa
open Go.ChangeShapes Go.WideShapes Go.ChangeAt Go.RowKit
set_option linter.unusedVariables false
set_option linter.unusedSimpArgs false
set_option maxRecDepth 100000
set_option maxHeartbeats 4000000
/-- what a number answers -/
def NmEnd (w : World) (g : Nat) (K : IntKind) (V : List Nat) (S : Larder.Rd) (e : Ending) (w' : World) : Prop := e = .returned (.int K (Larder.ofBig V : Nat)) ∧ Hid (Kx g w w' ∧ RdAt w' g S)
theorem tk_len (s : Larder.Rd) (k : Nat) : (Larder.tkV s k).length = 0 ∨ (Larder.tkV s k).length = k := by
  unfold Larder.tkV
  cases s with
  | none => exact .inl rfl
  | some l =>
    dsimp only
    split
    · exact .inr (by rw [List.length_take]; omega)
    · exact .inl rfl
/-- bytes are bytes -/
def SmS (s : Larder.Rd) : Prop := ∀ c ∈ s.getD [], c < 256
theorem SmS.tkV {s : Larder.Rd} (h : SmS s) (k : Nat) : ∀ c ∈ Larder.tkV s k, c < 256 := fun c hc => by
  unfold Larder.tkV at hc
  cases s with
  | none => cases hc
  | some l =>
    dsimp only at hc
    split at hc
    · exact h c (List.mem_of_mem_take hc)
    · cases hc
theorem SmS.tkS {s : Larder.Rd} (h : SmS s) (k : Nat) : SmS (Larder.tkS s k) := fun c hc => by
  unfold Larder.tkS at hc
  cases s with
  | none => cases hc
  | some l =>
    dsimp only at hc
    split at hc
    · exact h c (List.mem_of_mem_drop hc)
    · cases hc
theorem ofBig_take {V : List Nat} {i : Nat} (hi : i < V.length) : Larder.ofBig (V.take (i + 1)) = Larder.ofBig (V.take i) * 256 + V.getD i 0 := by
  rw [List.take_add_one, List.getElem?_eq_getElem hi, List.getD_eq_getElem?_getD, List.getElem?_eq_getElem hi]
  exact Larder.ofBig_snoc _ _
theorem ofBig_lt : ∀ (V : List Nat), (∀ c ∈ V, c < 256) → Larder.ofBig V < 256 ^ V.length := by
  intro V
  induction h : V.length generalizing V with
  | zero => intro _; obtain rfl := List.length_eq_zero_iff.1 h; decide
  | succ n ih =>
    intro hs
    obtain ⟨zs, z, rfl⟩ : ∃ zs z, V = zs ++ [z] := ⟨V.dropLast, V.getLast (by intro e; simp [e] at h), (List.dropLast_concat_getLast _).symm⟩
    have h1 := ih zs (by simpa using h) (fun c hc => hs c (List.mem_append_left _ hc))
    have h2 := hs z (by simp)
    rw [Larder.ofBig_snoc, Nat.pow_succ]
    omega
theorem nm_lt {V : List Nat} (hs : ∀ c ∈ V, c < 256) (i K : Nat) (hi : i ≤ K) : Larder.ofBig (V.take i) * 2 ^ (8 * (K - i)) < 256 ^ K := by
  have h1 := ofBig_lt (V.take i) (fun c hc => hs c (List.mem_of_mem_take hc))
  have h2 : 256 ^ (V.take i).length ≤ 256 ^ i := Nat.pow_le_pow_right (by decide) (by rw [List.length_take]; omega)
  have h3 : (2 : Nat) ^ (8 * (K - i)) = 256 ^ (K - i) := by rw [Nat.pow_mul]
  have h4 : (256 : Nat) ^ K = 256 ^ i * 256 ^ (K - i) := by rw [← Nat.pow_add]; congr 1; omega
  rw [h3, h4]
  exact Nat.mul_lt_mul_of_pos_right (by omega) (Nat.pow_pos (by decide))
theorem join_nat (A x q : Nat) (hx : x < 256) : A * 2 ^ (q + 8) ||| x * 2 ^ q = (A * 256 + x) * 2 ^ q := by
  have h1 : x * 2 ^ q < 2 ^ (q + 8) := by
    rw [Nat.pow_add, Nat.mul_comm (2 ^ q)]
    exact Nat.mul_lt_mul_of_pos_right hx (Nat.pow_pos (by decide))
  have h2 := Nat.shiftLeft_add_eq_or_of_lt h1 A
  rw [Nat.shiftLeft_eq] at h2
  rw [← h2, Nat.add_mul, Nat.pow_add, Nat.mul_assoc, Nat.mul_comm (2 ^ q) (2 ^ 8)]
theorem or64 (a b : Nat) (ha : a < 2 ^ 64) (hb : b < 2 ^ 64) : bits BinOp.or IntKind.u64 (a : Int) (b : Int) = ((a ||| b : Nat) : Int) := by
  have e1 : (BitVec.ofInt 64 (a : Int)).toNat = a := by rw [BitVec.toNat_ofInt]; omega
  have e2 : (BitVec.ofInt 64 (b : Int)).toNat = b := by rw [BitVec.toNat_ofInt]; omega
  have h : IntKind.u64.wrap (((BitVec.ofInt 64 (a : Int)) ||| (BitVec.ofInt 64 (b : Int))).toNat : Int) = ((a ||| b : Nat) : Int) := by
    rw [BitVec.toNat_or, e1, e2, IntKind.wrap_u64]
    have := Nat.or_lt_two_pow ha hb
    omega
  exact h
theorem or32 (a b : Nat) (ha : a < 2 ^ 32) (hb : b < 2 ^ 32) : bits BinOp.or IntKind.u32 (a : Int) (b : Int) = ((a ||| b : Nat) : Int) := by
  have e1 : (BitVec.ofInt 32 (a : Int)).toNat = a := by rw [BitVec.toNat_ofInt]; omega
  have e2 : (BitVec.ofInt 32 (b : Int)).toNat = b := by rw [BitVec.toNat_ofInt]; omega
  have h : IntKind.u32.wrap (((BitVec.ofInt 32 (a : Int)) ||| (BitVec.ofInt 32 (b : Int))).toNat : Int) = ((a ||| b : Nat) : Int) := by
    rw [BitVec.toNat_or, e1, e2, IntKind.wrap_u32]
    have := Nat.or_lt_two_pow ha hb
    omega
  exact h
theorem or8 (a b : Nat) (ha : a < 2 ^ 8) (hb : b < 2 ^ 8) : bits BinOp.or IntKind.u8 (a : Int) (b : Int) = ((a ||| b : Nat) : Int) := by
  have e1 : (BitVec.ofInt 8 (a : Int)).toNat = a := by rw [BitVec.toNat_ofInt]; omega
  have e2 : (BitVec.ofInt 8 (b : Int)).toNat = b := by rw [BitVec.toNat_ofInt]; omega
  have h : IntKind.u8.wrap (((BitVec.ofInt 8 (a : Int)) ||| (BitVec.ofInt 8 (b : Int))).toNat : Int) = ((a ||| b : Nat) : Int) := by
    rw [BitVec.toNat_or, e1, e2, IntKind.wrap_u8]
    have := Nat.or_lt_two_pow ha hb
    omega
  exact h
theorem drew1 (w : World) : Below w.heap.size w w.drew := ⟨rfl, rfl, rfl, Nat.le_refl _, fun _ _ => rfl⟩
theorem rdlt {w : World} {g : Nat} {s : Larder.Rd} (h : RdAt w g s) : g < w.heap.size := by
  obtain ⟨a, n, c, h1, h2⟩ := h
  exact blk_lt h1
theorem num64 (w : World) (g : Nat) (s : Larder.Rd) (h : RdAt w g s) (hs : SmS s) : Calls Try.prog 67 #[.pointer (some ⟨g, 0, none⟩)] w (NmEnd w g .u64 (Larder.tkV s 8) (Larder.tkS s 8)) := by
  have C57 := take_any w g 8 s h
  have hV := tk_len s 8
  have hVs := hs.tkV 8
  generalize Larder.tkV s 8 = V at C57 hV hVs ⊢
  generalize Larder.tkS s 8 = S at C57 ⊢
  have C57' : Calls Try.prog 57 #[.pointer (some ⟨g, 0, none⟩), .int .i64 8] w fun e w' => ∃ a n c, e = .returned (.slice a n c) ∧ (n = 0 ∨ n = 8) ∧ Hid (n = V.length) ∧ Hid (Kx g w w' ∧ RdAt w' g S ∧ Rst w' g a n c V) := C57.mono fun e w' ⟨a, n, c, q1, q2, q3⟩ => ⟨a, n, c, q1, by omega, hide q2, q3⟩
  have HVS := hide hVs
  clear h hs C57 hV hVs
  unfold NmEnd
  go_enter Try.func67, Try.ntmps67
  go_wp2_with (first
    | (go_at_call 57; refine C57'.mono ?_; clear C57'; rintro e w2 ⟨a, n, c, rfl, hn, e2, k2⟩)
    | (go_at_call 55; refine (size64 _).mono ?_; rintro e w1 ⟨rfl, h1⟩; obtain rfl := h1.symm))
  go_loopw [5, 13] (fun nv iv wr => ∃ (i M : Nat), nv = .int .u64 (M : Nat) ∧ iv = .int .i64 ((i : Nat) : Int) ∧ i ≤ n ∧ Hid (Kx g w wr ∧ RdAt wr g S ∧ Rst wr g a n c V) ∧ Hid (M = Larder.ofBig (V.take i) * 2 ^ (8 * (8 - i)))) (fun _ iv _ => n - (intOf iv).toNat)
  case atStart => exact ⟨0, 0, rfl, rfl, Nat.zero_le _, k2, hide (by rw [List.take_zero]; exact (Nat.zero_mul _).symm)⟩
  case round =>
    clear k2
    obtain ⟨i, M, rfl, rfl, hi, k2, HM⟩ := hrel
    by_cases hin : i < n
    · have e1 : decide ((i : Int) < (n : Int)) = true := decide_eq_true (by omega)
      have e2' : decide (i < n) = true := decide_eq_true hin
      have g1 : (0 : Int) ≤ (i : Int) := by omega
      have g2 : (i : Int) < (n : Int) := by omega
      obtain ⟨b, off, rfl, hc⟩ : ∃ b off, a = some ⟨b, off, none⟩ ∧ wr.cell? ⟨b, off + i, none⟩ = some (.int .u8 (V.getD i 0 : Nat)) := by
        rcases (unhide k2).2.2 with ⟨_, h0, _⟩ | ⟨b, off, z1, _, _, _, z2⟩
        · omega
        · exact ⟨b, off, z1, z2 i hin⟩
      have hx : V.getD i 0 < 256 := by
        rw [List.getD_eq_getElem?_getD, List.getElem?_eq_getElem (by have := unhide e2; omega)]
        exact (unhide HVS) _ (List.getElem_mem _)
      have HOB := hide (ofBig_take (V := V) (i := i) (by have := unhide e2; omega))
      obtain ⟨x, hxe⟩ : ∃ x, x = V.getD i 0 := ⟨_, rfl⟩
      rw [← hxe] at hc hx HOB
      clear hxe
      obtain ⟨q, hq⟩ : ∃ q, q = 8 * (8 - 1 - i) := ⟨_, rfl⟩
      have C56 := hide (fun W => (bitof_any W i 8 q (by omega) (by omega) hq).mono (fun e w' h => (⟨h.1, h.2.symm⟩ : e = _ ∧ W = w')))
      have hq9 : q ≤ 56 := by omega
      have h2q : 2 ^ q ≤ 2 ^ 56 := Nat.pow_le_pow_right (by decide) hq9
      obtain ⟨y, hy⟩ : ∃ y, y = x * 2 ^ q := ⟨_, rfl⟩
      have hyb : y < 2 ^ 64 := by
        have h3 : x * 2 ^ q ≤ 255 * 2 ^ 56 := Nat.mul_le_mul (by omega) h2q
        rw [hy]
        omega
      have e8 : 8 * (8 - i) = q + 8 := by omega
      have e9 : 8 * (8 - (i + 1)) = q := by omega
      have hMb : M < 2 ^ 64 := by
        have := nm_lt (unhide HVS) i 8 (by omega)
        rw [unhide HM]
        exact Nat.lt_of_lt_of_le this (by decide)
      obtain ⟨M', hM'⟩ : ∃ M', M' = M ||| y := ⟨_, rfl⟩
      have HM' : Hid (M' = Larder.ofBig (V.take (i + 1)) * 2 ^ (8 * (8 - (i + 1)))) := hide (by
        rw [hM', unhide HM, hy, e8, e9, join_nat _ _ _ hx, unhide HOB])
      have q1 : IntKind.u64.wrap (x : Int) = (x : Int) := by rw [IntKind.wrap_u64]; omega
      have q2 : (x : Int) * 2 ^ q = (y : Int) := by rw [hy]; simp
      have q3 : IntKind.u64.wrap (y : Int) = (y : Int) := by rw [IntKind.wrap_u64]; omega
      have q4 : bits BinOp.or IntKind.u64 (M : Int) (y : Int) = (M' : Int) := by rw [hM']; exact or64 M y hMb hyb
      have q5 : min q 64 = q := by omega
      clear hq hy h2q e8 e9 hM' hMb HOB
      have HC := hide hc
      go_wp2_with fail
      go_region_held3 (fun w' => w'.cell? ⟨b, off + i, none⟩ = some (.int .u8 (x : Nat))) (go_keep) (first | (go_at_call 56; refine ((unhide C56) _).mono ?_; rintro e w5 ⟨rfl, h5⟩; subst h5))
      all_goals go_wp2_with fail
      all_goals go_roundw
      case rel => exact ⟨i + 1, M', by simp only [q1, q2, q3, q4], by go_num, by omega, hide ⟨(unhide k2).1.trans (.below (drew1 _)), (unhide k2).2.1.below (drew1 _), (unhide k2).2.2.kx (Nat.le_of_lt (rdlt (unhide k2).2.1)) (.below (drew1 _))⟩, HM'⟩
      case measure => simp [intOf]; omega
    · obtain rfl : i = n := by omega
      have e1 : decide ((i : Int) < (i : Int)) = false := decide_eq_false (by omega)
      have e2' : decide (i < i) = false := decide_eq_false (by omega)
      go_wp2_with fail
      go_ret
      refine ⟨?_, hide ⟨(unhide k2).1, (unhide k2).2.1⟩⟩
      have HZ : M = Larder.ofBig V := by
        rw [unhide HM, List.take_of_length_le (by have := unhide e2; omega)]
        rcases hn with h0 | h8
        · obtain rfl : V = [] := List.length_eq_zero_iff.1 (by rw [← unhide e2]; exact h0)
          exact Nat.zero_mul _
        · rw [h8]
          exact Nat.mul_one _
      rw [← HZ]
      rfl
theorem num32 (w : World) (g : Nat) (s : Larder.Rd) (h : RdAt w g s) (hs : SmS s) : Calls Try.prog 73 #[.pointer (some ⟨g, 0, none⟩)] w (NmEnd w g .u32 (Larder.tkV s 4) (Larder.tkS s 4)) := by
  have C57 := take_any w g 4 s h
  have hV := tk_len s 4
  have hVs := hs.tkV 4
  generalize Larder.tkV s 4 = V at C57 hV hVs ⊢
  generalize Larder.tkS s 4 = S at C57 ⊢
  have C57' : Calls Try.prog 57 #[.pointer (some ⟨g, 0, none⟩), .int .i64 4] w fun e w' => ∃ a n c, e = .returned (.slice a n c) ∧ (n = 0 ∨ n = 4) ∧ Hid (n = V.length) ∧ Hid (Kx g w w' ∧ RdAt w' g S ∧ Rst w' g a n c V) := C57.mono fun e w' ⟨a, n, c, q1, q2, q3⟩ => ⟨a, n, c, q1, by omega, hide q2, q3⟩
  have HVS := hide hVs
  clear h hs C57 hV hVs
  unfold NmEnd
  go_enter Try.func73, Try.ntmps73
  go_wp2_with (first
    | (go_at_call 57; refine C57'.mono ?_; clear C57'; rintro e w2 ⟨a, n, c, rfl, hn, e2, k2⟩)
    | (go_at_call 71; refine (size32 _).mono ?_; rintro e w1 ⟨rfl, h1⟩; obtain rfl := h1.symm))
  go_loopw [5, 13] (fun nv iv wr => ∃ (i M : Nat), nv = .int .u32 (M : Nat) ∧ iv = .int .i64 ((i : Nat) : Int) ∧ i ≤ n ∧ Hid (Kx g w wr ∧ RdAt wr g S ∧ Rst wr g a n c V) ∧ Hid (M = Larder.ofBig (V.take i) * 2 ^ (8 * (4 - i)))) (fun _ iv _ => n - (intOf iv).toNat)
  case atStart => exact ⟨0, 0, rfl, rfl, Nat.zero_le _, k2, hide (by rw [List.take_zero]; exact (Nat.zero_mul _).symm)⟩
  case round =>
    clear k2
    obtain ⟨i, M, rfl, rfl, hi, k2, HM⟩ := hrel
    by_cases hin : i < n
    · have e1 : decide ((i : Int) < (n : Int)) = true := decide_eq_true (by omega)
      have e2' : decide (i < n) = true := decide_eq_true hin
      have g1 : (0 : Int) ≤ (i : Int) := by omega
      have g2 : (i : Int) < (n : Int) := by omega
      obtain ⟨b, off, rfl, hc⟩ : ∃ b off, a = some ⟨b, off, none⟩ ∧ wr.cell? ⟨b, off + i, none⟩ = some (.int .u8 (V.getD i 0 : Nat)) := by
        rcases (unhide k2).2.2 with ⟨_, h0, _⟩ | ⟨b, off, z1, _, _, _, z2⟩
        · omega
        · exact ⟨b, off, z1, z2 i hin⟩
      have hx : V.getD i 0 < 256 := by
        rw [List.getD_eq_getElem?_getD, List.getElem?_eq_getElem (by have := unhide e2; omega)]
        exact (unhide HVS) _ (List.getElem_mem _)
      have HOB := hide (ofBig_take (V := V) (i := i) (by have := unhide e2; omega))
      obtain ⟨x, hxe⟩ : ∃ x, x = V.getD i 0 := ⟨_, rfl⟩
      rw [← hxe] at hc hx HOB
      clear hxe
      obtain ⟨q, hq⟩ : ∃ q, q = 8 * (4 - 1 - i) := ⟨_, rfl⟩
      have C56 := hide (fun W => (bitof_any W i 4 q (by omega) (by omega) hq).mono (fun e w' h => (⟨h.1, h.2.symm⟩ : e = _ ∧ W = w')))
      have hq9 : q ≤ 24 := by omega
      have h2q : 2 ^ q ≤ 2 ^ 24 := Nat.pow_le_pow_right (by decide) hq9
      obtain ⟨y, hy⟩ : ∃ y, y = x * 2 ^ q := ⟨_, rfl⟩
      have hyb : y < 2 ^ 32 := by
        have h3 : x * 2 ^ q ≤ 255 * 2 ^ 24 := Nat.mul_le_mul (by omega) h2q
        rw [hy]
        omega
      have e8 : 8 * (4 - i) = q + 8 := by omega
      have e9 : 8 * (4 - (i + 1)) = q := by omega
      have hMb : M < 2 ^ 32 := by
        have := nm_lt (unhide HVS) i 4 (by omega)
        rw [unhide HM]
        exact Nat.lt_of_lt_of_le this (by decide)
      obtain ⟨M', hM'⟩ : ∃ M', M' = M ||| y := ⟨_, rfl⟩
      have HM' : Hid (M' = Larder.ofBig (V.take (i + 1)) * 2 ^ (8 * (4 - (i + 1)))) := hide (by
        rw [hM', unhide HM, hy, e8, e9, join_nat _ _ _ hx, unhide HOB])
      have q1 : IntKind.u32.wrap (x : Int) = (x : Int) := by rw [IntKind.wrap_u32]; omega
      have q2 : (x : Int) * 2 ^ q = (y : Int) := by rw [hy]; simp
      have q3 : IntKind.u32.wrap (y : Int) = (y : Int) := by rw [IntKind.wrap_u32]; omega
      have q4 : bits BinOp.or IntKind.u32 (M : Int) (y : Int) = (M' : Int) := by rw [hM']; exact or32 M y hMb hyb
      have q5 : min q 32 = q := by omega
      clear hq hy h2q e8 e9 hM' hMb HOB
      have HC := hide hc
      go_wp2_with fail
      go_region_held3 (fun w' => w'.cell? ⟨b, off + i, none⟩ = some (.int .u8 (x : Nat))) (go_keep) (first | (go_at_call 56; refine ((unhide C56) _).mono ?_; rintro e w5 ⟨rfl, h5⟩; subst h5))
      all_goals go_wp2_with fail
      all_goals go_roundw
      case rel => exact ⟨i + 1, M', by simp only [q1, q2, q3, q4], by go_num, by omega, hide ⟨(unhide k2).1.trans (.below (drew1 _)), (unhide k2).2.1.below (drew1 _), (unhide k2).2.2.kx (Nat.le_of_lt (rdlt (unhide k2).2.1)) (.below (drew1 _))⟩, HM'⟩
      case measure => simp [intOf]; omega
    · obtain rfl : i = n := by omega
      have e1 : decide ((i : Int) < (i : Int)) = false := decide_eq_false (by omega)
      have e2' : decide (i < i) = false := decide_eq_false (by omega)
      go_wp2_with fail
      go_ret
      refine ⟨?_, hide ⟨(unhide k2).1, (unhide k2).2.1⟩⟩
      have HZ : M = Larder.ofBig V := by
        rw [unhide HM, List.take_of_length_le (by have := unhide e2; omega)]
        rcases hn with h0 | h8
        · obtain rfl : V = [] := List.length_eq_zero_iff.1 (by rw [← unhide e2]; exact h0)
          exact Nat.zero_mul _
        · rw [h8]
          exact Nat.mul_one _
      rw [← HZ]
      rfl
theorem num8 (w : World) (g : Nat) (s : Larder.Rd) (h : RdAt w g s) (hs : SmS s) : Calls Try.prog 74 #[.pointer (some ⟨g, 0, none⟩)] w (NmEnd w g .u8 (Larder.tkV s 1) (Larder.tkS s 1)) := by
  have C57 := take_any w g 1 s h
  have hV := tk_len s 1
  have hVs := hs.tkV 1
  generalize Larder.tkV s 1 = V at C57 hV hVs ⊢
  generalize Larder.tkS s 1 = S at C57 ⊢
  have C57' : Calls Try.prog 57 #[.pointer (some ⟨g, 0, none⟩), .int .i64 1] w fun e w' => ∃ a n c, e = .returned (.slice a n c) ∧ (n = 0 ∨ n = 1) ∧ Hid (n = V.length) ∧ Hid (Kx g w w' ∧ RdAt w' g S ∧ Rst w' g a n c V) := C57.mono fun e w' ⟨a, n, c, q1, q2, q3⟩ => ⟨a, n, c, q1, by omega, hide q2, q3⟩
  have HVS := hide hVs
  clear h hs C57 hV hVs
  unfold NmEnd
  go_enter Try.func74, Try.ntmps74
  go_wp2_with (first
    | (go_at_call 57; refine C57'.mono ?_; clear C57'; rintro e w2 ⟨a, n, c, rfl, hn, e2, k2⟩)
    | (go_at_call 72; refine (size8 _).mono ?_; rintro e w1 ⟨rfl, h1⟩; obtain rfl := h1.symm))
  go_loopw [5, 13] (fun nv iv wr => ∃ (i M : Nat), nv = .int .u8 (M : Nat) ∧ iv = .int .i64 ((i : Nat) : Int) ∧ i ≤ n ∧ Hid (Kx g w wr ∧ RdAt wr g S ∧ Rst wr g a n c V) ∧ Hid (M = Larder.ofBig (V.take i) * 2 ^ (8 * (1 - i)))) (fun _ iv _ => n - (intOf iv).toNat)
  case atStart => exact ⟨0, 0, rfl, rfl, Nat.zero_le _, k2, hide (by rw [List.take_zero]; exact (Nat.zero_mul _).symm)⟩
  case round =>
    clear k2
    obtain ⟨i, M, rfl, rfl, hi, k2, HM⟩ := hrel
    by_cases hin : i < n
    · have e1 : decide ((i : Int) < (n : Int)) = true := decide_eq_true (by omega)
      have e2' : decide (i < n) = true := decide_eq_true hin
      have g1 : (0 : Int) ≤ (i : Int) := by omega
      have g2 : (i : Int) < (n : Int) := by omega
      obtain ⟨b, off, rfl, hc⟩ : ∃ b off, a = some ⟨b, off, none⟩ ∧ wr.cell? ⟨b, off + i, none⟩ = some (.int .u8 (V.getD i 0 : Nat)) := by
        rcases (unhide k2).2.2 with ⟨_, h0, _⟩ | ⟨b, off, z1, _, _, _, z2⟩
        · omega
        · exact ⟨b, off, z1, z2 i hin⟩
      have hx : V.getD i 0 < 256 := by
        rw [List.getD_eq_getElem?_getD, List.getElem?_eq_getElem (by have := unhide e2; omega)]
        exact (unhide HVS) _ (List.getElem_mem _)
      have HOB := hide (ofBig_take (V := V) (i := i) (by have := unhide e2; omega))
      obtain ⟨x, hxe⟩ : ∃ x, x = V.getD i 0 := ⟨_, rfl⟩
      rw [← hxe] at hc hx HOB
      clear hxe
      obtain ⟨q, hq⟩ : ∃ q, q = 8 * (1 - 1 - i) := ⟨_, rfl⟩
      have C56 := hide (fun W => (bitof_any W i 1 q (by omega) (by omega) hq).mono (fun e w' h => (⟨h.1, h.2.symm⟩ : e = _ ∧ W = w')))
      have hq9 : q ≤ 0 := by omega
      have h2q : 2 ^ q ≤ 2 ^ 0 := Nat.pow_le_pow_right (by decide) hq9
      obtain ⟨y, hy⟩ : ∃ y, y = x * 2 ^ q := ⟨_, rfl⟩
      have hyb : y < 2 ^ 8 := by
        have h3 : x * 2 ^ q ≤ 255 * 2 ^ 0 := Nat.mul_le_mul (by omega) h2q
        rw [hy]
        omega
      have e8 : 8 * (1 - i) = q + 8 := by omega
      have e9 : 8 * (1 - (i + 1)) = q := by omega
      have hMb : M < 2 ^ 8 := by
        have := nm_lt (unhide HVS) i 1 (by omega)
        rw [unhide HM]
        exact Nat.lt_of_lt_of_le this (by decide)
      obtain ⟨M', hM'⟩ : ∃ M', M' = M ||| y := ⟨_, rfl⟩
      have HM' : Hid (M' = Larder.ofBig (V.take (i + 1)) * 2 ^ (8 * (1 - (i + 1)))) := hide (by
        rw [hM', unhide HM, hy, e8, e9, join_nat _ _ _ hx, unhide HOB])
      have q1 : IntKind.u8.wrap (x : Int) = (x : Int) := by rw [IntKind.wrap_u8]; omega
      have q2 : (x : Int) * 2 ^ q = (y : Int) := by rw [hy]; simp
      have q3 : IntKind.u8.wrap (y : Int) = (y : Int) := by rw [IntKind.wrap_u8]; omega
      have q4 : bits BinOp.or IntKind.u8 (M : Int) (y : Int) = (M' : Int) := by rw [hM']; exact or8 M y hMb hyb
      have q5 : min q 8 = q := by omega
      clear hq hy h2q e8 e9 hM' hMb HOB
      have HC := hide hc
      go_wp2_with fail
      go_region_held3 (fun w' => w'.cell? ⟨b, off + i, none⟩ = some (.int .u8 (x : Nat))) (go_keep) (first | (go_at_call 56; refine ((unhide C56) _).mono ?_; rintro e w5 ⟨rfl, h5⟩; subst h5))
      all_goals go_wp2_with fail
      all_goals go_roundw
      case rel => exact ⟨i + 1, M', by simp only [q1, q2, q3, q4], by go_num, by omega, hide ⟨(unhide k2).1.trans (.below (drew1 _)), (unhide k2).2.1.below (drew1 _), (unhide k2).2.2.kx (Nat.le_of_lt (rdlt (unhide k2).2.1)) (.below (drew1 _))⟩, HM'⟩
      case measure => simp [intOf]; omega
    · obtain rfl : i = n := by omega
      have e1 : decide ((i : Int) < (i : Int)) = false := decide_eq_false (by omega)
      have e2' : decide (i < i) = false := decide_eq_false (by omega)
      go_wp2_with fail
      go_ret
      refine ⟨?_, hide ⟨(unhide k2).1, (unhide k2).2.1⟩⟩
      have HZ : M = Larder.ofBig V := by
        rw [unhide HM, List.take_of_length_le (by have := unhide e2; omega)]
        rcases hn with h0 | h8
        · obtain rfl : V = [] := List.length_eq_zero_iff.1 (by rw [← unhide e2]; exact h0)
          exact Nat.zero_mul _
        · rw [h8]
          exact Nat.mul_one _
      rw [← HZ]
      rfl
end Go.Proofs.Ytljeedgnjgeopaa
