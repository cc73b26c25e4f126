/- places: Pack, Int, Uint, Hash, Sum of the bytes that lie in one list. -/
import Derived.Test.YtochdajeocganaaOther
import Derived.Test.YtochdajeocganaaRInt
import Derived.Test.YtochdajeocganaaNumber
import Derived.Test.YtochdajeocganaaRHash
import Derived.Test.YtochdajeocganaaRSum
import Derived.Test.YtochdajeocganaaRUnpack
import Derived.Deep.RegionHeld3
namespace Go.Proofs.Ytochdajeocganaa
open Go.ChangeShapes Go.WideShapes Go.ChangeAt Go.RowKit
set_option linter.unusedVariables false
set_option maxRecDepth 100000
set_option maxHeartbeats 1000000

theorem pchain {B : Nat} {a b c : World} (h : Below B a b) (k : Below b.heap.size b c) (hB : B ≤ b.heap.size) : Below B a c := h.trans (k.mono hB)
theorem pfield {w w1 : World} {vs : Array Value} {t : TypeId} (hb : Below (w.alloc (.cells vs t)).heap.size (w.alloc (.cells vs t)) w1) (j : Nat) : w1.cell? ⟨w.heap.size, j, none⟩ = vs[j]? := by
  rw [hb.cell (p := ⟨w.heap.size, j, none⟩) (by simp)]
  exact World.cell?_alloc_new ..

theorem places_pack (A B C N M : Int) (x : Nat) (hx : x < 18446744073709551616) (vT vW : Value) (a1 a2 : Option Addr) (c1 c2 : Nat) (w : World) (l : List Nat) (hl : l.length ≤ 140737488351232) (hs : Small l) (hB1 : Bytes w a1 l) (hB2 : Bytes w a2 l) (hc : l.length ≤ c1 ∧ c1 ≤ 9223372036854775807) :
    Calls Try.prog 24 #[.agg #[.int .i64 4, .int .i64 A, .int .i64 B, .int .i64 C, .int .i64 N, .int .i64 M, .int .u64 x, vT, vW], .slice a1 l.length c1, .slice a2 l.length c2] w fun e w' => e = .returned (.bool true) ∧ Below w.heap.size w w' := by
  have hb0 : Below w.heap.size w (w.alloc (.cells #[.int .i64 4, .int .i64 A, .int .i64 B, .int .i64 C, .int .i64 N, .int .i64 M, .int .u64 x, vT, vW] 54)) := (Below.refl _ _).alloc (Nat.le_refl _) _
  have hB10 := hB1.below hb0
  have hB20 := hB2.below hb0
  have hpl : (Larder.packL l).length ≤ 140737488355328 := by rw [Larder.packL_length]; unfold Larder.wn; omega
  clear hB1 hB2
  go_enter Try.func24, Try.ntmps24
  go_wp2_with fail
  refine (pack_any a1 c1 _ l (by omega) hB10 hs).mono ?_
  rintro e w2 ⟨v2, rfl, hown2, hb2⟩
  obtain ⟨a3, cap3, rfl, hW3⟩ := hown2.shape
  have hB22 := hB20.below hb2
  go_wp2_with fail
  refine (rpack_any a2 c2 w2 l (by omega) hB22 hs).mono ?_
  rintro e w3 ⟨v3, rfl, hown3, hb3⟩
  obtain ⟨a4, cap4, rfl, hW4⟩ := hown3.shape
  have hW33 := hW3.below hb3
  have hb03 := pchain hb2 hb3 hb2.size
  go_wp2_with fail
  refine (samew_yes a3 a4 cap3 cap4 w3 (Larder.packL l) hpl hW33 hW4).mono ?_
  rintro e w4 ⟨rfl, hb4⟩
  have hb04 := pchain hb03 hb4 hb03.size
  go_wp2
  go_ret
  exact ⟨rfl, pchain hb0 hb04 hb0.size⟩

theorem places_int (A B C N M : Int) (x : Nat) (hx : x < 18446744073709551616) (vT vW : Value) (a1 a2 : Option Addr) (c1 c2 : Nat) (w : World) (l : List Nat) (hl : l.length ≤ 140737488351232) (hs : Small l) (hB1 : Bytes w a1 l) (hB2 : Bytes w a2 l) (hc : l.length ≤ c1 ∧ c1 ≤ 9223372036854775807) :
    Calls Try.prog 24 #[.agg #[.int .i64 6, .int .i64 A, .int .i64 B, .int .i64 C, .int .i64 N, .int .i64 M, .int .u64 x, vT, vW], .slice a1 l.length c1, .slice a2 l.length c2] w fun e w' => e = .returned (.bool true) ∧ Below w.heap.size w w' := by
  have hb0 : Below w.heap.size w (w.alloc (.cells #[.int .i64 6, .int .i64 A, .int .i64 B, .int .i64 C, .int .i64 N, .int .i64 M, .int .u64 x, vT, vW] 54)) := (Below.refl _ _).alloc (Nat.le_refl _) _
  have hB10 := hB1.below hb0
  have hB20 := hB2.below hb0
  obtain ⟨n, hn⟩ : ∃ n, n = (Larder.intRes l).1 := ⟨_, rfl⟩
  obtain ⟨f, hf⟩ : ∃ f, f = (Larder.intRes l).2 := ⟨_, rfl⟩
  have HH : Hid (∀ w', Bytes w' a1 l → Calls Try.prog 35 #[.slice a1 l.length c1] w' fun e w'' => e = .returned (.tuple #[.int .i64 (n : Int), .int .i64 (f : Int)]) ∧ w'' = w') := by
    rw [hn, hf]; exact fun w' h => int_any a1 c1 w' l (by omega) hs hc.1 hc.2 h
  have HR : Hid (∀ w', Bytes w' a2 l → Calls Try.prog 36 #[.slice a2 l.length c2] w' fun e w'' => e = .returned (.tuple #[.int .i64 (n : Int), .int .i64 (f : Int)]) ∧ w'' = w') := by
    rw [hn, hf]; exact fun w' h => rint_any a2 c2 w' l (by omega) hs h
  clear hn hf hB1 hB2
  go_enter Try.func24, Try.ntmps24
  go_wp2_with fail
  refine (unhide HH _ hB10).mono ?_
  rintro e w' ⟨rfl, hw'⟩
  obtain rfl := hw'.symm
  go_wp2_with fail
  refine (unhide HR _ hB20).mono ?_
  rintro e w' ⟨rfl, hw'⟩
  obtain rfl := hw'.symm
  go_wp2_with fail
  refine (num_any f _).mono ?_
  rintro e w' ⟨rfl, hw'⟩
  obtain rfl := hw'.symm
  go_wp2
  go_ret
  exact ⟨rfl, hb0⟩

theorem places_uint (A B C N M : Int) (x : Nat) (hx : x < 18446744073709551616) (vT vW : Value) (a1 a2 : Option Addr) (c1 c2 : Nat) (w : World) (l : List Nat) (hl : l.length ≤ 140737488351232) (hs : Small l) (hB1 : Bytes w a1 l) (hB2 : Bytes w a2 l) (hc : l.length ≤ c1 ∧ c1 ≤ 9223372036854775807) :
    Calls Try.prog 24 #[.agg #[.int .i64 9, .int .i64 A, .int .i64 B, .int .i64 C, .int .i64 N, .int .i64 M, .int .u64 x, vT, vW], .slice a1 l.length c1, .slice a2 l.length c2] w fun e w' => e = .returned (.bool true) ∧ Below w.heap.size w w' := by
  have hb0 : Below w.heap.size w (w.alloc (.cells #[.int .i64 9, .int .i64 A, .int .i64 B, .int .i64 C, .int .i64 N, .int .i64 M, .int .u64 x, vT, vW] 54)) := (Below.refl _ _).alloc (Nat.le_refl _) _
  have hB10 := hB1.below hb0
  have hB20 := hB2.below hb0
  obtain ⟨n, hn⟩ : ∃ n, n = (Larder.uintRes l).1 := ⟨_, rfl⟩
  obtain ⟨f, hf⟩ : ∃ f, f = (Larder.uintRes l).2 := ⟨_, rfl⟩
  have HH : Hid (∀ w', Bytes w' a1 l → Calls Try.prog 37 #[.slice a1 l.length c1] w' fun e w'' => e = .returned (.tuple #[.int .u64 (n : Int), .int .i64 (f : Int)]) ∧ w'' = w') := by
    rw [hn, hf]; exact fun w' h => uint_any a1 c1 w' l (by omega) hs h
  have HR : Hid (∀ w', Bytes w' a2 l → Calls Try.prog 38 #[.slice a2 l.length c2] w' fun e w'' => e = .returned (.tuple #[.int .u64 (n : Int), .int .i64 (f : Int)]) ∧ w'' = w') := by
    rw [hn, hf]; exact fun w' h => ruint_any a2 c2 w' l (by omega) hs h
  clear hn hf hB1 hB2
  go_enter Try.func24, Try.ntmps24
  go_wp2_with fail
  refine (unhide HH _ hB10).mono ?_
  rintro e w' ⟨rfl, hw'⟩
  obtain rfl := hw'.symm
  go_wp2_with fail
  refine (unhide HR _ hB20).mono ?_
  rintro e w' ⟨rfl, hw'⟩
  obtain rfl := hw'.symm
  go_wp2_with fail
  refine (num_any f _).mono ?_
  rintro e w' ⟨rfl, hw'⟩
  obtain rfl := hw'.symm
  go_wp2
  go_ret
  exact ⟨rfl, hb0⟩

theorem places_sum (A B C N M : Int) (x : Nat) (hx : x < 18446744073709551616) (vT vW : Value) (a1 a2 : Option Addr) (c1 c2 : Nat) (w : World) (l : List Nat) (hl : l.length ≤ 140737488351232) (hs : Small l) (hB1 : Bytes w a1 l) (hB2 : Bytes w a2 l) (hc : l.length ≤ c1 ∧ c1 ≤ 9223372036854775807) :
    Calls Try.prog 24 #[.agg #[.int .i64 12, .int .i64 A, .int .i64 B, .int .i64 C, .int .i64 N, .int .i64 M, .int .u64 x, vT, vW], .slice a1 l.length c1, .slice a2 l.length c2] w fun e w' => e = .returned (.bool true) ∧ Below w.heap.size w w' := by
  have hb0 : Below w.heap.size w (w.alloc (.cells #[.int .i64 12, .int .i64 A, .int .i64 B, .int .i64 C, .int .i64 N, .int .i64 M, .int .u64 x, vT, vW] 54)) := (Below.refl _ _).alloc (Nat.le_refl _) _
  have hB10 := hB1.below hb0
  have hB20 := hB2.below hb0
  obtain ⟨s, hsm⟩ : ∃ s, s = (Larder.sumOf l).toNat := ⟨_, rfl⟩
  have HH : Hid (∀ w', Bytes w' a1 l → Calls Try.prog 10 #[.slice a1 l.length c1] w' fun e w'' => e = .returned (.int .u64 (s : Int)) ∧ Below w'.heap.size w' w'') := by
    rw [hsm]; exact fun w' h => sum_any a1 c1 w' l (by omega) hs h
  have HR : Hid (∀ w', Bytes w' a2 l → Calls Try.prog 40 #[.slice a2 l.length c2] w' fun e w'' => e = .returned (.int .u64 (s : Int)) ∧ w'' = w') := by
    rw [hsm]; exact fun w' h => rsum_any a2 c2 w' l (by omega) hs h
  clear hsm hB1 hB2
  go_enter Try.func24, Try.ntmps24
  go_wp2_with fail
  refine (unhide HH _ hB10).mono ?_
  rintro e w1 ⟨rfl, hb1⟩
  have hB21 := hB20.below hb1
  go_wp2_with fail
  refine (unhide HR _ hB21).mono ?_
  rintro e w' ⟨rfl, hw'⟩
  obtain rfl := hw'.symm
  go_wp2
  go_ret
  exact ⟨rfl, pchain hb0 hb1 hb0.size⟩

theorem pkeep {w0 wx w1 : World} {b j : Nat} {v : Value} (hlt : b < w0.heap.size) (h12 : wx.cell? ⟨b, j, none⟩ = some v ∧ Below w0.heap.size w0 wx) (h3 : Below wx.heap.size wx w1) :
    w1.cell? ⟨b, j, none⟩ = some v ∧ Below w0.heap.size w0 w1 :=
  ⟨(h3.cell (p := ⟨b, j, none⟩) (Nat.lt_of_lt_of_le hlt h12.2.size)).trans h12.1, h12.2.trans (h3.mono h12.2.size)⟩
theorem pstart {w0 : World} {b j : Nat} {v : Value} (h1 : w0.cell? ⟨b, j, none⟩ = some v) : w0.drew.cell? ⟨b, j, none⟩ = some v ∧ Below w0.heap.size w0 w0.drew :=
  ⟨h1, ⟨rfl, rfl, rfl, Nat.le_refl _, fun _ _ => rfl⟩⟩

theorem places_hash (A B C N M : Int) (x : Nat) (hx : x < 18446744073709551616) (vT vW : Value) (a1 a2 : Option Addr) (c1 c2 : Nat) (w : World) (l : List Nat) (hl : l.length ≤ 140737488351232) (hs : Small l) (hB1 : Bytes w a1 l) (hB2 : Bytes w a2 l) (hc : l.length ≤ c1 ∧ c1 ≤ 9223372036854775807) :
    Calls Try.prog 24 #[.agg #[.int .i64 11, .int .i64 A, .int .i64 B, .int .i64 C, .int .i64 N, .int .i64 M, .int .u64 x, vT, vW], .slice a1 l.length c1, .slice a2 l.length c2] w fun e w' => e = .returned (.bool true) ∧ Below w.heap.size w w' := by
  obtain ⟨w0, hw0⟩ : ∃ w0, w0 = (w.alloc (.cells #[.int .i64 11, .int .i64 A, .int .i64 B, .int .i64 C, .int .i64 N, .int .i64 M, .int .u64 x, vT, vW] 54)) := ⟨_, rfl⟩
  have hb0 : Below w.heap.size w w0 := by rw [hw0]; exact (Below.refl _ _).alloc (Nat.le_refl _) _
  have hc6 : w0.cell? ⟨w.heap.size, 6, none⟩ = some (.int .u64 x) := by rw [hw0]; exact pfield (Below.refl _ _) 6
  have hlt : w.heap.size < w0.heap.size := by rw [hw0]; simp
  have hB10 := hB1.below hb0
  have hB20 := hB2.below hb0
  obtain ⟨h, hh⟩ : ∃ h, h = Larder.hashN x l := ⟨_, rfl⟩
  have HH : Hid (∀ w', (w'.cell? ⟨w.heap.size, 6, none⟩ = some (.int .u64 x) ∧ Below w0.heap.size w0 w') → Calls Try.prog 20 #[.int .u64 x, .slice a1 l.length c1] w' fun e w'' => e = .returned (.int .u64 (h : Int)) ∧ Below w'.heap.size w' w'') := by
    rw [hh]; exact fun w' q => hash_any x a1 c1 w' l hx (by omega) (hB10.below q.2) hs
  have HR : Hid (∀ w', (w'.cell? ⟨w.heap.size, 6, none⟩ = some (.int .u64 x) ∧ Below w0.heap.size w0 w') → Calls Try.prog 39 #[.int .u64 x, .slice a2 l.length c2] w' fun e w'' => e = .returned (.int .u64 (h : Int)) ∧ Below w'.heap.size w' w'') := by
    rw [hh]; exact fun w' q => rhash_any x a2 c2 w' l hx (by omega) (hB20.below q.2) hs
  have HC := hide hc6
  have HB := hide hb0
  have HW := hide hw0
  have HLT := hide hlt
  clear hh hB1 hB2 hB10 hB20 hc6 hb0 hw0 hlt
  go_enter Try.func24, Try.ntmps24
  go_wp2_with fail
  rw [← unhide HW]
  go_region_held3 (fun w' => w'.cell? ⟨w.heap.size, 6, none⟩ = some (.int .u64 x) ∧ Below w0.heap.size w0 w')
    (first | exact pstart (unhide HC) | assumption | exact pkeep (unhide HLT) (by assumption) (by assumption))
    (first
      | (go_at_call 20; refine (unhide HH _ (by assumption)).mono ?_; rintro e w1 ⟨rfl, hb1⟩)
      | (go_at_call 39; refine (unhide HR _ (by assumption)).mono ?_; rintro e w2 ⟨rfl, hb2⟩))
  go_wp2
  go_ret
  have k0 := pchain (unhide HB) (pstart (unhide HC)).2 (unhide HB).size
  have k1 := pchain k0 hb1 k0.size
  exact ⟨rfl, pchain k1 hb2 k1.size⟩

theorem places_none (A B C N M : Int) (K : Int) (hK : K ≠ 4 ∧ K ≠ 6 ∧ K ≠ 9 ∧ K ≠ 11 ∧ K ≠ 12) (x : Nat) (hx : x < 18446744073709551616) (vT vW : Value) (a1 a2 : Option Addr) (c1 c2 : Nat) (w : World) (l : List Nat) (hl : l.length ≤ 140737488351232) (hs : Small l) (hB1 : Bytes w a1 l) (hB2 : Bytes w a2 l) (hc : l.length ≤ c1 ∧ c1 ≤ 9223372036854775807) :
    Calls Try.prog 24 #[.agg #[.int .i64 K, .int .i64 A, .int .i64 B, .int .i64 C, .int .i64 N, .int .i64 M, .int .u64 x, vT, vW], .slice a1 l.length c1, .slice a2 l.length c2] w fun e w' => e = .returned (.bool true) ∧ Below w.heap.size w w' := by
  have hb0 : Below w.heap.size w (w.alloc (.cells #[.int .i64 K, .int .i64 A, .int .i64 B, .int .i64 C, .int .i64 N, .int .i64 M, .int .u64 x, vT, vW] 54)) := (Below.refl _ _).alloc (Nat.le_refl _) _
  have hB10 := hB1.below hb0
  have hB20 := hB2.below hb0
  have e4 : (K == 4) = false := by rw [beq_eq_false_iff_ne]; omega
  have e6 : (K == 6) = false := by rw [beq_eq_false_iff_ne]; omega
  have e9 : (K == 9) = false := by rw [beq_eq_false_iff_ne]; omega
  have e11 : (K == 11) = false := by rw [beq_eq_false_iff_ne]; omega
  have e12 : (K == 12) = false := by rw [beq_eq_false_iff_ne]; omega
  clear hB1 hB2 hB10 hB20 hK
  go_enter Try.func24, Try.ntmps24
  go_wp2
  go_ret
  exact ⟨rfl, hb0⟩

theorem places_any (A B C N M : Int) (K : Int) (x : Nat) (hx : x < 18446744073709551616) (vT vW : Value) (a1 a2 : Option Addr) (c1 c2 : Nat) (w : World) (l : List Nat) (hl : l.length ≤ 140737488351232) (hs : Small l) (hB1 : Bytes w a1 l) (hB2 : Bytes w a2 l) (hc : l.length ≤ c1 ∧ c1 ≤ 9223372036854775807) :
    Calls Try.prog 24 #[.agg #[.int .i64 K, .int .i64 A, .int .i64 B, .int .i64 C, .int .i64 N, .int .i64 M, .int .u64 x, vT, vW], .slice a1 l.length c1, .slice a2 l.length c2] w fun e w' => e = .returned (.bool true) ∧ Below w.heap.size w w' := by
  by_cases h4 : K = 4
  · subst h4; exact places_pack A B C N M x hx vT vW a1 a2 c1 c2 w l hl hs hB1 hB2 hc
  by_cases h6 : K = 6
  · subst h6; exact places_int A B C N M x hx vT vW a1 a2 c1 c2 w l hl hs hB1 hB2 hc
  by_cases h9 : K = 9
  · subst h9; exact places_uint A B C N M x hx vT vW a1 a2 c1 c2 w l hl hs hB1 hB2 hc
  by_cases h11 : K = 11
  · subst h11; exact places_hash A B C N M x hx vT vW a1 a2 c1 c2 w l hl hs hB1 hB2 hc
  by_cases h12 : K = 12
  · subst h12; exact places_sum A B C N M x hx vT vW a1 a2 c1 c2 w l hl hs hB1 hB2 hc
  exact places_none A B C N M K ⟨h4, h6, h9, h11, h12⟩ x hx vT vW a1 a2 c1 c2 w l hl hs hB1 hB2 hc
end Go.Proofs.Ytochdajeocganaa
