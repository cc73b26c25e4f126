/- Classes: four words, a bit a byte. -/
import Derived.Test.YtjmnddcombepaaaSame
import Derived.Deep.Light
import Derived.Laws.CopyOwn
namespace Larder
/-- the words of a class tell the set S -/
def IsC (xs : List Nat) (S : Nat → Bool) : Prop := xs.length = 4 ∧ (∀ k, k < 4 → xs.getD k 0 < 18446744073709551616) ∧ ∀ b, b < 256 → (xs.getD (b / 64) 0).testBit (b % 64) = S b
/-- the bytes between two ends -/
def between (a b c : Nat) : Bool := decide ((a ≤ c ∧ c ≤ b) ∨ (b ≤ c ∧ c ≤ a))
theorem IsC.zero : IsC [0, 0, 0, 0] (fun _ => false) := by
  refine ⟨rfl, fun k hk => ?_, fun b hb => ?_⟩
  · obtain rfl | rfl | rfl | rfl : k = 0 ∨ k = 1 ∨ k = 2 ∨ k = 3 := by omega
    all_goals decide
  · obtain h | h | h | h : b / 64 = 0 ∨ b / 64 = 1 ∨ b / 64 = 2 ∨ b / 64 = 3 := by omega
    all_goals (rw [h]; exact Nat.zero_testBit _)
theorem four {xs : List Nat} (h : xs.length = 4) : ∃ a b c d, xs = [a, b, c, d] := by
  match xs, h with
  | [a, b, c, d], _ => exact ⟨a, b, c, d, rfl⟩
theorem getD_set (xs : List Nat) (q v j : Nat) (hq : q < xs.length) : (xs.set q v).getD j 0 = if j = q then v else xs.getD j 0 := by
  rw [List.getD_eq_getElem?_getD, List.getD_eq_getElem?_getD, List.getElem?_set]
  by_cases h : q = j
  · subst h; simp [hq]
  · rw [if_neg h, if_neg (fun e => h e.symm)]
theorem IsC.add {xs : List Nat} {S : Nat → Bool} (h : IsC xs S) (k : Nat) (hk : k < 256) : IsC (xs.set (k / 64) (xs.getD (k / 64) 0 ||| 2 ^ (k % 64))) (fun b => S b || decide (b = k)) := by
  obtain ⟨h4, hlt, hb⟩ := h
  have hq : k / 64 < xs.length := by omega
  refine ⟨by rw [List.length_set]; exact h4, ?_, ?_⟩
  · intro j hj
    rw [getD_set _ _ _ _ hq]
    split
    · refine Nat.or_lt_two_pow (n := 64) (hlt _ (by omega)) ?_
      exact Nat.pow_lt_pow_right (by decide) (by omega)
    · exact hlt j hj
  · intro b hbb
    rw [getD_set _ _ _ _ hq]
    by_cases e : b / 64 = k / 64
    · rw [if_pos e, Nat.testBit_or, ← e, hb b hbb, Nat.testBit_two_pow]
      congr 1
      rw [decide_eq_decide]
      omega
    · rw [if_neg e, hb b hbb]
      have : b ≠ k := fun h => e (by rw [h])
      simp [this]
theorem not_bit (x i : Nat) (hx : x < 18446744073709551616) (hi : i < 64) : (18446744073709551615 - x).testBit i = !x.testBit i := by
  have h := Nat.testBit_two_pow_sub_succ (n := 64) (x := x) hx i
  have e : 18446744073709551615 - x = 2 ^ 64 - (x + 1) := by omega
  rw [e, h]
  simp [hi]
theorem not_xor (x : Nat) (hx : x < 18446744073709551616) : 18446744073709551615 ^^^ x = 18446744073709551615 - x := by
  refine Nat.eq_of_testBit_eq (fun i => ?_)
  rw [Nat.testBit_xor]
  have h1 : (18446744073709551615 : Nat).testBit i = decide (i < 64) := Nat.testBit_two_pow_sub_one 64 i
  have h := Nat.testBit_two_pow_sub_succ (n := 64) (x := x) hx i
  have e : 18446744073709551615 - x = 2 ^ 64 - (x + 1) := by omega
  rw [e, h, h1]
  by_cases hi : i < 64
  · simp [hi]
  · have : x.testBit i = false := Nat.testBit_lt_two_pow (Nat.lt_of_lt_of_le hx (Nat.pow_le_pow_right (by decide : 0 < 2) (show 64 ≤ i by omega)))
    simp [hi, this]
theorem IsC.congr {xs : List Nat} {S S' : Nat → Bool} (h : IsC xs S) (e : ∀ b, b < 256 → S b = S' b) : IsC xs S' := ⟨h.1, h.2.1, fun b hb => (h.2.2 b hb).trans (e b hb)⟩
end Larder
namespace Go.Proofs.Ytjmnddcombepaaa
open Go.ChangeShapes Go.WideShapes Go.ChangeAt Go.RowKit
set_option linter.unusedVariables false
set_option maxRecDepth 20000

/-- words as cells -/
def wc (xs : List Nat) : List Value := xs.map fun x : Nat => Value.int .u64 (x : Int)
/-- a class as a value -/
def clsV (xs : List Nat) : Value := .agg (wc xs).toArray
/-- a class lies in the block g -/
def At4 (w : World) (g : Nat) (xs : List Nat) : Prop := w.heap[g]? = some (.cells (wc xs).toArray 88 (0, 0))
theorem wc_at (xs : List Nat) (k : Nat) (h : k < xs.length) : (wc xs)[k]? = some (.int .u64 (xs.getD k 0 : Nat)) := by
  unfold wc
  rw [List.getElem?_map, List.getD_eq_getElem?_getD, List.getElem?_eq_getElem h]; rfl
theorem At4.cell {w : World} {g : Nat} {xs : List Nat} (h : At4 w g xs) (k : Nat) (hk : k < xs.length) : w.cell? ⟨g, k, none⟩ = some (.int .u64 (xs.getD k 0 : Nat)) := by
  have e : w.cell? ⟨g, k, none⟩ = (wc xs)[k]? := by
    unfold At4 at h
    simp [World.cell?, h]
  rw [e, wc_at xs k hk]
theorem At4.froz {w : World} {g : Nat} {xs : List Nat} (h : At4 w g xs) (k : Nat) : w.frozen? ⟨g, k, none⟩ = false := by
  unfold At4 at h
  simp [World.frozen?, h]
theorem At4.set {w : World} {g : Nat} {xs : List Nat} (h : At4 w g xs) (k v : Nat) : At4 (w.setCell ⟨g, k, none⟩ (.int .u64 (v : Int))) g (xs.set k v) := by
  have := heap_setCell_same w g k _ 88 (.int .u64 (v : Int)) h
  unfold At4
  rw [this]
  congr 2
  unfold wc
  rw [List.map_set]
  simp
theorem At4.other {w : World} {g g' k : Nat} {v : Value} {xs : List Nat} (h : At4 w g xs) (e : g ≠ g') : At4 (w.setCell ⟨g', k, none⟩ v) g xs :=
  (Below.heap_setCell w ⟨g', k, none⟩ v g e).trans h
theorem At4.lt {w : World} {g : Nat} {xs : List Nat} (h : At4 w g xs) : g < w.heap.size := (Array.getElem?_eq_some_iff.1 h).1

theorem At4.cells {w : World} {g y0 y1 y2 y3 : Nat} (h : At4 w g [y0, y1, y2, y3]) : w.cell? ⟨g, 0, none⟩ = some (.int .u64 y0) ∧ w.cell? ⟨g, 1, none⟩ = some (.int .u64 y1) ∧ w.cell? ⟨g, 2, none⟩ = some (.int .u64 y2) ∧ w.cell? ⟨g, 3, none⟩ = some (.int .u64 y3) :=
  ⟨h.cell 0 (by simp), h.cell 1 (by simp), h.cell 2 (by simp), h.cell 3 (by simp)⟩
theorem At4.cells8 {w : World} {g y0 y1 y2 y3 : Nat} (h : At4 w g [y0, y1, y2, y3]) : w.cell? ⟨g, 0, none⟩ = some (.int .u64 y0) ∧ w.cell? ⟨g, 1, none⟩ = some (.int .u64 y1) ∧ w.cell? ⟨g, 2, none⟩ = some (.int .u64 y2) ∧ w.cell? ⟨g, 3, none⟩ = some (.int .u64 y3) ∧ w.frozen? ⟨g, 0, none⟩ = false ∧ w.frozen? ⟨g, 1, none⟩ = false ∧ w.frozen? ⟨g, 2, none⟩ = false ∧ w.frozen? ⟨g, 3, none⟩ = false :=
  ⟨h.cell 0 (by simp), h.cell 1 (by simp), h.cell 2 (by simp), h.cell 3 (by simp), h.froz 0, h.froz 1, h.froz 2, h.froz 3⟩
theorem At4.store4 {w : World} {g z0 z1 z2 z3 : Nat} (h : At4 w g [z0, z1, z2, z3]) (y0 y1 y2 y3 : Nat) :
    At4 ((((w.setCell ⟨g, 0, none⟩ (.int .u64 y0)).setCell ⟨g, 1, none⟩ (.int .u64 y1)).setCell ⟨g, 2, none⟩ (.int .u64 y2)).setCell ⟨g, 3, none⟩ (.int .u64 y3)) g [y0, y1, y2, y3] :=
  (((h.set 0 y0).set 1 y1).set 2 y2).set 3 y3

theorem has_any (xs : List Nat) (S : Nat → Bool) (hS : Larder.IsC xs S) (b : Nat) (w : World) (hb : b < 256) :
    Calls Try.prog 40 #[clsV xs, .int .u8 b] w fun e w' => e = .returned (.bool (S b)) ∧ Below w.heap.size w w' := by
  obtain ⟨h4, hlt, hbt⟩ := hS
  have HB := hide (hbt b hb)
  have hx := hlt (b / 64) (by omega)
  have hl := wc_at xs (b / 64) (by omega)
  obtain ⟨x0, x1, x2, x3, rfl⟩ := Larder.four h4
  generalize [x0, x1, x2, x3].getD (b / 64) 0 = x at *
  clear hlt hbt h4
  have hl : [Value.int IntKind.u64 (x0 : Int), Value.int IntKind.u64 x1, Value.int IntKind.u64 x2, Value.int IntKind.u64 x3][b / 64]? = some (.int .u64 (x : Int)) := hl
  show Calls Try.prog 40 #[.agg #[.int .u64 x0, .int .u64 x1, .int .u64 x2, .int .u64 x3], .int .u8 b] w _
  go_enter Try.func40, Try.ntmps40
  go_wp2
  go_ret
  refine ⟨ret_bool ?_, (Below.refl _ _).alloc (Nat.le_refl _) _⟩
  rw [← unhide HB]
  have e1 : ((x : Int) / 2 ^ (b % 64)) = ((x / 2 ^ (b % 64) : Nat) : Int) := by simp
  have hlt : x / 2 ^ (b % 64) < 18446744073709551616 := Nat.lt_of_le_of_lt (Nat.div_le_self _ _) hx
  have e2 := u64_and_nat (x / 2 ^ (b % 64)) 1 hlt (by decide)
  rw [e1]
  have e3 : bits BinOp.and IntKind.u64 ((x / 2 ^ (b % 64) : Nat) : Int) 1 = ((x / 2 ^ (b % 64) % 2 : Nat) : Int) := by
    rw [← Nat.and_one_is_mod]; exact e2
  rw [e3, Nat.testBit_eq_decide_div_mod_eq, Bool.eq_iff_iff, beq_iff_eq, decide_eq_true_iff]
  omega

theorem not_word (o : Nat) (ho : o < 18446744073709551616) : bits BinOp.xor IntKind.u64 (if IntKind.u64.signed = true then -1 else IntKind.u64.max) (o : Int) = ((18446744073709551615 - o : Nat) : Int) := by
  have e := u64_xor_nat 18446744073709551615 o (by decide) ho
  rw [Larder.not_xor o ho] at e
  exact e
theorem or_bit (o r : Nat) (ho : o < 18446744073709551616) (hr : r < 64) : bits BinOp.or IntKind.u64 (o : Int) (IntKind.u64.wrap (2 ^ r)) = ((o ||| 2 ^ r : Nat) : Int) := by
  have h : (2 : Nat) ^ r < 18446744073709551616 := Nat.pow_lt_pow_right (a := 2) (m := r) (n := 64) (by decide) hr
  have e : IntKind.u64.wrap (2 ^ r) = ((2 ^ r : Nat) : Int) := by
    rw [IntKind.wrap_u64]
    have : (2 : Int) ^ r = ((2 ^ r : Nat) : Int) := by simp
    rw [this]
    generalize 2 ^ r = p at *
    omega
  rw [e]; exact u64_or_nat o (2 ^ r) ho h
theorem cls_first (w : World) (ys zs : List Nat) : At4 ((w.alloc (.cells (wc ys).toArray 88)).alloc (.cells (wc zs).toArray 88)) w.heap.size ys := by
  have h := heap_alloc_new w (.cells (wc ys).toArray 88)
  have hb : Below (w.alloc (.cells (wc ys).toArray 88)).heap.size (w.alloc (.cells (wc ys).toArray 88)) ((w.alloc (.cells (wc ys).toArray 88)).alloc (.cells (wc zs).toArray 88)) := (Below.refl _ _).alloc (Nat.le_refl _) _
  exact (hb.block w.heap.size (by simp)).trans h
theorem cls_second (w : World) (ys zs : List Nat) : At4 ((w.alloc (.cells (wc ys).toArray 88)).alloc (.cells (wc zs).toArray 88)) (w.heap.size + 1) zs := by
  have h := heap_alloc_new (w.alloc (.cells (wc ys).toArray 88)) (.cells (wc zs).toArray 88)
  have e : (w.alloc (.cells (wc ys).toArray 88)).heap.size = w.heap.size + 1 := by simp
  rw [e] at h
  exact h

theorem with_le (xs : List Nat) (S : Nat → Bool) (hS : Larder.IsC xs S) (a b : Nat) (w : World) (ha : a ≤ b) (hb : b < 256) :
    Calls Try.prog 63 #[clsV xs, .int .u8 a, .int .u8 b] w fun e w' => ∃ ys, e = .returned (clsV ys) ∧ Larder.IsC ys (fun c => S c || Larder.between a b c) ∧ Below w.heap.size w w' := by
  obtain ⟨x0, x1, x2, x3, rfl⟩ := Larder.four hS.1
  have HS := hide hS
  clear hS
  show Calls Try.prog 63 #[.agg #[.int .u64 x0, .int .u64 x1, .int .u64 x2, .int .u64 x3], .int .u8 a, .int .u8 b] w _
  have hab : ¬ b < a := by omega
  go_enter Try.func63, Try.ntmps63
  go_wp2
  go_loopw [7] (fun i wr => ∃ (k : Nat) (ys : List Nat), a ≤ k ∧ k ≤ b + 1 ∧ i = .int .i64 k ∧ At4 wr w.heap.size ys ∧ At4 wr (w.heap.size + 1) [0, 0, 0, 0] ∧ Larder.IsC ys (fun c => S c || decide (a ≤ c ∧ c < k)) ∧ Below w.heap.size w wr) (fun i _ => 257 - (intOf i).toNat)
  case atStart =>
    refine ⟨a, [x0, x1, x2, x3], Nat.le_refl _, by omega, rfl, ?_, ?_, ?_, ?_⟩
    · exact cls_first w [x0, x1, x2, x3] [0, 0, 0, 0]
    · exact cls_second w [x0, x1, x2, x3] [0, 0, 0, 0]
    · exact (unhide HS).congr (fun c _ => by have : ¬ (a ≤ c ∧ c < a) := by omega
                                             simp [this])
    · exact ((Below.refl _ _).alloc (Nat.le_refl _) _).alloc (by simp) _
  case round =>
    obtain ⟨k, ys, hk1, hk2, rfl, hA, hR, hI, hbl⟩ := hrel
    have h4 := hI.1
    by_cases hlt : k ≤ b
    · obtain ⟨q, hq⟩ : ∃ q, q = k / 64 := ⟨_, rfl⟩
      obtain ⟨r, hr⟩ : ∃ r, r = k % 64 := ⟨_, rfl⟩
      obtain ⟨o, ho⟩ : ∃ o, o = ys.getD q 0 := ⟨_, rfl⟩
      have hcl := hA.cell q (by omega)
      have hfz := hA.froz q
      rw [← ho] at hcl
      have eq : (k : Int) / 64 = (q : Int) := by omega
      have er : (k : Int) % 64 = (r : Int) := by omega
      have hq4 : (q : Int) < 4 := by omega
      have hr64 : r < 64 := by omega
      have ho64 : o < 18446744073709551616 := by rw [ho]; exact hI.2.1 q (by omega)
      have hwq : IntKind.i64.wrap (q : Int) = (q : Int) := by rw [IntKind.wrap_i64]; omega
      have hwr : IntKind.i64.wrap (r : Int) = (r : Int) := by rw [IntKind.wrap_i64]; omega
      have hri : (r : Int) < 64 := by omega
      have HI := hide (hI.add k (by omega))
      rw [← hq, ← hr, ← ho] at HI
      have HA := hide hA
      have HR := hide hR
      have HB := hide hbl
      clear hq hr ho hI hA hR hbl
      go_wp2_with fail
      all_goals go_region
      all_goals go_wp2
      all_goals
        go_roundw
        case rel =>
          rw [or_bit o r ho64 hr64]
          refine ⟨k + 1, ys.set q (o ||| 2 ^ r), by omega, by omega, by go_num, (unhide HA).set q _, (unhide HR).other (by omega), (unhide HI).congr (fun c _ => ?_), ((unhide HB).setCell (p := ⟨w.heap.size, q, none⟩) (Nat.le_refl _) _).drew⟩
          rw [Bool.or_assoc, ← Bool.decide_or]
          congr 1
          rw [decide_eq_decide]
          omega
        case measure => simp [intOf]; omega
    · have hg : ¬ ((k : Int) ≤ (b : Int)) := by omega
      have hke : k = b + 1 := by omega
      obtain ⟨y0, y1, y2, y3, rfl⟩ := Larder.four h4
      obtain ⟨a0, a1, a2, a3⟩ := hA.cells
      obtain ⟨b0, b1, b2, b3, z0, z1, z2, z3⟩ := hR.cells8
      have HI := hide hI
      have HR := hide hR
      have HB := hide hbl
      clear hI hR hA hbl h4
      go_wp2
      all_goals
        refine bodyPost_ret (results_cell_row (p := 6) (ty := 88) rfl _ _ (w.heap.size + 1) 88 _ (0, 0) _ rfl ((unhide HR).store4 y0 y1 y2 y3) Try.underlying88 rfl (by kernel_rfl)) rfl ?_
        refine ⟨[y0, y1, y2, y3], rfl, (unhide HI).congr (fun c _ => ?_), ((((unhide HB).setCell (by simp) _).setCell (by simp) _).setCell (by simp) _).setCell (by simp) _⟩
        congr 1
        unfold Larder.between
        rw [decide_eq_decide]
        omega

theorem with_gt (xs : List Nat) (S : Nat → Bool) (hS : Larder.IsC xs S) (a b : Nat) (w : World) (ha : b < a) (hb : a < 256) :
    Calls Try.prog 63 #[clsV xs, .int .u8 a, .int .u8 b] w fun e w' => ∃ ys, e = .returned (clsV ys) ∧ Larder.IsC ys (fun c => S c || Larder.between a b c) ∧ Below w.heap.size w w' := by
  obtain ⟨x0, x1, x2, x3, rfl⟩ := Larder.four hS.1
  have HS := hide hS
  clear hS
  show Calls Try.prog 63 #[.agg #[.int .u64 x0, .int .u64 x1, .int .u64 x2, .int .u64 x3], .int .u8 a, .int .u8 b] w _
  go_enter Try.func63, Try.ntmps63
  go_wp2
  go_loopw [7] (fun i wr => ∃ (k : Nat) (ys : List Nat), b ≤ k ∧ k ≤ a + 1 ∧ i = .int .i64 k ∧ At4 wr w.heap.size ys ∧ At4 wr (w.heap.size + 1) [0, 0, 0, 0] ∧ Larder.IsC ys (fun c => S c || decide (b ≤ c ∧ c < k)) ∧ Below w.heap.size w wr) (fun i _ => 257 - (intOf i).toNat)
  case atStart =>
    refine ⟨b, [x0, x1, x2, x3], Nat.le_refl _, by omega, rfl, ?_, ?_, ?_, ?_⟩
    · exact cls_first w [x0, x1, x2, x3] [0, 0, 0, 0]
    · exact cls_second w [x0, x1, x2, x3] [0, 0, 0, 0]
    · exact (unhide HS).congr (fun c _ => by have : ¬ (b ≤ c ∧ c < b) := by omega
                                             simp [this])
    · exact ((Below.refl _ _).alloc (Nat.le_refl _) _).alloc (by simp) _
  case round =>
    obtain ⟨k, ys, hk1, hk2, rfl, hA, hR, hI, hbl⟩ := hrel
    have h4 := hI.1
    by_cases hlt : k ≤ a
    · obtain ⟨q, hq⟩ : ∃ q, q = k / 64 := ⟨_, rfl⟩
      obtain ⟨r, hr⟩ : ∃ r, r = k % 64 := ⟨_, rfl⟩
      obtain ⟨o, ho⟩ : ∃ o, o = ys.getD q 0 := ⟨_, rfl⟩
      have hcl := hA.cell q (by omega)
      have hfz := hA.froz q
      rw [← ho] at hcl
      have eq : (k : Int) / 64 = (q : Int) := by omega
      have er : (k : Int) % 64 = (r : Int) := by omega
      have hq4 : (q : Int) < 4 := by omega
      have hr64 : r < 64 := by omega
      have ho64 : o < 18446744073709551616 := by rw [ho]; exact hI.2.1 q (by omega)
      have hwq : IntKind.i64.wrap (q : Int) = (q : Int) := by rw [IntKind.wrap_i64]; omega
      have hwr : IntKind.i64.wrap (r : Int) = (r : Int) := by rw [IntKind.wrap_i64]; omega
      have hri : (r : Int) < 64 := by omega
      have HI := hide (hI.add k (by omega))
      rw [← hq, ← hr, ← ho] at HI
      have HA := hide hA
      have HR := hide hR
      have HB := hide hbl
      clear hq hr ho hI hA hR hbl
      go_wp2_with fail
      all_goals go_region
      all_goals go_wp2
      all_goals
        go_roundw
        case rel =>
          rw [or_bit o r ho64 hr64]
          refine ⟨k + 1, ys.set q (o ||| 2 ^ r), by omega, by omega, by go_num, (unhide HA).set q _, (unhide HR).other (by omega), (unhide HI).congr (fun c _ => ?_), ((unhide HB).setCell (p := ⟨w.heap.size, q, none⟩) (Nat.le_refl _) _).drew⟩
          rw [Bool.or_assoc, ← Bool.decide_or]
          congr 1
          rw [decide_eq_decide]
          omega
        case measure => simp [intOf]; omega
    · have hg : ¬ ((k : Int) ≤ (a : Int)) := by omega
      have hke : k = a + 1 := by omega
      obtain ⟨y0, y1, y2, y3, rfl⟩ := Larder.four h4
      obtain ⟨a0, a1, a2, a3⟩ := hA.cells
      obtain ⟨b0, b1, b2, b3, z0, z1, z2, z3⟩ := hR.cells8
      have HI := hide hI
      have HR := hide hR
      have HB := hide hbl
      clear hI hR hA hbl h4
      go_wp2
      all_goals
        refine bodyPost_ret (results_cell_row (p := 6) (ty := 88) rfl _ _ (w.heap.size + 1) 88 _ (0, 0) _ rfl ((unhide HR).store4 y0 y1 y2 y3) Try.underlying88 rfl (by kernel_rfl)) rfl ?_
        refine ⟨[y0, y1, y2, y3], rfl, (unhide HI).congr (fun c _ => ?_), ((((unhide HB).setCell (by simp) _).setCell (by simp) _).setCell (by simp) _).setCell (by simp) _⟩
        congr 1
        unfold Larder.between
        rw [decide_eq_decide]
        omega

theorem with_any (xs : List Nat) (S : Nat → Bool) (hS : Larder.IsC xs S) (a b : Nat) (w : World) (ha : a < 256) (hb : b < 256) :
    Calls Try.prog 63 #[clsV xs, .int .u8 a, .int .u8 b] w fun e w' => ∃ ys, e = .returned (clsV ys) ∧ Larder.IsC ys (fun c => S c || Larder.between a b c) ∧ Below w.heap.size w w' := by
  rcases Nat.lt_or_ge b a with h | h
  · exact with_gt xs S hS a b w h ha
  · exact with_le xs S hS a b w h hb

theorem others_any (xs : List Nat) (S : Nat → Bool) (hS : Larder.IsC xs S) (w : World) :
    Calls Try.prog 71 #[clsV xs] w fun e w' => ∃ ys, e = .returned (clsV ys) ∧ Larder.IsC ys (fun c => !S c) ∧ Below w.heap.size w w' := by
  obtain ⟨x0, x1, x2, x3, rfl⟩ := Larder.four hS.1
  have HS := hide hS
  clear hS
  show Calls Try.prog 71 #[.agg #[.int .u64 x0, .int .u64 x1, .int .u64 x2, .int .u64 x3]] w _
  go_enter Try.func71, Try.ntmps71
  go_wp2
  go_loopw [4] (fun i wr => ∃ (k : Nat) (ys : List Nat), k ≤ 4 ∧ i = .int .i64 k ∧ At4 wr w.heap.size ys ∧ At4 wr (w.heap.size + 1) [0, 0, 0, 0] ∧ ys.length = 4 ∧ (∀ j, j < 4 → ys.getD j 0 = if j < k then 18446744073709551615 - [x0, x1, x2, x3].getD j 0 else [x0, x1, x2, x3].getD j 0) ∧ Below w.heap.size w wr) (fun i _ => 4 - (intOf i).toNat)
  case atStart =>
    refine ⟨0, [x0, x1, x2, x3], by omega, rfl, ?_, ?_, rfl, fun j _ => by rw [if_neg (Nat.not_lt_zero _)], ?_⟩
    · exact cls_first w [x0, x1, x2, x3] [0, 0, 0, 0]
    · exact cls_second w [x0, x1, x2, x3] [0, 0, 0, 0]
    · exact ((Below.refl _ _).alloc (Nat.le_refl _) _).alloc (by simp) _
  case round =>
    obtain ⟨k, ys, hk, rfl, hA, hR, h4, hI, hbl⟩ := hrel
    by_cases hlt : k < 4
    · have hcl := hA.cell k (by omega)
      have hfz := hA.froz k
      obtain ⟨o, ho⟩ : ∃ o, o = ys.getD k 0 := ⟨_, rfl⟩
      rw [← ho] at hcl
      have ho2 : o < 18446744073709551616 := by
        rw [ho, hI k hlt, if_neg (Nat.lt_irrefl _)]; exact (unhide HS).2.1 k hlt
      have hk4 : (k : Int) < 4 := by omega
      have HA := hide hA
      have HR := hide hR
      have HI := hide hI
      have HB := hide hbl
      have HO := hide ho
      clear hA hR hI hbl ho
      go_wp2
      go_roundw
      case rel =>
        rw [not_word o ho2]
        refine ⟨k + 1, ys.set k (18446744073709551615 - o), by omega, by go_num, (unhide HA).set k _, (unhide HR).other (by omega), by rw [List.length_set]; exact h4, fun j hj => ?_, (unhide HB).setCell (p := ⟨w.heap.size, k, none⟩) (Nat.le_refl _) _⟩
        rw [Larder.getD_set _ _ _ _ (by omega), unhide HO, unhide HI j hj]
        by_cases e : j = k
        · subst e
          rw [if_pos rfl, if_pos (by omega), unhide HI j hj, if_neg (by omega)]
        · rw [if_neg e]
          by_cases e2 : j < k
          · rw [if_pos e2, if_pos (by omega)]
          · rw [if_neg e2, if_neg (by omega)]
      case measure => simp [intOf]; omega
    · obtain rfl : k = 4 := by omega
      obtain ⟨y0, y1, y2, y3, rfl⟩ := Larder.four h4
      obtain ⟨a0, a1, a2, a3⟩ := hA.cells
      obtain ⟨b0, b1, b2, b3, z0, z1, z2, z3⟩ := hR.cells8
      have HI := hide hI
      have HR := hide hR
      have HB := hide hbl
      clear hI hR hA hbl h4
      go_wp2
      refine bodyPost_ret (results_cell_row (p := 2) (ty := 88) rfl _ _ (w.heap.size + 1) 88 _ (0, 0) _ rfl ((unhide HR).store4 y0 y1 y2 y3) Try.underlying88 rfl (by kernel_rfl)) rfl ?_
      refine ⟨[y0, y1, y2, y3], rfl, ⟨rfl, fun j hj => ?_, fun c hc => ?_⟩, ((((unhide HB).setCell (by simp) _).setCell (by simp) _).setCell (by simp) _).setCell (by simp) _⟩
      · rw [unhide HI j hj, if_pos hj]; omega
      · have h1 := (unhide HS).2.1 (c / 64) (by omega)
        have h2 := (unhide HS).2.2 c hc
        rw [unhide HI (c / 64) (by omega), if_pos (by omega)]
        show _ = !S c
        rw [← h2]
        exact Larder.not_bit _ _ h1 (by omega)

theorem every_any (w : World) : Calls Try.prog 62 #[] w fun e w' => ∃ ys, e = .returned (clsV ys) ∧ Larder.IsC ys (fun c => true) ∧ Below w.heap.size w w' := by
  have hb0 : Below w.heap.size w (w.alloc (.cells #[.int .u64 0, .int .u64 0, .int .u64 0, .int .u64 0] 88)) := (Below.refl _ _).alloc (Nat.le_refl _) _
  have hA0 : At4 (w.alloc (.cells #[.int .u64 0, .int .u64 0, .int .u64 0, .int .u64 0] 88)) w.heap.size [0, 0, 0, 0] := heap_alloc_new _ _
  have H1 := hide (others_any [0, 0, 0, 0] _ Larder.IsC.zero (w.alloc (.cells #[.int .u64 0, .int .u64 0, .int .u64 0, .int .u64 0] 88)))
  go_enter Try.func62, Try.ntmps62
  go_wp2_with fail
  refine (unhide H1).mono ?_
  rintro e w1 ⟨ys, rfl, hI, hb1⟩
  have hA1 : At4 w1 w.heap.size [0, 0, 0, 0] := (hb1.block w.heap.size (by simp)).trans hA0
  obtain ⟨y0, y1, y2, y3, rfl⟩ := Larder.four hI.1
  obtain ⟨b0, b1, b2, b3, z0, z1, z2, z3⟩ := hA1.cells8
  have hbw : Below w.heap.size w w1 := hb0.trans (hb1.mono hb0.size)
  have HI := hide hI
  have HA := hide hA1
  have HB := hide hbw
  clear hI hA0 hA1 hb0 hb1 hbw H1
  unfold clsV wc
  go_wp2
  refine bodyPost_ret (results_cell_row (p := 0) (ty := 88) rfl _ _ w.heap.size 88 _ (0, 0) _ rfl ((unhide HA).store4 y0 y1 y2 y3) Try.underlying88 rfl (by kernel_rfl)) rfl ?_
  exact ⟨[y0, y1, y2, y3], rfl, unhide HI, ((((unhide HB).setCell (by simp) _).setCell (by simp) _).setCell (by simp) _).setCell (by simp) _⟩
end Go.Proofs.Ytjmnddcombepaaa
