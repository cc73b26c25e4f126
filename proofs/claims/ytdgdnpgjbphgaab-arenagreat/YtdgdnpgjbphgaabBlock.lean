/- A block as it lies in memory; what asks of it. -/
import Derived.Test.YtdgdnpgjbphgaabHead
import Derived.Lib.SliceRun
import Derived.Deep.OwnRows
import Derived.Laws.IdiomCopy
namespace Go.Proofs.Ytdgdnpgjbphgaab
open Go.ChangeShapes Go.WideShapes Go.ChangeAt Go.RowKit
set_option linter.unusedVariables false
set_option maxRecDepth 100000
set_option maxHeartbeats 1000000

/-- the blocks from the old ones that are not in B are as they were -/
structure But (B : List Nat) (w w' : World) : Prop where
  os : w'.os = w.os
  tape : w'.tape = w.tape
  output : w'.output = w.output
  size : w.heap.size ≤ w'.heap.size
  block : ∀ j, j < w.heap.size → j ∉ B → w'.heap[j]? = w.heap[j]?
theorem But.refl (B : List Nat) (w : World) : But B w w := ⟨rfl, rfl, rfl, Nat.le_refl _, fun _ _ _ => rfl⟩
theorem But.trans {B : List Nat} {a b c : World} (h : But B a b) (k : But B b c) : But B a c :=
  ⟨k.os.trans h.os, k.tape.trans h.tape, k.output.trans h.output, Nat.le_trans h.size k.size, fun j hj hB => (k.block j (Nat.lt_of_lt_of_le hj h.size) hB).trans (h.block j hj hB)⟩
theorem But.of_below {B : List Nat} {w w' : World} (h : Below w.heap.size w w') : But B w w' := ⟨h.os, h.tape, h.output, h.size, fun j hj _ => h.block j hj⟩
theorem But.cell {B : List Nat} {w w' : World} (h : But B w w') {q : Addr} (hq : q.block < w.heap.size) (hB : q.block ∉ B) : w'.cell? q = w.cell? q := by
  unfold World.cell?; rw [h.block _ hq hB]
theorem But.frozen {B : List Nat} {w w' : World} (h : But B w w') {q : Addr} (hq : q.block < w.heap.size) (hB : q.block ∉ B) : w'.frozen? q = w.frozen? q := by
  unfold World.frozen?; rw [h.block _ hq hB]
theorem But.set {B : List Nat} {w w' : World} (h : But B w w') (q : Addr) (hB : q.block ∈ B) (v : Value) : But B w (w'.setCell q v) :=
  ⟨h.os, h.tape, h.output, by simp; exact h.size, fun j hj hn => (Below.heap_setCell w' q v j (fun e => hn (e ▸ hB))).trans (h.block j hj hn)⟩

/-- a block: its struct at p, its words at bw, the marks of its heads at bh -/
structure Ar (w : World) (p bw bh : Nat) (ws : List Nat) (hs : List Bool) (used : Nat) : Prop where
  c0 : w.cell? ⟨p, 0, none⟩ = some (.slice (some ⟨bw, 0, none⟩) ws.length ws.length)
  c1 : w.cell? ⟨p, 1, none⟩ = some (.slice (some ⟨bh, 0, none⟩) ws.length ws.length)
  c2 : w.cell? ⟨p, 2, none⟩ = some (.int .i64 used)
  f2 : w.frozen? ⟨p, 2, none⟩ = false
  ww : ∀ j, j < ws.length → w.cell? ⟨bw, j, none⟩ = some (.int .u64 (ws.getD j 0 : Nat))
  wf : ∀ j, j < ws.length → w.frozen? ⟨bw, j, none⟩ = false
  hh : ∀ j, j < ws.length → w.cell? ⟨bh, j, none⟩ = some (.bool (hs.getD j false))
  hf : ∀ j, j < ws.length → w.frozen? ⟨bh, j, none⟩ = false
  hl : hs.length = ws.length
  ne1 : p ≠ bw
  ne2 : p ≠ bh
  ne3 : bw ≠ bh
  lp : p < w.heap.size
  lw : bw < w.heap.size
  lh : bh < w.heap.size
  u1 : 1 ≤ used
  u2 : used ≤ ws.length
  sz : ws.length ≤ 1048576
  small : ∀ j, j < ws.length → ws.getD j 0 < 18446744073709551616

theorem Ar.but {B : List Nat} {w w' : World} {p bw bh : Nat} {ws : List Nat} {hs : List Bool} {used : Nat} (h : Ar w p bw bh ws hs used) (k : But B w w') (h1 : p ∉ B) (h2 : bw ∉ B) (h3 : bh ∉ B) : Ar w' p bw bh ws hs used where
  c0 := (k.cell (q := ⟨p, 0, none⟩) h.lp h1).trans h.c0
  c1 := (k.cell (q := ⟨p, 1, none⟩) h.lp h1).trans h.c1
  c2 := (k.cell (q := ⟨p, 2, none⟩) h.lp h1).trans h.c2
  f2 := (k.frozen (q := ⟨p, 2, none⟩) h.lp h1).trans h.f2
  ww j hj := (k.cell (q := ⟨bw, j, none⟩) h.lw h2).trans (h.ww j hj)
  wf j hj := (k.frozen (q := ⟨bw, j, none⟩) h.lw h2).trans (h.wf j hj)
  hh j hj := (k.cell (q := ⟨bh, j, none⟩) h.lh h3).trans (h.hh j hj)
  hf j hj := (k.frozen (q := ⟨bh, j, none⟩) h.lh h3).trans (h.hf j hj)
  hl := h.hl
  ne1 := h.ne1
  ne2 := h.ne2
  ne3 := h.ne3
  lp := Nat.lt_of_lt_of_le h.lp k.size
  lw := Nat.lt_of_lt_of_le h.lw k.size
  lh := Nat.lt_of_lt_of_le h.lh k.size
  u1 := h.u1
  u2 := h.u2
  sz := h.sz
  small := h.small
theorem Ar.below {w w' : World} {p bw bh : Nat} {ws : List Nat} {hs : List Bool} {used : Nat} (h : Ar w p bw bh ws hs used) (k : Below w.heap.size w w') : Ar w' p bw bh ws hs used :=
  h.but (But.of_below (B := []) k) (by simp) (by simp) (by simp)

/-- an object begins at that place -/
def Begins (hs : List Bool) (used : Nat) (at' : Int) : Prop := 1 ≤ at' ∧ at' < used ∧ hs.getD at'.toNat false = true

theorem begins_yes {p bw bh : Nat} {ws : List Nat} {hs : List Bool} {used : Nat} (k : Nat) (w : World) (h : Ar w p bw bh ws hs used) (hb : Begins hs used k) :
    Calls Try.prog 62 #[.pointer (some ⟨p, 0, none⟩), .int .i64 k] w fun e w' => e = .returned (.bool true) ∧ w' = w := by
  obtain ⟨hb1, hb2, hb3⟩ := hb
  have e1 : decide ((1 : Int) ≤ (k : Int)) = true := decide_eq_true (by omega)
  have e2 : decide ((k : Int) < (used : Int)) = true := decide_eq_true (by omega)
  have c1 := h.c1
  have c2 := h.c2
  have hlt : k < ws.length := by have := h.u2; omega
  have hk := h.hh k hlt
  rw [Int.toNat_natCast] at hb3
  rw [hb3] at hk
  have hz := h.sz
  clear h
  go_enter Try.func62, Try.ntmps62
  go_wp2
  go_ret
  exact ⟨rfl, rfl⟩

theorem begins_no {p bw bh : Nat} {ws : List Nat} {hs : List Bool} {used : Nat} (at' : Int) (w : World) (h : Ar w p bw bh ws hs used) (hb : ¬ Begins hs used at') :
    Calls Try.prog 62 #[.pointer (some ⟨p, 0, none⟩), .int .i64 at'] w fun e w' => e = .returned (.bool false) ∧ w' = w := by
  have c1 := h.c1
  have c2 := h.c2
  by_cases h1 : (1 : Int) ≤ at'
  · have e1 : decide ((1 : Int) ≤ at') = true := decide_eq_true h1
    by_cases h2 : at' < used
    · obtain ⟨k, rfl⟩ := Int.eq_ofNat_of_zero_le (show (0 : Int) ≤ at' by omega)
      have e2 : decide ((k : Int) < (used : Int)) = true := decide_eq_true h2
      have hlt : k < ws.length := by have := h.u2; omega
      have hk := h.hh k hlt
      have hf : hs.getD k false = false := by
        cases e : hs.getD k false with
        | false => rfl
        | true => exact absurd ⟨h1, h2, by rw [Int.toNat_natCast]; exact e⟩ hb
      rw [hf] at hk
      have hz := h.sz
      clear h hb
      go_enter Try.func62, Try.ntmps62
      go_wp2
      go_ret
      exact ⟨rfl, rfl⟩
    · have e2 : decide (at' < (used : Int)) = false := decide_eq_false h2
      clear h hb
      go_enter Try.func62, Try.ntmps62
      go_wp2
      go_ret
      exact ⟨rfl, rfl⟩
  · have e1 : decide ((1 : Int) ≤ at') = false := decide_eq_false h1
    clear h hb
    go_enter Try.func62, Try.ntmps62
    go_wp2
    go_ret
    exact ⟨rfl, rfl⟩

theorem top_bit (x : Nat) (hx : x < 18446744073709551616) : (bits BinOp.and IntKind.u64 (x : Int) 9223372036854775808 != 0) = decide (9223372036854775808 ≤ x) := by
  have h := u64_and_nat x 9223372036854775808 hx (by decide)
  have e : bits BinOp.and IntKind.u64 (x : Int) 9223372036854775808 = ((x &&& 9223372036854775808 : Nat) : Int) := h
  have h2 : x &&& 9223372036854775808 = (x.testBit 63).toNat * 9223372036854775808 := by
    apply Nat.eq_of_testBit_eq
    intro i
    rw [Nat.testBit_and, show (9223372036854775808 : Nat) = 2 ^ 63 from rfl, Nat.testBit_two_pow]
    by_cases hi : 63 = i
    · subst hi
      cases x.testBit 63 with
      | true => rw [Bool.toNat_true, Nat.one_mul, Nat.testBit_two_pow]; simp
      | false => simp
    · rw [decide_eq_false hi, Bool.and_false]
      cases x.testBit 63 with
      | true => rw [Bool.toNat_true, Nat.one_mul, Nat.testBit_two_pow, decide_eq_false hi]
      | false => simp
  have h3 : x.testBit 63 = decide (9223372036854775808 ≤ x) := by
    rw [Nat.testBit_eq_decide_div_mod_eq]
    apply decide_eq_decide.2
    omega
  rw [e, h2, h3]
  by_cases hc : 9223372036854775808 ≤ x
  · rw [decide_eq_true hc]; rfl
  · rw [decide_eq_false hc]; rfl

theorem moved_any (x : Nat) (hx : x < 18446744073709551616) (w : World) :
    Calls Try.prog 63 #[.int .u64 x] w fun e w' => e = .returned (.bool (decide (9223372036854775808 ≤ x))) ∧ w' = w := by
  go_enter Try.func63, Try.ntmps63
  go_wp2
  go_ret
  exact ⟨ret_bool (top_bit x hx), rfl⟩

/-- what Object answers: the shape, or an error -/
def objRes (ws : List Nat) (hs : List Bool) (used : Nat) (at' : Int) : Nat × Nat × Nat × Nat :=
  if 1 ≤ at' ∧ at' < used ∧ hs.getD at'.toNat false = true then
    (if 9223372036854775808 ≤ ws.getD at'.toNat 0 then (0, 0, 0, 26) else (ws.getD at'.toNat 0 % 256, ws.getD at'.toNat 0 / 256 % 16777216, ws.getD at'.toNat 0 / 4294967296 % 16777216, 0))
  else (0, 0, 0, 23)

/-- every head of the block is one, or tells where its object went -/
def Heads (ws : List Nat) (hs : List Bool) (used : Nat) : Prop := ∀ k, k < used → hs.getD k false = true → ws.getD k 0 < 9223372036854775808 → IsHead (ws.getD k 0) ∧ k + 1 + ws.getD k 0 / 256 % 16777216 + ws.getD k 0 / 4294967296 % 16777216 ≤ used

theorem object_any {p bw bh : Nat} {ws : List Nat} {hs : List Bool} {used : Nat} (at' : Int) (w : World) (h : Ar w p bw bh ws hs used) (hh : Heads ws hs used) :
    Calls Try.prog 21 #[.pointer (some ⟨p, 0, none⟩), .int .i64 at'] w fun e w' => e = .returned (.tuple #[.int .i64 ((objRes ws hs used at').1 : Nat), .int .i64 ((objRes ws hs used at').2.1 : Nat), .int .i64 ((objRes ws hs used at').2.2.1 : Nat), .int .i64 ((objRes ws hs used at').2.2.2 : Nat)]) ∧ Below w.heap.size w w' := by
  unfold objRes
  by_cases hb : 1 ≤ at' ∧ at' < used ∧ hs.getD at'.toNat false = true
  · rw [if_pos hb]
    obtain ⟨k, rfl⟩ := Int.eq_ofNat_of_zero_le (show (0 : Int) ≤ at' by omega)
    have HB := hide (begins_yes k w h hb)
    rw [Int.toNat_natCast] at hb ⊢
    have hlt : k < ws.length := by have := h.u2; omega
    have hk := h.ww k hlt
    have c0 := h.c0
    have hx := h.small k hlt
    have hz := h.sz
    have hhk := hh k (by omega) hb.2.2
    obtain ⟨x, hxe⟩ : ∃ x, x = ws.getD k 0 := ⟨_, rfl⟩
    rw [← hxe] at hk hx hhk ⊢
    have HM := hide (moved_any x hx w)
    by_cases hm : 9223372036854775808 ≤ x
    · rw [if_pos hm]
      rw [decide_eq_true hm] at HM
      clear h hh hb hhk hxe
      go_enter Try.func21, Try.ntmps21
      go_wp2_with fail
      refine (unhide HB).mono ?_
      rintro e w' ⟨rfl, hw'⟩
      obtain rfl := hw'.symm
      go_wp2_with fail
      refine (unhide HM).mono ?_
      rintro e w' ⟨rfl, hw'⟩
      obtain rfl := hw'.symm
      go_wp2
      exact bodyPost_ret (v := .tuple #[.int .i64 0, .int .i64 0, .int .i64 0, .int .i64 26]) (by simp [results, Try.results21, go_sem]) rfl ⟨rfl, Below.refl _ _⟩
    · rw [if_neg hm]
      rw [decide_eq_false hm] at HM
      have HS := hide (split_any x w hx)
      have hhead := hide (hhk (by omega)).1
      clear h hh hb hhk hxe
      go_enter Try.func21, Try.ntmps21
      go_wp2_with fail
      refine (unhide HB).mono ?_
      rintro e w' ⟨rfl, hw'⟩
      obtain rfl := hw'.symm
      go_wp2_with fail
      refine (unhide HM).mono ?_
      rintro e w' ⟨rfl, hw'⟩
      obtain rfl := hw'.symm
      go_wp2_with fail
      refine (unhide HS).mono ?_
      rintro e w1 ⟨hb1, ⟨_, rfl⟩ | ⟨hno, rfl⟩⟩
      · go_wp2
        exact bodyPost_ret (v := .tuple #[.int .i64 (x % 256 : Nat), .int .i64 (x / 256 % 16777216 : Nat), .int .i64 (x / 4294967296 % 16777216 : Nat), .int .i64 0]) (by simp [results, Try.results21, go_sem]) rfl ⟨rfl, hb1⟩
      · exact absurd (unhide hhead) hno
  · rw [if_neg hb]
    have HB := hide (begins_no at' w h hb)
    clear h hh hb
    go_enter Try.func21, Try.ntmps21
    go_wp2_with fail
    refine (unhide HB).mono ?_
    rintro e w' ⟨rfl, hw'⟩
    obtain rfl := hw'.symm
    go_wp2
    exact bodyPost_ret (v := .tuple #[.int .i64 0, .int .i64 0, .int .i64 0, .int .i64 23]) (by simp [results, Try.results21, go_sem]) rfl ⟨rfl, Below.refl _ _⟩

theorem span_any {p bw bh : Nat} {ws : List Nat} {hs : List Bool} {used : Nat} (k n : Nat) (w : World) (h : Ar w p bw bh ws hs used) (hn : k + n ≤ ws.length) :
    Calls Try.prog 59 #[.pointer (some ⟨p, 0, none⟩), .int .i64 k, .int .i64 n] w fun e w' => (∃ off, e = .returned (.slice (some ⟨bw, off, none⟩) n n) ∧ (0 < n → off = k)) ∧ w' = w := by
  have c0 := h.c0
  have hz := h.sz
  clear h
  by_cases h0 : n = 0
  · subst h0
    go_enter Try.func59, Try.ntmps59
    go_wp2
    go_ret
    exact ⟨⟨_, rfl, fun h => absurd h (by omega)⟩, rfl⟩
  · have hsub : k + n - k = n := by omega
    go_enter Try.func59, Try.ntmps59
    go_wp2
    go_ret
    refine ⟨⟨k, ?_, fun _ => rfl⟩, rfl⟩
    show Ending.returned (.slice (some ⟨bw, k, none⟩) (k + n - k) (k + n - k)) = _
    rw [hsub]

/-- the fields of an object, and how many of them are refs -/
theorem fields_yes {p bw bh : Nat} {ws : List Nat} {hs : List Bool} {used : Nat} (k : Nat) (w : World) (h : Ar w p bw bh ws hs used) (hh : Heads ws hs used) (he : (objRes ws hs used k).2.2.2 = 0) :
    Calls Try.prog 75 #[.pointer (some ⟨p, 0, none⟩), .int .i64 k] w fun e w' => (∃ off, e = .returned (.tuple #[.slice (some ⟨bw, off, none⟩) ((objRes ws hs used k).2.1 + (objRes ws hs used k).2.2.1) ((objRes ws hs used k).2.1 + (objRes ws hs used k).2.2.1), .int .i64 ((objRes ws hs used k).2.1 : Nat), .int .i64 0]) ∧
      (0 < (objRes ws hs used k).2.1 + (objRes ws hs used k).2.2.1 → off = k + 1)) ∧ Below w.heap.size w w' ∧ k + 1 + (objRes ws hs used k).2.1 + (objRes ws hs used k).2.2.1 ≤ used := by
  have HO := object_any (k : Int) w h hh
  have hfit : k + 1 + (objRes ws hs used k).2.1 + (objRes ws hs used k).2.2.1 ≤ used := by
    unfold objRes at he ⊢
    by_cases hb : 1 ≤ (k : Int) ∧ (k : Int) < used ∧ hs.getD (k : Int).toNat false = true
    · rw [if_pos hb] at he ⊢
      by_cases hm : 9223372036854775808 ≤ ws.getD (k : Int).toNat 0
      · rw [if_pos hm] at he; exact absurd he (by decide)
      · rw [if_neg hm] at he ⊢
        rw [Int.toNat_natCast] at *
        exact (hh k (by omega) hb.2.2 (by omega)).2
    · rw [if_neg hb] at he; exact absurd he (by decide)
  obtain ⟨kd, hkd⟩ : ∃ x, x = (objRes ws hs used k).1 := ⟨_, rfl⟩
  obtain ⟨r, hr⟩ : ∃ x, x = (objRes ws hs used k).2.1 := ⟨_, rfl⟩
  obtain ⟨s, hsr⟩ : ∃ x, x = (objRes ws hs used k).2.2.1 := ⟨_, rfl⟩
  rw [he, ← hkd, ← hr, ← hsr] at HO
  rw [← hr, ← hsr] at hfit ⊢
  have hu := h.u2
  have hz := h.sz
  have HSP : Hid (∀ w', Below w.heap.size w w' → Calls Try.prog 59 #[.pointer (some ⟨p, 0, none⟩), .int .i64 ((k : Int) + 1), .int .i64 ((r : Int) + s)] w' fun e w'' => (∃ off, e = .returned (.slice (some ⟨bw, off, none⟩) (r + s) (r + s)) ∧ (0 < r + s → off = k + 1)) ∧ w'' = w') := hide (fun w' hb => by
    have h1 := span_any (k + 1) (r + s) w' (h.below hb) (by omega)
    have e1 : ((k + 1 : Nat) : Int) = (k : Int) + 1 := by omega
    have e2 : ((r + s : Nat) : Int) = (r : Int) + s := by omega
    rw [e1, e2] at h1
    exact h1)
  have HOO := hide HO
  clear HO h hh he hkd hr hsr
  go_enter Try.func75, Try.ntmps75
  go_wp2_with fail
  refine (unhide HOO).mono ?_
  rintro e w1 ⟨rfl, hb1⟩
  go_wp2_with fail
  refine (unhide HSP w1 hb1).mono ?_
  rintro e w' ⟨⟨off, rfl, hoff⟩, hw'⟩
  obtain rfl := hw'.symm
  have HF := hide hoff
  clear hoff
  go_wp2
  go_ret3
  exact ⟨⟨off, rfl, unhide HF⟩, hb1, hfit⟩
theorem fields_no {p bw bh : Nat} {ws : List Nat} {hs : List Bool} {used : Nat} (at' : Int) (w : World) (h : Ar w p bw bh ws hs used) (hh : Heads ws hs used) (f : Nat) (hf : f = (objRes ws hs used at').2.2.2) (he : ¬ f = 0) :
    Calls Try.prog 75 #[.pointer (some ⟨p, 0, none⟩), .int .i64 at'] w fun e w' => e = .returned (.tuple #[.slice none 0 0, .int .i64 0, .int .i64 f]) ∧ Below w.heap.size w w' := by
  have HO := object_any at' w h hh
  rw [← hf] at HO
  have e1 : ((f : Int) == 0) = false := by rw [beq_eq_false_iff_ne]; omega
  generalize (objRes ws hs used at').1 = x1 at HO
  generalize (objRes ws hs used at').2.1 = x2 at HO
  generalize (objRes ws hs used at').2.2.1 = x3 at HO
  have HOO := hide HO
  clear HO h hh he hf
  go_enter Try.func75, Try.ntmps75
  go_wp2_with fail
  refine (unhide HOO).mono ?_
  rintro e w1 ⟨rfl, hb1⟩
  go_wp2
  go_ret3
  exact ⟨rfl, hb1⟩

/-- the error of a call about a field -/
def fieldErr (ws : List Nat) (hs : List Bool) (used : Nat) (at' i : Int) : Nat :=
  if (objRes ws hs used at').2.2.2 ≠ 0 then (objRes ws hs used at').2.2.2
  else if 0 ≤ i ∧ i < ((objRes ws hs used at').2.1 + (objRes ws hs used at').2.2.1 : Nat) then 0 else 24

theorem obj_nat {ws : List Nat} {hs : List Bool} {used : Nat} {at' : Int} (h : (objRes ws hs used at').2.2.2 = 0) : ∃ k : Nat, at' = k ∧ 1 ≤ k := by
  unfold objRes at h
  by_cases hb : 1 ≤ at' ∧ at' < used ∧ hs.getD at'.toNat false = true
  · exact ⟨at'.toNat, by omega, by omega⟩
  · rw [if_neg hb] at h; exact absurd h (by decide)

theorem field_yes {p bw bh : Nat} {ws : List Nat} {hs : List Bool} {used : Nat} (k j : Nat) (w : World) (h : Ar w p bw bh ws hs used) (hh : Heads ws hs used) (he : (objRes ws hs used k).2.2.2 = 0) (hj : j < (objRes ws hs used k).2.1 + (objRes ws hs used k).2.2.1) :
    Calls Try.prog 66 #[.pointer (some ⟨p, 0, none⟩), .int .i64 k, .int .i64 j] w fun e w' => e = .returned (.tuple #[.pointer (some ⟨bw, k + 1 + j, none⟩), .int .i64 0]) ∧ Below w.heap.size w w' ∧ k + 1 + j < used := by
  have HF := hide (fields_yes k w h hh he)
  have hu := h.u2
  have hz := h.sz
  generalize (objRes ws hs used k).2.1 = r at *
  generalize (objRes ws hs used k).2.2.1 = s at *
  clear h hh he
  have e1 : decide ((j : Int) < 0) = false := decide_eq_false (by omega)
  go_enter Try.func66, Try.ntmps66
  go_wp2_with fail
  refine (unhide HF).mono ?_
  rintro e w1 ⟨⟨off, rfl, hoff⟩, hb1, hfit⟩
  have ho : off = k + 1 := hoff (by omega)
  subst ho
  have e2 : decide (((r + s : Nat) : Int) ≤ (j : Int)) = false := decide_eq_false (by omega)
  clear hoff
  go_wp2
  go_ret2
  exact ⟨rfl, hb1, by omega⟩
theorem field_no {p bw bh : Nat} {ws : List Nat} {hs : List Bool} {used : Nat} (at' i : Int) (w : World) (h : Ar w p bw bh ws hs used) (hh : Heads ws hs used) (f : Nat) (hf : f = fieldErr ws hs used at' i) (hne : f ≠ 0) :
    Calls Try.prog 66 #[.pointer (some ⟨p, 0, none⟩), .int .i64 at', .int .i64 i] w fun e w' => e = .returned (.tuple #[.pointer none, .int .i64 f]) ∧ Below w.heap.size w w' := by
  unfold fieldErr at hf
  have e1 : ((f : Int) == 0) = false := by rw [beq_eq_false_iff_ne]; omega
  by_cases h0 : (objRes ws hs used at').2.2.2 ≠ 0
  · rw [if_pos h0] at hf
    have HF := hide (fields_no at' w h hh f hf hne)
    clear h hh hf h0 hne
    go_enter Try.func66, Try.ntmps66
    go_wp2_with fail
    refine (unhide HF).mono ?_
    rintro e w1 ⟨rfl, hb1⟩
    go_wp2
    go_ret2
    exact ⟨rfl, hb1⟩
  · rw [if_neg h0] at hf
    have he : (objRes ws hs used at').2.2.2 = 0 := by omega
    obtain ⟨k, rfl, hk1⟩ := obj_nat he
    have HF := hide (fields_yes k w h hh he)
    have hu := h.u2
    have hz := h.sz
    generalize (objRes ws hs used k).2.1 = r at *
    generalize (objRes ws hs used k).2.2.1 = s at *
    by_cases hi : 0 ≤ i ∧ i < ((r + s : Nat) : Int)
    · rw [if_pos hi] at hf; exact absurd hf hne
    · rw [if_neg hi] at hf
      subst hf
      clear h hh he h0 hne e1
      by_cases hn : i < 0
      · have e2 : decide (i < 0) = true := decide_eq_true hn
        go_enter Try.func66, Try.ntmps66
        go_wp2_with fail
        refine (unhide HF).mono ?_
        rintro e w1 ⟨⟨off, rfl, hoff⟩, hb1, hfit⟩
        clear hoff
        go_wp2
        go_ret2
        exact ⟨rfl, hb1⟩
      · have e2 : decide (i < 0) = false := decide_eq_false hn
        have e3 : decide (((r + s : Nat) : Int) ≤ i) = true := decide_eq_true (by omega)
        go_enter Try.func66, Try.ntmps66
        go_wp2_with fail
        refine (unhide HF).mono ?_
        rintro e w1 ⟨⟨off, rfl, hoff⟩, hb1, hfit⟩
        clear hoff
        go_wp2
        go_ret2
        exact ⟨rfl, hb1⟩

theorem get_yes {p bw bh : Nat} {ws : List Nat} {hs : List Bool} {used : Nat} (k j : Nat) (w : World) (h : Ar w p bw bh ws hs used) (hh : Heads ws hs used) (he : (objRes ws hs used k).2.2.2 = 0) (hj : j < (objRes ws hs used k).2.1 + (objRes ws hs used k).2.2.1) :
    Calls Try.prog 23 #[.pointer (some ⟨p, 0, none⟩), .int .i64 k, .int .i64 j] w fun e w' => e = .returned (.tuple #[.int .u64 (ws.getD (k + 1 + j) 0 : Nat), .int .i64 0]) ∧ Below w.heap.size w w' := by
  have HF := hide (field_yes k j w h hh he hj)
  have HC : Hid (∀ w', Below w.heap.size w w' → k + 1 + j < used → w'.cell? ⟨bw, k + 1 + j, none⟩ = some (.int .u64 (ws.getD (k + 1 + j) 0 : Nat))) := hide (fun w' hb hl => (h.below hb).ww _ (by have := h.u2; omega))
  generalize ws.getD (k + 1 + j) 0 = x at *
  clear h hh he hj
  go_enter Try.func23, Try.ntmps23
  go_wp2_with fail
  refine (unhide HF).mono ?_
  rintro e w1 ⟨rfl, hb1, hl⟩
  have hc := unhide HC w1 hb1 hl
  go_wp2
  go_ret2
  exact ⟨rfl, hb1⟩
theorem get_no {p bw bh : Nat} {ws : List Nat} {hs : List Bool} {used : Nat} (at' i : Int) (w : World) (h : Ar w p bw bh ws hs used) (hh : Heads ws hs used) (f : Nat) (hf : f = fieldErr ws hs used at' i) (hne : f ≠ 0) :
    Calls Try.prog 23 #[.pointer (some ⟨p, 0, none⟩), .int .i64 at', .int .i64 i] w fun e w' => e = .returned (.tuple #[.int .u64 0, .int .i64 f]) ∧ Below w.heap.size w w' := by
  have HF := hide (field_no at' i w h hh f hf hne)
  have e1 : ((f : Int) == 0) = false := by rw [beq_eq_false_iff_ne]; omega
  clear h hh hf hne
  go_enter Try.func23, Try.ntmps23
  go_wp2_with fail
  refine (unhide HF).mono ?_
  rintro e w1 ⟨rfl, hb1⟩
  go_wp2
  go_ret2
  exact ⟨rfl, hb1⟩

theorem getD_set (l : List Nat) (q v j : Nat) (hq : q < l.length) : (l.set q v).getD j 0 = if j = q then v else l.getD j 0 := by
  rw [List.getD_eq_getElem?_getD, List.getElem?_set, List.getD_eq_getElem?_getD]
  by_cases h : q = j
  · subst h; simp [hq]
  · rw [if_neg h, if_neg (fun e => h e.symm)]
theorem Ar.put {w : World} {p bw bh : Nat} {ws : List Nat} {hs : List Bool} {used : Nat} (h : Ar w p bw bh ws hs used) (q v : Nat) (hq : q < ws.length) (hv : v < 18446744073709551616) : Ar (w.setCell ⟨bw, q, none⟩ (.int .u64 (v : Int))) p bw bh (ws.set q v) hs used := by
  have hb : But [bw] w (w.setCell ⟨bw, q, none⟩ (.int .u64 (v : Int))) := (But.refl _ _).set ⟨bw, q, none⟩ (by simp) _
  have n1 : p ∉ [bw] := by simp; exact h.ne1
  have n3 : bh ∉ [bw] := by simp; exact Ne.symm h.ne3
  refine { c0 := ?_, c1 := ?_, c2 := ?_, f2 := ?_, ww := ?_, wf := ?_, hh := ?_, hf := ?_, hl := ?_, ne1 := h.ne1, ne2 := h.ne2, ne3 := h.ne3, lp := ?_, lw := ?_, lh := ?_, u1 := h.u1, u2 := ?_, sz := ?_, small := ?_ }
  · rw [hb.cell (q := ⟨p, 0, none⟩) h.lp n1, List.length_set]; exact h.c0
  · rw [hb.cell (q := ⟨p, 1, none⟩) h.lp n1, List.length_set]; exact h.c1
  · rw [hb.cell (q := ⟨p, 2, none⟩) h.lp n1]; exact h.c2
  · rw [hb.frozen (q := ⟨p, 2, none⟩) h.lp n1]; exact h.f2
  · intro j hj
    rw [List.length_set] at hj
    rw [getD_set ws q v j hq]
    by_cases e : j = q
    · subst e; rw [if_pos rfl]; exact World.cell?_setCell_same' w _ _ (by rw [h.ww j hj]; rfl)
    · rw [if_neg e, World.cell?_setCell_other _ _ _ _ (fun e' => e (by injection e' with e1 e2; exact e2.symm))]; exact h.ww j hj
  · intro j hj
    rw [List.length_set] at hj
    rw [World.frozen?_setCell]; exact h.wf j hj
  · intro j hj
    rw [List.length_set] at hj
    rw [hb.cell (q := ⟨bh, j, none⟩) h.lh n3]; exact h.hh j hj
  · intro j hj
    rw [List.length_set] at hj
    rw [hb.frozen (q := ⟨bh, j, none⟩) h.lh n3]; exact h.hf j hj
  · rw [List.length_set]; exact h.hl
  · exact Nat.lt_of_lt_of_le h.lp hb.size
  · exact Nat.lt_of_lt_of_le h.lw hb.size
  · exact Nat.lt_of_lt_of_le h.lh hb.size
  · rw [List.length_set]; exact h.u2
  · rw [List.length_set]; exact h.sz
  · intro j hj
    rw [List.length_set] at hj
    rw [getD_set ws q v j hq]
    split
    · exact hv
    · exact h.small j hj

theorem set_yes {p bw bh : Nat} {ws : List Nat} {hs : List Bool} {used : Nat} (k j v : Nat) (w : World) (hv : v < 18446744073709551616) (h : Ar w p bw bh ws hs used) (hh : Heads ws hs used) (he : (objRes ws hs used k).2.2.2 = 0) (hj : j < (objRes ws hs used k).2.1 + (objRes ws hs used k).2.2.1) :
    Calls Try.prog 25 #[.pointer (some ⟨p, 0, none⟩), .int .i64 k, .int .i64 j, .int .u64 v] w fun e w' => e = .returned (.int .i64 0) ∧ Ar w' p bw bh (ws.set (k + 1 + j) v) hs used ∧ But [bw] w w' := by
  have HF := hide (field_yes k j w h hh he hj)
  have HP : Hid (∀ w', Below w.heap.size w w' → k + 1 + j < used → Ar w' p bw bh ws hs used) := hide (fun w' hb hl => h.below hb)
  have hu := h.u2
  have HH := hide h
  clear h hh he hj
  go_enter Try.func25, Try.ntmps25
  go_wp2_with fail
  refine (unhide HF).mono ?_
  rintro e w1 ⟨rfl, hb1, hl⟩
  have ha := unhide HP w1 hb1 hl
  have hc := ha.ww (k + 1 + j) (by omega)
  have hf := ha.wf (k + 1 + j) (by omega)
  have HA := hide ha
  clear ha
  go_wp2
  go_ret
  exact ⟨rfl, (unhide HA).put _ v (by omega) hv, (But.of_below hb1).set _ (by simp) _⟩
theorem set_no {p bw bh : Nat} {ws : List Nat} {hs : List Bool} {used : Nat} (at' i : Int) (v : Nat) (w : World) (h : Ar w p bw bh ws hs used) (hh : Heads ws hs used) (f : Nat) (hf : f = fieldErr ws hs used at' i) (hne : f ≠ 0) :
    Calls Try.prog 25 #[.pointer (some ⟨p, 0, none⟩), .int .i64 at', .int .i64 i, .int .u64 v] w fun e w' => e = .returned (.int .i64 f) ∧ Below w.heap.size w w' := by
  have HF := hide (field_no at' i w h hh f hf hne)
  have e1 : ((f : Int) == 0) = false := by rw [beq_eq_false_iff_ne]; omega
  clear h hh hf hne
  go_enter Try.func25, Try.ntmps25
  go_wp2_with fail
  refine (unhide HF).mono ?_
  rintro e w1 ⟨rfl, hb1⟩
  go_wp2
  go_ret
  exact ⟨rfl, hb1⟩

theorem used_any {p bw bh : Nat} {ws : List Nat} {hs : List Bool} {used : Nat} (w : World) (h : Ar w p bw bh ws hs used) :
    Calls Try.prog 11 #[.pointer (some ⟨p, 0, none⟩)] w fun e w' => e = .returned (.int .i64 used) ∧ w' = w := by
  have c2 := h.c2
  clear h
  go_enter Try.func11, Try.ntmps11
  go_wp2
  go_ret
  exact ⟨rfl, rfl⟩
theorem size_any {p bw bh : Nat} {ws : List Nat} {hs : List Bool} {used : Nat} (w : World) (h : Ar w p bw bh ws hs used) :
    Calls Try.prog 38 #[.pointer (some ⟨p, 0, none⟩)] w fun e w' => e = .returned (.int .i64 ws.length) ∧ w' = w := by
  have c0 := h.c0
  clear h
  go_enter Try.func38, Try.ntmps38
  go_wp2
  go_ret
  exact ⟨rfl, rfl⟩
end Go.Proofs.Ytdgdnpgjbphgaab
