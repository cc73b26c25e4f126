/- Score. -/
import Derived.Test.YtidfbelckdlbhabGreatMems
import Derived.Test.YtidfbelckdlbhabGreatStr
namespace Larder
/-- what Score reads behind the bracket -/
def scoreTail (o : Bool) (m : List Nat) : (Int × Int × Bool) × Nat :=
  if m = [45, 105, 110, 102] then ((-1, 0, false), 0)
  else if m = [105, 110, 102] ∨ m = [43, 105, 110, 102] then ((1, 0, false), 0)
  else if (intRes m).2 = 0 then ((0, (intRes m).1, o), 0) else ((0, 0, false), 90)
def scoreRes (l : List Nat) : (Int × Int × Bool) × Nat := if l.length > 0 ∧ l.getD 0 0 = 40 then scoreTail true (l.drop 1) else scoreTail false l
end Larder
namespace Go.Proofs.YtidfbelckdlbhabGreat
open Go.ChangeShapes Go.WideShapes Go.ChangeAt Go.RowKit
set_option linter.unusedVariables false
set_option maxRecDepth 20000

theorem str_is (l m : List Nat) (hs : Small l) (hm : Small m) : ((str l).toList == m.map (fun c => UInt8.ofNat c)) = decide (l = m) := by
  rw [← str_toList m]; exact str_same l m hs hm
theorem small_lit (m : List Nat) (h : m.all (fun c => decide (c < 256)) = true) : Small m := by
  intro i hi
  rw [List.getD_eq_getElem?_getD, List.getElem?_eq_getElem hi]
  exact of_decide_eq_true (List.all_eq_true.1 h _ (List.getElem_mem hi))
theorem bound_end (w : World) (x : Value) (fa sc : Int) (op : Bool) (er : Int) (tmps : Array Value) (h2 : tmps.getD 2 undef = .pointer (some ⟨w.heap.size, 0, none⟩)) (h3 : tmps.getD 3 undef = .int .i64 er) :
    (results Tryz.f8 tmps).run Tryz.prog (w.alloc (.cells #[.int .i64 fa, .int .i64 sc, .bool op] 30)) = .ok (.tuple #[.agg #[.int .i64 fa, .int .i64 sc, .bool op], .int .i64 er]) (w.alloc (.cells #[.int .i64 fa, .int .i64 sc, .bool op] 30)) := by
  refine results_cell_tmp (p := 2) (q := 3) (ty := 30) rfl tmps _ w.heap.size 30 _ (0, 0) _ h2 (heap_alloc_new _ _) Tryz.underlying30 rfl (by kernel_rfl) _ h3

theorem score_shut_A (b off n cap : Nat) (d : Nat) (w : World) (S : ByteArray) (hn : 0 < n) (hn2 : n ≤ 140737488355328) (hb : b < w.heap.size) (c0 : w.cell? ⟨b, off, none⟩ = some (.int .u8 (d : Nat))) (hdd : d < 256) (h40 : d ≠ 40)
    (hcv : ∀ o : Obj, (convert 34 9 (.slice (some ⟨b, off, none⟩) n cap)).run Tryz.prog (w.alloc o) = .ok (.string S) (w.alloc o)) (e1 : (S.toList == [45, 105, 110, 102]) = true)  :
    Calls Tryz.prog 8 #[.slice (some ⟨b, off, none⟩) n cap] w fun e w' => e = .returned (.tuple #[.agg #[.int .i64 (-1), .int .i64 0, .bool false], .int .i64 0]) ∧ Below w.heap.size w w' := by
  have hd40 : ((d : Int) == 40) = false := by rw [beq_eq_false_iff_ne]; omega
  go_enter Tryz.func8, Tryz.ntmps8
  go_wp2
  refine bodyPost_ret (v := .tuple #[.agg #[.int .i64 (-1), .int .i64 0, .bool false], .int .i64 0]) ?_ rfl ?_
  · exact bound_end w undef _ _ _ _ _ rfl rfl
  · exact ⟨rfl, (Below.refl _ _).alloc (Nat.le_refl _) _⟩

theorem score_shut_B (b off n cap : Nat) (d : Nat) (w : World) (S : ByteArray) (hn : 0 < n) (hn2 : n ≤ 140737488355328) (hb : b < w.heap.size) (c0 : w.cell? ⟨b, off, none⟩ = some (.int .u8 (d : Nat))) (hdd : d < 256) (h40 : d ≠ 40)
    (hcv : ∀ o : Obj, (convert 34 9 (.slice (some ⟨b, off, none⟩) n cap)).run Tryz.prog (w.alloc o) = .ok (.string S) (w.alloc o)) (e1 : (S.toList == [45, 105, 110, 102]) = false) (e2 : (S.toList == [105, 110, 102]) = true)  :
    Calls Tryz.prog 8 #[.slice (some ⟨b, off, none⟩) n cap] w fun e w' => e = .returned (.tuple #[.agg #[.int .i64 1, .int .i64 0, .bool false], .int .i64 0]) ∧ Below w.heap.size w w' := by
  have hd40 : ((d : Int) == 40) = false := by rw [beq_eq_false_iff_ne]; omega
  go_enter Tryz.func8, Tryz.ntmps8
  go_wp2
  refine bodyPost_ret (v := .tuple #[.agg #[.int .i64 1, .int .i64 0, .bool false], .int .i64 0]) ?_ rfl ?_
  · exact bound_end w undef _ _ _ _ _ rfl rfl
  · exact ⟨rfl, (Below.refl _ _).alloc (Nat.le_refl _) _⟩

theorem score_shut_C (b off n cap : Nat) (d : Nat) (w : World) (S : ByteArray) (hn : 0 < n) (hn2 : n ≤ 140737488355328) (hb : b < w.heap.size) (c0 : w.cell? ⟨b, off, none⟩ = some (.int .u8 (d : Nat))) (hdd : d < 256) (h40 : d ≠ 40)
    (hcv : ∀ o : Obj, (convert 34 9 (.slice (some ⟨b, off, none⟩) n cap)).run Tryz.prog (w.alloc o) = .ok (.string S) (w.alloc o)) (e1 : (S.toList == [45, 105, 110, 102]) = false) (e2 : (S.toList == [105, 110, 102]) = false) (e3 : (S.toList == [43, 105, 110, 102]) = true)  :
    Calls Tryz.prog 8 #[.slice (some ⟨b, off, none⟩) n cap] w fun e w' => e = .returned (.tuple #[.agg #[.int .i64 1, .int .i64 0, .bool false], .int .i64 0]) ∧ Below w.heap.size w w' := by
  have hd40 : ((d : Int) == 40) = false := by rw [beq_eq_false_iff_ne]; omega
  go_enter Tryz.func8, Tryz.ntmps8
  go_wp2
  refine bodyPost_ret (v := .tuple #[.agg #[.int .i64 1, .int .i64 0, .bool false], .int .i64 0]) ?_ rfl ?_
  · exact bound_end w undef _ _ _ _ _ rfl rfl
  · exact ⟨rfl, (Below.refl _ _).alloc (Nat.le_refl _) _⟩

theorem score_shut_D (b off n cap : Nat) (d : Nat) (w : World) (S : ByteArray) (hn : 0 < n) (hn2 : n ≤ 140737488355328) (hb : b < w.heap.size) (c0 : w.cell? ⟨b, off, none⟩ = some (.int .u8 (d : Nat))) (hdd : d < 256) (h40 : d ≠ 40)
    (hcv : ∀ o : Obj, (convert 34 9 (.slice (some ⟨b, off, none⟩) n cap)).run Tryz.prog (w.alloc o) = .ok (.string S) (w.alloc o)) (e1 : (S.toList == [45, 105, 110, 102]) = false) (e2 : (S.toList == [105, 110, 102]) = false) (e3 : (S.toList == [43, 105, 110, 102]) = false) (x : Int) (er : Nat) (her : er = 0) (HI : ∀ o : Obj, Calls Tryz.prog 28 #[.slice (some ⟨b, off, none⟩) n cap] (w.alloc o) fun e w' => e = .returned (.tuple #[.int .i64 x, .int .i64 (er : Nat)]) ∧ w' = w.alloc o) :
    Calls Tryz.prog 8 #[.slice (some ⟨b, off, none⟩) n cap] w fun e w' => e = .returned (.tuple #[.agg #[.int .i64 0, .int .i64 x, .bool false], .int .i64 0]) ∧ Below w.heap.size w w' := by
  have hd40 : ((d : Int) == 40) = false := by rw [beq_eq_false_iff_ne]; omega
  subst her
  have H1 := hide HI
  clear HI
  go_enter Tryz.func8, Tryz.ntmps8
  go_wp2_with fail
  refine (unhide H1 _).mono ?_
  rintro e w1 ⟨rfl, rfl⟩
  go_wp2
  refine bodyPost_ret (v := .tuple #[.agg #[.int .i64 0, .int .i64 x, .bool false], .int .i64 0]) ?_ rfl ?_
  · exact bound_end w undef _ _ _ _ _ rfl rfl
  · exact ⟨rfl, (Below.refl _ _).alloc (Nat.le_refl _) _⟩

theorem score_shut_E (b off n cap : Nat) (d : Nat) (w : World) (S : ByteArray) (hn : 0 < n) (hn2 : n ≤ 140737488355328) (hb : b < w.heap.size) (c0 : w.cell? ⟨b, off, none⟩ = some (.int .u8 (d : Nat))) (hdd : d < 256) (h40 : d ≠ 40)
    (hcv : ∀ o : Obj, (convert 34 9 (.slice (some ⟨b, off, none⟩) n cap)).run Tryz.prog (w.alloc o) = .ok (.string S) (w.alloc o)) (e1 : (S.toList == [45, 105, 110, 102]) = false) (e2 : (S.toList == [105, 110, 102]) = false) (e3 : (S.toList == [43, 105, 110, 102]) = false) (x : Int) (er : Nat) (her : er ≠ 0) (HI : ∀ o : Obj, Calls Tryz.prog 28 #[.slice (some ⟨b, off, none⟩) n cap] (w.alloc o) fun e w' => e = .returned (.tuple #[.int .i64 x, .int .i64 (er : Nat)]) ∧ w' = w.alloc o) :
    Calls Tryz.prog 8 #[.slice (some ⟨b, off, none⟩) n cap] w fun e w' => e = .returned (.tuple #[.agg #[.int .i64 0, .int .i64 0, .bool false], .int .i64 90]) ∧ Below w.heap.size w w' := by
  have hd40 : ((d : Int) == 40) = false := by rw [beq_eq_false_iff_ne]; omega
  have hne : ((er : Int) != 0) = true := by rw [bne_iff_ne]; omega
  have H1 := hide HI
  clear HI
  go_enter Tryz.func8, Tryz.ntmps8
  go_wp2_with fail
  refine (unhide H1 _).mono ?_
  rintro e w1 ⟨rfl, rfl⟩
  go_wp2
  refine bodyPost_ret (v := .tuple #[.agg #[.int .i64 0, .int .i64 0, .bool false], .int .i64 90]) ?_ rfl ?_
  · exact bound_end w undef _ _ _ _ _ rfl rfl
  · exact ⟨rfl, (Below.refl _ _).alloc (Nat.le_refl _) _⟩

theorem score_empty_A (a : Option Addr) (cap : Nat) (w : World) (S : ByteArray) 
    (hcv : ∀ o : Obj, (convert 34 9 (.slice a 0 cap)).run Tryz.prog (w.alloc o) = .ok (.string S) (w.alloc o)) (e1 : (S.toList == [45, 105, 110, 102]) = true)  :
    Calls Tryz.prog 8 #[.slice a 0 cap] w fun e w' => e = .returned (.tuple #[.agg #[.int .i64 (-1), .int .i64 0, .bool false], .int .i64 0]) ∧ Below w.heap.size w w' := by
  go_enter Tryz.func8, Tryz.ntmps8
  go_wp2
  refine bodyPost_ret (v := .tuple #[.agg #[.int .i64 (-1), .int .i64 0, .bool false], .int .i64 0]) ?_ rfl ?_
  · exact bound_end w undef _ _ _ _ _ rfl rfl
  · exact ⟨rfl, (Below.refl _ _).alloc (Nat.le_refl _) _⟩

theorem score_empty_B (a : Option Addr) (cap : Nat) (w : World) (S : ByteArray) 
    (hcv : ∀ o : Obj, (convert 34 9 (.slice a 0 cap)).run Tryz.prog (w.alloc o) = .ok (.string S) (w.alloc o)) (e1 : (S.toList == [45, 105, 110, 102]) = false) (e2 : (S.toList == [105, 110, 102]) = true)  :
    Calls Tryz.prog 8 #[.slice a 0 cap] w fun e w' => e = .returned (.tuple #[.agg #[.int .i64 1, .int .i64 0, .bool false], .int .i64 0]) ∧ Below w.heap.size w w' := by
  go_enter Tryz.func8, Tryz.ntmps8
  go_wp2
  refine bodyPost_ret (v := .tuple #[.agg #[.int .i64 1, .int .i64 0, .bool false], .int .i64 0]) ?_ rfl ?_
  · exact bound_end w undef _ _ _ _ _ rfl rfl
  · exact ⟨rfl, (Below.refl _ _).alloc (Nat.le_refl _) _⟩

theorem score_empty_C (a : Option Addr) (cap : Nat) (w : World) (S : ByteArray) 
    (hcv : ∀ o : Obj, (convert 34 9 (.slice a 0 cap)).run Tryz.prog (w.alloc o) = .ok (.string S) (w.alloc o)) (e1 : (S.toList == [45, 105, 110, 102]) = false) (e2 : (S.toList == [105, 110, 102]) = false) (e3 : (S.toList == [43, 105, 110, 102]) = true)  :
    Calls Tryz.prog 8 #[.slice a 0 cap] w fun e w' => e = .returned (.tuple #[.agg #[.int .i64 1, .int .i64 0, .bool false], .int .i64 0]) ∧ Below w.heap.size w w' := by
  go_enter Tryz.func8, Tryz.ntmps8
  go_wp2
  refine bodyPost_ret (v := .tuple #[.agg #[.int .i64 1, .int .i64 0, .bool false], .int .i64 0]) ?_ rfl ?_
  · exact bound_end w undef _ _ _ _ _ rfl rfl
  · exact ⟨rfl, (Below.refl _ _).alloc (Nat.le_refl _) _⟩

theorem score_empty_D (a : Option Addr) (cap : Nat) (w : World) (S : ByteArray) 
    (hcv : ∀ o : Obj, (convert 34 9 (.slice a 0 cap)).run Tryz.prog (w.alloc o) = .ok (.string S) (w.alloc o)) (e1 : (S.toList == [45, 105, 110, 102]) = false) (e2 : (S.toList == [105, 110, 102]) = false) (e3 : (S.toList == [43, 105, 110, 102]) = false) (x : Int) (er : Nat) (her : er = 0) (HI : ∀ o : Obj, Calls Tryz.prog 28 #[.slice a 0 cap] (w.alloc o) fun e w' => e = .returned (.tuple #[.int .i64 x, .int .i64 (er : Nat)]) ∧ w' = w.alloc o) :
    Calls Tryz.prog 8 #[.slice a 0 cap] w fun e w' => e = .returned (.tuple #[.agg #[.int .i64 0, .int .i64 x, .bool false], .int .i64 0]) ∧ Below w.heap.size w w' := by
  subst her
  have H1 := hide HI
  clear HI
  go_enter Tryz.func8, Tryz.ntmps8
  go_wp2_with fail
  refine (unhide H1 _).mono ?_
  rintro e w1 ⟨rfl, rfl⟩
  go_wp2
  refine bodyPost_ret (v := .tuple #[.agg #[.int .i64 0, .int .i64 x, .bool false], .int .i64 0]) ?_ rfl ?_
  · exact bound_end w undef _ _ _ _ _ rfl rfl
  · exact ⟨rfl, (Below.refl _ _).alloc (Nat.le_refl _) _⟩

theorem score_empty_E (a : Option Addr) (cap : Nat) (w : World) (S : ByteArray) 
    (hcv : ∀ o : Obj, (convert 34 9 (.slice a 0 cap)).run Tryz.prog (w.alloc o) = .ok (.string S) (w.alloc o)) (e1 : (S.toList == [45, 105, 110, 102]) = false) (e2 : (S.toList == [105, 110, 102]) = false) (e3 : (S.toList == [43, 105, 110, 102]) = false) (x : Int) (er : Nat) (her : er ≠ 0) (HI : ∀ o : Obj, Calls Tryz.prog 28 #[.slice a 0 cap] (w.alloc o) fun e w' => e = .returned (.tuple #[.int .i64 x, .int .i64 (er : Nat)]) ∧ w' = w.alloc o) :
    Calls Tryz.prog 8 #[.slice a 0 cap] w fun e w' => e = .returned (.tuple #[.agg #[.int .i64 0, .int .i64 0, .bool false], .int .i64 90]) ∧ Below w.heap.size w w' := by
  have hne : ((er : Int) != 0) = true := by rw [bne_iff_ne]; omega
  have H1 := hide HI
  clear HI
  go_enter Tryz.func8, Tryz.ntmps8
  go_wp2_with fail
  refine (unhide H1 _).mono ?_
  rintro e w1 ⟨rfl, rfl⟩
  go_wp2
  refine bodyPost_ret (v := .tuple #[.agg #[.int .i64 0, .int .i64 0, .bool false], .int .i64 90]) ?_ rfl ?_
  · exact bound_end w undef _ _ _ _ _ rfl rfl
  · exact ⟨rfl, (Below.refl _ _).alloc (Nat.le_refl _) _⟩

theorem score_open_A (b off n cap : Nat) (w : World) (S : ByteArray) (hn : 1 < n) (hn2 : n ≤ 140737488355328) (hcn : n ≤ cap) (hb : b < w.heap.size) (c0 : w.cell? ⟨b, off, none⟩ = some (.int .u8 (40 : Nat)))
    (hcv : ∀ o : Obj, (convert 34 9 (.slice (some ⟨b, off + 1, none⟩) (n - 1) (cap - 1))).run Tryz.prog (w.alloc o) = .ok (.string S) (w.alloc o)) (e1 : (S.toList == [45, 105, 110, 102]) = true)  :
    Calls Tryz.prog 8 #[.slice (some ⟨b, off, none⟩) n cap] w fun e w' => e = .returned (.tuple #[.agg #[.int .i64 (-1), .int .i64 0, .bool false], .int .i64 0]) ∧ Below w.heap.size w w' := by
  have hc1 : (cap = 1) = False := eq_false (by omega)
  go_enter Tryz.func8, Tryz.ntmps8
  go_wp2
  refine bodyPost_ret (v := .tuple #[.agg #[.int .i64 (-1), .int .i64 0, .bool false], .int .i64 0]) ?_ rfl ?_
  · exact bound_end w undef _ _ _ _ _ rfl rfl
  · exact ⟨rfl, (Below.refl _ _).alloc (Nat.le_refl _) _⟩

theorem score_open_B (b off n cap : Nat) (w : World) (S : ByteArray) (hn : 1 < n) (hn2 : n ≤ 140737488355328) (hcn : n ≤ cap) (hb : b < w.heap.size) (c0 : w.cell? ⟨b, off, none⟩ = some (.int .u8 (40 : Nat)))
    (hcv : ∀ o : Obj, (convert 34 9 (.slice (some ⟨b, off + 1, none⟩) (n - 1) (cap - 1))).run Tryz.prog (w.alloc o) = .ok (.string S) (w.alloc o)) (e1 : (S.toList == [45, 105, 110, 102]) = false) (e2 : (S.toList == [105, 110, 102]) = true)  :
    Calls Tryz.prog 8 #[.slice (some ⟨b, off, none⟩) n cap] w fun e w' => e = .returned (.tuple #[.agg #[.int .i64 1, .int .i64 0, .bool false], .int .i64 0]) ∧ Below w.heap.size w w' := by
  have hc1 : (cap = 1) = False := eq_false (by omega)
  go_enter Tryz.func8, Tryz.ntmps8
  go_wp2
  refine bodyPost_ret (v := .tuple #[.agg #[.int .i64 1, .int .i64 0, .bool false], .int .i64 0]) ?_ rfl ?_
  · exact bound_end w undef _ _ _ _ _ rfl rfl
  · exact ⟨rfl, (Below.refl _ _).alloc (Nat.le_refl _) _⟩

theorem score_open_C (b off n cap : Nat) (w : World) (S : ByteArray) (hn : 1 < n) (hn2 : n ≤ 140737488355328) (hcn : n ≤ cap) (hb : b < w.heap.size) (c0 : w.cell? ⟨b, off, none⟩ = some (.int .u8 (40 : Nat)))
    (hcv : ∀ o : Obj, (convert 34 9 (.slice (some ⟨b, off + 1, none⟩) (n - 1) (cap - 1))).run Tryz.prog (w.alloc o) = .ok (.string S) (w.alloc o)) (e1 : (S.toList == [45, 105, 110, 102]) = false) (e2 : (S.toList == [105, 110, 102]) = false) (e3 : (S.toList == [43, 105, 110, 102]) = true)  :
    Calls Tryz.prog 8 #[.slice (some ⟨b, off, none⟩) n cap] w fun e w' => e = .returned (.tuple #[.agg #[.int .i64 1, .int .i64 0, .bool false], .int .i64 0]) ∧ Below w.heap.size w w' := by
  have hc1 : (cap = 1) = False := eq_false (by omega)
  go_enter Tryz.func8, Tryz.ntmps8
  go_wp2
  refine bodyPost_ret (v := .tuple #[.agg #[.int .i64 1, .int .i64 0, .bool false], .int .i64 0]) ?_ rfl ?_
  · exact bound_end w undef _ _ _ _ _ rfl rfl
  · exact ⟨rfl, (Below.refl _ _).alloc (Nat.le_refl _) _⟩

theorem score_open_D (b off n cap : Nat) (w : World) (S : ByteArray) (hn : 1 < n) (hn2 : n ≤ 140737488355328) (hcn : n ≤ cap) (hb : b < w.heap.size) (c0 : w.cell? ⟨b, off, none⟩ = some (.int .u8 (40 : Nat)))
    (hcv : ∀ o : Obj, (convert 34 9 (.slice (some ⟨b, off + 1, none⟩) (n - 1) (cap - 1))).run Tryz.prog (w.alloc o) = .ok (.string S) (w.alloc o)) (e1 : (S.toList == [45, 105, 110, 102]) = false) (e2 : (S.toList == [105, 110, 102]) = false) (e3 : (S.toList == [43, 105, 110, 102]) = false) (x : Int) (er : Nat) (her : er = 0) (HI : ∀ o : Obj, Calls Tryz.prog 28 #[.slice (some ⟨b, off + 1, none⟩) (n - 1) (cap - 1)] (w.alloc o) fun e w' => e = .returned (.tuple #[.int .i64 x, .int .i64 (er : Nat)]) ∧ w' = w.alloc o) :
    Calls Tryz.prog 8 #[.slice (some ⟨b, off, none⟩) n cap] w fun e w' => e = .returned (.tuple #[.agg #[.int .i64 0, .int .i64 x, .bool true], .int .i64 0]) ∧ Below w.heap.size w w' := by
  have hc1 : (cap = 1) = False := eq_false (by omega)
  subst her
  have H1 := hide HI
  clear HI
  go_enter Tryz.func8, Tryz.ntmps8
  go_wp2_with fail
  refine (unhide H1 _).mono ?_
  rintro e w1 ⟨rfl, rfl⟩
  go_wp2
  refine bodyPost_ret (v := .tuple #[.agg #[.int .i64 0, .int .i64 x, .bool true], .int .i64 0]) ?_ rfl ?_
  · exact bound_end w undef _ _ _ _ _ rfl rfl
  · exact ⟨rfl, (Below.refl _ _).alloc (Nat.le_refl _) _⟩

theorem score_open_E (b off n cap : Nat) (w : World) (S : ByteArray) (hn : 1 < n) (hn2 : n ≤ 140737488355328) (hcn : n ≤ cap) (hb : b < w.heap.size) (c0 : w.cell? ⟨b, off, none⟩ = some (.int .u8 (40 : Nat)))
    (hcv : ∀ o : Obj, (convert 34 9 (.slice (some ⟨b, off + 1, none⟩) (n - 1) (cap - 1))).run Tryz.prog (w.alloc o) = .ok (.string S) (w.alloc o)) (e1 : (S.toList == [45, 105, 110, 102]) = false) (e2 : (S.toList == [105, 110, 102]) = false) (e3 : (S.toList == [43, 105, 110, 102]) = false) (x : Int) (er : Nat) (her : er ≠ 0) (HI : ∀ o : Obj, Calls Tryz.prog 28 #[.slice (some ⟨b, off + 1, none⟩) (n - 1) (cap - 1)] (w.alloc o) fun e w' => e = .returned (.tuple #[.int .i64 x, .int .i64 (er : Nat)]) ∧ w' = w.alloc o) :
    Calls Tryz.prog 8 #[.slice (some ⟨b, off, none⟩) n cap] w fun e w' => e = .returned (.tuple #[.agg #[.int .i64 0, .int .i64 0, .bool false], .int .i64 90]) ∧ Below w.heap.size w w' := by
  have hc1 : (cap = 1) = False := eq_false (by omega)
  have hne : ((er : Int) != 0) = true := by rw [bne_iff_ne]; omega
  have H1 := hide HI
  clear HI
  go_enter Tryz.func8, Tryz.ntmps8
  go_wp2_with fail
  refine (unhide H1 _).mono ?_
  rintro e w1 ⟨rfl, rfl⟩
  go_wp2
  refine bodyPost_ret (v := .tuple #[.agg #[.int .i64 0, .int .i64 0, .bool false], .int .i64 90]) ?_ rfl ?_
  · exact bound_end w undef _ _ _ _ _ rfl rfl
  · exact ⟨rfl, (Below.refl _ _).alloc (Nat.le_refl _) _⟩

theorem score_one_A (b off cap : Nat) (w : World) (S : ByteArray) (hcn : 1 < cap) (hb : b < w.heap.size) (c0 : w.cell? ⟨b, off, none⟩ = some (.int .u8 (40 : Nat)))
    (hcv : ∀ o : Obj, (convert 34 9 (.slice (some ⟨b, off + 1, none⟩) 0 (cap - 1))).run Tryz.prog (w.alloc o) = .ok (.string S) (w.alloc o)) (e1 : (S.toList == [45, 105, 110, 102]) = true)  :
    Calls Tryz.prog 8 #[.slice (some ⟨b, off, none⟩) 1 cap] w fun e w' => e = .returned (.tuple #[.agg #[.int .i64 (-1), .int .i64 0, .bool false], .int .i64 0]) ∧ Below w.heap.size w w' := by
  have hc1 : (cap = 1) = False := eq_false (by omega)
  go_enter Tryz.func8, Tryz.ntmps8
  go_wp2
  refine bodyPost_ret (v := .tuple #[.agg #[.int .i64 (-1), .int .i64 0, .bool false], .int .i64 0]) ?_ rfl ?_
  · exact bound_end w undef _ _ _ _ _ rfl rfl
  · exact ⟨rfl, (Below.refl _ _).alloc (Nat.le_refl _) _⟩

theorem score_one_B (b off cap : Nat) (w : World) (S : ByteArray) (hcn : 1 < cap) (hb : b < w.heap.size) (c0 : w.cell? ⟨b, off, none⟩ = some (.int .u8 (40 : Nat)))
    (hcv : ∀ o : Obj, (convert 34 9 (.slice (some ⟨b, off + 1, none⟩) 0 (cap - 1))).run Tryz.prog (w.alloc o) = .ok (.string S) (w.alloc o)) (e1 : (S.toList == [45, 105, 110, 102]) = false) (e2 : (S.toList == [105, 110, 102]) = true)  :
    Calls Tryz.prog 8 #[.slice (some ⟨b, off, none⟩) 1 cap] w fun e w' => e = .returned (.tuple #[.agg #[.int .i64 1, .int .i64 0, .bool false], .int .i64 0]) ∧ Below w.heap.size w w' := by
  have hc1 : (cap = 1) = False := eq_false (by omega)
  go_enter Tryz.func8, Tryz.ntmps8
  go_wp2
  refine bodyPost_ret (v := .tuple #[.agg #[.int .i64 1, .int .i64 0, .bool false], .int .i64 0]) ?_ rfl ?_
  · exact bound_end w undef _ _ _ _ _ rfl rfl
  · exact ⟨rfl, (Below.refl _ _).alloc (Nat.le_refl _) _⟩

theorem score_one_C (b off cap : Nat) (w : World) (S : ByteArray) (hcn : 1 < cap) (hb : b < w.heap.size) (c0 : w.cell? ⟨b, off, none⟩ = some (.int .u8 (40 : Nat)))
    (hcv : ∀ o : Obj, (convert 34 9 (.slice (some ⟨b, off + 1, none⟩) 0 (cap - 1))).run Tryz.prog (w.alloc o) = .ok (.string S) (w.alloc o)) (e1 : (S.toList == [45, 105, 110, 102]) = false) (e2 : (S.toList == [105, 110, 102]) = false) (e3 : (S.toList == [43, 105, 110, 102]) = true)  :
    Calls Tryz.prog 8 #[.slice (some ⟨b, off, none⟩) 1 cap] w fun e w' => e = .returned (.tuple #[.agg #[.int .i64 1, .int .i64 0, .bool false], .int .i64 0]) ∧ Below w.heap.size w w' := by
  have hc1 : (cap = 1) = False := eq_false (by omega)
  go_enter Tryz.func8, Tryz.ntmps8
  go_wp2
  refine bodyPost_ret (v := .tuple #[.agg #[.int .i64 1, .int .i64 0, .bool false], .int .i64 0]) ?_ rfl ?_
  · exact bound_end w undef _ _ _ _ _ rfl rfl
  · exact ⟨rfl, (Below.refl _ _).alloc (Nat.le_refl _) _⟩

theorem score_one_D (b off cap : Nat) (w : World) (S : ByteArray) (hcn : 1 < cap) (hb : b < w.heap.size) (c0 : w.cell? ⟨b, off, none⟩ = some (.int .u8 (40 : Nat)))
    (hcv : ∀ o : Obj, (convert 34 9 (.slice (some ⟨b, off + 1, none⟩) 0 (cap - 1))).run Tryz.prog (w.alloc o) = .ok (.string S) (w.alloc o)) (e1 : (S.toList == [45, 105, 110, 102]) = false) (e2 : (S.toList == [105, 110, 102]) = false) (e3 : (S.toList == [43, 105, 110, 102]) = false) (x : Int) (er : Nat) (her : er = 0) (HI : ∀ o : Obj, Calls Tryz.prog 28 #[.slice (some ⟨b, off + 1, none⟩) 0 (cap - 1)] (w.alloc o) fun e w' => e = .returned (.tuple #[.int .i64 x, .int .i64 (er : Nat)]) ∧ w' = w.alloc o) :
    Calls Tryz.prog 8 #[.slice (some ⟨b, off, none⟩) 1 cap] w fun e w' => e = .returned (.tuple #[.agg #[.int .i64 0, .int .i64 x, .bool true], .int .i64 0]) ∧ Below w.heap.size w w' := by
  have hc1 : (cap = 1) = False := eq_false (by omega)
  subst her
  have H1 := hide HI
  clear HI
  go_enter Tryz.func8, Tryz.ntmps8
  go_wp2_with fail
  refine (unhide H1 _).mono ?_
  rintro e w1 ⟨rfl, rfl⟩
  go_wp2
  refine bodyPost_ret (v := .tuple #[.agg #[.int .i64 0, .int .i64 x, .bool true], .int .i64 0]) ?_ rfl ?_
  · exact bound_end w undef _ _ _ _ _ rfl rfl
  · exact ⟨rfl, (Below.refl _ _).alloc (Nat.le_refl _) _⟩

theorem score_one_E (b off cap : Nat) (w : World) (S : ByteArray) (hcn : 1 < cap) (hb : b < w.heap.size) (c0 : w.cell? ⟨b, off, none⟩ = some (.int .u8 (40 : Nat)))
    (hcv : ∀ o : Obj, (convert 34 9 (.slice (some ⟨b, off + 1, none⟩) 0 (cap - 1))).run Tryz.prog (w.alloc o) = .ok (.string S) (w.alloc o)) (e1 : (S.toList == [45, 105, 110, 102]) = false) (e2 : (S.toList == [105, 110, 102]) = false) (e3 : (S.toList == [43, 105, 110, 102]) = false) (x : Int) (er : Nat) (her : er ≠ 0) (HI : ∀ o : Obj, Calls Tryz.prog 28 #[.slice (some ⟨b, off + 1, none⟩) 0 (cap - 1)] (w.alloc o) fun e w' => e = .returned (.tuple #[.int .i64 x, .int .i64 (er : Nat)]) ∧ w' = w.alloc o) :
    Calls Tryz.prog 8 #[.slice (some ⟨b, off, none⟩) 1 cap] w fun e w' => e = .returned (.tuple #[.agg #[.int .i64 0, .int .i64 0, .bool false], .int .i64 90]) ∧ Below w.heap.size w w' := by
  have hc1 : (cap = 1) = False := eq_false (by omega)
  have hne : ((er : Int) != 0) = true := by rw [bne_iff_ne]; omega
  have H1 := hide HI
  clear HI
  go_enter Tryz.func8, Tryz.ntmps8
  go_wp2_with fail
  refine (unhide H1 _).mono ?_
  rintro e w1 ⟨rfl, rfl⟩
  go_wp2
  refine bodyPost_ret (v := .tuple #[.agg #[.int .i64 0, .int .i64 0, .bool false], .int .i64 90]) ?_ rfl ?_
  · exact bound_end w undef _ _ _ _ _ rfl rfl
  · exact ⟨rfl, (Below.refl _ _).alloc (Nat.le_refl _) _⟩

theorem score_brim_A (b off : Nat) (w : World) (S : ByteArray) (hb : b < w.heap.size) (c0 : w.cell? ⟨b, off, none⟩ = some (.int .u8 (40 : Nat)))
    (hcv : ∀ o : Obj, (convert 34 9 (.slice (some ⟨b, off, none⟩) 0 0)).run Tryz.prog (w.alloc o) = .ok (.string S) (w.alloc o)) (e1 : (S.toList == [45, 105, 110, 102]) = true)  :
    Calls Tryz.prog 8 #[.slice (some ⟨b, off, none⟩) 1 1] w fun e w' => e = .returned (.tuple #[.agg #[.int .i64 (-1), .int .i64 0, .bool false], .int .i64 0]) ∧ Below w.heap.size w w' := by
  go_enter Tryz.func8, Tryz.ntmps8
  go_wp2
  refine bodyPost_ret (v := .tuple #[.agg #[.int .i64 (-1), .int .i64 0, .bool false], .int .i64 0]) ?_ rfl ?_
  · exact bound_end w undef _ _ _ _ _ rfl rfl
  · exact ⟨rfl, (Below.refl _ _).alloc (Nat.le_refl _) _⟩

theorem score_brim_B (b off : Nat) (w : World) (S : ByteArray) (hb : b < w.heap.size) (c0 : w.cell? ⟨b, off, none⟩ = some (.int .u8 (40 : Nat)))
    (hcv : ∀ o : Obj, (convert 34 9 (.slice (some ⟨b, off, none⟩) 0 0)).run Tryz.prog (w.alloc o) = .ok (.string S) (w.alloc o)) (e1 : (S.toList == [45, 105, 110, 102]) = false) (e2 : (S.toList == [105, 110, 102]) = true)  :
    Calls Tryz.prog 8 #[.slice (some ⟨b, off, none⟩) 1 1] w fun e w' => e = .returned (.tuple #[.agg #[.int .i64 1, .int .i64 0, .bool false], .int .i64 0]) ∧ Below w.heap.size w w' := by
  go_enter Tryz.func8, Tryz.ntmps8
  go_wp2
  refine bodyPost_ret (v := .tuple #[.agg #[.int .i64 1, .int .i64 0, .bool false], .int .i64 0]) ?_ rfl ?_
  · exact bound_end w undef _ _ _ _ _ rfl rfl
  · exact ⟨rfl, (Below.refl _ _).alloc (Nat.le_refl _) _⟩

theorem score_brim_C (b off : Nat) (w : World) (S : ByteArray) (hb : b < w.heap.size) (c0 : w.cell? ⟨b, off, none⟩ = some (.int .u8 (40 : Nat)))
    (hcv : ∀ o : Obj, (convert 34 9 (.slice (some ⟨b, off, none⟩) 0 0)).run Tryz.prog (w.alloc o) = .ok (.string S) (w.alloc o)) (e1 : (S.toList == [45, 105, 110, 102]) = false) (e2 : (S.toList == [105, 110, 102]) = false) (e3 : (S.toList == [43, 105, 110, 102]) = true)  :
    Calls Tryz.prog 8 #[.slice (some ⟨b, off, none⟩) 1 1] w fun e w' => e = .returned (.tuple #[.agg #[.int .i64 1, .int .i64 0, .bool false], .int .i64 0]) ∧ Below w.heap.size w w' := by
  go_enter Tryz.func8, Tryz.ntmps8
  go_wp2
  refine bodyPost_ret (v := .tuple #[.agg #[.int .i64 1, .int .i64 0, .bool false], .int .i64 0]) ?_ rfl ?_
  · exact bound_end w undef _ _ _ _ _ rfl rfl
  · exact ⟨rfl, (Below.refl _ _).alloc (Nat.le_refl _) _⟩

theorem score_brim_D (b off : Nat) (w : World) (S : ByteArray) (hb : b < w.heap.size) (c0 : w.cell? ⟨b, off, none⟩ = some (.int .u8 (40 : Nat)))
    (hcv : ∀ o : Obj, (convert 34 9 (.slice (some ⟨b, off, none⟩) 0 0)).run Tryz.prog (w.alloc o) = .ok (.string S) (w.alloc o)) (e1 : (S.toList == [45, 105, 110, 102]) = false) (e2 : (S.toList == [105, 110, 102]) = false) (e3 : (S.toList == [43, 105, 110, 102]) = false) (x : Int) (er : Nat) (her : er = 0) (HI : ∀ o : Obj, Calls Tryz.prog 28 #[.slice (some ⟨b, off, none⟩) 0 0] (w.alloc o) fun e w' => e = .returned (.tuple #[.int .i64 x, .int .i64 (er : Nat)]) ∧ w' = w.alloc o) :
    Calls Tryz.prog 8 #[.slice (some ⟨b, off, none⟩) 1 1] w fun e w' => e = .returned (.tuple #[.agg #[.int .i64 0, .int .i64 x, .bool true], .int .i64 0]) ∧ Below w.heap.size w w' := by
  subst her
  have H1 := hide HI
  clear HI
  go_enter Tryz.func8, Tryz.ntmps8
  go_wp2_with fail
  refine (unhide H1 _).mono ?_
  rintro e w1 ⟨rfl, rfl⟩
  go_wp2
  refine bodyPost_ret (v := .tuple #[.agg #[.int .i64 0, .int .i64 x, .bool true], .int .i64 0]) ?_ rfl ?_
  · exact bound_end w undef _ _ _ _ _ rfl rfl
  · exact ⟨rfl, (Below.refl _ _).alloc (Nat.le_refl _) _⟩

theorem score_brim_E (b off : Nat) (w : World) (S : ByteArray) (hb : b < w.heap.size) (c0 : w.cell? ⟨b, off, none⟩ = some (.int .u8 (40 : Nat)))
    (hcv : ∀ o : Obj, (convert 34 9 (.slice (some ⟨b, off, none⟩) 0 0)).run Tryz.prog (w.alloc o) = .ok (.string S) (w.alloc o)) (e1 : (S.toList == [45, 105, 110, 102]) = false) (e2 : (S.toList == [105, 110, 102]) = false) (e3 : (S.toList == [43, 105, 110, 102]) = false) (x : Int) (er : Nat) (her : er ≠ 0) (HI : ∀ o : Obj, Calls Tryz.prog 28 #[.slice (some ⟨b, off, none⟩) 0 0] (w.alloc o) fun e w' => e = .returned (.tuple #[.int .i64 x, .int .i64 (er : Nat)]) ∧ w' = w.alloc o) :
    Calls Tryz.prog 8 #[.slice (some ⟨b, off, none⟩) 1 1] w fun e w' => e = .returned (.tuple #[.agg #[.int .i64 0, .int .i64 0, .bool false], .int .i64 90]) ∧ Below w.heap.size w w' := by
  have hne : ((er : Int) != 0) = true := by rw [bne_iff_ne]; omega
  have H1 := hide HI
  clear HI
  go_enter Tryz.func8, Tryz.ntmps8
  go_wp2_with fail
  refine (unhide H1 _).mono ?_
  rintro e w1 ⟨rfl, rfl⟩
  go_wp2
  refine bodyPost_ret (v := .tuple #[.agg #[.int .i64 0, .int .i64 0, .bool false], .int .i64 90]) ?_ rfl ?_
  · exact bound_end w undef _ _ _ _ _ rfl rfl
  · exact ⟨rfl, (Below.refl _ _).alloc (Nat.le_refl _) _⟩

/-- a bound as a value, and the error -/
def boundV (r : (Int × Int × Bool) × Nat) : Value := .tuple #[.agg #[.int .i64 r.1.1, .int .i64 r.1.2.1, .bool r.1.2.2], .int .i64 (r.2 : Nat)]
theorem tail_A {m : List Nat} (o : Bool) (h : m = [45, 105, 110, 102]) : Larder.scoreTail o m = ((-1, 0, false), 0) := by unfold Larder.scoreTail; rw [if_pos h]
theorem tail_B {m : List Nat} (o : Bool) (h1 : m ≠ [45, 105, 110, 102]) (h : m = [105, 110, 102] ∨ m = [43, 105, 110, 102]) : Larder.scoreTail o m = ((1, 0, false), 0) := by unfold Larder.scoreTail; rw [if_neg h1, if_pos h]
theorem tail_D {m : List Nat} (o : Bool) (h1 : m ≠ [45, 105, 110, 102]) (h2 : ¬ (m = [105, 110, 102] ∨ m = [43, 105, 110, 102])) (h : (Larder.intRes m).2 = 0) : Larder.scoreTail o m = ((0, (Larder.intRes m).1, o), 0) := by unfold Larder.scoreTail; rw [if_neg h1, if_neg h2, if_pos h]
theorem tail_E {m : List Nat} (o : Bool) (h1 : m ≠ [45, 105, 110, 102]) (h2 : ¬ (m = [105, 110, 102] ∨ m = [43, 105, 110, 102])) (h : (Larder.intRes m).2 ≠ 0) : Larder.scoreTail o m = ((0, 0, false), 90) := by unfold Larder.scoreTail; rw [if_neg h1, if_neg h2, if_neg h]
theorem str_A (m : List Nat) (hs : Small m) : ((str m).toList == [45, 105, 110, 102]) = decide (m = [45, 105, 110, 102]) := str_is m [45, 105, 110, 102] hs (small_lit _ rfl)
theorem str_B (m : List Nat) (hs : Small m) : ((str m).toList == [105, 110, 102]) = decide (m = [105, 110, 102]) := str_is m [105, 110, 102] hs (small_lit _ rfl)
theorem str_C (m : List Nat) (hs : Small m) : ((str m).toList == [43, 105, 110, 102]) = decide (m = [43, 105, 110, 102]) := str_is m [43, 105, 110, 102] hs (small_lit _ rfl)

theorem score_any (a : Option Addr) (cap : Nat) (w : World) (l : List Nat) (hl : l.length ≤ 140737488355328) (hs : Small l) (hcap : l.length ≤ cap) (hcap2 : cap ≤ 9223372036854775807) (hB : Bytes w a l) :
    Calls Tryz.prog 8 #[.slice a l.length cap] w fun e w' => e = .returned (boundV (Larder.scoreRes l)) ∧ Below w.heap.size w w' := by
  unfold boundV
  have hal : ∀ o : Obj, Below w.heap.size w (w.alloc o) := fun o => (Below.refl _ _).alloc (Nat.le_refl _) _
  by_cases h0 : 0 < l.length
  · obtain ⟨b, off, rfl, hb, hc⟩ := hB.at h0
    have c0 := hc 0 h0
    rw [Nat.add_zero] at c0
    by_cases h40 : l.getD 0 0 = 40
    · have e0 : Larder.scoreRes l = Larder.scoreTail true (l.drop 1) := by unfold Larder.scoreRes; rw [if_pos ⟨h0, h40⟩]
      rw [e0]
      rw [h40] at c0
      have hm : Small (l.drop 1) := by
        intro i hi
        rw [List.length_drop] at hi
        rw [Larder.getD_drop, Nat.add_comm]
        exact hs (i + 1) (by omega)
      have hml : (l.drop 1).length = l.length - 1 := List.length_drop ..
      by_cases h1 : l.length = 1
      · have em : l.drop 1 = [] := List.eq_nil_of_length_eq_zero (by omega)
        rw [em] at hm ⊢
        rw [h1]
        by_cases hc1 : cap = 1
        · subst hc1
          have hcv := fun o : Obj => conv_any (some ⟨b, off, none⟩) 0 (w.alloc o) [] (.inl rfl)
          have HI := fun o : Obj => int_any (some ⟨b, off, none⟩) 0 (w.alloc o) [] (by simp) hm (by simp) (by omega) (.inl rfl)
          by_cases q1 : [] = [45, 105, 110, 102]
          · rw [tail_A true q1]; exact score_brim_A b off w (str []) hb c0 hcv (by rw [str_A _ hm]; exact decide_eq_true q1)
          · by_cases q2 : [] = [105, 110, 102]
            · rw [tail_B true q1 (.inl q2)]; exact score_brim_B b off w (str []) hb c0 hcv (by rw [str_A _ hm]; exact decide_eq_false q1) (by rw [str_B _ hm]; exact decide_eq_true q2)
            · by_cases q3 : [] = [43, 105, 110, 102]
              · rw [tail_B true q1 (.inr q3)]; exact score_brim_C b off w (str []) hb c0 hcv (by rw [str_A _ hm]; exact decide_eq_false q1) (by rw [str_B _ hm]; exact decide_eq_false q2) (by rw [str_C _ hm]; exact decide_eq_true q3)
              · by_cases q4 : (Larder.intRes []).2 = 0
                · rw [tail_D true q1 (fun h => h.elim q2 q3) q4]; exact score_brim_D b off w (str []) hb c0 hcv (by rw [str_A _ hm]; exact decide_eq_false q1) (by rw [str_B _ hm]; exact decide_eq_false q2) (by rw [str_C _ hm]; exact decide_eq_false q3) _ _ q4 HI
                · rw [tail_E true q1 (fun h => h.elim q2 q3) q4]; exact score_brim_E b off w (str []) hb c0 hcv (by rw [str_A _ hm]; exact decide_eq_false q1) (by rw [str_B _ hm]; exact decide_eq_false q2) (by rw [str_C _ hm]; exact decide_eq_false q3) _ _ q4 HI
        · have hcv := fun o : Obj => conv_any (some ⟨b, off + 1, none⟩) (cap - 1) (w.alloc o) [] (.inl rfl)
          have HI := fun o : Obj => int_any (some ⟨b, off + 1, none⟩) (cap - 1) (w.alloc o) [] (by simp) hm (by simp) (by omega) (.inl rfl)
          by_cases q1 : [] = [45, 105, 110, 102]
          · rw [tail_A true q1]; exact score_one_A b off cap w (str []) (by omega) hb c0 hcv (by rw [str_A _ hm]; exact decide_eq_true q1)
          · by_cases q2 : [] = [105, 110, 102]
            · rw [tail_B true q1 (.inl q2)]; exact score_one_B b off cap w (str []) (by omega) hb c0 hcv (by rw [str_A _ hm]; exact decide_eq_false q1) (by rw [str_B _ hm]; exact decide_eq_true q2)
            · by_cases q3 : [] = [43, 105, 110, 102]
              · rw [tail_B true q1 (.inr q3)]; exact score_one_C b off cap w (str []) (by omega) hb c0 hcv (by rw [str_A _ hm]; exact decide_eq_false q1) (by rw [str_B _ hm]; exact decide_eq_false q2) (by rw [str_C _ hm]; exact decide_eq_true q3)
              · by_cases q4 : (Larder.intRes []).2 = 0
                · rw [tail_D true q1 (fun h => h.elim q2 q3) q4]; exact score_one_D b off cap w (str []) (by omega) hb c0 hcv (by rw [str_A _ hm]; exact decide_eq_false q1) (by rw [str_B _ hm]; exact decide_eq_false q2) (by rw [str_C _ hm]; exact decide_eq_false q3) _ _ q4 HI
                · rw [tail_E true q1 (fun h => h.elim q2 q3) q4]; exact score_one_E b off cap w (str []) (by omega) hb c0 hcv (by rw [str_A _ hm]; exact decide_eq_false q1) (by rw [str_B _ hm]; exact decide_eq_false q2) (by rw [str_C _ hm]; exact decide_eq_false q3) _ _ q4 HI
      · have hBm : ∀ o : Obj, Bytes (w.alloc o) (some ⟨b, off + 1, none⟩) (l.drop 1) := fun o => (show Bytes w (some ⟨b, off + 1, none⟩) (l.drop 1) from .inr ⟨b, off + 1, rfl, hb, fun i hi => by
          rw [hml] at hi
          rw [Larder.getD_drop, Nat.add_assoc, hc (1 + i) (by omega)]⟩).below (hal o)
        have hcv := fun o : Obj => conv_any (some ⟨b, off + 1, none⟩) (cap - 1) (w.alloc o) (l.drop 1) (hBm o)
        have HI := fun o : Obj => int_any (some ⟨b, off + 1, none⟩) (cap - 1) (w.alloc o) (l.drop 1) (by omega) hm (by omega) (by omega) (hBm o)
        rw [hml] at hcv HI
        by_cases q1 : (l.drop 1) = [45, 105, 110, 102]
        · rw [tail_A true q1]; exact score_open_A b off l.length cap w (str (l.drop 1)) (by omega) hl hcap hb c0 hcv (by rw [str_A _ hm]; exact decide_eq_true q1)
        · by_cases q2 : (l.drop 1) = [105, 110, 102]
          · rw [tail_B true q1 (.inl q2)]; exact score_open_B b off l.length cap w (str (l.drop 1)) (by omega) hl hcap hb c0 hcv (by rw [str_A _ hm]; exact decide_eq_false q1) (by rw [str_B _ hm]; exact decide_eq_true q2)
          · by_cases q3 : (l.drop 1) = [43, 105, 110, 102]
            · rw [tail_B true q1 (.inr q3)]; exact score_open_C b off l.length cap w (str (l.drop 1)) (by omega) hl hcap hb c0 hcv (by rw [str_A _ hm]; exact decide_eq_false q1) (by rw [str_B _ hm]; exact decide_eq_false q2) (by rw [str_C _ hm]; exact decide_eq_true q3)
            · by_cases q4 : (Larder.intRes (l.drop 1)).2 = 0
              · rw [tail_D true q1 (fun h => h.elim q2 q3) q4]; exact score_open_D b off l.length cap w (str (l.drop 1)) (by omega) hl hcap hb c0 hcv (by rw [str_A _ hm]; exact decide_eq_false q1) (by rw [str_B _ hm]; exact decide_eq_false q2) (by rw [str_C _ hm]; exact decide_eq_false q3) _ _ q4 HI
              · rw [tail_E true q1 (fun h => h.elim q2 q3) q4]; exact score_open_E b off l.length cap w (str (l.drop 1)) (by omega) hl hcap hb c0 hcv (by rw [str_A _ hm]; exact decide_eq_false q1) (by rw [str_B _ hm]; exact decide_eq_false q2) (by rw [str_C _ hm]; exact decide_eq_false q3) _ _ q4 HI
    · have e0 : Larder.scoreRes l = Larder.scoreTail false l := by unfold Larder.scoreRes; rw [if_neg (fun h => h40 h.2)]
      rw [e0]
      have hm := hs
      have hcv := fun o : Obj => conv_any (some ⟨b, off, none⟩) cap (w.alloc o) l (hB.below (hal o))
      have HI := fun o : Obj => int_any (some ⟨b, off, none⟩) cap (w.alloc o) l hl hs hcap hcap2 (hB.below (hal o))
      by_cases q1 : l = [45, 105, 110, 102]
      · rw [tail_A false q1]; exact score_shut_A b off l.length cap _ w (str l) h0 hl hb c0 (hs 0 h0) h40 hcv (by rw [str_A _ hm]; exact decide_eq_true q1)
      · by_cases q2 : l = [105, 110, 102]
        · rw [tail_B false q1 (.inl q2)]; exact score_shut_B b off l.length cap _ w (str l) h0 hl hb c0 (hs 0 h0) h40 hcv (by rw [str_A _ hm]; exact decide_eq_false q1) (by rw [str_B _ hm]; exact decide_eq_true q2)
        · by_cases q3 : l = [43, 105, 110, 102]
          · rw [tail_B false q1 (.inr q3)]; exact score_shut_C b off l.length cap _ w (str l) h0 hl hb c0 (hs 0 h0) h40 hcv (by rw [str_A _ hm]; exact decide_eq_false q1) (by rw [str_B _ hm]; exact decide_eq_false q2) (by rw [str_C _ hm]; exact decide_eq_true q3)
          · by_cases q4 : (Larder.intRes l).2 = 0
            · rw [tail_D false q1 (fun h => h.elim q2 q3) q4]; exact score_shut_D b off l.length cap _ w (str l) h0 hl hb c0 (hs 0 h0) h40 hcv (by rw [str_A _ hm]; exact decide_eq_false q1) (by rw [str_B _ hm]; exact decide_eq_false q2) (by rw [str_C _ hm]; exact decide_eq_false q3) _ _ q4 HI
            · rw [tail_E false q1 (fun h => h.elim q2 q3) q4]; exact score_shut_E b off l.length cap _ w (str l) h0 hl hb c0 (hs 0 h0) h40 hcv (by rw [str_A _ hm]; exact decide_eq_false q1) (by rw [str_B _ hm]; exact decide_eq_false q2) (by rw [str_C _ hm]; exact decide_eq_false q3) _ _ q4 HI
  · obtain rfl : l = [] := List.eq_nil_of_length_eq_zero (by omega)
    have e0 : Larder.scoreRes [] = Larder.scoreTail false [] := by unfold Larder.scoreRes; rw [if_neg (fun h => h0 h.1)]
    rw [e0]
    have hm := hs
    have hcv := fun o : Obj => conv_any a cap (w.alloc o) [] (.inl rfl)
    have HI := fun o : Obj => int_any a cap (w.alloc o) [] hl hs hcap hcap2 (.inl rfl)
    by_cases q1 : [] = [45, 105, 110, 102]
    · rw [tail_A false q1]; exact score_empty_A a cap w (str [])  hcv (by rw [str_A _ hm]; exact decide_eq_true q1)
    · by_cases q2 : [] = [105, 110, 102]
      · rw [tail_B false q1 (.inl q2)]; exact score_empty_B a cap w (str [])  hcv (by rw [str_A _ hm]; exact decide_eq_false q1) (by rw [str_B _ hm]; exact decide_eq_true q2)
      · by_cases q3 : [] = [43, 105, 110, 102]
        · rw [tail_B false q1 (.inr q3)]; exact score_empty_C a cap w (str [])  hcv (by rw [str_A _ hm]; exact decide_eq_false q1) (by rw [str_B _ hm]; exact decide_eq_false q2) (by rw [str_C _ hm]; exact decide_eq_true q3)
        · by_cases q4 : (Larder.intRes []).2 = 0
          · rw [tail_D false q1 (fun h => h.elim q2 q3) q4]; exact score_empty_D a cap w (str [])  hcv (by rw [str_A _ hm]; exact decide_eq_false q1) (by rw [str_B _ hm]; exact decide_eq_false q2) (by rw [str_C _ hm]; exact decide_eq_false q3) _ _ q4 HI
          · rw [tail_E false q1 (fun h => h.elim q2 q3) q4]; exact score_empty_E a cap w (str [])  hcv (by rw [str_A _ hm]; exact decide_eq_false q1) (by rw [str_B _ hm]; exact decide_eq_false q2) (by rw [str_C _ hm]; exact decide_eq_false q3) _ _ q4 HI
end Go.Proofs.YtidfbelckdlbhabGreat
