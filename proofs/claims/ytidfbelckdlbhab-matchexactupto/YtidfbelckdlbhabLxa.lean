/- Lex, whole. -/
import Derived.Test.YtidfbelckdlbhabCln
import Derived.Deep.RegionHeld3
namespace Larder
/-- what Lex reads -/
def lexRes (l : List Nat) : (Int × List Nat × Bool) × Nat :=
  if l = [45] then ((-1, [], false), 0) else if l = [43] then ((1, [], false), 0)
  else if l.length > 0 ∧ l.getD 0 0 = 91 then ((0, l.drop 1, false), 0)
  else if l.length > 0 ∧ l.getD 0 0 = 40 then ((0, l.drop 1, true), 0) else ((0, [], false), 91)
end Larder
namespace Go.Proofs.Ytidfbelckdlbhab
open Go.ChangeShapes Go.WideShapes Go.ChangeAt Go.RowKit
set_option linter.unusedVariables false
set_option maxRecDepth 20000

theorem lex_end {W : World} {g : Nat} {v0 v1 v2 : Value} (er : Int) (tmps : Array Value) (hg : W.heap[g]? = some (.cells #[v0, v1, v2] 32 (0, 0))) (h2 : tmps.getD 2 undef = .pointer (some ⟨g, 0, none⟩)) (h3 : tmps.getD 3 undef = .int .i64 er) :
    (results Try.f12 tmps).run Try.prog W = .ok (.tuple #[.agg #[v0, v1, v2], .int .i64 er]) W := by
  refine results_cell_tmp (p := 2) (q := 3) (ty := 32) rfl tmps _ g 32 _ (0, 0) _ h2 hg Try.underlying32 rfl (by kernel_rfl) _ h3
theorem store3 {w : World} {g T : Nat} {z0 z1 z2 : Value} (h : w.heap[g]? = some (.cells #[z0, z1, z2] T (0, 0))) (v0 v1 v2 : Value) :
    (((w.setCell ⟨g, 0, none⟩ v0).setCell ⟨g, 1, none⟩ v1).setCell ⟨g, 2, none⟩ v2).heap[g]? = some (.cells #[v0, v1, v2] T (0, 0)) := by
  have h1 := heap_setCell_same w g 0 _ T v0 h
  have h2 := heap_setCell_same _ g 1 _ T v1 h1
  have h3 := heap_setCell_same _ g 2 _ T v2 h2
  exact h3
theorem cells3 {w : World} {g T : Nat} {z0 z1 z2 : Value} (h : w.heap[g]? = some (.cells #[z0, z1, z2] T (0, 0))) : w.cell? ⟨g, 0, none⟩ = some z0 ∧ w.cell? ⟨g, 1, none⟩ = some z1 ∧ w.cell? ⟨g, 2, none⟩ = some z2 ∧ w.frozen? ⟨g, 0, none⟩ = false ∧ w.frozen? ⟨g, 1, none⟩ = false ∧ w.frozen? ⟨g, 2, none⟩ = false :=
  ⟨by rw [cell_of_row _ _ _ _ _ _ h]; rfl, by rw [cell_of_row _ _ _ _ _ _ h]; rfl, by rw [cell_of_row _ _ _ _ _ _ h]; rfl, by simp [World.frozen?, h], by simp [World.frozen?, h], by simp [World.frozen?, h]⟩

theorem lex_A (a : Option Addr) (n cap : Nat) (w : World) (S : ByteArray)  (hcv : ∀ o : Obj, (convert 28 9 (.slice a n cap)).run Try.prog (w.alloc o) = .ok (.string S) (w.alloc o)) (e1 : (S.toList == [45]) = true) :
    Calls Try.prog 12 #[.slice a n cap] w fun e w' => e = .returned (.tuple #[.agg #[.int .i64 (-1), .slice none 0 0, .bool false], .int .i64 0]) ∧ Below w.heap.size w w' := by
  go_enter Try.func12, Try.ntmps12
  go_wp2
  refine bodyPost_ret (v := .tuple #[.agg #[.int .i64 (-1), .slice none 0 0, .bool false], .int .i64 0]) ?_ rfl ?_
  · exact lex_end _ _ (heap_alloc_new _ _) rfl rfl
  · exact ⟨rfl, (Below.refl _ _).alloc (Nat.le_refl _) _⟩

theorem lex_B (a : Option Addr) (n cap : Nat) (w : World) (S : ByteArray)  (hcv : ∀ o : Obj, (convert 28 9 (.slice a n cap)).run Try.prog (w.alloc o) = .ok (.string S) (w.alloc o)) (e1 : (S.toList == [45]) = false) (e2 : (S.toList == [43]) = true) :
    Calls Try.prog 12 #[.slice a n cap] w fun e w' => e = .returned (.tuple #[.agg #[.int .i64 1, .slice none 0 0, .bool false], .int .i64 0]) ∧ Below w.heap.size w w' := by
  go_enter Try.func12, Try.ntmps12
  go_wp2
  refine bodyPost_ret (v := .tuple #[.agg #[.int .i64 1, .slice none 0 0, .bool false], .int .i64 0]) ?_ rfl ?_
  · exact lex_end _ _ (heap_alloc_new _ _) rfl rfl
  · exact ⟨rfl, (Below.refl _ _).alloc (Nat.le_refl _) _⟩

theorem lex_E (b off n cap d : Nat) (w : World) (S : ByteArray) (hn : 0 < n) (hn2 : n ≤ 140737488355328) (hb : b < w.heap.size) (c0 : w.cell? ⟨b, off, none⟩ = some (.int .u8 (d : Nat))) (hdd : d < 256) (h91 : d ≠ 91) (h40 : d ≠ 40) (hcv : ∀ o : Obj, (convert 28 9 (.slice (some ⟨b, off, none⟩) n cap)).run Try.prog (w.alloc o) = .ok (.string S) (w.alloc o)) (e1 : (S.toList == [45]) = false) (e2 : (S.toList == [43]) = false) :
    Calls Try.prog 12 #[.slice (some ⟨b, off, none⟩) n cap] w fun e w' => e = .returned (.tuple #[.agg #[.int .i64 0, .slice none 0 0, .bool false], .int .i64 91]) ∧ Below w.heap.size w w' := by
  have hd91 : ((d : Int) == 91) = false := by rw [beq_eq_false_iff_ne]; omega
  have hd40 : ((d : Int) == 40) = false := by rw [beq_eq_false_iff_ne]; omega
  go_enter Try.func12, Try.ntmps12
  go_wp2
  refine bodyPost_ret (v := .tuple #[.agg #[.int .i64 0, .slice none 0 0, .bool false], .int .i64 91]) ?_ rfl ?_
  · exact lex_end _ _ (heap_alloc_new _ _) rfl rfl
  · exact ⟨rfl, (Below.refl _ _).alloc (Nat.le_refl _) _⟩

theorem lex_F (a : Option Addr) (cap : Nat) (w : World) (S : ByteArray)  (hcv : ∀ o : Obj, (convert 28 9 (.slice a 0 cap)).run Try.prog (w.alloc o) = .ok (.string S) (w.alloc o)) (e1 : (S.toList == [45]) = false) (e2 : (S.toList == [43]) = false) :
    Calls Try.prog 12 #[.slice a 0 cap] w fun e w' => e = .returned (.tuple #[.agg #[.int .i64 0, .slice none 0 0, .bool false], .int .i64 91]) ∧ Below w.heap.size w w' := by
  go_enter Try.func12, Try.ntmps12
  go_wp2
  refine bodyPost_ret (v := .tuple #[.agg #[.int .i64 0, .slice none 0 0, .bool false], .int .i64 91]) ?_ rfl ?_
  · exact lex_end _ _ (heap_alloc_new _ _) rfl rfl
  · exact ⟨rfl, (Below.refl _ _).alloc (Nat.le_refl _) _⟩

theorem lex_open_91 (b off n cap : Nat) (w : World) (S : ByteArray) (m : List Nat) (hn : 1 < n) (hn2 : n ≤ 140737488355328) (hcn : n ≤ cap) (hb : b < w.heap.size) (c0 : w.cell? ⟨b, off, none⟩ = some (.int .u8 (91 : Nat)))
    (hcv : ∀ o : Obj, (convert 28 9 (.slice (some ⟨b, off, none⟩) n cap)).run Try.prog (w.alloc o) = .ok (.string S) (w.alloc o)) (e1 : (S.toList == [45]) = false) (e2 : (S.toList == [43]) = false)
    (HC : ∀ W, Below w.heap.size w W → Calls Try.prog 25 #[.slice (some ⟨b, off + 1, none⟩) (n - 1) (cap - 1)] W fun e w' => ∃ v, e = .returned v ∧ OwnB w' W.heap.size v m ∧ Below W.heap.size W w') :
    Calls Try.prog 12 #[.slice (some ⟨b, off, none⟩) n cap] w fun e w' => ∃ v, e = .returned (.tuple #[.agg #[.int .i64 0, v, .bool false], .int .i64 0]) ∧ OwnB w' w.heap.size v m ∧ Below w.heap.size w w' := by
  have hc1 : (cap = 1) = False := eq_false (by omega)
  have i1 : (1 : Int) ≤ (n : Int) := by omega
  have i2 : (n : Int) ≤ (cap : Int) := by omega
  have i3 : (1 : Int) ≤ (cap : Int) := by omega
  have i4 : 1 ≤ n := by omega
  have i5 : 1 ≤ cap := by omega
  have hA : (w.alloc (.cells #[.int .i64 0, .slice none 0 0, .bool false] 32)).heap[w.heap.size]? = some (.cells #[.int .i64 0, .slice none 0 0, .bool false] 32 (0, 0)) := heap_alloc_new _ _
  have hbA : Below w.heap.size w (w.alloc (.cells #[.int .i64 0, .slice none 0 0, .bool false] 32)) := (Below.refl _ _).alloc (Nat.le_refl _) _
  have H1 : Hid (Calls Try.prog 25 #[.slice (some ⟨b, off + 1, none⟩) (n - 1) (cap - 1)] (w.alloc (.cells #[.int .i64 0, .slice none 0 0, .bool false] 32)).drew fun e w' => ∃ a2 c2, e = .returned (.slice a2 m.length c2) ∧ (w'.cell? ⟨b, off, none⟩ = some (.int .u8 (91 : Nat))) ∧ (w'.cell? ⟨w.heap.size, 0, none⟩ = some (.int .i64 0) ∧ w'.cell? ⟨w.heap.size, 1, none⟩ = some (.slice none 0 0) ∧ w'.cell? ⟨w.heap.size, 2, none⟩ = some (.bool false) ∧ w'.frozen? ⟨w.heap.size, 0, none⟩ = false ∧ w'.frozen? ⟨w.heap.size, 1, none⟩ = false ∧ w'.frozen? ⟨w.heap.size, 2, none⟩ = false) ∧ Hid (OwnB w' (w.heap.size + 1) (.slice a2 m.length c2) m ∧ w'.heap[w.heap.size]? = some (.cells #[.int .i64 0, .slice none 0 0, .bool false] 32 (0, 0)) ∧ Below w.heap.size w w')) := hide (by
    refine (HC _ hbA.drew).mono ?_
    rintro e w' ⟨v, rfl, h2, h3⟩
    obtain ⟨a2, c2, rfl, _, _⟩ := h2.shape
    have hsz : (w.alloc (.cells #[.int .i64 0, .slice none 0 0, .bool false] 32)).drew.heap.size = w.heap.size + 1 := by show (w.alloc (.cells #[.int .i64 0, .slice none 0 0, .bool false] 32)).heap.size = _; simp
    have hr : w'.heap[w.heap.size]? = some (.cells #[.int .i64 0, .slice none 0 0, .bool false] 32 (0, 0)) := (h3.block w.heap.size (by rw [hsz]; omega)).trans hA
    rw [hsz] at h2
    have hbw : Below w.heap.size w w' := hbA.drew.trans (h3.mono (by rw [hsz]; omega))
    exact ⟨a2, c2, rfl, (hbw.cell (p := ⟨b, off, none⟩) hb).trans c0, cells3 hr, hide ⟨h2, hr, hbw⟩⟩)
  clear hA hbA HC
  have hnew := World.new_ne w ⟨b, off, none⟩ c0
  go_enter Try.func12, Try.ntmps12
  go_wp2_with fail
  go_region_held3 (fun w' => w'.cell? ⟨b, off, none⟩ = some (.int .u8 (91 : Nat))) (go_keep) (first | (go_at_call 25; refine (unhide H1).mono ?_; rintro e w2 ⟨a2, c2, rfl, k0, ⟨k1, k2, k3, k4, k5, k6⟩, hO⟩))
  all_goals go_wp2
  all_goals
    obtain ⟨h5, h6, h7⟩ := unhide hO
    refine bodyPost_ret (v := .tuple #[.agg #[.int .i64 0, .slice a2 m.length c2, .bool false], .int .i64 0]) ?_ rfl ?_
    · exact lex_end _ _ (store3 h6 _ _ _) rfl rfl
    · exact ⟨_, rfl, (((h5.set (by omega)).set (by omega)).set (by omega)).mono (by omega), ((h7.setCell (Nat.le_refl _) _).setCell (Nat.le_refl _) _).setCell (Nat.le_refl _) _⟩

theorem lex_open_40 (b off n cap : Nat) (w : World) (S : ByteArray) (m : List Nat) (hn : 1 < n) (hn2 : n ≤ 140737488355328) (hcn : n ≤ cap) (hb : b < w.heap.size) (c0 : w.cell? ⟨b, off, none⟩ = some (.int .u8 (40 : Nat)))
    (hcv : ∀ o : Obj, (convert 28 9 (.slice (some ⟨b, off, none⟩) n cap)).run Try.prog (w.alloc o) = .ok (.string S) (w.alloc o)) (e1 : (S.toList == [45]) = false) (e2 : (S.toList == [43]) = false)
    (HC : ∀ W, Below w.heap.size w W → Calls Try.prog 25 #[.slice (some ⟨b, off + 1, none⟩) (n - 1) (cap - 1)] W fun e w' => ∃ v, e = .returned v ∧ OwnB w' W.heap.size v m ∧ Below W.heap.size W w') :
    Calls Try.prog 12 #[.slice (some ⟨b, off, none⟩) n cap] w fun e w' => ∃ v, e = .returned (.tuple #[.agg #[.int .i64 0, v, .bool true], .int .i64 0]) ∧ OwnB w' w.heap.size v m ∧ Below w.heap.size w w' := by
  have hc1 : (cap = 1) = False := eq_false (by omega)
  have i1 : (1 : Int) ≤ (n : Int) := by omega
  have i2 : (n : Int) ≤ (cap : Int) := by omega
  have i3 : (1 : Int) ≤ (cap : Int) := by omega
  have i4 : 1 ≤ n := by omega
  have i5 : 1 ≤ cap := by omega
  have hA : (w.alloc (.cells #[.int .i64 0, .slice none 0 0, .bool false] 32)).heap[w.heap.size]? = some (.cells #[.int .i64 0, .slice none 0 0, .bool false] 32 (0, 0)) := heap_alloc_new _ _
  have hbA : Below w.heap.size w (w.alloc (.cells #[.int .i64 0, .slice none 0 0, .bool false] 32)) := (Below.refl _ _).alloc (Nat.le_refl _) _
  have H1 : Hid (Calls Try.prog 25 #[.slice (some ⟨b, off + 1, none⟩) (n - 1) (cap - 1)] (w.alloc (.cells #[.int .i64 0, .slice none 0 0, .bool false] 32)).drew fun e w' => ∃ a2 c2, e = .returned (.slice a2 m.length c2) ∧ (w'.cell? ⟨b, off, none⟩ = some (.int .u8 (40 : Nat))) ∧ (w'.cell? ⟨w.heap.size, 0, none⟩ = some (.int .i64 0) ∧ w'.cell? ⟨w.heap.size, 1, none⟩ = some (.slice none 0 0) ∧ w'.cell? ⟨w.heap.size, 2, none⟩ = some (.bool false) ∧ w'.frozen? ⟨w.heap.size, 0, none⟩ = false ∧ w'.frozen? ⟨w.heap.size, 1, none⟩ = false ∧ w'.frozen? ⟨w.heap.size, 2, none⟩ = false) ∧ Hid (OwnB w' (w.heap.size + 1) (.slice a2 m.length c2) m ∧ w'.heap[w.heap.size]? = some (.cells #[.int .i64 0, .slice none 0 0, .bool false] 32 (0, 0)) ∧ Below w.heap.size w w')) := hide (by
    refine (HC _ hbA.drew).mono ?_
    rintro e w' ⟨v, rfl, h2, h3⟩
    obtain ⟨a2, c2, rfl, _, _⟩ := h2.shape
    have hsz : (w.alloc (.cells #[.int .i64 0, .slice none 0 0, .bool false] 32)).drew.heap.size = w.heap.size + 1 := by show (w.alloc (.cells #[.int .i64 0, .slice none 0 0, .bool false] 32)).heap.size = _; simp
    have hr : w'.heap[w.heap.size]? = some (.cells #[.int .i64 0, .slice none 0 0, .bool false] 32 (0, 0)) := (h3.block w.heap.size (by rw [hsz]; omega)).trans hA
    rw [hsz] at h2
    have hbw : Below w.heap.size w w' := hbA.drew.trans (h3.mono (by rw [hsz]; omega))
    exact ⟨a2, c2, rfl, (hbw.cell (p := ⟨b, off, none⟩) hb).trans c0, cells3 hr, hide ⟨h2, hr, hbw⟩⟩)
  clear hA hbA HC
  have hnew := World.new_ne w ⟨b, off, none⟩ c0
  go_enter Try.func12, Try.ntmps12
  go_wp2_with fail
  go_region_held3 (fun w' => w'.cell? ⟨b, off, none⟩ = some (.int .u8 (40 : Nat))) (go_keep) (first | (go_at_call 25; refine (unhide H1).mono ?_; rintro e w2 ⟨a2, c2, rfl, k0, ⟨k1, k2, k3, k4, k5, k6⟩, hO⟩))
  all_goals go_wp2
  all_goals
    obtain ⟨h5, h6, h7⟩ := unhide hO
    refine bodyPost_ret (v := .tuple #[.agg #[.int .i64 0, .slice a2 m.length c2, .bool true], .int .i64 0]) ?_ rfl ?_
    · exact lex_end _ _ (store3 h6 _ _ _) rfl rfl
    · exact ⟨_, rfl, (((h5.set (by omega)).set (by omega)).set (by omega)).mono (by omega), ((h7.setCell (Nat.le_refl _) _).setCell (Nat.le_refl _) _).setCell (Nat.le_refl _) _⟩

theorem lex_one_91 (b off cap : Nat) (w : World) (S : ByteArray) (m : List Nat) (hcn : 1 < cap) (hb : b < w.heap.size) (c0 : w.cell? ⟨b, off, none⟩ = some (.int .u8 (91 : Nat)))
    (hcv : ∀ o : Obj, (convert 28 9 (.slice (some ⟨b, off, none⟩) 1 cap)).run Try.prog (w.alloc o) = .ok (.string S) (w.alloc o)) (e1 : (S.toList == [45]) = false) (e2 : (S.toList == [43]) = false)
    (HC : ∀ W, Below w.heap.size w W → Calls Try.prog 25 #[.slice (some ⟨b, off + 1, none⟩) 0 (cap - 1)] W fun e w' => ∃ v, e = .returned v ∧ OwnB w' W.heap.size v m ∧ Below W.heap.size W w') :
    Calls Try.prog 12 #[.slice (some ⟨b, off, none⟩) 1 cap] w fun e w' => ∃ v, e = .returned (.tuple #[.agg #[.int .i64 0, v, .bool false], .int .i64 0]) ∧ OwnB w' w.heap.size v m ∧ Below w.heap.size w w' := by
  have hc1 : (cap = 1) = False := eq_false (by omega)
  have hA : (w.alloc (.cells #[.int .i64 0, .slice none 0 0, .bool false] 32)).heap[w.heap.size]? = some (.cells #[.int .i64 0, .slice none 0 0, .bool false] 32 (0, 0)) := heap_alloc_new _ _
  have hbA : Below w.heap.size w (w.alloc (.cells #[.int .i64 0, .slice none 0 0, .bool false] 32)) := (Below.refl _ _).alloc (Nat.le_refl _) _
  have H1 : Hid (Calls Try.prog 25 #[.slice (some ⟨b, off + 1, none⟩) 0 (cap - 1)] (w.alloc (.cells #[.int .i64 0, .slice none 0 0, .bool false] 32)).drew fun e w' => ∃ a2 c2, e = .returned (.slice a2 m.length c2) ∧ (w'.cell? ⟨b, off, none⟩ = some (.int .u8 (91 : Nat))) ∧ (w'.cell? ⟨w.heap.size, 0, none⟩ = some (.int .i64 0) ∧ w'.cell? ⟨w.heap.size, 1, none⟩ = some (.slice none 0 0) ∧ w'.cell? ⟨w.heap.size, 2, none⟩ = some (.bool false) ∧ w'.frozen? ⟨w.heap.size, 0, none⟩ = false ∧ w'.frozen? ⟨w.heap.size, 1, none⟩ = false ∧ w'.frozen? ⟨w.heap.size, 2, none⟩ = false) ∧ Hid (OwnB w' (w.heap.size + 1) (.slice a2 m.length c2) m ∧ w'.heap[w.heap.size]? = some (.cells #[.int .i64 0, .slice none 0 0, .bool false] 32 (0, 0)) ∧ Below w.heap.size w w')) := hide (by
    refine (HC _ hbA.drew).mono ?_
    rintro e w' ⟨v, rfl, h2, h3⟩
    obtain ⟨a2, c2, rfl, _, _⟩ := h2.shape
    have hsz : (w.alloc (.cells #[.int .i64 0, .slice none 0 0, .bool false] 32)).drew.heap.size = w.heap.size + 1 := by show (w.alloc (.cells #[.int .i64 0, .slice none 0 0, .bool false] 32)).heap.size = _; simp
    have hr : w'.heap[w.heap.size]? = some (.cells #[.int .i64 0, .slice none 0 0, .bool false] 32 (0, 0)) := (h3.block w.heap.size (by rw [hsz]; omega)).trans hA
    rw [hsz] at h2
    have hbw : Below w.heap.size w w' := hbA.drew.trans (h3.mono (by rw [hsz]; omega))
    exact ⟨a2, c2, rfl, (hbw.cell (p := ⟨b, off, none⟩) hb).trans c0, cells3 hr, hide ⟨h2, hr, hbw⟩⟩)
  clear hA hbA HC
  have hnew := World.new_ne w ⟨b, off, none⟩ c0
  go_enter Try.func12, Try.ntmps12
  go_wp2_with fail
  go_region_held3 (fun w' => w'.cell? ⟨b, off, none⟩ = some (.int .u8 (91 : Nat))) (go_keep) (first | (go_at_call 25; refine (unhide H1).mono ?_; rintro e w2 ⟨a2, c2, rfl, k0, ⟨k1, k2, k3, k4, k5, k6⟩, hO⟩))
  all_goals go_wp2
  all_goals
    obtain ⟨h5, h6, h7⟩ := unhide hO
    refine bodyPost_ret (v := .tuple #[.agg #[.int .i64 0, .slice a2 m.length c2, .bool false], .int .i64 0]) ?_ rfl ?_
    · exact lex_end _ _ (store3 h6 _ _ _) rfl rfl
    · exact ⟨_, rfl, (((h5.set (by omega)).set (by omega)).set (by omega)).mono (by omega), ((h7.setCell (Nat.le_refl _) _).setCell (Nat.le_refl _) _).setCell (Nat.le_refl _) _⟩

theorem lex_one_40 (b off cap : Nat) (w : World) (S : ByteArray) (m : List Nat) (hcn : 1 < cap) (hb : b < w.heap.size) (c0 : w.cell? ⟨b, off, none⟩ = some (.int .u8 (40 : Nat)))
    (hcv : ∀ o : Obj, (convert 28 9 (.slice (some ⟨b, off, none⟩) 1 cap)).run Try.prog (w.alloc o) = .ok (.string S) (w.alloc o)) (e1 : (S.toList == [45]) = false) (e2 : (S.toList == [43]) = false)
    (HC : ∀ W, Below w.heap.size w W → Calls Try.prog 25 #[.slice (some ⟨b, off + 1, none⟩) 0 (cap - 1)] W fun e w' => ∃ v, e = .returned v ∧ OwnB w' W.heap.size v m ∧ Below W.heap.size W w') :
    Calls Try.prog 12 #[.slice (some ⟨b, off, none⟩) 1 cap] w fun e w' => ∃ v, e = .returned (.tuple #[.agg #[.int .i64 0, v, .bool true], .int .i64 0]) ∧ OwnB w' w.heap.size v m ∧ Below w.heap.size w w' := by
  have hc1 : (cap = 1) = False := eq_false (by omega)
  have hA : (w.alloc (.cells #[.int .i64 0, .slice none 0 0, .bool false] 32)).heap[w.heap.size]? = some (.cells #[.int .i64 0, .slice none 0 0, .bool false] 32 (0, 0)) := heap_alloc_new _ _
  have hbA : Below w.heap.size w (w.alloc (.cells #[.int .i64 0, .slice none 0 0, .bool false] 32)) := (Below.refl _ _).alloc (Nat.le_refl _) _
  have H1 : Hid (Calls Try.prog 25 #[.slice (some ⟨b, off + 1, none⟩) 0 (cap - 1)] (w.alloc (.cells #[.int .i64 0, .slice none 0 0, .bool false] 32)).drew fun e w' => ∃ a2 c2, e = .returned (.slice a2 m.length c2) ∧ (w'.cell? ⟨b, off, none⟩ = some (.int .u8 (40 : Nat))) ∧ (w'.cell? ⟨w.heap.size, 0, none⟩ = some (.int .i64 0) ∧ w'.cell? ⟨w.heap.size, 1, none⟩ = some (.slice none 0 0) ∧ w'.cell? ⟨w.heap.size, 2, none⟩ = some (.bool false) ∧ w'.frozen? ⟨w.heap.size, 0, none⟩ = false ∧ w'.frozen? ⟨w.heap.size, 1, none⟩ = false ∧ w'.frozen? ⟨w.heap.size, 2, none⟩ = false) ∧ Hid (OwnB w' (w.heap.size + 1) (.slice a2 m.length c2) m ∧ w'.heap[w.heap.size]? = some (.cells #[.int .i64 0, .slice none 0 0, .bool false] 32 (0, 0)) ∧ Below w.heap.size w w')) := hide (by
    refine (HC _ hbA.drew).mono ?_
    rintro e w' ⟨v, rfl, h2, h3⟩
    obtain ⟨a2, c2, rfl, _, _⟩ := h2.shape
    have hsz : (w.alloc (.cells #[.int .i64 0, .slice none 0 0, .bool false] 32)).drew.heap.size = w.heap.size + 1 := by show (w.alloc (.cells #[.int .i64 0, .slice none 0 0, .bool false] 32)).heap.size = _; simp
    have hr : w'.heap[w.heap.size]? = some (.cells #[.int .i64 0, .slice none 0 0, .bool false] 32 (0, 0)) := (h3.block w.heap.size (by rw [hsz]; omega)).trans hA
    rw [hsz] at h2
    have hbw : Below w.heap.size w w' := hbA.drew.trans (h3.mono (by rw [hsz]; omega))
    exact ⟨a2, c2, rfl, (hbw.cell (p := ⟨b, off, none⟩) hb).trans c0, cells3 hr, hide ⟨h2, hr, hbw⟩⟩)
  clear hA hbA HC
  have hnew := World.new_ne w ⟨b, off, none⟩ c0
  go_enter Try.func12, Try.ntmps12
  go_wp2_with fail
  go_region_held3 (fun w' => w'.cell? ⟨b, off, none⟩ = some (.int .u8 (40 : Nat))) (go_keep) (first | (go_at_call 25; refine (unhide H1).mono ?_; rintro e w2 ⟨a2, c2, rfl, k0, ⟨k1, k2, k3, k4, k5, k6⟩, hO⟩))
  all_goals go_wp2
  all_goals
    obtain ⟨h5, h6, h7⟩ := unhide hO
    refine bodyPost_ret (v := .tuple #[.agg #[.int .i64 0, .slice a2 m.length c2, .bool true], .int .i64 0]) ?_ rfl ?_
    · exact lex_end _ _ (store3 h6 _ _ _) rfl rfl
    · exact ⟨_, rfl, (((h5.set (by omega)).set (by omega)).set (by omega)).mono (by omega), ((h7.setCell (Nat.le_refl _) _).setCell (Nat.le_refl _) _).setCell (Nat.le_refl _) _⟩

theorem lex_brim_91 (b off : Nat) (w : World) (S : ByteArray) (m : List Nat)  (hb : b < w.heap.size) (c0 : w.cell? ⟨b, off, none⟩ = some (.int .u8 (91 : Nat)))
    (hcv : ∀ o : Obj, (convert 28 9 (.slice (some ⟨b, off, none⟩) 1 1)).run Try.prog (w.alloc o) = .ok (.string S) (w.alloc o)) (e1 : (S.toList == [45]) = false) (e2 : (S.toList == [43]) = false)
    (HC : ∀ W, Below w.heap.size w W → Calls Try.prog 25 #[.slice (some ⟨b, off, none⟩) 0 0] W fun e w' => ∃ v, e = .returned v ∧ OwnB w' W.heap.size v m ∧ Below W.heap.size W w') :
    Calls Try.prog 12 #[.slice (some ⟨b, off, none⟩) 1 1] w fun e w' => ∃ v, e = .returned (.tuple #[.agg #[.int .i64 0, v, .bool false], .int .i64 0]) ∧ OwnB w' w.heap.size v m ∧ Below w.heap.size w w' := by
  have hA : (w.alloc (.cells #[.int .i64 0, .slice none 0 0, .bool false] 32)).heap[w.heap.size]? = some (.cells #[.int .i64 0, .slice none 0 0, .bool false] 32 (0, 0)) := heap_alloc_new _ _
  have hbA : Below w.heap.size w (w.alloc (.cells #[.int .i64 0, .slice none 0 0, .bool false] 32)) := (Below.refl _ _).alloc (Nat.le_refl _) _
  have H1 : Hid (Calls Try.prog 25 #[.slice (some ⟨b, off, none⟩) 0 0] (w.alloc (.cells #[.int .i64 0, .slice none 0 0, .bool false] 32)).drew fun e w' => ∃ a2 c2, e = .returned (.slice a2 m.length c2) ∧ (w'.cell? ⟨b, off, none⟩ = some (.int .u8 (91 : Nat))) ∧ (w'.cell? ⟨w.heap.size, 0, none⟩ = some (.int .i64 0) ∧ w'.cell? ⟨w.heap.size, 1, none⟩ = some (.slice none 0 0) ∧ w'.cell? ⟨w.heap.size, 2, none⟩ = some (.bool false) ∧ w'.frozen? ⟨w.heap.size, 0, none⟩ = false ∧ w'.frozen? ⟨w.heap.size, 1, none⟩ = false ∧ w'.frozen? ⟨w.heap.size, 2, none⟩ = false) ∧ Hid (OwnB w' (w.heap.size + 1) (.slice a2 m.length c2) m ∧ w'.heap[w.heap.size]? = some (.cells #[.int .i64 0, .slice none 0 0, .bool false] 32 (0, 0)) ∧ Below w.heap.size w w')) := hide (by
    refine (HC _ hbA.drew).mono ?_
    rintro e w' ⟨v, rfl, h2, h3⟩
    obtain ⟨a2, c2, rfl, _, _⟩ := h2.shape
    have hsz : (w.alloc (.cells #[.int .i64 0, .slice none 0 0, .bool false] 32)).drew.heap.size = w.heap.size + 1 := by show (w.alloc (.cells #[.int .i64 0, .slice none 0 0, .bool false] 32)).heap.size = _; simp
    have hr : w'.heap[w.heap.size]? = some (.cells #[.int .i64 0, .slice none 0 0, .bool false] 32 (0, 0)) := (h3.block w.heap.size (by rw [hsz]; omega)).trans hA
    rw [hsz] at h2
    have hbw : Below w.heap.size w w' := hbA.drew.trans (h3.mono (by rw [hsz]; omega))
    exact ⟨a2, c2, rfl, (hbw.cell (p := ⟨b, off, none⟩) hb).trans c0, cells3 hr, hide ⟨h2, hr, hbw⟩⟩)
  clear hA hbA HC
  have hnew := World.new_ne w ⟨b, off, none⟩ c0
  go_enter Try.func12, Try.ntmps12
  go_wp2_with fail
  go_region_held3 (fun w' => w'.cell? ⟨b, off, none⟩ = some (.int .u8 (91 : Nat))) (go_keep) (first | (go_at_call 25; refine (unhide H1).mono ?_; rintro e w2 ⟨a2, c2, rfl, k0, ⟨k1, k2, k3, k4, k5, k6⟩, hO⟩))
  all_goals go_wp2
  all_goals
    obtain ⟨h5, h6, h7⟩ := unhide hO
    refine bodyPost_ret (v := .tuple #[.agg #[.int .i64 0, .slice a2 m.length c2, .bool false], .int .i64 0]) ?_ rfl ?_
    · exact lex_end _ _ (store3 h6 _ _ _) rfl rfl
    · exact ⟨_, rfl, (((h5.set (by omega)).set (by omega)).set (by omega)).mono (by omega), ((h7.setCell (Nat.le_refl _) _).setCell (Nat.le_refl _) _).setCell (Nat.le_refl _) _⟩

theorem lex_brim_40 (b off : Nat) (w : World) (S : ByteArray) (m : List Nat)  (hb : b < w.heap.size) (c0 : w.cell? ⟨b, off, none⟩ = some (.int .u8 (40 : Nat)))
    (hcv : ∀ o : Obj, (convert 28 9 (.slice (some ⟨b, off, none⟩) 1 1)).run Try.prog (w.alloc o) = .ok (.string S) (w.alloc o)) (e1 : (S.toList == [45]) = false) (e2 : (S.toList == [43]) = false)
    (HC : ∀ W, Below w.heap.size w W → Calls Try.prog 25 #[.slice (some ⟨b, off, none⟩) 0 0] W fun e w' => ∃ v, e = .returned v ∧ OwnB w' W.heap.size v m ∧ Below W.heap.size W w') :
    Calls Try.prog 12 #[.slice (some ⟨b, off, none⟩) 1 1] w fun e w' => ∃ v, e = .returned (.tuple #[.agg #[.int .i64 0, v, .bool true], .int .i64 0]) ∧ OwnB w' w.heap.size v m ∧ Below w.heap.size w w' := by
  have hA : (w.alloc (.cells #[.int .i64 0, .slice none 0 0, .bool false] 32)).heap[w.heap.size]? = some (.cells #[.int .i64 0, .slice none 0 0, .bool false] 32 (0, 0)) := heap_alloc_new _ _
  have hbA : Below w.heap.size w (w.alloc (.cells #[.int .i64 0, .slice none 0 0, .bool false] 32)) := (Below.refl _ _).alloc (Nat.le_refl _) _
  have H1 : Hid (Calls Try.prog 25 #[.slice (some ⟨b, off, none⟩) 0 0] (w.alloc (.cells #[.int .i64 0, .slice none 0 0, .bool false] 32)).drew fun e w' => ∃ a2 c2, e = .returned (.slice a2 m.length c2) ∧ (w'.cell? ⟨b, off, none⟩ = some (.int .u8 (40 : Nat))) ∧ (w'.cell? ⟨w.heap.size, 0, none⟩ = some (.int .i64 0) ∧ w'.cell? ⟨w.heap.size, 1, none⟩ = some (.slice none 0 0) ∧ w'.cell? ⟨w.heap.size, 2, none⟩ = some (.bool false) ∧ w'.frozen? ⟨w.heap.size, 0, none⟩ = false ∧ w'.frozen? ⟨w.heap.size, 1, none⟩ = false ∧ w'.frozen? ⟨w.heap.size, 2, none⟩ = false) ∧ Hid (OwnB w' (w.heap.size + 1) (.slice a2 m.length c2) m ∧ w'.heap[w.heap.size]? = some (.cells #[.int .i64 0, .slice none 0 0, .bool false] 32 (0, 0)) ∧ Below w.heap.size w w')) := hide (by
    refine (HC _ hbA.drew).mono ?_
    rintro e w' ⟨v, rfl, h2, h3⟩
    obtain ⟨a2, c2, rfl, _, _⟩ := h2.shape
    have hsz : (w.alloc (.cells #[.int .i64 0, .slice none 0 0, .bool false] 32)).drew.heap.size = w.heap.size + 1 := by show (w.alloc (.cells #[.int .i64 0, .slice none 0 0, .bool false] 32)).heap.size = _; simp
    have hr : w'.heap[w.heap.size]? = some (.cells #[.int .i64 0, .slice none 0 0, .bool false] 32 (0, 0)) := (h3.block w.heap.size (by rw [hsz]; omega)).trans hA
    rw [hsz] at h2
    have hbw : Below w.heap.size w w' := hbA.drew.trans (h3.mono (by rw [hsz]; omega))
    exact ⟨a2, c2, rfl, (hbw.cell (p := ⟨b, off, none⟩) hb).trans c0, cells3 hr, hide ⟨h2, hr, hbw⟩⟩)
  clear hA hbA HC
  have hnew := World.new_ne w ⟨b, off, none⟩ c0
  go_enter Try.func12, Try.ntmps12
  go_wp2_with fail
  go_region_held3 (fun w' => w'.cell? ⟨b, off, none⟩ = some (.int .u8 (40 : Nat))) (go_keep) (first | (go_at_call 25; refine (unhide H1).mono ?_; rintro e w2 ⟨a2, c2, rfl, k0, ⟨k1, k2, k3, k4, k5, k6⟩, hO⟩))
  all_goals go_wp2
  all_goals
    obtain ⟨h5, h6, h7⟩ := unhide hO
    refine bodyPost_ret (v := .tuple #[.agg #[.int .i64 0, .slice a2 m.length c2, .bool true], .int .i64 0]) ?_ rfl ?_
    · exact lex_end _ _ (store3 h6 _ _ _) rfl rfl
    · exact ⟨_, rfl, (((h5.set (by omega)).set (by omega)).set (by omega)).mono (by omega), ((h7.setCell (Nat.le_refl _) _).setCell (Nat.le_refl _) _).setCell (Nat.le_refl _) _⟩

end Go.Proofs.Ytidfbelckdlbhab
namespace Go.Proofs.Ytidfbelckdlbhab
open Go.ChangeShapes Go.WideShapes Go.ChangeAt Go.RowKit
set_option linter.unusedVariables false
set_option maxRecDepth 20000

theorem str_dash (m : List Nat) (hs : Small m) : ((str m).toList == [45]) = decide (m = [45]) := str_is m [45] hs (small_lit _ rfl)
theorem str_plus (m : List Nat) (hs : Small m) : ((str m).toList == [43]) = decide (m = [43]) := str_is m [43] hs (small_lit _ rfl)
/-- Lex has answered -/
def LexEnd (R : (Int × List Nat × Bool) × Nat) (w : World) (e : Ending) (w' : World) : Prop := ∃ v, e = .returned (.tuple #[.agg #[.int .i64 R.1.1, v, .bool R.1.2.2], .int .i64 (R.2 : Nat)]) ∧ OwnB w' w.heap.size v R.1.2.1 ∧ Below w.heap.size w w'

theorem lex_any (a : Option Addr) (cap : Nat) (w : World) (l : List Nat) (hl : l.length ≤ 140737488355328) (hs : Small l) (hcap : l.length ≤ cap) (hB : Bytes w a l) :
    Calls Try.prog 12 #[.slice a l.length cap] w (LexEnd (Larder.lexRes l) w) := by
  have hal : ∀ o : Obj, Below w.heap.size w (w.alloc o) := fun o => (Below.refl _ _).alloc (Nat.le_refl _) _
  have hcv := fun o : Obj => conv_any a cap (w.alloc o) l (hB.below (hal o))
  by_cases q1 : l = [45]
  · have e : Larder.lexRes l = ((-1, [], false), 0) := by unfold Larder.lexRes; rw [if_pos q1]
    rw [e]
    exact (lex_A a l.length cap w (str l) hcv (by rw [str_dash _ hs]; exact decide_eq_true q1)).mono (fun e w' ⟨h1, h2⟩ => ⟨_, h1, OwnB.nil _ _, h2⟩)
  have e1 : ((str l).toList == [45]) = false := by rw [str_dash _ hs]; exact decide_eq_false q1
  by_cases q2 : l = [43]
  · have e : Larder.lexRes l = ((1, [], false), 0) := by unfold Larder.lexRes; rw [if_neg q1, if_pos q2]
    rw [e]
    exact (lex_B a l.length cap w (str l) hcv e1 (by rw [str_plus _ hs]; exact decide_eq_true q2)).mono (fun e w' ⟨h1, h2⟩ => ⟨_, h1, OwnB.nil _ _, h2⟩)
  have e2 : ((str l).toList == [43]) = false := by rw [str_plus _ hs]; exact decide_eq_false q2
  by_cases h0 : 0 < l.length
  · obtain ⟨b, off, rfl, hb, hc⟩ := hB.at h0
    have c0 := hc 0 h0
    rw [Nat.add_zero] at c0
    have hml : (l.drop 1).length = l.length - 1 := List.length_drop ..
    have hBm : 1 < l.length → ∀ W, Below w.heap.size w W → Bytes W (some ⟨b, off + 1, none⟩) (l.drop 1) := fun _ W hW => (show Bytes w (some ⟨b, off + 1, none⟩) (l.drop 1) from .inr ⟨b, off + 1, rfl, hb, fun i hi => by
      rw [hml] at hi
      rw [Larder.getD_drop, Nat.add_assoc, hc (1 + i) (by omega)]⟩).below hW
    by_cases q91 : l.getD 0 0 = 91
    · have e : Larder.lexRes l = ((0, l.drop 1, false), 0) := by unfold Larder.lexRes; rw [if_neg q1, if_neg q2, if_pos ⟨h0, q91⟩]
      rw [e]
      rw [q91] at c0
      by_cases h1 : l.length = 1
      · have em : l.drop 1 = [] := List.eq_nil_of_length_eq_zero (by omega)
        rw [em, h1]
        rw [h1] at hcv
        by_cases hc1 : cap = 1
        · subst hc1
          exact lex_brim_91 b off w (str l) [] hb c0 hcv e1 e2 (fun W _ => clone_any (some ⟨b, off, none⟩) 0 W [] (by simp) (.inl rfl))
        · exact lex_one_91 b off cap w (str l) [] (by omega) hb c0 hcv e1 e2 (fun W _ => clone_any (some ⟨b, off + 1, none⟩) (cap - 1) W [] (by simp) (.inl rfl))
      · refine lex_open_91 b off l.length cap w (str l) (l.drop 1) (by omega) hl hcap hb c0 hcv e1 e2 (fun W hW => ?_)
        have := clone_any (some ⟨b, off + 1, none⟩) (cap - 1) W (l.drop 1) (by omega) (hBm (by omega) W hW)
        rw [hml] at this
        exact this
    by_cases q40 : l.getD 0 0 = 40
    · have e : Larder.lexRes l = ((0, l.drop 1, true), 0) := by unfold Larder.lexRes; rw [if_neg q1, if_neg q2, if_neg (fun h => q91 h.2), if_pos ⟨h0, q40⟩]
      rw [e]
      rw [q40] at c0
      by_cases h1 : l.length = 1
      · have em : l.drop 1 = [] := List.eq_nil_of_length_eq_zero (by omega)
        rw [em, h1]
        rw [h1] at hcv
        by_cases hc1 : cap = 1
        · subst hc1
          exact lex_brim_40 b off w (str l) [] hb c0 hcv e1 e2 (fun W _ => clone_any (some ⟨b, off, none⟩) 0 W [] (by simp) (.inl rfl))
        · exact lex_one_40 b off cap w (str l) [] (by omega) hb c0 hcv e1 e2 (fun W _ => clone_any (some ⟨b, off + 1, none⟩) (cap - 1) W [] (by simp) (.inl rfl))
      · refine lex_open_40 b off l.length cap w (str l) (l.drop 1) (by omega) hl hcap hb c0 hcv e1 e2 (fun W hW => ?_)
        have := clone_any (some ⟨b, off + 1, none⟩) (cap - 1) W (l.drop 1) (by omega) (hBm (by omega) W hW)
        rw [hml] at this
        exact this
    have e : Larder.lexRes l = ((0, [], false), 91) := by unfold Larder.lexRes; rw [if_neg q1, if_neg q2, if_neg (fun h => q91 h.2), if_neg (fun h => q40 h.2)]
    rw [e]
    exact (lex_E b off l.length cap _ w (str l) h0 hl hb c0 (hs 0 h0) q91 q40 hcv e1 e2).mono (fun e w' ⟨h1, h2⟩ => ⟨_, h1, OwnB.nil _ _, h2⟩)
  · obtain rfl : l = [] := List.eq_nil_of_length_eq_zero (by omega)
    have e : Larder.lexRes [] = ((0, [], false), 91) := by unfold Larder.lexRes; rw [if_neg q1, if_neg q2, if_neg (fun h => h0 h.1), if_neg (fun h => h0 h.1)]
    rw [e]
    exact (lex_F a cap w (str []) hcv e1 e2).mono (fun e w' ⟨h1, h2⟩ => ⟨_, h1, OwnB.nil _ _, h2⟩)
end Go.Proofs.Ytidfbelckdlbhab
