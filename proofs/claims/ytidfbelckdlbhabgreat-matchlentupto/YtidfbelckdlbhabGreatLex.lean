/- Lex. -/
import Derived.Test.YtidfbelckdlbhabGreatCln
import Derived.Deep.RegionHeld3
namespace Larder
/-- what Lex reads -/
def lexRes (l : List Nat) : (Int × List Nat × Bool) × Nat :=
  if l = [45] then ((-1, [], false), 0) else if l = [43] then ((1, [], false), 0)
  else if l.length > 0 ∧ l.getD 0 0 = 91 then ((0, l.drop 1, false), 0)
  else if l.length > 0 ∧ l.getD 0 0 = 40 then ((0, l.drop 1, true), 0) else ((0, [], false), 91)
end Larder
namespace Go.Proofs.YtidfbelckdlbhabGreat
open Go.ChangeShapes Go.WideShapes Go.ChangeAt Go.RowKit
set_option linter.unusedVariables false
set_option maxRecDepth 20000

theorem lex_end {W : World} {g : Nat} {v0 v1 v2 : Value} (er : Int) (tmps : Array Value) (hg : W.heap[g]? = some (.cells #[v0, v1, v2] 36 (0, 0))) (h2 : tmps.getD 2 undef = .pointer (some ⟨g, 0, none⟩)) (h3 : tmps.getD 3 undef = .int .i64 er) :
    (results Tryz.f9 tmps).run Tryz.prog W = .ok (.tuple #[.agg #[v0, v1, v2], .int .i64 er]) W := by
  refine results_cell_tmp (p := 2) (q := 3) (ty := 36) rfl tmps _ g 36 _ (0, 0) _ h2 hg Tryz.underlying36 rfl (by kernel_rfl) _ h3
theorem store3 {w : World} {g T : Nat} {z0 z1 z2 : Value} (h : w.heap[g]? = some (.cells #[z0, z1, z2] T (0, 0))) (v0 v1 v2 : Value) :
    (((w.setCell ⟨g, 0, none⟩ v0).setCell ⟨g, 1, none⟩ v1).setCell ⟨g, 2, none⟩ v2).heap[g]? = some (.cells #[v0, v1, v2] T (0, 0)) := by
  have h1 := heap_setCell_same w g 0 _ T v0 h
  have h2 := heap_setCell_same _ g 1 _ T v1 h1
  have h3 := heap_setCell_same _ g 2 _ T v2 h2
  exact h3
theorem cells3 {w : World} {g T : Nat} {z0 z1 z2 : Value} (h : w.heap[g]? = some (.cells #[z0, z1, z2] T (0, 0))) : w.cell? ⟨g, 0, none⟩ = some z0 ∧ w.cell? ⟨g, 1, none⟩ = some z1 ∧ w.cell? ⟨g, 2, none⟩ = some z2 ∧ w.frozen? ⟨g, 0, none⟩ = false ∧ w.frozen? ⟨g, 1, none⟩ = false ∧ w.frozen? ⟨g, 2, none⟩ = false :=
  ⟨by rw [cell_of_row _ _ _ _ _ _ h]; rfl, by rw [cell_of_row _ _ _ _ _ _ h]; rfl, by rw [cell_of_row _ _ _ _ _ _ h]; rfl, by simp [World.frozen?, h], by simp [World.frozen?, h], by simp [World.frozen?, h]⟩

theorem lex_A (a : Option Addr) (n cap : Nat) (w : World) (S : ByteArray)  (hcv : ∀ o : Obj, (convert 34 9 (.slice a n cap)).run Tryz.prog (w.alloc o) = .ok (.string S) (w.alloc o)) (e1 : (S.toList == [45]) = true) :
    Calls Tryz.prog 9 #[.slice a n cap] w fun e w' => e = .returned (.tuple #[.agg #[.int .i64 (-1), .slice none 0 0, .bool false], .int .i64 0]) ∧ Below w.heap.size w w' := by
  go_enter Tryz.func9, Tryz.ntmps9
  go_wp2
  refine bodyPost_ret (v := .tuple #[.agg #[.int .i64 (-1), .slice none 0 0, .bool false], .int .i64 0]) ?_ rfl ?_
  · exact lex_end _ _ (heap_alloc_new _ _) rfl rfl
  · exact ⟨rfl, (Below.refl _ _).alloc (Nat.le_refl _) _⟩

theorem lex_B (a : Option Addr) (n cap : Nat) (w : World) (S : ByteArray)  (hcv : ∀ o : Obj, (convert 34 9 (.slice a n cap)).run Tryz.prog (w.alloc o) = .ok (.string S) (w.alloc o)) (e1 : (S.toList == [45]) = false) (e2 : (S.toList == [43]) = true) :
    Calls Tryz.prog 9 #[.slice a n cap] w fun e w' => e = .returned (.tuple #[.agg #[.int .i64 1, .slice none 0 0, .bool false], .int .i64 0]) ∧ Below w.heap.size w w' := by
  go_enter Tryz.func9, Tryz.ntmps9
  go_wp2
  refine bodyPost_ret (v := .tuple #[.agg #[.int .i64 1, .slice none 0 0, .bool false], .int .i64 0]) ?_ rfl ?_
  · exact lex_end _ _ (heap_alloc_new _ _) rfl rfl
  · exact ⟨rfl, (Below.refl _ _).alloc (Nat.le_refl _) _⟩

theorem lex_E (b off n cap d : Nat) (w : World) (S : ByteArray) (hn : 0 < n) (hn2 : n ≤ 140737488355328) (hb : b < w.heap.size) (c0 : w.cell? ⟨b, off, none⟩ = some (.int .u8 (d : Nat))) (hdd : d < 256) (h91 : d ≠ 91) (h40 : d ≠ 40) (hcv : ∀ o : Obj, (convert 34 9 (.slice (some ⟨b, off, none⟩) n cap)).run Tryz.prog (w.alloc o) = .ok (.string S) (w.alloc o)) (e1 : (S.toList == [45]) = false) (e2 : (S.toList == [43]) = false) :
    Calls Tryz.prog 9 #[.slice (some ⟨b, off, none⟩) n cap] w fun e w' => e = .returned (.tuple #[.agg #[.int .i64 0, .slice none 0 0, .bool false], .int .i64 91]) ∧ Below w.heap.size w w' := by
  have hd91 : ((d : Int) == 91) = false := by rw [beq_eq_false_iff_ne]; omega
  have hd40 : ((d : Int) == 40) = false := by rw [beq_eq_false_iff_ne]; omega
  go_enter Tryz.func9, Tryz.ntmps9
  go_wp2
  refine bodyPost_ret (v := .tuple #[.agg #[.int .i64 0, .slice none 0 0, .bool false], .int .i64 91]) ?_ rfl ?_
  · exact lex_end _ _ (heap_alloc_new _ _) rfl rfl
  · exact ⟨rfl, (Below.refl _ _).alloc (Nat.le_refl _) _⟩

theorem lex_F (a : Option Addr) (cap : Nat) (w : World) (S : ByteArray)  (hcv : ∀ o : Obj, (convert 34 9 (.slice a 0 cap)).run Tryz.prog (w.alloc o) = .ok (.string S) (w.alloc o)) (e1 : (S.toList == [45]) = false) (e2 : (S.toList == [43]) = false) :
    Calls Tryz.prog 9 #[.slice a 0 cap] w fun e w' => e = .returned (.tuple #[.agg #[.int .i64 0, .slice none 0 0, .bool false], .int .i64 91]) ∧ Below w.heap.size w w' := by
  go_enter Tryz.func9, Tryz.ntmps9
  go_wp2
  refine bodyPost_ret (v := .tuple #[.agg #[.int .i64 0, .slice none 0 0, .bool false], .int .i64 91]) ?_ rfl ?_
  · exact lex_end _ _ (heap_alloc_new _ _) rfl rfl
  · exact ⟨rfl, (Below.refl _ _).alloc (Nat.le_refl _) _⟩

theorem lex_open_91 (b off n cap : Nat) (w : World) (S : ByteArray) (m : List Nat) (hn : 1 < n) (hn2 : n ≤ 140737488355328) (hcn : n ≤ cap) (hb : b < w.heap.size) (c0 : w.cell? ⟨b, off, none⟩ = some (.int .u8 (91 : Nat)))
    (hcv : ∀ o : Obj, (convert 34 9 (.slice (some ⟨b, off, none⟩) n cap)).run Tryz.prog (w.alloc o) = .ok (.string S) (w.alloc o)) (e1 : (S.toList == [45]) = false) (e2 : (S.toList == [43]) = false)
    (HC : ∀ W, Below w.heap.size w W → Calls Tryz.prog 29 #[.slice (some ⟨b, off + 1, none⟩) (n - 1) (cap - 1)] W fun e w' => ∃ v, e = .returned v ∧ OwnB w' W.heap.size v m ∧ Below W.heap.size W w') :
    Calls Tryz.prog 9 #[.slice (some ⟨b, off, none⟩) n cap] w fun e w' => ∃ v, e = .returned (.tuple #[.agg #[.int .i64 0, v, .bool false], .int .i64 0]) ∧ OwnB w' w.heap.size v m ∧ Below w.heap.size w w' := by
  have hc1 : (cap = 1) = False := eq_false (by omega)
  have i1 : (1 : Int) ≤ (n : Int) := by omega
  have i2 : (n : Int) ≤ (cap : Int) := by omega
  have i3 : (1 : Int) ≤ (cap : Int) := by omega
  have i4 : 1 ≤ n := by omega
  have i5 : 1 ≤ cap := by omega
  have hA : (w.alloc (.cells #[.int .i64 0, .slice none 0 0, .bool false] 36)).heap[w.heap.size]? = some (.cells #[.int .i64 0, .slice none 0 0, .bool false] 36 (0, 0)) := heap_alloc_new _ _
  have hbA : Below w.heap.size w (w.alloc (.cells #[.int .i64 0, .slice none 0 0, .bool false] 36)) := (Below.refl _ _).alloc (Nat.le_refl _) _
  have H1 : Hid (Calls Tryz.prog 29 #[.slice (some ⟨b, off + 1, none⟩) (n - 1) (cap - 1)] (w.alloc (.cells #[.int .i64 0, .slice none 0 0, .bool false] 36)).drew fun e w' => ∃ a2 c2, e = .returned (.slice a2 m.length c2) ∧ (w'.cell? ⟨b, off, none⟩ = some (.int .u8 (91 : Nat))) ∧ (w'.cell? ⟨w.heap.size, 0, none⟩ = some (.int .i64 0) ∧ w'.cell? ⟨w.heap.size, 1, none⟩ = some (.slice none 0 0) ∧ w'.cell? ⟨w.heap.size, 2, none⟩ = some (.bool false) ∧ w'.frozen? ⟨w.heap.size, 0, none⟩ = false ∧ w'.frozen? ⟨w.heap.size, 1, none⟩ = false ∧ w'.frozen? ⟨w.heap.size, 2, none⟩ = false) ∧ Hid (OwnB w' (w.heap.size + 1) (.slice a2 m.length c2) m ∧ w'.heap[w.heap.size]? = some (.cells #[.int .i64 0, .slice none 0 0, .bool false] 36 (0, 0)) ∧ Below w.heap.size w w')) := hide (by
    refine (HC _ hbA.drew).mono ?_
    rintro e w' ⟨v, rfl, h2, h3⟩
    obtain ⟨a2, c2, rfl, _, _⟩ := h2.shape
    have hsz : (w.alloc (.cells #[.int .i64 0, .slice none 0 0, .bool false] 36)).drew.heap.size = w.heap.size + 1 := by show (w.alloc (.cells #[.int .i64 0, .slice none 0 0, .bool false] 36)).heap.size = _; simp
    have hr : w'.heap[w.heap.size]? = some (.cells #[.int .i64 0, .slice none 0 0, .bool false] 36 (0, 0)) := (h3.block w.heap.size (by rw [hsz]; omega)).trans hA
    rw [hsz] at h2
    have hbw : Below w.heap.size w w' := hbA.drew.trans (h3.mono (by rw [hsz]; omega))
    exact ⟨a2, c2, rfl, (hbw.cell (p := ⟨b, off, none⟩) hb).trans c0, cells3 hr, hide ⟨h2, hr, hbw⟩⟩)
  clear hA hbA HC
  have hnew := World.new_ne w ⟨b, off, none⟩ c0
  go_enter Tryz.func9, Tryz.ntmps9
  go_wp2_with fail
  go_region_held3 (fun w' => w'.cell? ⟨b, off, none⟩ = some (.int .u8 (91 : Nat))) (go_keep) (first | (go_at_call 29; refine (unhide H1).mono ?_; rintro e w2 ⟨a2, c2, rfl, k0, ⟨k1, k2, k3, k4, k5, k6⟩, hO⟩))
  all_goals go_wp2
  all_goals
    obtain ⟨h5, h6, h7⟩ := unhide hO
    refine bodyPost_ret (v := .tuple #[.agg #[.int .i64 0, .slice a2 m.length c2, .bool false], .int .i64 0]) ?_ rfl ?_
    · exact lex_end _ _ (store3 h6 _ _ _) rfl rfl
    · exact ⟨_, rfl, (((h5.set (by omega)).set (by omega)).set (by omega)).mono (by omega), ((h7.setCell (Nat.le_refl _) _).setCell (Nat.le_refl _) _).setCell (Nat.le_refl _) _⟩

theorem lex_open_40 (b off n cap : Nat) (w : World) (S : ByteArray) (m : List Nat) (hn : 1 < n) (hn2 : n ≤ 140737488355328) (hcn : n ≤ cap) (hb : b < w.heap.size) (c0 : w.cell? ⟨b, off, none⟩ = some (.int .u8 (40 : Nat)))
    (hcv : ∀ o : Obj, (convert 34 9 (.slice (some ⟨b, off, none⟩) n cap)).run Tryz.prog (w.alloc o) = .ok (.string S) (w.alloc o)) (e1 : (S.toList == [45]) = false) (e2 : (S.toList == [43]) = false)
    (HC : ∀ W, Below w.heap.size w W → Calls Tryz.prog 29 #[.slice (some ⟨b, off + 1, none⟩) (n - 1) (cap - 1)] W fun e w' => ∃ v, e = .returned v ∧ OwnB w' W.heap.size v m ∧ Below W.heap.size W w') :
    Calls Tryz.prog 9 #[.slice (some ⟨b, off, none⟩) n cap] w fun e w' => ∃ v, e = .returned (.tuple #[.agg #[.int .i64 0, v, .bool true], .int .i64 0]) ∧ OwnB w' w.heap.size v m ∧ Below w.heap.size w w' := by
  have hc1 : (cap = 1) = False := eq_false (by omega)
  have i1 : (1 : Int) ≤ (n : Int) := by omega
  have i2 : (n : Int) ≤ (cap : Int) := by omega
  have i3 : (1 : Int) ≤ (cap : Int) := by omega
  have i4 : 1 ≤ n := by omega
  have i5 : 1 ≤ cap := by omega
  have hA : (w.alloc (.cells #[.int .i64 0, .slice none 0 0, .bool false] 36)).heap[w.heap.size]? = some (.cells #[.int .i64 0, .slice none 0 0, .bool false] 36 (0, 0)) := heap_alloc_new _ _
  have hbA : Below w.heap.size w (w.alloc (.cells #[.int .i64 0, .slice none 0 0, .bool false] 36)) := (Below.refl _ _).alloc (Nat.le_refl _) _
  have H1 : Hid (Calls Tryz.prog 29 #[.slice (some ⟨b, off + 1, none⟩) (n - 1) (cap - 1)] (w.alloc (.cells #[.int .i64 0, .slice none 0 0, .bool false] 36)).drew fun e w' => ∃ a2 c2, e = .returned (.slice a2 m.length c2) ∧ (w'.cell? ⟨b, off, none⟩ = some (.int .u8 (40 : Nat))) ∧ (w'.cell? ⟨w.heap.size, 0, none⟩ = some (.int .i64 0) ∧ w'.cell? ⟨w.heap.size, 1, none⟩ = some (.slice none 0 0) ∧ w'.cell? ⟨w.heap.size, 2, none⟩ = some (.bool false) ∧ w'.frozen? ⟨w.heap.size, 0, none⟩ = false ∧ w'.frozen? ⟨w.heap.size, 1, none⟩ = false ∧ w'.frozen? ⟨w.heap.size, 2, none⟩ = false) ∧ Hid (OwnB w' (w.heap.size + 1) (.slice a2 m.length c2) m ∧ w'.heap[w.heap.size]? = some (.cells #[.int .i64 0, .slice none 0 0, .bool false] 36 (0, 0)) ∧ Below w.heap.size w w')) := hide (by
    refine (HC _ hbA.drew).mono ?_
    rintro e w' ⟨v, rfl, h2, h3⟩
    obtain ⟨a2, c2, rfl, _, _⟩ := h2.shape
    have hsz : (w.alloc (.cells #[.int .i64 0, .slice none 0 0, .bool false] 36)).drew.heap.size = w.heap.size + 1 := by show (w.alloc (.cells #[.int .i64 0, .slice none 0 0, .bool false] 36)).heap.size = _; simp
    have hr : w'.heap[w.heap.size]? = some (.cells #[.int .i64 0, .slice none 0 0, .bool false] 36 (0, 0)) := (h3.block w.heap.size (by rw [hsz]; omega)).trans hA
    rw [hsz] at h2
    have hbw : Below w.heap.size w w' := hbA.drew.trans (h3.mono (by rw [hsz]; omega))
    exact ⟨a2, c2, rfl, (hbw.cell (p := ⟨b, off, none⟩) hb).trans c0, cells3 hr, hide ⟨h2, hr, hbw⟩⟩)
  clear hA hbA HC
  have hnew := World.new_ne w ⟨b, off, none⟩ c0
  go_enter Tryz.func9, Tryz.ntmps9
  go_wp2_with fail
  go_region_held3 (fun w' => w'.cell? ⟨b, off, none⟩ = some (.int .u8 (40 : Nat))) (go_keep) (first | (go_at_call 29; refine (unhide H1).mono ?_; rintro e w2 ⟨a2, c2, rfl, k0, ⟨k1, k2, k3, k4, k5, k6⟩, hO⟩))
  all_goals go_wp2
  all_goals
    obtain ⟨h5, h6, h7⟩ := unhide hO
    refine bodyPost_ret (v := .tuple #[.agg #[.int .i64 0, .slice a2 m.length c2, .bool true], .int .i64 0]) ?_ rfl ?_
    · exact lex_end _ _ (store3 h6 _ _ _) rfl rfl
    · exact ⟨_, rfl, (((h5.set (by omega)).set (by omega)).set (by omega)).mono (by omega), ((h7.setCell (Nat.le_refl _) _).setCell (Nat.le_refl _) _).setCell (Nat.le_refl _) _⟩

theorem lex_one_91 (b off cap : Nat) (w : World) (S : ByteArray) (m : List Nat) (hcn : 1 < cap) (hb : b < w.heap.size) (c0 : w.cell? ⟨b, off, none⟩ = some (.int .u8 (91 : Nat)))
    (hcv : ∀ o : Obj, (convert 34 9 (.slice (some ⟨b, off, none⟩) 1 cap)).run Tryz.prog (w.alloc o) = .ok (.string S) (w.alloc o)) (e1 : (S.toList == [45]) = false) (e2 : (S.toList == [43]) = false)
    (HC : ∀ W, Below w.heap.size w W → Calls Tryz.prog 29 #[.slice (some ⟨b, off + 1, none⟩) 0 (cap - 1)] W fun e w' => ∃ v, e = .returned v ∧ OwnB w' W.heap.size v m ∧ Below W.heap.size W w') :
    Calls Tryz.prog 9 #[.slice (some ⟨b, off, none⟩) 1 cap] w fun e w' => ∃ v, e = .returned (.tuple #[.agg #[.int .i64 0, v, .bool false], .int .i64 0]) ∧ OwnB w' w.heap.size v m ∧ Below w.heap.size w w' := by
  have hc1 : (cap = 1) = False := eq_false (by omega)
  have hA : (w.alloc (.cells #[.int .i64 0, .slice none 0 0, .bool false] 36)).heap[w.heap.size]? = some (.cells #[.int .i64 0, .slice none 0 0, .bool false] 36 (0, 0)) := heap_alloc_new _ _
  have hbA : Below w.heap.size w (w.alloc (.cells #[.int .i64 0, .slice none 0 0, .bool false] 36)) := (Below.refl _ _).alloc (Nat.le_refl _) _
  have H1 : Hid (Calls Tryz.prog 29 #[.slice (some ⟨b, off + 1, none⟩) 0 (cap - 1)] (w.alloc (.cells #[.int .i64 0, .slice none 0 0, .bool false] 36)).drew fun e w' => ∃ a2 c2, e = .returned (.slice a2 m.length c2) ∧ (w'.cell? ⟨b, off, none⟩ = some (.int .u8 (91 : Nat))) ∧ (w'.cell? ⟨w.heap.size, 0, none⟩ = some (.int .i64 0) ∧ w'.cell? ⟨w.heap.size, 1, none⟩ = some (.slice none 0 0) ∧ w'.cell? ⟨w.heap.size, 2, none⟩ = some (.bool false) ∧ w'.frozen? ⟨w.heap.size, 0, none⟩ = false ∧ w'.frozen? ⟨w.heap.size, 1, none⟩ = false ∧ w'.frozen? ⟨w.heap.size, 2, none⟩ = false) ∧ Hid (OwnB w' (w.heap.size + 1) (.slice a2 m.length c2) m ∧ w'.heap[w.heap.size]? = some (.cells #[.int .i64 0, .slice none 0 0, .bool false] 36 (0, 0)) ∧ Below w.heap.size w w')) := hide (by
    refine (HC _ hbA.drew).mono ?_
    rintro e w' ⟨v, rfl, h2, h3⟩
    obtain ⟨a2, c2, rfl, _, _⟩ := h2.shape
    have hsz : (w.alloc (.cells #[.int .i64 0, .slice none 0 0, .bool false] 36)).drew.heap.size = w.heap.size + 1 := by show (w.alloc (.cells #[.int .i64 0, .slice none 0 0, .bool false] 36)).heap.size = _; simp
    have hr : w'.heap[w.heap.size]? = some (.cells #[.int .i64 0, .slice none 0 0, .bool false] 36 (0, 0)) := (h3.block w.heap.size (by rw [hsz]; omega)).trans hA
    rw [hsz] at h2
    have hbw : Below w.heap.size w w' := hbA.drew.trans (h3.mono (by rw [hsz]; omega))
    exact ⟨a2, c2, rfl, (hbw.cell (p := ⟨b, off, none⟩) hb).trans c0, cells3 hr, hide ⟨h2, hr, hbw⟩⟩)
  clear hA hbA HC
  have hnew := World.new_ne w ⟨b, off, none⟩ c0
  go_enter Tryz.func9, Tryz.ntmps9
  go_wp2_with fail
  go_region_held3 (fun w' => w'.cell? ⟨b, off, none⟩ = some (.int .u8 (91 : Nat))) (go_keep) (first | (go_at_call 29; refine (unhide H1).mono ?_; rintro e w2 ⟨a2, c2, rfl, k0, ⟨k1, k2, k3, k4, k5, k6⟩, hO⟩))
  all_goals go_wp2
  all_goals
    obtain ⟨h5, h6, h7⟩ := unhide hO
    refine bodyPost_ret (v := .tuple #[.agg #[.int .i64 0, .slice a2 m.length c2, .bool false], .int .i64 0]) ?_ rfl ?_
    · exact lex_end _ _ (store3 h6 _ _ _) rfl rfl
    · exact ⟨_, rfl, (((h5.set (by omega)).set (by omega)).set (by omega)).mono (by omega), ((h7.setCell (Nat.le_refl _) _).setCell (Nat.le_refl _) _).setCell (Nat.le_refl _) _⟩

theorem lex_one_40 (b off cap : Nat) (w : World) (S : ByteArray) (m : List Nat) (hcn : 1 < cap) (hb : b < w.heap.size) (c0 : w.cell? ⟨b, off, none⟩ = some (.int .u8 (40 : Nat)))
    (hcv : ∀ o : Obj, (convert 34 9 (.slice (some ⟨b, off, none⟩) 1 cap)).run Tryz.prog (w.alloc o) = .ok (.string S) (w.alloc o)) (e1 : (S.toList == [45]) = false) (e2 : (S.toList == [43]) = false)
    (HC : ∀ W, Below w.heap.size w W → Calls Tryz.prog 29 #[.slice (some ⟨b, off + 1, none⟩) 0 (cap - 1)] W fun e w' => ∃ v, e = .returned v ∧ OwnB w' W.heap.size v m ∧ Below W.heap.size W w') :
    Calls Tryz.prog 9 #[.slice (some ⟨b, off, none⟩) 1 cap] w fun e w' => ∃ v, e = .returned (.tuple #[.agg #[.int .i64 0, v, .bool true], .int .i64 0]) ∧ OwnB w' w.heap.size v m ∧ Below w.heap.size w w' := by
  have hc1 : (cap = 1) = False := eq_false (by omega)
  have hA : (w.alloc (.cells #[.int .i64 0, .slice none 0 0, .bool false] 36)).heap[w.heap.size]? = some (.cells #[.int .i64 0, .slice none 0 0, .bool false] 36 (0, 0)) := heap_alloc_new _ _
  have hbA : Below w.heap.size w (w.alloc (.cells #[.int .i64 0, .slice none 0 0, .bool false] 36)) := (Below.refl _ _).alloc (Nat.le_refl _) _
  have H1 : Hid (Calls Tryz.prog 29 #[.slice (some ⟨b, off + 1, none⟩) 0 (cap - 1)] (w.alloc (.cells #[.int .i64 0, .slice none 0 0, .bool false] 36)).drew fun e w' => ∃ a2 c2, e = .returned (.slice a2 m.length c2) ∧ (w'.cell? ⟨b, off, none⟩ = some (.int .u8 (40 : Nat))) ∧ (w'.cell? ⟨w.heap.size, 0, none⟩ = some (.int .i64 0) ∧ w'.cell? ⟨w.heap.size, 1, none⟩ = some (.slice none 0 0) ∧ w'.cell? ⟨w.heap.size, 2, none⟩ = some (.bool false) ∧ w'.frozen? ⟨w.heap.size, 0, none⟩ = false ∧ w'.frozen? ⟨w.heap.size, 1, none⟩ = false ∧ w'.frozen? ⟨w.heap.size, 2, none⟩ = false) ∧ Hid (OwnB w' (w.heap.size + 1) (.slice a2 m.length c2) m ∧ w'.heap[w.heap.size]? = some (.cells #[.int .i64 0, .slice none 0 0, .bool false] 36 (0, 0)) ∧ Below w.heap.size w w')) := hide (by
    refine (HC _ hbA.drew).mono ?_
    rintro e w' ⟨v, rfl, h2, h3⟩
    obtain ⟨a2, c2, rfl, _, _⟩ := h2.shape
    have hsz : (w.alloc (.cells #[.int .i64 0, .slice none 0 0, .bool false] 36)).drew.heap.size = w.heap.size + 1 := by show (w.alloc (.cells #[.int .i64 0, .slice none 0 0, .bool false] 36)).heap.size = _; simp
    have hr : w'.heap[w.heap.size]? = some (.cells #[.int .i64 0, .slice none 0 0, .bool false] 36 (0, 0)) := (h3.block w.heap.size (by rw [hsz]; omega)).trans hA
    rw [hsz] at h2
    have hbw : Below w.heap.size w w' := hbA.drew.trans (h3.mono (by rw [hsz]; omega))
    exact ⟨a2, c2, rfl, (hbw.cell (p := ⟨b, off, none⟩) hb).trans c0, cells3 hr, hide ⟨h2, hr, hbw⟩⟩)
  clear hA hbA HC
  have hnew := World.new_ne w ⟨b, off, none⟩ c0
  go_enter Tryz.func9, Tryz.ntmps9
  go_wp2_with fail
  go_region_held3 (fun w' => w'.cell? ⟨b, off, none⟩ = some (.int .u8 (40 : Nat))) (go_keep) (first | (go_at_call 29; refine (unhide H1).mono ?_; rintro e w2 ⟨a2, c2, rfl, k0, ⟨k1, k2, k3, k4, k5, k6⟩, hO⟩))
  all_goals go_wp2
  all_goals
    obtain ⟨h5, h6, h7⟩ := unhide hO
    refine bodyPost_ret (v := .tuple #[.agg #[.int .i64 0, .slice a2 m.length c2, .bool true], .int .i64 0]) ?_ rfl ?_
    · exact lex_end _ _ (store3 h6 _ _ _) rfl rfl
    · exact ⟨_, rfl, (((h5.set (by omega)).set (by omega)).set (by omega)).mono (by omega), ((h7.setCell (Nat.le_refl _) _).setCell (Nat.le_refl _) _).setCell (Nat.le_refl _) _⟩

theorem lex_brim_91 (b off : Nat) (w : World) (S : ByteArray) (m : List Nat)  (hb : b < w.heap.size) (c0 : w.cell? ⟨b, off, none⟩ = some (.int .u8 (91 : Nat)))
    (hcv : ∀ o : Obj, (convert 34 9 (.slice (some ⟨b, off, none⟩) 1 1)).run Tryz.prog (w.alloc o) = .ok (.string S) (w.alloc o)) (e1 : (S.toList == [45]) = false) (e2 : (S.toList == [43]) = false)
    (HC : ∀ W, Below w.heap.size w W → Calls Tryz.prog 29 #[.slice (some ⟨b, off, none⟩) 0 0] W fun e w' => ∃ v, e = .returned v ∧ OwnB w' W.heap.size v m ∧ Below W.heap.size W w') :
    Calls Tryz.prog 9 #[.slice (some ⟨b, off, none⟩) 1 1] w fun e w' => ∃ v, e = .returned (.tuple #[.agg #[.int .i64 0, v, .bool false], .int .i64 0]) ∧ OwnB w' w.heap.size v m ∧ Below w.heap.size w w' := by
  have hA : (w.alloc (.cells #[.int .i64 0, .slice none 0 0, .bool false] 36)).heap[w.heap.size]? = some (.cells #[.int .i64 0, .slice none 0 0, .bool false] 36 (0, 0)) := heap_alloc_new _ _
  have hbA : Below w.heap.size w (w.alloc (.cells #[.int .i64 0, .slice none 0 0, .bool false] 36)) := (Below.refl _ _).alloc (Nat.le_refl _) _
  have H1 : Hid (Calls Tryz.prog 29 #[.slice (some ⟨b, off, none⟩) 0 0] (w.alloc (.cells #[.int .i64 0, .slice none 0 0, .bool false] 36)).drew fun e w' => ∃ a2 c2, e = .returned (.slice a2 m.length c2) ∧ (w'.cell? ⟨b, off, none⟩ = some (.int .u8 (91 : Nat))) ∧ (w'.cell? ⟨w.heap.size, 0, none⟩ = some (.int .i64 0) ∧ w'.cell? ⟨w.heap.size, 1, none⟩ = some (.slice none 0 0) ∧ w'.cell? ⟨w.heap.size, 2, none⟩ = some (.bool false) ∧ w'.frozen? ⟨w.heap.size, 0, none⟩ = false ∧ w'.frozen? ⟨w.heap.size, 1, none⟩ = false ∧ w'.frozen? ⟨w.heap.size, 2, none⟩ = false) ∧ Hid (OwnB w' (w.heap.size + 1) (.slice a2 m.length c2) m ∧ w'.heap[w.heap.size]? = some (.cells #[.int .i64 0, .slice none 0 0, .bool false] 36 (0, 0)) ∧ Below w.heap.size w w')) := hide (by
    refine (HC _ hbA.drew).mono ?_
    rintro e w' ⟨v, rfl, h2, h3⟩
    obtain ⟨a2, c2, rfl, _, _⟩ := h2.shape
    have hsz : (w.alloc (.cells #[.int .i64 0, .slice none 0 0, .bool false] 36)).drew.heap.size = w.heap.size + 1 := by show (w.alloc (.cells #[.int .i64 0, .slice none 0 0, .bool false] 36)).heap.size = _; simp
    have hr : w'.heap[w.heap.size]? = some (.cells #[.int .i64 0, .slice none 0 0, .bool false] 36 (0, 0)) := (h3.block w.heap.size (by rw [hsz]; omega)).trans hA
    rw [hsz] at h2
    have hbw : Below w.heap.size w w' := hbA.drew.trans (h3.mono (by rw [hsz]; omega))
    exact ⟨a2, c2, rfl, (hbw.cell (p := ⟨b, off, none⟩) hb).trans c0, cells3 hr, hide ⟨h2, hr, hbw⟩⟩)
  clear hA hbA HC
  have hnew := World.new_ne w ⟨b, off, none⟩ c0
  go_enter Tryz.func9, Tryz.ntmps9
  go_wp2_with fail
  go_region_held3 (fun w' => w'.cell? ⟨b, off, none⟩ = some (.int .u8 (91 : Nat))) (go_keep) (first | (go_at_call 29; refine (unhide H1).mono ?_; rintro e w2 ⟨a2, c2, rfl, k0, ⟨k1, k2, k3, k4, k5, k6⟩, hO⟩))
  all_goals go_wp2
  all_goals
    obtain ⟨h5, h6, h7⟩ := unhide hO
    refine bodyPost_ret (v := .tuple #[.agg #[.int .i64 0, .slice a2 m.length c2, .bool false], .int .i64 0]) ?_ rfl ?_
    · exact lex_end _ _ (store3 h6 _ _ _) rfl rfl
    · exact ⟨_, rfl, (((h5.set (by omega)).set (by omega)).set (by omega)).mono (by omega), ((h7.setCell (Nat.le_refl _) _).setCell (Nat.le_refl _) _).setCell (Nat.le_refl _) _⟩

theorem lex_brim_40 (b off : Nat) (w : World) (S : ByteArray) (m : List Nat)  (hb : b < w.heap.size) (c0 : w.cell? ⟨b, off, none⟩ = some (.int .u8 (40 : Nat)))
    (hcv : ∀ o : Obj, (convert 34 9 (.slice (some ⟨b, off, none⟩) 1 1)).run Tryz.prog (w.alloc o) = .ok (.string S) (w.alloc o)) (e1 : (S.toList == [45]) = false) (e2 : (S.toList == [43]) = false)
    (HC : ∀ W, Below w.heap.size w W → Calls Tryz.prog 29 #[.slice (some ⟨b, off, none⟩) 0 0] W fun e w' => ∃ v, e = .returned v ∧ OwnB w' W.heap.size v m ∧ Below W.heap.size W w') :
    Calls Tryz.prog 9 #[.slice (some ⟨b, off, none⟩) 1 1] w fun e w' => ∃ v, e = .returned (.tuple #[.agg #[.int .i64 0, v, .bool true], .int .i64 0]) ∧ OwnB w' w.heap.size v m ∧ Below w.heap.size w w' := by
  have hA : (w.alloc (.cells #[.int .i64 0, .slice none 0 0, .bool false] 36)).heap[w.heap.size]? = some (.cells #[.int .i64 0, .slice none 0 0, .bool false] 36 (0, 0)) := heap_alloc_new _ _
  have hbA : Below w.heap.size w (w.alloc (.cells #[.int .i64 0, .slice none 0 0, .bool false] 36)) := (Below.refl _ _).alloc (Nat.le_refl _) _
  have H1 : Hid (Calls Tryz.prog 29 #[.slice (some ⟨b, off, none⟩) 0 0] (w.alloc (.cells #[.int .i64 0, .slice none 0 0, .bool false] 36)).drew fun e w' => ∃ a2 c2, e = .returned (.slice a2 m.length c2) ∧ (w'.cell? ⟨b, off, none⟩ = some (.int .u8 (40 : Nat))) ∧ (w'.cell? ⟨w.heap.size, 0, none⟩ = some (.int .i64 0) ∧ w'.cell? ⟨w.heap.size, 1, none⟩ = some (.slice none 0 0) ∧ w'.cell? ⟨w.heap.size, 2, none⟩ = some (.bool false) ∧ w'.frozen? ⟨w.heap.size, 0, none⟩ = false ∧ w'.frozen? ⟨w.heap.size, 1, none⟩ = false ∧ w'.frozen? ⟨w.heap.size, 2, none⟩ = false) ∧ Hid (OwnB w' (w.heap.size + 1) (.slice a2 m.length c2) m ∧ w'.heap[w.heap.size]? = some (.cells #[.int .i64 0, .slice none 0 0, .bool false] 36 (0, 0)) ∧ Below w.heap.size w w')) := hide (by
    refine (HC _ hbA.drew).mono ?_
    rintro e w' ⟨v, rfl, h2, h3⟩
    obtain ⟨a2, c2, rfl, _, _⟩ := h2.shape
    have hsz : (w.alloc (.cells #[.int .i64 0, .slice none 0 0, .bool false] 36)).drew.heap.size = w.heap.size + 1 := by show (w.alloc (.cells #[.int .i64 0, .slice none 0 0, .bool false] 36)).heap.size = _; simp
    have hr : w'.heap[w.heap.size]? = some (.cells #[.int .i64 0, .slice none 0 0, .bool false] 36 (0, 0)) := (h3.block w.heap.size (by rw [hsz]; omega)).trans hA
    rw [hsz] at h2
    have hbw : Below w.heap.size w w' := hbA.drew.trans (h3.mono (by rw [hsz]; omega))
    exact ⟨a2, c2, rfl, (hbw.cell (p := ⟨b, off, none⟩) hb).trans c0, cells3 hr, hide ⟨h2, hr, hbw⟩⟩)
  clear hA hbA HC
  have hnew := World.new_ne w ⟨b, off, none⟩ c0
  go_enter Tryz.func9, Tryz.ntmps9
  go_wp2_with fail
  go_region_held3 (fun w' => w'.cell? ⟨b, off, none⟩ = some (.int .u8 (40 : Nat))) (go_keep) (first | (go_at_call 29; refine (unhide H1).mono ?_; rintro e w2 ⟨a2, c2, rfl, k0, ⟨k1, k2, k3, k4, k5, k6⟩, hO⟩))
  all_goals go_wp2
  all_goals
    obtain ⟨h5, h6, h7⟩ := unhide hO
    refine bodyPost_ret (v := .tuple #[.agg #[.int .i64 0, .slice a2 m.length c2, .bool true], .int .i64 0]) ?_ rfl ?_
    · exact lex_end _ _ (store3 h6 _ _ _) rfl rfl
    · exact ⟨_, rfl, (((h5.set (by omega)).set (by omega)).set (by omega)).mono (by omega), ((h7.setCell (Nat.le_refl _) _).setCell (Nat.le_refl _) _).setCell (Nat.le_refl _) _⟩

end Go.Proofs.YtidfbelckdlbhabGreat
