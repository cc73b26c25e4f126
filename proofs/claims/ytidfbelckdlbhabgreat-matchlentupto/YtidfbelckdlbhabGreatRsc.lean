/- ref Score. -/
import Derived.Test.YtidfbelckdlbhabGreatEqs
import Derived.Test.YtidfbelckdlbhabGreatLxa
import Derived.Test.YtidfbelckdlbhabGreatRInt
namespace Go.Proofs.YtidfbelckdlbhabGreat
open Go.ChangeShapes Go.WideShapes Go.ChangeAt Go.RowKit
set_option linter.unusedVariables false
set_option maxRecDepth 20000
set_option maxHeartbeats 2000000

theorem rsc_end {W : World} {g : Nat} {v0 v1 v2 : Value} (er : Int) (tmps : Array Value) (hg : W.heap[g]? = some (.cells #[v0, v1, v2] 30 (0, 0))) (h2 : tmps.getD 2 undef = .pointer (some ⟨g, 0, none⟩)) (h3 : tmps.getD 3 undef = .int .i64 er) :
    (results Tryz.f47 tmps).run Tryz.prog W = .ok (.tuple #[.agg #[v0, v1, v2], .int .i64 er]) W := by
  refine results_cell_tmp (p := 2) (q := 3) (ty := 30) rfl tmps _ g 30 _ (0, 0) _ h2 hg Tryz.underlying30 rfl (by kernel_rfl) _ h3
/-- the answer's cell stands -/
def ScP (w W : World) : Prop := W.heap[w.heap.size]? = some (.cells #[.int .i64 0, .int .i64 0, .bool false] 30 (0, 0)) ∧ Below w.heap.size w W
theorem ScP.start (w : World) : ScP w (w.alloc (.cells #[.int .i64 0, .int .i64 0, .bool false] 30)) := ⟨heap_alloc_new _ _, (Below.refl _ _).alloc (Nat.le_refl _) _⟩
theorem ScP.next {w W W' : World} (h : ScP w W) (hb : Below W.heap.size W W') : ScP w W' := by
  have hlt : w.heap.size < W.heap.size := by
    rcases Nat.lt_or_ge w.heap.size W.heap.size with q | q
    · exact q
    · have := h.1
      rw [Array.getElem?_eq_none q] at this
      cases this
  exact ⟨(hb.block _ hlt).trans h.1, h.2.trans (hb.mono (by omega))⟩
/-- a contract that keeps the cell -/
def IsAt (w : World) (T : Value) (S : ByteArray) (D : Bool) : Prop := ∀ W, ScP w W → Calls Tryz.prog 40 #[T, .string S] W fun e w' => e = .returned (.bool D) ∧ ScP w w'
def IntAt (w : World) (T : Value) (x : Int) (er : Nat) : Prop := ∀ W, ScP w W → Calls Tryz.prog 80 #[T] W fun e w' => e = .returned (.tuple #[.int .i64 x, .int .i64 (er : Nat)]) ∧ ScP w w'

theorem rsc_shut_A (b off n cap : Nat) (d : Nat) (w : World) (hn : 0 < n) (hn2 : n ≤ 140737488355328) (hb : b < w.heap.size) (c0 : w.cell? ⟨b, off, none⟩ = some (.int .u8 (d : Nat))) (hdd : d < 256) (h40 : d ≠ 40) (I1 : IsAt w (.slice (some ⟨b, off, none⟩) n cap) { data := #[45, 105, 110, 102] } true)  :
    Calls Tryz.prog 47 #[.slice (some ⟨b, off, none⟩) n cap] w fun e w' => e = .returned (.tuple #[.agg #[.int .i64 (-1), .int .i64 0, .bool false], .int .i64 0]) ∧ Below w.heap.size w w' := by
  have hd40 : ((d : Int) == 40) = false := by rw [beq_eq_false_iff_ne]; omega
  have J1 := hide I1
  clear I1
  go_enter Tryz.func47, Tryz.ntmps47
  go_wp2_with fail
  refine (unhide J1 _ (ScP.start w)).mono ?_
  rintro e w1 ⟨rfl, p1⟩
  obtain ⟨k1, k2, k3, k4, k5, k6⟩ := cells3 p1.1
  have P9 := hide p1
  clear p1
  go_wp2
  obtain ⟨h6, h7⟩ := unhide P9
  refine bodyPost_ret (v := .tuple #[.agg #[.int .i64 (-1), .int .i64 0, .bool false], .int .i64 0]) ?_ rfl ?_
  · exact rsc_end _ _ (store3 h6 _ _ _) rfl rfl
  · exact ⟨rfl, ((h7.setCell (Nat.le_refl _) _).setCell (Nat.le_refl _) _).setCell (Nat.le_refl _) _⟩

theorem rsc_shut_B (b off n cap : Nat) (d : Nat) (w : World) (hn : 0 < n) (hn2 : n ≤ 140737488355328) (hb : b < w.heap.size) (c0 : w.cell? ⟨b, off, none⟩ = some (.int .u8 (d : Nat))) (hdd : d < 256) (h40 : d ≠ 40) (I1 : IsAt w (.slice (some ⟨b, off, none⟩) n cap) { data := #[45, 105, 110, 102] } false) (I2 : IsAt w (.slice (some ⟨b, off, none⟩) n cap) { data := #[105, 110, 102] } true)  :
    Calls Tryz.prog 47 #[.slice (some ⟨b, off, none⟩) n cap] w fun e w' => e = .returned (.tuple #[.agg #[.int .i64 1, .int .i64 0, .bool false], .int .i64 0]) ∧ Below w.heap.size w w' := by
  have hd40 : ((d : Int) == 40) = false := by rw [beq_eq_false_iff_ne]; omega
  have J1 := hide I1
  clear I1
  have J2 := hide I2
  clear I2
  go_enter Tryz.func47, Tryz.ntmps47
  go_wp2_with fail
  refine (unhide J1 _ (ScP.start w)).mono ?_
  rintro e w1 ⟨rfl, p1⟩
  go_wp2_with fail
  refine (unhide J2 _ p1).mono ?_
  rintro e w2 ⟨rfl, p2⟩
  obtain ⟨k1, k2, k3, k4, k5, k6⟩ := cells3 p2.1
  have P9 := hide p2
  clear p1 p2
  go_wp2
  obtain ⟨h6, h7⟩ := unhide P9
  refine bodyPost_ret (v := .tuple #[.agg #[.int .i64 1, .int .i64 0, .bool false], .int .i64 0]) ?_ rfl ?_
  · exact rsc_end _ _ (store3 h6 _ _ _) rfl rfl
  · exact ⟨rfl, ((h7.setCell (Nat.le_refl _) _).setCell (Nat.le_refl _) _).setCell (Nat.le_refl _) _⟩

theorem rsc_shut_C (b off n cap : Nat) (d : Nat) (w : World) (hn : 0 < n) (hn2 : n ≤ 140737488355328) (hb : b < w.heap.size) (c0 : w.cell? ⟨b, off, none⟩ = some (.int .u8 (d : Nat))) (hdd : d < 256) (h40 : d ≠ 40) (I1 : IsAt w (.slice (some ⟨b, off, none⟩) n cap) { data := #[45, 105, 110, 102] } false) (I2 : IsAt w (.slice (some ⟨b, off, none⟩) n cap) { data := #[105, 110, 102] } false) (I3 : IsAt w (.slice (some ⟨b, off, none⟩) n cap) { data := #[43, 105, 110, 102] } true)  :
    Calls Tryz.prog 47 #[.slice (some ⟨b, off, none⟩) n cap] w fun e w' => e = .returned (.tuple #[.agg #[.int .i64 1, .int .i64 0, .bool false], .int .i64 0]) ∧ Below w.heap.size w w' := by
  have hd40 : ((d : Int) == 40) = false := by rw [beq_eq_false_iff_ne]; omega
  have J1 := hide I1
  clear I1
  have J2 := hide I2
  clear I2
  have J3 := hide I3
  clear I3
  go_enter Tryz.func47, Tryz.ntmps47
  go_wp2_with fail
  refine (unhide J1 _ (ScP.start w)).mono ?_
  rintro e w1 ⟨rfl, p1⟩
  go_wp2_with fail
  refine (unhide J2 _ p1).mono ?_
  rintro e w2 ⟨rfl, p2⟩
  go_wp2_with fail
  refine (unhide J3 _ p2).mono ?_
  rintro e w3 ⟨rfl, p3⟩
  obtain ⟨k1, k2, k3, k4, k5, k6⟩ := cells3 p3.1
  have P9 := hide p3
  clear p1 p2 p3
  go_wp2
  obtain ⟨h6, h7⟩ := unhide P9
  refine bodyPost_ret (v := .tuple #[.agg #[.int .i64 1, .int .i64 0, .bool false], .int .i64 0]) ?_ rfl ?_
  · exact rsc_end _ _ (store3 h6 _ _ _) rfl rfl
  · exact ⟨rfl, ((h7.setCell (Nat.le_refl _) _).setCell (Nat.le_refl _) _).setCell (Nat.le_refl _) _⟩

theorem rsc_shut_D (b off n cap : Nat) (d : Nat) (w : World) (hn : 0 < n) (hn2 : n ≤ 140737488355328) (hb : b < w.heap.size) (c0 : w.cell? ⟨b, off, none⟩ = some (.int .u8 (d : Nat))) (hdd : d < 256) (h40 : d ≠ 40) (I1 : IsAt w (.slice (some ⟨b, off, none⟩) n cap) { data := #[45, 105, 110, 102] } false) (I2 : IsAt w (.slice (some ⟨b, off, none⟩) n cap) { data := #[105, 110, 102] } false) (I3 : IsAt w (.slice (some ⟨b, off, none⟩) n cap) { data := #[43, 105, 110, 102] } false) (x : Int) (er : Nat) (her : er = 0) (HI : IntAt w (.slice (some ⟨b, off, none⟩) n cap) x er) :
    Calls Tryz.prog 47 #[.slice (some ⟨b, off, none⟩) n cap] w fun e w' => e = .returned (.tuple #[.agg #[.int .i64 0, .int .i64 x, .bool false], .int .i64 0]) ∧ Below w.heap.size w w' := by
  have hd40 : ((d : Int) == 40) = false := by rw [beq_eq_false_iff_ne]; omega
  have J1 := hide I1
  clear I1
  have J2 := hide I2
  clear I2
  have J3 := hide I3
  clear I3
  subst her
  have HJ := hide HI
  clear HI
  go_enter Tryz.func47, Tryz.ntmps47
  go_wp2_with fail
  refine (unhide J1 _ (ScP.start w)).mono ?_
  rintro e w1 ⟨rfl, p1⟩
  go_wp2_with fail
  refine (unhide J2 _ p1).mono ?_
  rintro e w2 ⟨rfl, p2⟩
  go_wp2_with fail
  refine (unhide J3 _ p2).mono ?_
  rintro e w3 ⟨rfl, p3⟩
  go_wp2_with fail
  refine (unhide HJ _ p3).mono ?_
  rintro e w4 ⟨rfl, p4⟩
  obtain ⟨k1, k2, k3, k4, k5, k6⟩ := cells3 p4.1
  have P9 := hide p4
  clear p1 p2 p3 p4
  go_wp2
  obtain ⟨h6, h7⟩ := unhide P9
  refine bodyPost_ret (v := .tuple #[.agg #[.int .i64 0, .int .i64 x, .bool false], .int .i64 0]) ?_ rfl ?_
  · exact rsc_end _ _ (store3 h6 _ _ _) rfl rfl
  · exact ⟨rfl, ((h7.setCell (Nat.le_refl _) _).setCell (Nat.le_refl _) _).setCell (Nat.le_refl _) _⟩

theorem rsc_shut_E (b off n cap : Nat) (d : Nat) (w : World) (hn : 0 < n) (hn2 : n ≤ 140737488355328) (hb : b < w.heap.size) (c0 : w.cell? ⟨b, off, none⟩ = some (.int .u8 (d : Nat))) (hdd : d < 256) (h40 : d ≠ 40) (I1 : IsAt w (.slice (some ⟨b, off, none⟩) n cap) { data := #[45, 105, 110, 102] } false) (I2 : IsAt w (.slice (some ⟨b, off, none⟩) n cap) { data := #[105, 110, 102] } false) (I3 : IsAt w (.slice (some ⟨b, off, none⟩) n cap) { data := #[43, 105, 110, 102] } false) (x : Int) (er : Nat) (her : er ≠ 0) (HI : IntAt w (.slice (some ⟨b, off, none⟩) n cap) x er) :
    Calls Tryz.prog 47 #[.slice (some ⟨b, off, none⟩) n cap] w fun e w' => e = .returned (.tuple #[.agg #[.int .i64 0, .int .i64 0, .bool false], .int .i64 90]) ∧ Below w.heap.size w w' := by
  have hd40 : ((d : Int) == 40) = false := by rw [beq_eq_false_iff_ne]; omega
  have J1 := hide I1
  clear I1
  have J2 := hide I2
  clear I2
  have J3 := hide I3
  clear I3
  have hne : ((er : Int) != 0) = true := by rw [bne_iff_ne]; omega
  have HJ := hide HI
  clear HI
  go_enter Tryz.func47, Tryz.ntmps47
  go_wp2_with fail
  refine (unhide J1 _ (ScP.start w)).mono ?_
  rintro e w1 ⟨rfl, p1⟩
  go_wp2_with fail
  refine (unhide J2 _ p1).mono ?_
  rintro e w2 ⟨rfl, p2⟩
  go_wp2_with fail
  refine (unhide J3 _ p2).mono ?_
  rintro e w3 ⟨rfl, p3⟩
  go_wp2_with fail
  refine (unhide HJ _ p3).mono ?_
  rintro e w4 ⟨rfl, p4⟩
  obtain ⟨k1, k2, k3, k4, k5, k6⟩ := cells3 p4.1
  have P9 := hide p4
  clear p1 p2 p3 p4
  go_wp2
  obtain ⟨h6, h7⟩ := unhide P9
  refine bodyPost_ret (v := .tuple #[.agg #[.int .i64 0, .int .i64 0, .bool false], .int .i64 90]) ?_ rfl ?_
  · exact rsc_end _ _ (store3 h6 _ _ _) rfl rfl
  · exact ⟨rfl, ((h7.setCell (Nat.le_refl _) _).setCell (Nat.le_refl _) _).setCell (Nat.le_refl _) _⟩

theorem rsc_empty_A (a : Option Addr) (cap : Nat) (w : World)  (I1 : IsAt w (.slice a 0 cap) { data := #[45, 105, 110, 102] } true)  :
    Calls Tryz.prog 47 #[.slice a 0 cap] w fun e w' => e = .returned (.tuple #[.agg #[.int .i64 (-1), .int .i64 0, .bool false], .int .i64 0]) ∧ Below w.heap.size w w' := by
  have J1 := hide I1
  clear I1
  go_enter Tryz.func47, Tryz.ntmps47
  go_wp2_with fail
  refine (unhide J1 _ (ScP.start w)).mono ?_
  rintro e w1 ⟨rfl, p1⟩
  obtain ⟨k1, k2, k3, k4, k5, k6⟩ := cells3 p1.1
  have P9 := hide p1
  clear p1
  go_wp2
  obtain ⟨h6, h7⟩ := unhide P9
  refine bodyPost_ret (v := .tuple #[.agg #[.int .i64 (-1), .int .i64 0, .bool false], .int .i64 0]) ?_ rfl ?_
  · exact rsc_end _ _ (store3 h6 _ _ _) rfl rfl
  · exact ⟨rfl, ((h7.setCell (Nat.le_refl _) _).setCell (Nat.le_refl _) _).setCell (Nat.le_refl _) _⟩

theorem rsc_empty_B (a : Option Addr) (cap : Nat) (w : World)  (I1 : IsAt w (.slice a 0 cap) { data := #[45, 105, 110, 102] } false) (I2 : IsAt w (.slice a 0 cap) { data := #[105, 110, 102] } true)  :
    Calls Tryz.prog 47 #[.slice a 0 cap] w fun e w' => e = .returned (.tuple #[.agg #[.int .i64 1, .int .i64 0, .bool false], .int .i64 0]) ∧ Below w.heap.size w w' := by
  have J1 := hide I1
  clear I1
  have J2 := hide I2
  clear I2
  go_enter Tryz.func47, Tryz.ntmps47
  go_wp2_with fail
  refine (unhide J1 _ (ScP.start w)).mono ?_
  rintro e w1 ⟨rfl, p1⟩
  go_wp2_with fail
  refine (unhide J2 _ p1).mono ?_
  rintro e w2 ⟨rfl, p2⟩
  obtain ⟨k1, k2, k3, k4, k5, k6⟩ := cells3 p2.1
  have P9 := hide p2
  clear p1 p2
  go_wp2
  obtain ⟨h6, h7⟩ := unhide P9
  refine bodyPost_ret (v := .tuple #[.agg #[.int .i64 1, .int .i64 0, .bool false], .int .i64 0]) ?_ rfl ?_
  · exact rsc_end _ _ (store3 h6 _ _ _) rfl rfl
  · exact ⟨rfl, ((h7.setCell (Nat.le_refl _) _).setCell (Nat.le_refl _) _).setCell (Nat.le_refl _) _⟩

theorem rsc_empty_C (a : Option Addr) (cap : Nat) (w : World)  (I1 : IsAt w (.slice a 0 cap) { data := #[45, 105, 110, 102] } false) (I2 : IsAt w (.slice a 0 cap) { data := #[105, 110, 102] } false) (I3 : IsAt w (.slice a 0 cap) { data := #[43, 105, 110, 102] } true)  :
    Calls Tryz.prog 47 #[.slice a 0 cap] w fun e w' => e = .returned (.tuple #[.agg #[.int .i64 1, .int .i64 0, .bool false], .int .i64 0]) ∧ Below w.heap.size w w' := by
  have J1 := hide I1
  clear I1
  have J2 := hide I2
  clear I2
  have J3 := hide I3
  clear I3
  go_enter Tryz.func47, Tryz.ntmps47
  go_wp2_with fail
  refine (unhide J1 _ (ScP.start w)).mono ?_
  rintro e w1 ⟨rfl, p1⟩
  go_wp2_with fail
  refine (unhide J2 _ p1).mono ?_
  rintro e w2 ⟨rfl, p2⟩
  go_wp2_with fail
  refine (unhide J3 _ p2).mono ?_
  rintro e w3 ⟨rfl, p3⟩
  obtain ⟨k1, k2, k3, k4, k5, k6⟩ := cells3 p3.1
  have P9 := hide p3
  clear p1 p2 p3
  go_wp2
  obtain ⟨h6, h7⟩ := unhide P9
  refine bodyPost_ret (v := .tuple #[.agg #[.int .i64 1, .int .i64 0, .bool false], .int .i64 0]) ?_ rfl ?_
  · exact rsc_end _ _ (store3 h6 _ _ _) rfl rfl
  · exact ⟨rfl, ((h7.setCell (Nat.le_refl _) _).setCell (Nat.le_refl _) _).setCell (Nat.le_refl _) _⟩

theorem rsc_empty_D (a : Option Addr) (cap : Nat) (w : World)  (I1 : IsAt w (.slice a 0 cap) { data := #[45, 105, 110, 102] } false) (I2 : IsAt w (.slice a 0 cap) { data := #[105, 110, 102] } false) (I3 : IsAt w (.slice a 0 cap) { data := #[43, 105, 110, 102] } false) (x : Int) (er : Nat) (her : er = 0) (HI : IntAt w (.slice a 0 cap) x er) :
    Calls Tryz.prog 47 #[.slice a 0 cap] w fun e w' => e = .returned (.tuple #[.agg #[.int .i64 0, .int .i64 x, .bool false], .int .i64 0]) ∧ Below w.heap.size w w' := by
  have J1 := hide I1
  clear I1
  have J2 := hide I2
  clear I2
  have J3 := hide I3
  clear I3
  subst her
  have HJ := hide HI
  clear HI
  go_enter Tryz.func47, Tryz.ntmps47
  go_wp2_with fail
  refine (unhide J1 _ (ScP.start w)).mono ?_
  rintro e w1 ⟨rfl, p1⟩
  go_wp2_with fail
  refine (unhide J2 _ p1).mono ?_
  rintro e w2 ⟨rfl, p2⟩
  go_wp2_with fail
  refine (unhide J3 _ p2).mono ?_
  rintro e w3 ⟨rfl, p3⟩
  go_wp2_with fail
  refine (unhide HJ _ p3).mono ?_
  rintro e w4 ⟨rfl, p4⟩
  obtain ⟨k1, k2, k3, k4, k5, k6⟩ := cells3 p4.1
  have P9 := hide p4
  clear p1 p2 p3 p4
  go_wp2
  obtain ⟨h6, h7⟩ := unhide P9
  refine bodyPost_ret (v := .tuple #[.agg #[.int .i64 0, .int .i64 x, .bool false], .int .i64 0]) ?_ rfl ?_
  · exact rsc_end _ _ (store3 h6 _ _ _) rfl rfl
  · exact ⟨rfl, ((h7.setCell (Nat.le_refl _) _).setCell (Nat.le_refl _) _).setCell (Nat.le_refl _) _⟩

theorem rsc_empty_E (a : Option Addr) (cap : Nat) (w : World)  (I1 : IsAt w (.slice a 0 cap) { data := #[45, 105, 110, 102] } false) (I2 : IsAt w (.slice a 0 cap) { data := #[105, 110, 102] } false) (I3 : IsAt w (.slice a 0 cap) { data := #[43, 105, 110, 102] } false) (x : Int) (er : Nat) (her : er ≠ 0) (HI : IntAt w (.slice a 0 cap) x er) :
    Calls Tryz.prog 47 #[.slice a 0 cap] w fun e w' => e = .returned (.tuple #[.agg #[.int .i64 0, .int .i64 0, .bool false], .int .i64 90]) ∧ Below w.heap.size w w' := by
  have J1 := hide I1
  clear I1
  have J2 := hide I2
  clear I2
  have J3 := hide I3
  clear I3
  have hne : ((er : Int) != 0) = true := by rw [bne_iff_ne]; omega
  have HJ := hide HI
  clear HI
  go_enter Tryz.func47, Tryz.ntmps47
  go_wp2_with fail
  refine (unhide J1 _ (ScP.start w)).mono ?_
  rintro e w1 ⟨rfl, p1⟩
  go_wp2_with fail
  refine (unhide J2 _ p1).mono ?_
  rintro e w2 ⟨rfl, p2⟩
  go_wp2_with fail
  refine (unhide J3 _ p2).mono ?_
  rintro e w3 ⟨rfl, p3⟩
  go_wp2_with fail
  refine (unhide HJ _ p3).mono ?_
  rintro e w4 ⟨rfl, p4⟩
  obtain ⟨k1, k2, k3, k4, k5, k6⟩ := cells3 p4.1
  have P9 := hide p4
  clear p1 p2 p3 p4
  go_wp2
  obtain ⟨h6, h7⟩ := unhide P9
  refine bodyPost_ret (v := .tuple #[.agg #[.int .i64 0, .int .i64 0, .bool false], .int .i64 90]) ?_ rfl ?_
  · exact rsc_end _ _ (store3 h6 _ _ _) rfl rfl
  · exact ⟨rfl, ((h7.setCell (Nat.le_refl _) _).setCell (Nat.le_refl _) _).setCell (Nat.le_refl _) _⟩

theorem rsc_open_A (b off n cap : Nat) (w : World) (hn : 1 < n) (hn2 : n ≤ 140737488355328) (hcn : n ≤ cap) (hb : b < w.heap.size) (c0 : w.cell? ⟨b, off, none⟩ = some (.int .u8 (40 : Nat))) (I1 : IsAt w (.slice (some ⟨b, off + 1, none⟩) (n - 1) (cap - 1)) { data := #[45, 105, 110, 102] } true)  :
    Calls Tryz.prog 47 #[.slice (some ⟨b, off, none⟩) n cap] w fun e w' => e = .returned (.tuple #[.agg #[.int .i64 (-1), .int .i64 0, .bool false], .int .i64 0]) ∧ Below w.heap.size w w' := by
  have hc1 : (cap = 1) = False := eq_false (by omega)
  have J1 := hide I1
  clear I1
  go_enter Tryz.func47, Tryz.ntmps47
  go_wp2_with fail
  refine (unhide J1 _ (ScP.start w)).mono ?_
  rintro e w1 ⟨rfl, p1⟩
  obtain ⟨k1, k2, k3, k4, k5, k6⟩ := cells3 p1.1
  have P9 := hide p1
  clear p1
  go_wp2
  obtain ⟨h6, h7⟩ := unhide P9
  refine bodyPost_ret (v := .tuple #[.agg #[.int .i64 (-1), .int .i64 0, .bool false], .int .i64 0]) ?_ rfl ?_
  · exact rsc_end _ _ (store3 h6 _ _ _) rfl rfl
  · exact ⟨rfl, ((h7.setCell (Nat.le_refl _) _).setCell (Nat.le_refl _) _).setCell (Nat.le_refl _) _⟩

theorem rsc_open_B (b off n cap : Nat) (w : World) (hn : 1 < n) (hn2 : n ≤ 140737488355328) (hcn : n ≤ cap) (hb : b < w.heap.size) (c0 : w.cell? ⟨b, off, none⟩ = some (.int .u8 (40 : Nat))) (I1 : IsAt w (.slice (some ⟨b, off + 1, none⟩) (n - 1) (cap - 1)) { data := #[45, 105, 110, 102] } false) (I2 : IsAt w (.slice (some ⟨b, off + 1, none⟩) (n - 1) (cap - 1)) { data := #[105, 110, 102] } true)  :
    Calls Tryz.prog 47 #[.slice (some ⟨b, off, none⟩) n cap] w fun e w' => e = .returned (.tuple #[.agg #[.int .i64 1, .int .i64 0, .bool false], .int .i64 0]) ∧ Below w.heap.size w w' := by
  have hc1 : (cap = 1) = False := eq_false (by omega)
  have J1 := hide I1
  clear I1
  have J2 := hide I2
  clear I2
  go_enter Tryz.func47, Tryz.ntmps47
  go_wp2_with fail
  refine (unhide J1 _ (ScP.start w)).mono ?_
  rintro e w1 ⟨rfl, p1⟩
  go_wp2_with fail
  refine (unhide J2 _ p1).mono ?_
  rintro e w2 ⟨rfl, p2⟩
  obtain ⟨k1, k2, k3, k4, k5, k6⟩ := cells3 p2.1
  have P9 := hide p2
  clear p1 p2
  go_wp2
  obtain ⟨h6, h7⟩ := unhide P9
  refine bodyPost_ret (v := .tuple #[.agg #[.int .i64 1, .int .i64 0, .bool false], .int .i64 0]) ?_ rfl ?_
  · exact rsc_end _ _ (store3 h6 _ _ _) rfl rfl
  · exact ⟨rfl, ((h7.setCell (Nat.le_refl _) _).setCell (Nat.le_refl _) _).setCell (Nat.le_refl _) _⟩

theorem rsc_open_C (b off n cap : Nat) (w : World) (hn : 1 < n) (hn2 : n ≤ 140737488355328) (hcn : n ≤ cap) (hb : b < w.heap.size) (c0 : w.cell? ⟨b, off, none⟩ = some (.int .u8 (40 : Nat))) (I1 : IsAt w (.slice (some ⟨b, off + 1, none⟩) (n - 1) (cap - 1)) { data := #[45, 105, 110, 102] } false) (I2 : IsAt w (.slice (some ⟨b, off + 1, none⟩) (n - 1) (cap - 1)) { data := #[105, 110, 102] } false) (I3 : IsAt w (.slice (some ⟨b, off + 1, none⟩) (n - 1) (cap - 1)) { data := #[43, 105, 110, 102] } true)  :
    Calls Tryz.prog 47 #[.slice (some ⟨b, off, none⟩) n cap] w fun e w' => e = .returned (.tuple #[.agg #[.int .i64 1, .int .i64 0, .bool false], .int .i64 0]) ∧ Below w.heap.size w w' := by
  have hc1 : (cap = 1) = False := eq_false (by omega)
  have J1 := hide I1
  clear I1
  have J2 := hide I2
  clear I2
  have J3 := hide I3
  clear I3
  go_enter Tryz.func47, Tryz.ntmps47
  go_wp2_with fail
  refine (unhide J1 _ (ScP.start w)).mono ?_
  rintro e w1 ⟨rfl, p1⟩
  go_wp2_with fail
  refine (unhide J2 _ p1).mono ?_
  rintro e w2 ⟨rfl, p2⟩
  go_wp2_with fail
  refine (unhide J3 _ p2).mono ?_
  rintro e w3 ⟨rfl, p3⟩
  obtain ⟨k1, k2, k3, k4, k5, k6⟩ := cells3 p3.1
  have P9 := hide p3
  clear p1 p2 p3
  go_wp2
  obtain ⟨h6, h7⟩ := unhide P9
  refine bodyPost_ret (v := .tuple #[.agg #[.int .i64 1, .int .i64 0, .bool false], .int .i64 0]) ?_ rfl ?_
  · exact rsc_end _ _ (store3 h6 _ _ _) rfl rfl
  · exact ⟨rfl, ((h7.setCell (Nat.le_refl _) _).setCell (Nat.le_refl _) _).setCell (Nat.le_refl _) _⟩

theorem rsc_open_D (b off n cap : Nat) (w : World) (hn : 1 < n) (hn2 : n ≤ 140737488355328) (hcn : n ≤ cap) (hb : b < w.heap.size) (c0 : w.cell? ⟨b, off, none⟩ = some (.int .u8 (40 : Nat))) (I1 : IsAt w (.slice (some ⟨b, off + 1, none⟩) (n - 1) (cap - 1)) { data := #[45, 105, 110, 102] } false) (I2 : IsAt w (.slice (some ⟨b, off + 1, none⟩) (n - 1) (cap - 1)) { data := #[105, 110, 102] } false) (I3 : IsAt w (.slice (some ⟨b, off + 1, none⟩) (n - 1) (cap - 1)) { data := #[43, 105, 110, 102] } false) (x : Int) (er : Nat) (her : er = 0) (HI : IntAt w (.slice (some ⟨b, off + 1, none⟩) (n - 1) (cap - 1)) x er) :
    Calls Tryz.prog 47 #[.slice (some ⟨b, off, none⟩) n cap] w fun e w' => e = .returned (.tuple #[.agg #[.int .i64 0, .int .i64 x, .bool true], .int .i64 0]) ∧ Below w.heap.size w w' := by
  have hc1 : (cap = 1) = False := eq_false (by omega)
  have J1 := hide I1
  clear I1
  have J2 := hide I2
  clear I2
  have J3 := hide I3
  clear I3
  subst her
  have HJ := hide HI
  clear HI
  go_enter Tryz.func47, Tryz.ntmps47
  go_wp2_with fail
  refine (unhide J1 _ (ScP.start w)).mono ?_
  rintro e w1 ⟨rfl, p1⟩
  go_wp2_with fail
  refine (unhide J2 _ p1).mono ?_
  rintro e w2 ⟨rfl, p2⟩
  go_wp2_with fail
  refine (unhide J3 _ p2).mono ?_
  rintro e w3 ⟨rfl, p3⟩
  go_wp2_with fail
  refine (unhide HJ _ p3).mono ?_
  rintro e w4 ⟨rfl, p4⟩
  obtain ⟨k1, k2, k3, k4, k5, k6⟩ := cells3 p4.1
  have P9 := hide p4
  clear p1 p2 p3 p4
  go_wp2
  obtain ⟨h6, h7⟩ := unhide P9
  refine bodyPost_ret (v := .tuple #[.agg #[.int .i64 0, .int .i64 x, .bool true], .int .i64 0]) ?_ rfl ?_
  · exact rsc_end _ _ (store3 h6 _ _ _) rfl rfl
  · exact ⟨rfl, ((h7.setCell (Nat.le_refl _) _).setCell (Nat.le_refl _) _).setCell (Nat.le_refl _) _⟩

theorem rsc_open_E (b off n cap : Nat) (w : World) (hn : 1 < n) (hn2 : n ≤ 140737488355328) (hcn : n ≤ cap) (hb : b < w.heap.size) (c0 : w.cell? ⟨b, off, none⟩ = some (.int .u8 (40 : Nat))) (I1 : IsAt w (.slice (some ⟨b, off + 1, none⟩) (n - 1) (cap - 1)) { data := #[45, 105, 110, 102] } false) (I2 : IsAt w (.slice (some ⟨b, off + 1, none⟩) (n - 1) (cap - 1)) { data := #[105, 110, 102] } false) (I3 : IsAt w (.slice (some ⟨b, off + 1, none⟩) (n - 1) (cap - 1)) { data := #[43, 105, 110, 102] } false) (x : Int) (er : Nat) (her : er ≠ 0) (HI : IntAt w (.slice (some ⟨b, off + 1, none⟩) (n - 1) (cap - 1)) x er) :
    Calls Tryz.prog 47 #[.slice (some ⟨b, off, none⟩) n cap] w fun e w' => e = .returned (.tuple #[.agg #[.int .i64 0, .int .i64 0, .bool false], .int .i64 90]) ∧ Below w.heap.size w w' := by
  have hc1 : (cap = 1) = False := eq_false (by omega)
  have J1 := hide I1
  clear I1
  have J2 := hide I2
  clear I2
  have J3 := hide I3
  clear I3
  have hne : ((er : Int) != 0) = true := by rw [bne_iff_ne]; omega
  have HJ := hide HI
  clear HI
  go_enter Tryz.func47, Tryz.ntmps47
  go_wp2_with fail
  refine (unhide J1 _ (ScP.start w)).mono ?_
  rintro e w1 ⟨rfl, p1⟩
  go_wp2_with fail
  refine (unhide J2 _ p1).mono ?_
  rintro e w2 ⟨rfl, p2⟩
  go_wp2_with fail
  refine (unhide J3 _ p2).mono ?_
  rintro e w3 ⟨rfl, p3⟩
  go_wp2_with fail
  refine (unhide HJ _ p3).mono ?_
  rintro e w4 ⟨rfl, p4⟩
  obtain ⟨k1, k2, k3, k4, k5, k6⟩ := cells3 p4.1
  have P9 := hide p4
  clear p1 p2 p3 p4
  go_wp2
  obtain ⟨h6, h7⟩ := unhide P9
  refine bodyPost_ret (v := .tuple #[.agg #[.int .i64 0, .int .i64 0, .bool false], .int .i64 90]) ?_ rfl ?_
  · exact rsc_end _ _ (store3 h6 _ _ _) rfl rfl
  · exact ⟨rfl, ((h7.setCell (Nat.le_refl _) _).setCell (Nat.le_refl _) _).setCell (Nat.le_refl _) _⟩

theorem rsc_one_A (b off cap : Nat) (w : World) (hcn : 1 < cap) (hb : b < w.heap.size) (c0 : w.cell? ⟨b, off, none⟩ = some (.int .u8 (40 : Nat))) (I1 : IsAt w (.slice (some ⟨b, off + 1, none⟩) 0 (cap - 1)) { data := #[45, 105, 110, 102] } true)  :
    Calls Tryz.prog 47 #[.slice (some ⟨b, off, none⟩) 1 cap] w fun e w' => e = .returned (.tuple #[.agg #[.int .i64 (-1), .int .i64 0, .bool false], .int .i64 0]) ∧ Below w.heap.size w w' := by
  have hc1 : (cap = 1) = False := eq_false (by omega)
  have J1 := hide I1
  clear I1
  go_enter Tryz.func47, Tryz.ntmps47
  go_wp2_with fail
  refine (unhide J1 _ (ScP.start w)).mono ?_
  rintro e w1 ⟨rfl, p1⟩
  obtain ⟨k1, k2, k3, k4, k5, k6⟩ := cells3 p1.1
  have P9 := hide p1
  clear p1
  go_wp2
  obtain ⟨h6, h7⟩ := unhide P9
  refine bodyPost_ret (v := .tuple #[.agg #[.int .i64 (-1), .int .i64 0, .bool false], .int .i64 0]) ?_ rfl ?_
  · exact rsc_end _ _ (store3 h6 _ _ _) rfl rfl
  · exact ⟨rfl, ((h7.setCell (Nat.le_refl _) _).setCell (Nat.le_refl _) _).setCell (Nat.le_refl _) _⟩

theorem rsc_one_B (b off cap : Nat) (w : World) (hcn : 1 < cap) (hb : b < w.heap.size) (c0 : w.cell? ⟨b, off, none⟩ = some (.int .u8 (40 : Nat))) (I1 : IsAt w (.slice (some ⟨b, off + 1, none⟩) 0 (cap - 1)) { data := #[45, 105, 110, 102] } false) (I2 : IsAt w (.slice (some ⟨b, off + 1, none⟩) 0 (cap - 1)) { data := #[105, 110, 102] } true)  :
    Calls Tryz.prog 47 #[.slice (some ⟨b, off, none⟩) 1 cap] w fun e w' => e = .returned (.tuple #[.agg #[.int .i64 1, .int .i64 0, .bool false], .int .i64 0]) ∧ Below w.heap.size w w' := by
  have hc1 : (cap = 1) = False := eq_false (by omega)
  have J1 := hide I1
  clear I1
  have J2 := hide I2
  clear I2
  go_enter Tryz.func47, Tryz.ntmps47
  go_wp2_with fail
  refine (unhide J1 _ (ScP.start w)).mono ?_
  rintro e w1 ⟨rfl, p1⟩
  go_wp2_with fail
  refine (unhide J2 _ p1).mono ?_
  rintro e w2 ⟨rfl, p2⟩
  obtain ⟨k1, k2, k3, k4, k5, k6⟩ := cells3 p2.1
  have P9 := hide p2
  clear p1 p2
  go_wp2
  obtain ⟨h6, h7⟩ := unhide P9
  refine bodyPost_ret (v := .tuple #[.agg #[.int .i64 1, .int .i64 0, .bool false], .int .i64 0]) ?_ rfl ?_
  · exact rsc_end _ _ (store3 h6 _ _ _) rfl rfl
  · exact ⟨rfl, ((h7.setCell (Nat.le_refl _) _).setCell (Nat.le_refl _) _).setCell (Nat.le_refl _) _⟩

theorem rsc_one_C (b off cap : Nat) (w : World) (hcn : 1 < cap) (hb : b < w.heap.size) (c0 : w.cell? ⟨b, off, none⟩ = some (.int .u8 (40 : Nat))) (I1 : IsAt w (.slice (some ⟨b, off + 1, none⟩) 0 (cap - 1)) { data := #[45, 105, 110, 102] } false) (I2 : IsAt w (.slice (some ⟨b, off + 1, none⟩) 0 (cap - 1)) { data := #[105, 110, 102] } false) (I3 : IsAt w (.slice (some ⟨b, off + 1, none⟩) 0 (cap - 1)) { data := #[43, 105, 110, 102] } true)  :
    Calls Tryz.prog 47 #[.slice (some ⟨b, off, none⟩) 1 cap] w fun e w' => e = .returned (.tuple #[.agg #[.int .i64 1, .int .i64 0, .bool false], .int .i64 0]) ∧ Below w.heap.size w w' := by
  have hc1 : (cap = 1) = False := eq_false (by omega)
  have J1 := hide I1
  clear I1
  have J2 := hide I2
  clear I2
  have J3 := hide I3
  clear I3
  go_enter Tryz.func47, Tryz.ntmps47
  go_wp2_with fail
  refine (unhide J1 _ (ScP.start w)).mono ?_
  rintro e w1 ⟨rfl, p1⟩
  go_wp2_with fail
  refine (unhide J2 _ p1).mono ?_
  rintro e w2 ⟨rfl, p2⟩
  go_wp2_with fail
  refine (unhide J3 _ p2).mono ?_
  rintro e w3 ⟨rfl, p3⟩
  obtain ⟨k1, k2, k3, k4, k5, k6⟩ := cells3 p3.1
  have P9 := hide p3
  clear p1 p2 p3
  go_wp2
  obtain ⟨h6, h7⟩ := unhide P9
  refine bodyPost_ret (v := .tuple #[.agg #[.int .i64 1, .int .i64 0, .bool false], .int .i64 0]) ?_ rfl ?_
  · exact rsc_end _ _ (store3 h6 _ _ _) rfl rfl
  · exact ⟨rfl, ((h7.setCell (Nat.le_refl _) _).setCell (Nat.le_refl _) _).setCell (Nat.le_refl _) _⟩

theorem rsc_one_D (b off cap : Nat) (w : World) (hcn : 1 < cap) (hb : b < w.heap.size) (c0 : w.cell? ⟨b, off, none⟩ = some (.int .u8 (40 : Nat))) (I1 : IsAt w (.slice (some ⟨b, off + 1, none⟩) 0 (cap - 1)) { data := #[45, 105, 110, 102] } false) (I2 : IsAt w (.slice (some ⟨b, off + 1, none⟩) 0 (cap - 1)) { data := #[105, 110, 102] } false) (I3 : IsAt w (.slice (some ⟨b, off + 1, none⟩) 0 (cap - 1)) { data := #[43, 105, 110, 102] } false) (x : Int) (er : Nat) (her : er = 0) (HI : IntAt w (.slice (some ⟨b, off + 1, none⟩) 0 (cap - 1)) x er) :
    Calls Tryz.prog 47 #[.slice (some ⟨b, off, none⟩) 1 cap] w fun e w' => e = .returned (.tuple #[.agg #[.int .i64 0, .int .i64 x, .bool true], .int .i64 0]) ∧ Below w.heap.size w w' := by
  have hc1 : (cap = 1) = False := eq_false (by omega)
  have J1 := hide I1
  clear I1
  have J2 := hide I2
  clear I2
  have J3 := hide I3
  clear I3
  subst her
  have HJ := hide HI
  clear HI
  go_enter Tryz.func47, Tryz.ntmps47
  go_wp2_with fail
  refine (unhide J1 _ (ScP.start w)).mono ?_
  rintro e w1 ⟨rfl, p1⟩
  go_wp2_with fail
  refine (unhide J2 _ p1).mono ?_
  rintro e w2 ⟨rfl, p2⟩
  go_wp2_with fail
  refine (unhide J3 _ p2).mono ?_
  rintro e w3 ⟨rfl, p3⟩
  go_wp2_with fail
  refine (unhide HJ _ p3).mono ?_
  rintro e w4 ⟨rfl, p4⟩
  obtain ⟨k1, k2, k3, k4, k5, k6⟩ := cells3 p4.1
  have P9 := hide p4
  clear p1 p2 p3 p4
  go_wp2
  obtain ⟨h6, h7⟩ := unhide P9
  refine bodyPost_ret (v := .tuple #[.agg #[.int .i64 0, .int .i64 x, .bool true], .int .i64 0]) ?_ rfl ?_
  · exact rsc_end _ _ (store3 h6 _ _ _) rfl rfl
  · exact ⟨rfl, ((h7.setCell (Nat.le_refl _) _).setCell (Nat.le_refl _) _).setCell (Nat.le_refl _) _⟩

theorem rsc_one_E (b off cap : Nat) (w : World) (hcn : 1 < cap) (hb : b < w.heap.size) (c0 : w.cell? ⟨b, off, none⟩ = some (.int .u8 (40 : Nat))) (I1 : IsAt w (.slice (some ⟨b, off + 1, none⟩) 0 (cap - 1)) { data := #[45, 105, 110, 102] } false) (I2 : IsAt w (.slice (some ⟨b, off + 1, none⟩) 0 (cap - 1)) { data := #[105, 110, 102] } false) (I3 : IsAt w (.slice (some ⟨b, off + 1, none⟩) 0 (cap - 1)) { data := #[43, 105, 110, 102] } false) (x : Int) (er : Nat) (her : er ≠ 0) (HI : IntAt w (.slice (some ⟨b, off + 1, none⟩) 0 (cap - 1)) x er) :
    Calls Tryz.prog 47 #[.slice (some ⟨b, off, none⟩) 1 cap] w fun e w' => e = .returned (.tuple #[.agg #[.int .i64 0, .int .i64 0, .bool false], .int .i64 90]) ∧ Below w.heap.size w w' := by
  have hc1 : (cap = 1) = False := eq_false (by omega)
  have J1 := hide I1
  clear I1
  have J2 := hide I2
  clear I2
  have J3 := hide I3
  clear I3
  have hne : ((er : Int) != 0) = true := by rw [bne_iff_ne]; omega
  have HJ := hide HI
  clear HI
  go_enter Tryz.func47, Tryz.ntmps47
  go_wp2_with fail
  refine (unhide J1 _ (ScP.start w)).mono ?_
  rintro e w1 ⟨rfl, p1⟩
  go_wp2_with fail
  refine (unhide J2 _ p1).mono ?_
  rintro e w2 ⟨rfl, p2⟩
  go_wp2_with fail
  refine (unhide J3 _ p2).mono ?_
  rintro e w3 ⟨rfl, p3⟩
  go_wp2_with fail
  refine (unhide HJ _ p3).mono ?_
  rintro e w4 ⟨rfl, p4⟩
  obtain ⟨k1, k2, k3, k4, k5, k6⟩ := cells3 p4.1
  have P9 := hide p4
  clear p1 p2 p3 p4
  go_wp2
  obtain ⟨h6, h7⟩ := unhide P9
  refine bodyPost_ret (v := .tuple #[.agg #[.int .i64 0, .int .i64 0, .bool false], .int .i64 90]) ?_ rfl ?_
  · exact rsc_end _ _ (store3 h6 _ _ _) rfl rfl
  · exact ⟨rfl, ((h7.setCell (Nat.le_refl _) _).setCell (Nat.le_refl _) _).setCell (Nat.le_refl _) _⟩

theorem rsc_brim_A (b off : Nat) (w : World) (hb : b < w.heap.size) (c0 : w.cell? ⟨b, off, none⟩ = some (.int .u8 (40 : Nat))) (I1 : IsAt w (.slice (some ⟨b, off, none⟩) 0 0) { data := #[45, 105, 110, 102] } true)  :
    Calls Tryz.prog 47 #[.slice (some ⟨b, off, none⟩) 1 1] w fun e w' => e = .returned (.tuple #[.agg #[.int .i64 (-1), .int .i64 0, .bool false], .int .i64 0]) ∧ Below w.heap.size w w' := by
  have J1 := hide I1
  clear I1
  go_enter Tryz.func47, Tryz.ntmps47
  go_wp2_with fail
  refine (unhide J1 _ (ScP.start w)).mono ?_
  rintro e w1 ⟨rfl, p1⟩
  obtain ⟨k1, k2, k3, k4, k5, k6⟩ := cells3 p1.1
  have P9 := hide p1
  clear p1
  go_wp2
  obtain ⟨h6, h7⟩ := unhide P9
  refine bodyPost_ret (v := .tuple #[.agg #[.int .i64 (-1), .int .i64 0, .bool false], .int .i64 0]) ?_ rfl ?_
  · exact rsc_end _ _ (store3 h6 _ _ _) rfl rfl
  · exact ⟨rfl, ((h7.setCell (Nat.le_refl _) _).setCell (Nat.le_refl _) _).setCell (Nat.le_refl _) _⟩

theorem rsc_brim_B (b off : Nat) (w : World) (hb : b < w.heap.size) (c0 : w.cell? ⟨b, off, none⟩ = some (.int .u8 (40 : Nat))) (I1 : IsAt w (.slice (some ⟨b, off, none⟩) 0 0) { data := #[45, 105, 110, 102] } false) (I2 : IsAt w (.slice (some ⟨b, off, none⟩) 0 0) { data := #[105, 110, 102] } true)  :
    Calls Tryz.prog 47 #[.slice (some ⟨b, off, none⟩) 1 1] w fun e w' => e = .returned (.tuple #[.agg #[.int .i64 1, .int .i64 0, .bool false], .int .i64 0]) ∧ Below w.heap.size w w' := by
  have J1 := hide I1
  clear I1
  have J2 := hide I2
  clear I2
  go_enter Tryz.func47, Tryz.ntmps47
  go_wp2_with fail
  refine (unhide J1 _ (ScP.start w)).mono ?_
  rintro e w1 ⟨rfl, p1⟩
  go_wp2_with fail
  refine (unhide J2 _ p1).mono ?_
  rintro e w2 ⟨rfl, p2⟩
  obtain ⟨k1, k2, k3, k4, k5, k6⟩ := cells3 p2.1
  have P9 := hide p2
  clear p1 p2
  go_wp2
  obtain ⟨h6, h7⟩ := unhide P9
  refine bodyPost_ret (v := .tuple #[.agg #[.int .i64 1, .int .i64 0, .bool false], .int .i64 0]) ?_ rfl ?_
  · exact rsc_end _ _ (store3 h6 _ _ _) rfl rfl
  · exact ⟨rfl, ((h7.setCell (Nat.le_refl _) _).setCell (Nat.le_refl _) _).setCell (Nat.le_refl _) _⟩

theorem rsc_brim_C (b off : Nat) (w : World) (hb : b < w.heap.size) (c0 : w.cell? ⟨b, off, none⟩ = some (.int .u8 (40 : Nat))) (I1 : IsAt w (.slice (some ⟨b, off, none⟩) 0 0) { data := #[45, 105, 110, 102] } false) (I2 : IsAt w (.slice (some ⟨b, off, none⟩) 0 0) { data := #[105, 110, 102] } false) (I3 : IsAt w (.slice (some ⟨b, off, none⟩) 0 0) { data := #[43, 105, 110, 102] } true)  :
    Calls Tryz.prog 47 #[.slice (some ⟨b, off, none⟩) 1 1] w fun e w' => e = .returned (.tuple #[.agg #[.int .i64 1, .int .i64 0, .bool false], .int .i64 0]) ∧ Below w.heap.size w w' := by
  have J1 := hide I1
  clear I1
  have J2 := hide I2
  clear I2
  have J3 := hide I3
  clear I3
  go_enter Tryz.func47, Tryz.ntmps47
  go_wp2_with fail
  refine (unhide J1 _ (ScP.start w)).mono ?_
  rintro e w1 ⟨rfl, p1⟩
  go_wp2_with fail
  refine (unhide J2 _ p1).mono ?_
  rintro e w2 ⟨rfl, p2⟩
  go_wp2_with fail
  refine (unhide J3 _ p2).mono ?_
  rintro e w3 ⟨rfl, p3⟩
  obtain ⟨k1, k2, k3, k4, k5, k6⟩ := cells3 p3.1
  have P9 := hide p3
  clear p1 p2 p3
  go_wp2
  obtain ⟨h6, h7⟩ := unhide P9
  refine bodyPost_ret (v := .tuple #[.agg #[.int .i64 1, .int .i64 0, .bool false], .int .i64 0]) ?_ rfl ?_
  · exact rsc_end _ _ (store3 h6 _ _ _) rfl rfl
  · exact ⟨rfl, ((h7.setCell (Nat.le_refl _) _).setCell (Nat.le_refl _) _).setCell (Nat.le_refl _) _⟩

theorem rsc_brim_D (b off : Nat) (w : World) (hb : b < w.heap.size) (c0 : w.cell? ⟨b, off, none⟩ = some (.int .u8 (40 : Nat))) (I1 : IsAt w (.slice (some ⟨b, off, none⟩) 0 0) { data := #[45, 105, 110, 102] } false) (I2 : IsAt w (.slice (some ⟨b, off, none⟩) 0 0) { data := #[105, 110, 102] } false) (I3 : IsAt w (.slice (some ⟨b, off, none⟩) 0 0) { data := #[43, 105, 110, 102] } false) (x : Int) (er : Nat) (her : er = 0) (HI : IntAt w (.slice (some ⟨b, off, none⟩) 0 0) x er) :
    Calls Tryz.prog 47 #[.slice (some ⟨b, off, none⟩) 1 1] w fun e w' => e = .returned (.tuple #[.agg #[.int .i64 0, .int .i64 x, .bool true], .int .i64 0]) ∧ Below w.heap.size w w' := by
  have J1 := hide I1
  clear I1
  have J2 := hide I2
  clear I2
  have J3 := hide I3
  clear I3
  subst her
  have HJ := hide HI
  clear HI
  go_enter Tryz.func47, Tryz.ntmps47
  go_wp2_with fail
  refine (unhide J1 _ (ScP.start w)).mono ?_
  rintro e w1 ⟨rfl, p1⟩
  go_wp2_with fail
  refine (unhide J2 _ p1).mono ?_
  rintro e w2 ⟨rfl, p2⟩
  go_wp2_with fail
  refine (unhide J3 _ p2).mono ?_
  rintro e w3 ⟨rfl, p3⟩
  go_wp2_with fail
  refine (unhide HJ _ p3).mono ?_
  rintro e w4 ⟨rfl, p4⟩
  obtain ⟨k1, k2, k3, k4, k5, k6⟩ := cells3 p4.1
  have P9 := hide p4
  clear p1 p2 p3 p4
  go_wp2
  obtain ⟨h6, h7⟩ := unhide P9
  refine bodyPost_ret (v := .tuple #[.agg #[.int .i64 0, .int .i64 x, .bool true], .int .i64 0]) ?_ rfl ?_
  · exact rsc_end _ _ (store3 h6 _ _ _) rfl rfl
  · exact ⟨rfl, ((h7.setCell (Nat.le_refl _) _).setCell (Nat.le_refl _) _).setCell (Nat.le_refl _) _⟩

theorem rsc_brim_E (b off : Nat) (w : World) (hb : b < w.heap.size) (c0 : w.cell? ⟨b, off, none⟩ = some (.int .u8 (40 : Nat))) (I1 : IsAt w (.slice (some ⟨b, off, none⟩) 0 0) { data := #[45, 105, 110, 102] } false) (I2 : IsAt w (.slice (some ⟨b, off, none⟩) 0 0) { data := #[105, 110, 102] } false) (I3 : IsAt w (.slice (some ⟨b, off, none⟩) 0 0) { data := #[43, 105, 110, 102] } false) (x : Int) (er : Nat) (her : er ≠ 0) (HI : IntAt w (.slice (some ⟨b, off, none⟩) 0 0) x er) :
    Calls Tryz.prog 47 #[.slice (some ⟨b, off, none⟩) 1 1] w fun e w' => e = .returned (.tuple #[.agg #[.int .i64 0, .int .i64 0, .bool false], .int .i64 90]) ∧ Below w.heap.size w w' := by
  have J1 := hide I1
  clear I1
  have J2 := hide I2
  clear I2
  have J3 := hide I3
  clear I3
  have hne : ((er : Int) != 0) = true := by rw [bne_iff_ne]; omega
  have HJ := hide HI
  clear HI
  go_enter Tryz.func47, Tryz.ntmps47
  go_wp2_with fail
  refine (unhide J1 _ (ScP.start w)).mono ?_
  rintro e w1 ⟨rfl, p1⟩
  go_wp2_with fail
  refine (unhide J2 _ p1).mono ?_
  rintro e w2 ⟨rfl, p2⟩
  go_wp2_with fail
  refine (unhide J3 _ p2).mono ?_
  rintro e w3 ⟨rfl, p3⟩
  go_wp2_with fail
  refine (unhide HJ _ p3).mono ?_
  rintro e w4 ⟨rfl, p4⟩
  obtain ⟨k1, k2, k3, k4, k5, k6⟩ := cells3 p4.1
  have P9 := hide p4
  clear p1 p2 p3 p4
  go_wp2
  obtain ⟨h6, h7⟩ := unhide P9
  refine bodyPost_ret (v := .tuple #[.agg #[.int .i64 0, .int .i64 0, .bool false], .int .i64 90]) ?_ rfl ?_
  · exact rsc_end _ _ (store3 h6 _ _ _) rfl rfl
  · exact ⟨rfl, ((h7.setCell (Nat.le_refl _) _).setCell (Nat.le_refl _) _).setCell (Nat.le_refl _) _⟩

theorem isat {w : World} {a : Option Addr} {c : Nat} {l : List Nat} (m : List Nat) (S : ByteArray) (hl : l.length ≤ 140737488355328) (hB : ∀ W, Below w.heap.size w W → Bytes W a l) (hz : S.size = m.length) (hm : ∀ j, j < m.length → (S.data.toList.getD j 0).toNat = m.getD j 0) (hm2 : m.length ≤ 140737488355328) {D : Bool} (hD : decide (l = m) = D) : IsAt w (.slice a l.length c) S D := fun W hW => by
  have h := is_any (w := W) (a := a) (c1 := c) (l := l) S m hz hm hl hm2 (hB W hW.2)
  rw [hD] at h
  exact h.mono (fun e w' ⟨h1, h2⟩ => ⟨h1, hW.next h2⟩)
theorem isat1 {w : World} {a : Option Addr} {c : Nat} {l : List Nat} (hl : l.length ≤ 140737488355328) (hB : ∀ W, Below w.heap.size w W → Bytes W a l) {D : Bool} (hD : decide (l = [45, 105, 110, 102]) = D) : IsAt w (.slice a l.length c) { data := #[45, 105, 110, 102] } D :=
  isat [45, 105, 110, 102] _ hl hB rfl (by decide) (by decide) hD
theorem isat2 {w : World} {a : Option Addr} {c : Nat} {l : List Nat} (hl : l.length ≤ 140737488355328) (hB : ∀ W, Below w.heap.size w W → Bytes W a l) {D : Bool} (hD : decide (l = [105, 110, 102]) = D) : IsAt w (.slice a l.length c) { data := #[105, 110, 102] } D :=
  isat [105, 110, 102] _ hl hB rfl (by decide) (by decide) hD
theorem isat3 {w : World} {a : Option Addr} {c : Nat} {l : List Nat} (hl : l.length ≤ 140737488355328) (hB : ∀ W, Below w.heap.size w W → Bytes W a l) {D : Bool} (hD : decide (l = [43, 105, 110, 102]) = D) : IsAt w (.slice a l.length c) { data := #[43, 105, 110, 102] } D :=
  isat [43, 105, 110, 102] _ hl hB rfl (by decide) (by decide) hD
theorem intat {w : World} {a : Option Addr} {c : Nat} {l : List Nat} (hl : l.length ≤ 140737488355328) (hs : Small l) (hB : ∀ W, Below w.heap.size w W → Bytes W a l) : IntAt w (.slice a l.length c) (Larder.intRes l).1 (Larder.intRes l).2 := fun W hW => by
  have h := rint_any a c W l hl hs (hB W hW.2)
  exact h.mono (fun e w' ⟨h1, h2⟩ => ⟨h1, (by rw [h2]; exact hW)⟩)
theorem rscore_any (a : Option Addr) (cap : Nat) (w : World) (l : List Nat) (hl : l.length ≤ 140737488355328) (hs : Small l) (hcap : l.length ≤ cap) (hB : Bytes w a l) :
    Calls Tryz.prog 47 #[.slice a l.length cap] w fun e w' => e = .returned (boundV (Larder.scoreRes l)) ∧ Below w.heap.size w w' := by
  unfold boundV
  by_cases h0 : 0 < l.length
  · obtain ⟨b, off, rfl, hb, hc⟩ := hB.at h0
    have c0 := hc 0 h0
    rw [Nat.add_zero] at c0
    by_cases h40 : l.getD 0 0 = 40
    · have e0 : Larder.scoreRes l = Larder.scoreTail true (l.drop 1) := by unfold Larder.scoreRes; rw [if_pos ⟨h0, h40⟩]
      rw [e0]
      rw [h40] at c0
      have hm : Small (l.drop 1) := by
        intro i hi
        rw [List.length_drop] at hi
        rw [Larder.getD_drop, Nat.add_comm]
        exact hs (i + 1) (by omega)
      have hml : (l.drop 1).length = l.length - 1 := List.length_drop ..
      by_cases h1 : l.length = 1
      · have em : l.drop 1 = [] := List.eq_nil_of_length_eq_zero (by omega)
        rw [em] at hm ⊢
        rw [h1]
        by_cases hc1 : cap = 1
        · subst hc1
          have I1 := fun {D : Bool} hD => isat1 (w := w) (a := some ⟨b, off, none⟩) (c := 0) (l := []) (D := D) (by simp) (fun _ _ => .inl rfl) hD
          have I2 := fun {D : Bool} hD => isat2 (w := w) (a := some ⟨b, off, none⟩) (c := 0) (l := []) (D := D) (by simp) (fun _ _ => .inl rfl) hD
          have I3 := fun {D : Bool} hD => isat3 (w := w) (a := some ⟨b, off, none⟩) (c := 0) (l := []) (D := D) (by simp) (fun _ _ => .inl rfl) hD
          have HI := intat (w := w) (a := some ⟨b, off, none⟩) (c := 0) (l := []) (by simp) hm (fun _ _ => .inl rfl)
          by_cases q1 : [] = [45, 105, 110, 102]
          · rw [tail_A true q1]; exact rsc_brim_A b off w hb c0 (I1 (decide_eq_true q1))
          · by_cases q2 : [] = [105, 110, 102]
            · rw [tail_B true q1 (.inl q2)]; exact rsc_brim_B b off w hb c0 (I1 (decide_eq_false q1)) (I2 (decide_eq_true q2))
            · by_cases q3 : [] = [43, 105, 110, 102]
              · rw [tail_B true q1 (.inr q3)]; exact rsc_brim_C b off w hb c0 (I1 (decide_eq_false q1)) (I2 (decide_eq_false q2)) (I3 (decide_eq_true q3))
              · by_cases q4 : (Larder.intRes []).2 = 0
                · rw [tail_D true q1 (fun h => h.elim q2 q3) q4]; exact rsc_brim_D b off w hb c0 (I1 (decide_eq_false q1)) (I2 (decide_eq_false q2)) (I3 (decide_eq_false q3)) _ _ q4 HI
                · rw [tail_E true q1 (fun h => h.elim q2 q3) q4]; exact rsc_brim_E b off w hb c0 (I1 (decide_eq_false q1)) (I2 (decide_eq_false q2)) (I3 (decide_eq_false q3)) _ _ q4 HI
        · have I1 := fun {D : Bool} hD => isat1 (w := w) (a := some ⟨b, off + 1, none⟩) (c := cap - 1) (l := []) (D := D) (by simp) (fun _ _ => .inl rfl) hD
          have I2 := fun {D : Bool} hD => isat2 (w := w) (a := some ⟨b, off + 1, none⟩) (c := cap - 1) (l := []) (D := D) (by simp) (fun _ _ => .inl rfl) hD
          have I3 := fun {D : Bool} hD => isat3 (w := w) (a := some ⟨b, off + 1, none⟩) (c := cap - 1) (l := []) (D := D) (by simp) (fun _ _ => .inl rfl) hD
          have HI := intat (w := w) (a := some ⟨b, off + 1, none⟩) (c := cap - 1) (l := []) (by simp) hm (fun _ _ => .inl rfl)
          by_cases q1 : [] = [45, 105, 110, 102]
          · rw [tail_A true q1]; exact rsc_one_A b off cap w (by omega) hb c0 (I1 (decide_eq_true q1))
          · by_cases q2 : [] = [105, 110, 102]
            · rw [tail_B true q1 (.inl q2)]; exact rsc_one_B b off cap w (by omega) hb c0 (I1 (decide_eq_false q1)) (I2 (decide_eq_true q2))
            · by_cases q3 : [] = [43, 105, 110, 102]
              · rw [tail_B true q1 (.inr q3)]; exact rsc_one_C b off cap w (by omega) hb c0 (I1 (decide_eq_false q1)) (I2 (decide_eq_false q2)) (I3 (decide_eq_true q3))
              · by_cases q4 : (Larder.intRes []).2 = 0
                · rw [tail_D true q1 (fun h => h.elim q2 q3) q4]; exact rsc_one_D b off cap w (by omega) hb c0 (I1 (decide_eq_false q1)) (I2 (decide_eq_false q2)) (I3 (decide_eq_false q3)) _ _ q4 HI
                · rw [tail_E true q1 (fun h => h.elim q2 q3) q4]; exact rsc_one_E b off cap w (by omega) hb c0 (I1 (decide_eq_false q1)) (I2 (decide_eq_false q2)) (I3 (decide_eq_false q3)) _ _ q4 HI
      · have hBm : ∀ W, Below w.heap.size w W → Bytes W (some ⟨b, off + 1, none⟩) (l.drop 1) := fun W hW => (show Bytes w (some ⟨b, off + 1, none⟩) (l.drop 1) from .inr ⟨b, off + 1, rfl, hb, fun i hi => by
          rw [hml] at hi
          rw [Larder.getD_drop, Nat.add_assoc, hc (1 + i) (by omega)]⟩).below hW
        have I1 := fun {D : Bool} hD => isat1 (w := w) (c := cap - 1) (D := D) (by omega) hBm hD
        have I2 := fun {D : Bool} hD => isat2 (w := w) (c := cap - 1) (D := D) (by omega) hBm hD
        have I3 := fun {D : Bool} hD => isat3 (w := w) (c := cap - 1) (D := D) (by omega) hBm hD
        have HI := intat (w := w) (c := cap - 1) (by omega) hm hBm
        rw [hml] at HI
        simp only [hml] at I1 I2 I3
        by_cases q1 : (l.drop 1) = [45, 105, 110, 102]
        · rw [tail_A true q1]; exact rsc_open_A b off l.length cap w (by omega) hl hcap hb c0 (I1 (decide_eq_true q1))
        · by_cases q2 : (l.drop 1) = [105, 110, 102]
          · rw [tail_B true q1 (.inl q2)]; exact rsc_open_B b off l.length cap w (by omega) hl hcap hb c0 (I1 (decide_eq_false q1)) (I2 (decide_eq_true q2))
          · by_cases q3 : (l.drop 1) = [43, 105, 110, 102]
            · rw [tail_B true q1 (.inr q3)]; exact rsc_open_C b off l.length cap w (by omega) hl hcap hb c0 (I1 (decide_eq_false q1)) (I2 (decide_eq_false q2)) (I3 (decide_eq_true q3))
            · by_cases q4 : (Larder.intRes (l.drop 1)).2 = 0
              · rw [tail_D true q1 (fun h => h.elim q2 q3) q4]; exact rsc_open_D b off l.length cap w (by omega) hl hcap hb c0 (I1 (decide_eq_false q1)) (I2 (decide_eq_false q2)) (I3 (decide_eq_false q3)) _ _ q4 HI
              · rw [tail_E true q1 (fun h => h.elim q2 q3) q4]; exact rsc_open_E b off l.length cap w (by omega) hl hcap hb c0 (I1 (decide_eq_false q1)) (I2 (decide_eq_false q2)) (I3 (decide_eq_false q3)) _ _ q4 HI
    · have e0 : Larder.scoreRes l = Larder.scoreTail false l := by unfold Larder.scoreRes; rw [if_neg (fun h => h40 h.2)]
      rw [e0]
      have hBm : ∀ W, Below w.heap.size w W → Bytes W (some ⟨b, off, none⟩) l := fun W hW => hB.below hW
      have I1 := fun {D : Bool} hD => isat1 (w := w) (c := cap) (D := D) hl hBm hD
      have I2 := fun {D : Bool} hD => isat2 (w := w) (c := cap) (D := D) hl hBm hD
      have I3 := fun {D : Bool} hD => isat3 (w := w) (c := cap) (D := D) hl hBm hD
      have HI := intat (w := w) (c := cap) hl hs hBm
      by_cases q1 : l = [45, 105, 110, 102]
      · rw [tail_A false q1]; exact rsc_shut_A b off l.length cap _ w h0 hl hb c0 (hs 0 h0) h40 (I1 (decide_eq_true q1))
      · by_cases q2 : l = [105, 110, 102]
        · rw [tail_B false q1 (.inl q2)]; exact rsc_shut_B b off l.length cap _ w h0 hl hb c0 (hs 0 h0) h40 (I1 (decide_eq_false q1)) (I2 (decide_eq_true q2))
        · by_cases q3 : l = [43, 105, 110, 102]
          · rw [tail_B false q1 (.inr q3)]; exact rsc_shut_C b off l.length cap _ w h0 hl hb c0 (hs 0 h0) h40 (I1 (decide_eq_false q1)) (I2 (decide_eq_false q2)) (I3 (decide_eq_true q3))
          · by_cases q4 : (Larder.intRes l).2 = 0
            · rw [tail_D false q1 (fun h => h.elim q2 q3) q4]; exact rsc_shut_D b off l.length cap _ w h0 hl hb c0 (hs 0 h0) h40 (I1 (decide_eq_false q1)) (I2 (decide_eq_false q2)) (I3 (decide_eq_false q3)) _ _ q4 HI
            · rw [tail_E false q1 (fun h => h.elim q2 q3) q4]; exact rsc_shut_E b off l.length cap _ w h0 hl hb c0 (hs 0 h0) h40 (I1 (decide_eq_false q1)) (I2 (decide_eq_false q2)) (I3 (decide_eq_false q3)) _ _ q4 HI
  · obtain rfl : l = [] := List.eq_nil_of_length_eq_zero (by omega)
    have e0 : Larder.scoreRes [] = Larder.scoreTail false [] := by unfold Larder.scoreRes; rw [if_neg (fun h => h0 h.1)]
    rw [e0]
    have I1 := fun {D : Bool} hD => isat1 (w := w) (a := a) (c := cap) (l := []) (D := D) (by simp) (fun _ _ => .inl rfl) hD
    have I2 := fun {D : Bool} hD => isat2 (w := w) (a := a) (c := cap) (l := []) (D := D) (by simp) (fun _ _ => .inl rfl) hD
    have I3 := fun {D : Bool} hD => isat3 (w := w) (a := a) (c := cap) (l := []) (D := D) (by simp) (fun _ _ => .inl rfl) hD
    have HI := intat (w := w) (a := a) (c := cap) (l := []) (by simp) hs (fun _ _ => .inl rfl)
    by_cases q1 : [] = [45, 105, 110, 102]
    · rw [tail_A false q1]; exact rsc_empty_A a cap w  (I1 (decide_eq_true q1))
    · by_cases q2 : [] = [105, 110, 102]
      · rw [tail_B false q1 (.inl q2)]; exact rsc_empty_B a cap w  (I1 (decide_eq_false q1)) (I2 (decide_eq_true q2))
      · by_cases q3 : [] = [43, 105, 110, 102]
        · rw [tail_B false q1 (.inr q3)]; exact rsc_empty_C a cap w  (I1 (decide_eq_false q1)) (I2 (decide_eq_false q2)) (I3 (decide_eq_true q3))
        · by_cases q4 : (Larder.intRes []).2 = 0
          · rw [tail_D false q1 (fun h => h.elim q2 q3) q4]; exact rsc_empty_D a cap w  (I1 (decide_eq_false q1)) (I2 (decide_eq_false q2)) (I3 (decide_eq_false q3)) _ _ q4 HI
          · rw [tail_E false q1 (fun h => h.elim q2 q3) q4]; exact rsc_empty_E a cap w  (I1 (decide_eq_false q1)) (I2 (decide_eq_false q2)) (I3 (decide_eq_false q3)) _ _ q4 HI
end Go.Proofs.YtidfbelckdlbhabGreat
