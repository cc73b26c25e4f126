/- ref Lex. -/
import Derived.Test.YtidfbelckdlbhabLxa
import Derived.Test.YtidfbelckdlbhabCpE
namespace Go.Proofs.Ytidfbelckdlbhab
open Go.ChangeShapes Go.WideShapes Go.ChangeAt Go.RowKit
set_option linter.unusedVariables false
set_option maxRecDepth 20000
set_option maxHeartbeats 2000000

theorem rlex_end {W : World} {g : Nat} {v0 v1 v2 : Value} (er : Int) (tmps : Array Value) (hg : W.heap[g]? = some (.cells #[v0, v1, v2] 32 (0, 0))) (h2 : tmps.getD 2 undef = .pointer (some ⟨g, 0, none⟩)) (h3 : tmps.getD 3 undef = .int .i64 er) :
    (results Try.f31 tmps).run Try.prog W = .ok (.tuple #[.agg #[v0, v1, v2], .int .i64 er]) W := by
  refine results_cell_tmp (p := 2) (q := 3) (ty := 32) rfl tmps _ g 32 _ (0, 0) _ h2 hg Try.underlying32 rfl (by kernel_rfl) _ h3
/-- the reference's Lex has answered -/
def RLexEnd (R : (Int × List Nat × Bool) × Nat) (w : World) (e : Ending) (w' : World) : Prop := ∃ a' c', e = .returned (.tuple #[.agg #[.int .i64 R.1.1, .slice a' R.1.2.1.length c', .bool R.1.2.2], .int .i64 (R.2 : Nat)]) ∧ Bytes w' a' R.1.2.1 ∧ Below w.heap.size w w'

theorem rlex_F (a : Option Addr) (cap : Nat) (w : World)  :
    Calls Try.prog 31 #[.slice a 0 cap] w (RLexEnd ((0, [], false), 91) w) := by
  go_enter Try.func31, Try.ntmps31
  go_wp2
  refine bodyPost_ret (v := .tuple #[.agg #[.int .i64 0, .slice none 0 0, .bool false], .int .i64 91]) ?_ rfl ?_
  · exact rlex_end _ _ (heap_alloc_new _ _) rfl rfl
  · exact ⟨none, 0, rfl, .inl rfl, (Below.refl _ _).alloc (Nat.le_refl _) _⟩

theorem rlex_A (b off cap : Nat) (w : World) (hb : b < w.heap.size) (c0 : w.cell? ⟨b, off, none⟩ = some (.int .u8 (45 : Nat))) :
    Calls Try.prog 31 #[.slice (some ⟨b, off, none⟩) 1 cap] w (RLexEnd (((-1), [], false), 0) w) := by
  go_enter Try.func31, Try.ntmps31
  go_wp2
  refine bodyPost_ret (v := .tuple #[.agg #[.int .i64 (-1), .slice none 0 0, .bool false], .int .i64 0]) ?_ rfl ?_
  · exact rlex_end _ _ (heap_alloc_new _ _) rfl rfl
  · exact ⟨none, 0, rfl, .inl rfl, (Below.refl _ _).alloc (Nat.le_refl _) _⟩

theorem rlex_B (b off cap : Nat) (w : World) (hb : b < w.heap.size) (c0 : w.cell? ⟨b, off, none⟩ = some (.int .u8 (43 : Nat))) :
    Calls Try.prog 31 #[.slice (some ⟨b, off, none⟩) 1 cap] w (RLexEnd ((1, [], false), 0) w) := by
  go_enter Try.func31, Try.ntmps31
  go_wp2
  refine bodyPost_ret (v := .tuple #[.agg #[.int .i64 1, .slice none 0 0, .bool false], .int .i64 0]) ?_ rfl ?_
  · exact rlex_end _ _ (heap_alloc_new _ _) rfl rfl
  · exact ⟨none, 0, rfl, .inl rfl, (Below.refl _ _).alloc (Nat.le_refl _) _⟩

theorem rlex_E1 (b off cap d : Nat) (w : World) (hb : b < w.heap.size) (c0 : w.cell? ⟨b, off, none⟩ = some (.int .u8 (d : Nat))) (hdd : d < 256) (h91 : d ≠ 91) (h40 : d ≠ 40) (h45 : d ≠ 45) (h43 : d ≠ 43) :
    Calls Try.prog 31 #[.slice (some ⟨b, off, none⟩) 1 cap] w (RLexEnd ((0, [], false), 91) w) := by
  have hd91 : ((d : Int) == 91) = false := by rw [beq_eq_false_iff_ne]; omega
  have hd40 : ((d : Int) == 40) = false := by rw [beq_eq_false_iff_ne]; omega
  have hd45 : ((d : Int) == 45) = false := by rw [beq_eq_false_iff_ne]; omega
  have hd43 : ((d : Int) == 43) = false := by rw [beq_eq_false_iff_ne]; omega
  go_enter Try.func31, Try.ntmps31
  go_wp2
  refine bodyPost_ret (v := .tuple #[.agg #[.int .i64 0, .slice none 0 0, .bool false], .int .i64 91]) ?_ rfl ?_
  · exact rlex_end _ _ (heap_alloc_new _ _) rfl rfl
  · exact ⟨none, 0, rfl, .inl rfl, (Below.refl _ _).alloc (Nat.le_refl _) _⟩

theorem rlex_E2 (b off n cap d : Nat) (w : World) (hn : 1 < n) (hn2 : n ≤ 140737488355328) (hb : b < w.heap.size) (c0 : w.cell? ⟨b, off, none⟩ = some (.int .u8 (d : Nat))) (hdd : d < 256) (h91 : d ≠ 91) (h40 : d ≠ 40) :
    Calls Try.prog 31 #[.slice (some ⟨b, off, none⟩) n cap] w (RLexEnd ((0, [], false), 91) w) := by
  have hd91 : ((d : Int) == 91) = false := by rw [beq_eq_false_iff_ne]; omega
  have hd40 : ((d : Int) == 40) = false := by rw [beq_eq_false_iff_ne]; omega
  have hn1 : ((n : Int) == 1) = false := by rw [beq_eq_false_iff_ne]; omega
  have hn0 : ((n : Int) == 0) = false := by rw [beq_eq_false_iff_ne]; omega
  go_enter Try.func31, Try.ntmps31
  go_wp2
  refine bodyPost_ret (v := .tuple #[.agg #[.int .i64 0, .slice none 0 0, .bool false], .int .i64 91]) ?_ rfl ?_
  · exact rlex_end _ _ (heap_alloc_new _ _) rfl rfl
  · exact ⟨none, 0, rfl, .inl rfl, (Below.refl _ _).alloc (Nat.le_refl _) _⟩

theorem Bytes.setOther {w : World} {p : Nat} {l : List Nat} {g j : Nat} {x : Value} (h : Bytes w (some ⟨p, 0, none⟩) l) (hg : g < p) : Bytes (w.setCell ⟨g, j, none⟩ x) (some ⟨p, 0, none⟩) l := by
  rcases h with h | ⟨b, off, h, hb, hc⟩
  · exact .inl h
  · cases h
    refine .inr ⟨p, 0, rfl, by simpa using hb, fun i hi => ?_⟩
    rw [← hc i hi]
    exact World.cell?_of_block (w := w) (Below.heap_setCell w ⟨g, j, none⟩ x p (by show p ≠ g; omega))

theorem rlex_open_91 (b off n cap : Nat) (w : World) (m : List Nat) (hn : 1 < n) (hn2 : n ≤ 140737488355328) (hcn : n ≤ cap) (hb : b < w.heap.size) (c0 : w.cell? ⟨b, off, none⟩ = some (.int .u8 (91 : Nat)))
    (HC : ∀ W, Below w.heap.size w W → Calls Try.prog 28 #[.slice (some ⟨b, off + 1, none⟩) (n - 1) (cap - 1)] W fun e w' => e = .returned (.slice (some ⟨W.heap.size, 0, none⟩) m.length m.length) ∧ Bytes w' (some ⟨W.heap.size, 0, none⟩) m ∧ Below W.heap.size W w') :
    Calls Try.prog 31 #[.slice (some ⟨b, off, none⟩) n cap] w (RLexEnd ((0, m, false), 0) w) := by
  have hc1 : (cap = 1) = False := eq_false (by omega)
  have i1 : (1 : Int) ≤ (n : Int) := by omega
  have i2 : (n : Int) ≤ (cap : Int) := by omega
  have i3 : (1 : Int) ≤ (cap : Int) := by omega
  have i4 : 1 ≤ n := by omega
  have i5 : 1 ≤ cap := by omega
  have i6 : 0 < n := by omega
  have i7 : (0 : Int) < (n : Int) := by omega
  have hn0 : ((n : Int) == 0) = false := by rw [beq_eq_false_iff_ne]; omega
  have hA : (w.alloc (.cells #[.int .i64 0, .slice none 0 0, .bool false] 32)).heap[w.heap.size]? = some (.cells #[.int .i64 0, .slice none 0 0, .bool false] 32 (0, 0)) := heap_alloc_new _ _
  have hbA : Below w.heap.size w (w.alloc (.cells #[.int .i64 0, .slice none 0 0, .bool false] 32)) := (Below.refl _ _).alloc (Nat.le_refl _) _
  have H1 : Hid (Calls Try.prog 28 #[.slice (some ⟨b, off + 1, none⟩) (n - 1) (cap - 1)] (w.alloc (.cells #[.int .i64 0, .slice none 0 0, .bool false] 32)).drew fun e w' => ∃ a2, e = .returned (.slice a2 m.length m.length) ∧ (w'.cell? ⟨b, off, none⟩ = some (.int .u8 (91 : Nat))) ∧ (w'.cell? ⟨w.heap.size, 0, none⟩ = some (.int .i64 0) ∧ w'.cell? ⟨w.heap.size, 1, none⟩ = some (.slice none 0 0) ∧ w'.cell? ⟨w.heap.size, 2, none⟩ = some (.bool false) ∧ w'.frozen? ⟨w.heap.size, 0, none⟩ = false ∧ w'.frozen? ⟨w.heap.size, 1, none⟩ = false ∧ w'.frozen? ⟨w.heap.size, 2, none⟩ = false) ∧ Hid (a2 = some ⟨w.heap.size + 1, 0, none⟩ ∧ Bytes w' a2 m ∧ w'.heap[w.heap.size]? = some (.cells #[.int .i64 0, .slice none 0 0, .bool false] 32 (0, 0)) ∧ Below w.heap.size w w')) := hide (by
    refine (HC _ hbA.drew).mono ?_
    rintro e w' ⟨rfl, h2, h3⟩
    have hsz : (w.alloc (.cells #[.int .i64 0, .slice none 0 0, .bool false] 32)).drew.heap.size = w.heap.size + 1 := by show (w.alloc (.cells #[.int .i64 0, .slice none 0 0, .bool false] 32)).heap.size = _; simp
    have hr : w'.heap[w.heap.size]? = some (.cells #[.int .i64 0, .slice none 0 0, .bool false] 32 (0, 0)) := (h3.block w.heap.size (by rw [hsz]; omega)).trans hA
    have hbw : Below w.heap.size w w' := hbA.drew.trans (h3.mono (by rw [hsz]; omega))
    exact ⟨_, rfl, (hbw.cell (p := ⟨b, off, none⟩) hb).trans c0, cells3 hr, hide ⟨by rw [hsz], h2, hr, hbw⟩⟩)
  clear hA hbA HC
  have hnew := World.new_ne w ⟨b, off, none⟩ c0
  go_enter Try.func31, Try.ntmps31
  go_wp2_with fail
  go_region_held3 (fun w' => w'.cell? ⟨b, off, none⟩ = some (.int .u8 (91 : Nat))) (go_keep) (first | (go_at_call 28; refine (unhide H1).mono ?_; rintro e w2 ⟨a2, rfl, k0, ⟨k1, k2, k3, k4, k5, k6⟩, hO⟩))
  all_goals go_wp2
  all_goals
    obtain ⟨h4, h5, h6, h7⟩ := unhide hO
    subst h4
    refine bodyPost_ret (v := .tuple #[.agg #[.int .i64 0, .slice (some ⟨w.heap.size + 1, 0, none⟩) m.length m.length, .bool false], .int .i64 0]) ?_ rfl ?_
    · exact rlex_end _ _ (store3 h6 _ _ _) rfl rfl
    · exact ⟨_, _, rfl, ((h5.setOther (by omega)).setOther (by omega)).setOther (by omega), ((h7.setCell (Nat.le_refl _) _).setCell (Nat.le_refl _) _).setCell (Nat.le_refl _) _⟩

theorem rlex_one_91 (b off cap : Nat) (w : World) (m : List Nat) (hcn : 1 < cap) (hb : b < w.heap.size) (c0 : w.cell? ⟨b, off, none⟩ = some (.int .u8 (91 : Nat)))
    (HC : ∀ W, Below w.heap.size w W → Calls Try.prog 28 #[.slice (some ⟨b, off + 1, none⟩) 0 (cap - 1)] W fun e w' => e = .returned (.slice (some ⟨W.heap.size, 0, none⟩) m.length m.length) ∧ Bytes w' (some ⟨W.heap.size, 0, none⟩) m ∧ Below W.heap.size W w') :
    Calls Try.prog 31 #[.slice (some ⟨b, off, none⟩) 1 cap] w (RLexEnd ((0, m, false), 0) w) := by
  have hc1 : (cap = 1) = False := eq_false (by omega)
  have hA : (w.alloc (.cells #[.int .i64 0, .slice none 0 0, .bool false] 32)).heap[w.heap.size]? = some (.cells #[.int .i64 0, .slice none 0 0, .bool false] 32 (0, 0)) := heap_alloc_new _ _
  have hbA : Below w.heap.size w (w.alloc (.cells #[.int .i64 0, .slice none 0 0, .bool false] 32)) := (Below.refl _ _).alloc (Nat.le_refl _) _
  have H1 : Hid (Calls Try.prog 28 #[.slice (some ⟨b, off + 1, none⟩) 0 (cap - 1)] (w.alloc (.cells #[.int .i64 0, .slice none 0 0, .bool false] 32)).drew fun e w' => ∃ a2, e = .returned (.slice a2 m.length m.length) ∧ (w'.cell? ⟨b, off, none⟩ = some (.int .u8 (91 : Nat))) ∧ (w'.cell? ⟨w.heap.size, 0, none⟩ = some (.int .i64 0) ∧ w'.cell? ⟨w.heap.size, 1, none⟩ = some (.slice none 0 0) ∧ w'.cell? ⟨w.heap.size, 2, none⟩ = some (.bool false) ∧ w'.frozen? ⟨w.heap.size, 0, none⟩ = false ∧ w'.frozen? ⟨w.heap.size, 1, none⟩ = false ∧ w'.frozen? ⟨w.heap.size, 2, none⟩ = false) ∧ Hid (a2 = some ⟨w.heap.size + 1, 0, none⟩ ∧ Bytes w' a2 m ∧ w'.heap[w.heap.size]? = some (.cells #[.int .i64 0, .slice none 0 0, .bool false] 32 (0, 0)) ∧ Below w.heap.size w w')) := hide (by
    refine (HC _ hbA.drew).mono ?_
    rintro e w' ⟨rfl, h2, h3⟩
    have hsz : (w.alloc (.cells #[.int .i64 0, .slice none 0 0, .bool false] 32)).drew.heap.size = w.heap.size + 1 := by show (w.alloc (.cells #[.int .i64 0, .slice none 0 0, .bool false] 32)).heap.size = _; simp
    have hr : w'.heap[w.heap.size]? = some (.cells #[.int .i64 0, .slice none 0 0, .bool false] 32 (0, 0)) := (h3.block w.heap.size (by rw [hsz]; omega)).trans hA
    have hbw : Below w.heap.size w w' := hbA.drew.trans (h3.mono (by rw [hsz]; omega))
    exact ⟨_, rfl, (hbw.cell (p := ⟨b, off, none⟩) hb).trans c0, cells3 hr, hide ⟨by rw [hsz], h2, hr, hbw⟩⟩)
  clear hA hbA HC
  have hnew := World.new_ne w ⟨b, off, none⟩ c0
  go_enter Try.func31, Try.ntmps31
  go_wp2_with fail
  go_region_held3 (fun w' => w'.cell? ⟨b, off, none⟩ = some (.int .u8 (91 : Nat))) (go_keep) (first | (go_at_call 28; refine (unhide H1).mono ?_; rintro e w2 ⟨a2, rfl, k0, ⟨k1, k2, k3, k4, k5, k6⟩, hO⟩))
  all_goals go_wp2
  all_goals
    obtain ⟨h4, h5, h6, h7⟩ := unhide hO
    subst h4
    refine bodyPost_ret (v := .tuple #[.agg #[.int .i64 0, .slice (some ⟨w.heap.size + 1, 0, none⟩) m.length m.length, .bool false], .int .i64 0]) ?_ rfl ?_
    · exact rlex_end _ _ (store3 h6 _ _ _) rfl rfl
    · exact ⟨_, _, rfl, ((h5.setOther (by omega)).setOther (by omega)).setOther (by omega), ((h7.setCell (Nat.le_refl _) _).setCell (Nat.le_refl _) _).setCell (Nat.le_refl _) _⟩

theorem rlex_brim_91 (b off : Nat) (w : World) (m : List Nat) (hb : b < w.heap.size) (c0 : w.cell? ⟨b, off, none⟩ = some (.int .u8 (91 : Nat)))
    (HC : ∀ W, Below w.heap.size w W → Calls Try.prog 28 #[.slice (some ⟨b, off, none⟩) 0 0] W fun e w' => e = .returned (.slice (some ⟨W.heap.size, 0, none⟩) m.length m.length) ∧ Bytes w' (some ⟨W.heap.size, 0, none⟩) m ∧ Below W.heap.size W w') :
    Calls Try.prog 31 #[.slice (some ⟨b, off, none⟩) 1 1] w (RLexEnd ((0, m, false), 0) w) := by
  have hA : (w.alloc (.cells #[.int .i64 0, .slice none 0 0, .bool false] 32)).heap[w.heap.size]? = some (.cells #[.int .i64 0, .slice none 0 0, .bool false] 32 (0, 0)) := heap_alloc_new _ _
  have hbA : Below w.heap.size w (w.alloc (.cells #[.int .i64 0, .slice none 0 0, .bool false] 32)) := (Below.refl _ _).alloc (Nat.le_refl _) _
  have H1 : Hid (Calls Try.prog 28 #[.slice (some ⟨b, off, none⟩) 0 0] (w.alloc (.cells #[.int .i64 0, .slice none 0 0, .bool false] 32)).drew fun e w' => ∃ a2, e = .returned (.slice a2 m.length m.length) ∧ (w'.cell? ⟨b, off, none⟩ = some (.int .u8 (91 : Nat))) ∧ (w'.cell? ⟨w.heap.size, 0, none⟩ = some (.int .i64 0) ∧ w'.cell? ⟨w.heap.size, 1, none⟩ = some (.slice none 0 0) ∧ w'.cell? ⟨w.heap.size, 2, none⟩ = some (.bool false) ∧ w'.frozen? ⟨w.heap.size, 0, none⟩ = false ∧ w'.frozen? ⟨w.heap.size, 1, none⟩ = false ∧ w'.frozen? ⟨w.heap.size, 2, none⟩ = false) ∧ Hid (a2 = some ⟨w.heap.size + 1, 0, none⟩ ∧ Bytes w' a2 m ∧ w'.heap[w.heap.size]? = some (.cells #[.int .i64 0, .slice none 0 0, .bool false] 32 (0, 0)) ∧ Below w.heap.size w w')) := hide (by
    refine (HC _ hbA.drew).mono ?_
    rintro e w' ⟨rfl, h2, h3⟩
    have hsz : (w.alloc (.cells #[.int .i64 0, .slice none 0 0, .bool false] 32)).drew.heap.size = w.heap.size + 1 := by show (w.alloc (.cells #[.int .i64 0, .slice none 0 0, .bool false] 32)).heap.size = _; simp
    have hr : w'.heap[w.heap.size]? = some (.cells #[.int .i64 0, .slice none 0 0, .bool false] 32 (0, 0)) := (h3.block w.heap.size (by rw [hsz]; omega)).trans hA
    have hbw : Below w.heap.size w w' := hbA.drew.trans (h3.mono (by rw [hsz]; omega))
    exact ⟨_, rfl, (hbw.cell (p := ⟨b, off, none⟩) hb).trans c0, cells3 hr, hide ⟨by rw [hsz], h2, hr, hbw⟩⟩)
  clear hA hbA HC
  have hnew := World.new_ne w ⟨b, off, none⟩ c0
  go_enter Try.func31, Try.ntmps31
  go_wp2_with fail
  go_region_held3 (fun w' => w'.cell? ⟨b, off, none⟩ = some (.int .u8 (91 : Nat))) (go_keep) (first | (go_at_call 28; refine (unhide H1).mono ?_; rintro e w2 ⟨a2, rfl, k0, ⟨k1, k2, k3, k4, k5, k6⟩, hO⟩))
  all_goals go_wp2
  all_goals
    obtain ⟨h4, h5, h6, h7⟩ := unhide hO
    subst h4
    refine bodyPost_ret (v := .tuple #[.agg #[.int .i64 0, .slice (some ⟨w.heap.size + 1, 0, none⟩) m.length m.length, .bool false], .int .i64 0]) ?_ rfl ?_
    · exact rlex_end _ _ (store3 h6 _ _ _) rfl rfl
    · exact ⟨_, _, rfl, ((h5.setOther (by omega)).setOther (by omega)).setOther (by omega), ((h7.setCell (Nat.le_refl _) _).setCell (Nat.le_refl _) _).setCell (Nat.le_refl _) _⟩

theorem rlex_open_40 (b off n cap : Nat) (w : World) (m : List Nat) (hn : 1 < n) (hn2 : n ≤ 140737488355328) (hcn : n ≤ cap) (hb : b < w.heap.size) (c0 : w.cell? ⟨b, off, none⟩ = some (.int .u8 (40 : Nat)))
    (HC : ∀ W, Below w.heap.size w W → Calls Try.prog 28 #[.slice (some ⟨b, off + 1, none⟩) (n - 1) (cap - 1)] W fun e w' => e = .returned (.slice (some ⟨W.heap.size, 0, none⟩) m.length m.length) ∧ Bytes w' (some ⟨W.heap.size, 0, none⟩) m ∧ Below W.heap.size W w') :
    Calls Try.prog 31 #[.slice (some ⟨b, off, none⟩) n cap] w (RLexEnd ((0, m, true), 0) w) := by
  have hc1 : (cap = 1) = False := eq_false (by omega)
  have i1 : (1 : Int) ≤ (n : Int) := by omega
  have i2 : (n : Int) ≤ (cap : Int) := by omega
  have i3 : (1 : Int) ≤ (cap : Int) := by omega
  have i4 : 1 ≤ n := by omega
  have i5 : 1 ≤ cap := by omega
  have i6 : 0 < n := by omega
  have i7 : (0 : Int) < (n : Int) := by omega
  have hn0 : ((n : Int) == 0) = false := by rw [beq_eq_false_iff_ne]; omega
  have hA : (w.alloc (.cells #[.int .i64 0, .slice none 0 0, .bool false] 32)).heap[w.heap.size]? = some (.cells #[.int .i64 0, .slice none 0 0, .bool false] 32 (0, 0)) := heap_alloc_new _ _
  have hbA : Below w.heap.size w (w.alloc (.cells #[.int .i64 0, .slice none 0 0, .bool false] 32)) := (Below.refl _ _).alloc (Nat.le_refl _) _
  have H1 : Hid (Calls Try.prog 28 #[.slice (some ⟨b, off + 1, none⟩) (n - 1) (cap - 1)] (w.alloc (.cells #[.int .i64 0, .slice none 0 0, .bool false] 32)).drew fun e w' => ∃ a2, e = .returned (.slice a2 m.length m.length) ∧ (w'.cell? ⟨b, off, none⟩ = some (.int .u8 (40 : Nat))) ∧ (w'.cell? ⟨w.heap.size, 0, none⟩ = some (.int .i64 0) ∧ w'.cell? ⟨w.heap.size, 1, none⟩ = some (.slice none 0 0) ∧ w'.cell? ⟨w.heap.size, 2, none⟩ = some (.bool false) ∧ w'.frozen? ⟨w.heap.size, 0, none⟩ = false ∧ w'.frozen? ⟨w.heap.size, 1, none⟩ = false ∧ w'.frozen? ⟨w.heap.size, 2, none⟩ = false) ∧ Hid (a2 = some ⟨w.heap.size + 1, 0, none⟩ ∧ Bytes w' a2 m ∧ w'.heap[w.heap.size]? = some (.cells #[.int .i64 0, .slice none 0 0, .bool false] 32 (0, 0)) ∧ Below w.heap.size w w')) := hide (by
    refine (HC _ hbA.drew).mono ?_
    rintro e w' ⟨rfl, h2, h3⟩
    have hsz : (w.alloc (.cells #[.int .i64 0, .slice none 0 0, .bool false] 32)).drew.heap.size = w.heap.size + 1 := by show (w.alloc (.cells #[.int .i64 0, .slice none 0 0, .bool false] 32)).heap.size = _; simp
    have hr : w'.heap[w.heap.size]? = some (.cells #[.int .i64 0, .slice none 0 0, .bool false] 32 (0, 0)) := (h3.block w.heap.size (by rw [hsz]; omega)).trans hA
    have hbw : Below w.heap.size w w' := hbA.drew.trans (h3.mono (by rw [hsz]; omega))
    exact ⟨_, rfl, (hbw.cell (p := ⟨b, off, none⟩) hb).trans c0, cells3 hr, hide ⟨by rw [hsz], h2, hr, hbw⟩⟩)
  clear hA hbA HC
  have hnew := World.new_ne w ⟨b, off, none⟩ c0
  go_enter Try.func31, Try.ntmps31
  go_wp2_with fail
  go_region_held3 (fun w' => w'.cell? ⟨b, off, none⟩ = some (.int .u8 (40 : Nat))) (go_keep) (first | (go_at_call 28; refine (unhide H1).mono ?_; rintro e w2 ⟨a2, rfl, k0, ⟨k1, k2, k3, k4, k5, k6⟩, hO⟩))
  all_goals go_wp2
  all_goals
    obtain ⟨h4, h5, h6, h7⟩ := unhide hO
    subst h4
    refine bodyPost_ret (v := .tuple #[.agg #[.int .i64 0, .slice (some ⟨w.heap.size + 1, 0, none⟩) m.length m.length, .bool true], .int .i64 0]) ?_ rfl ?_
    · exact rlex_end _ _ (store3 h6 _ _ _) rfl rfl
    · exact ⟨_, _, rfl, ((h5.setOther (by omega)).setOther (by omega)).setOther (by omega), ((h7.setCell (Nat.le_refl _) _).setCell (Nat.le_refl _) _).setCell (Nat.le_refl _) _⟩

theorem rlex_one_40 (b off cap : Nat) (w : World) (m : List Nat) (hcn : 1 < cap) (hb : b < w.heap.size) (c0 : w.cell? ⟨b, off, none⟩ = some (.int .u8 (40 : Nat)))
    (HC : ∀ W, Below w.heap.size w W → Calls Try.prog 28 #[.slice (some ⟨b, off + 1, none⟩) 0 (cap - 1)] W fun e w' => e = .returned (.slice (some ⟨W.heap.size, 0, none⟩) m.length m.length) ∧ Bytes w' (some ⟨W.heap.size, 0, none⟩) m ∧ Below W.heap.size W w') :
    Calls Try.prog 31 #[.slice (some ⟨b, off, none⟩) 1 cap] w (RLexEnd ((0, m, true), 0) w) := by
  have hc1 : (cap = 1) = False := eq_false (by omega)
  have hA : (w.alloc (.cells #[.int .i64 0, .slice none 0 0, .bool false] 32)).heap[w.heap.size]? = some (.cells #[.int .i64 0, .slice none 0 0, .bool false] 32 (0, 0)) := heap_alloc_new _ _
  have hbA : Below w.heap.size w (w.alloc (.cells #[.int .i64 0, .slice none 0 0, .bool false] 32)) := (Below.refl _ _).alloc (Nat.le_refl _) _
  have H1 : Hid (Calls Try.prog 28 #[.slice (some ⟨b, off + 1, none⟩) 0 (cap - 1)] (w.alloc (.cells #[.int .i64 0, .slice none 0 0, .bool false] 32)).drew fun e w' => ∃ a2, e = .returned (.slice a2 m.length m.length) ∧ (w'.cell? ⟨b, off, none⟩ = some (.int .u8 (40 : Nat))) ∧ (w'.cell? ⟨w.heap.size, 0, none⟩ = some (.int .i64 0) ∧ w'.cell? ⟨w.heap.size, 1, none⟩ = some (.slice none 0 0) ∧ w'.cell? ⟨w.heap.size, 2, none⟩ = some (.bool false) ∧ w'.frozen? ⟨w.heap.size, 0, none⟩ = false ∧ w'.frozen? ⟨w.heap.size, 1, none⟩ = false ∧ w'.frozen? ⟨w.heap.size, 2, none⟩ = false) ∧ Hid (a2 = some ⟨w.heap.size + 1, 0, none⟩ ∧ Bytes w' a2 m ∧ w'.heap[w.heap.size]? = some (.cells #[.int .i64 0, .slice none 0 0, .bool false] 32 (0, 0)) ∧ Below w.heap.size w w')) := hide (by
    refine (HC _ hbA.drew).mono ?_
    rintro e w' ⟨rfl, h2, h3⟩
    have hsz : (w.alloc (.cells #[.int .i64 0, .slice none 0 0, .bool false] 32)).drew.heap.size = w.heap.size + 1 := by show (w.alloc (.cells #[.int .i64 0, .slice none 0 0, .bool false] 32)).heap.size = _; simp
    have hr : w'.heap[w.heap.size]? = some (.cells #[.int .i64 0, .slice none 0 0, .bool false] 32 (0, 0)) := (h3.block w.heap.size (by rw [hsz]; omega)).trans hA
    have hbw : Below w.heap.size w w' := hbA.drew.trans (h3.mono (by rw [hsz]; omega))
    exact ⟨_, rfl, (hbw.cell (p := ⟨b, off, none⟩) hb).trans c0, cells3 hr, hide ⟨by rw [hsz], h2, hr, hbw⟩⟩)
  clear hA hbA HC
  have hnew := World.new_ne w ⟨b, off, none⟩ c0
  go_enter Try.func31, Try.ntmps31
  go_wp2_with fail
  go_region_held3 (fun w' => w'.cell? ⟨b, off, none⟩ = some (.int .u8 (40 : Nat))) (go_keep) (first | (go_at_call 28; refine (unhide H1).mono ?_; rintro e w2 ⟨a2, rfl, k0, ⟨k1, k2, k3, k4, k5, k6⟩, hO⟩))
  all_goals go_wp2
  all_goals
    obtain ⟨h4, h5, h6, h7⟩ := unhide hO
    subst h4
    refine bodyPost_ret (v := .tuple #[.agg #[.int .i64 0, .slice (some ⟨w.heap.size + 1, 0, none⟩) m.length m.length, .bool true], .int .i64 0]) ?_ rfl ?_
    · exact rlex_end _ _ (store3 h6 _ _ _) rfl rfl
    · exact ⟨_, _, rfl, ((h5.setOther (by omega)).setOther (by omega)).setOther (by omega), ((h7.setCell (Nat.le_refl _) _).setCell (Nat.le_refl _) _).setCell (Nat.le_refl _) _⟩

theorem rlex_brim_40 (b off : Nat) (w : World) (m : List Nat) (hb : b < w.heap.size) (c0 : w.cell? ⟨b, off, none⟩ = some (.int .u8 (40 : Nat)))
    (HC : ∀ W, Below w.heap.size w W → Calls Try.prog 28 #[.slice (some ⟨b, off, none⟩) 0 0] W fun e w' => e = .returned (.slice (some ⟨W.heap.size, 0, none⟩) m.length m.length) ∧ Bytes w' (some ⟨W.heap.size, 0, none⟩) m ∧ Below W.heap.size W w') :
    Calls Try.prog 31 #[.slice (some ⟨b, off, none⟩) 1 1] w (RLexEnd ((0, m, true), 0) w) := by
  have hA : (w.alloc (.cells #[.int .i64 0, .slice none 0 0, .bool false] 32)).heap[w.heap.size]? = some (.cells #[.int .i64 0, .slice none 0 0, .bool false] 32 (0, 0)) := heap_alloc_new _ _
  have hbA : Below w.heap.size w (w.alloc (.cells #[.int .i64 0, .slice none 0 0, .bool false] 32)) := (Below.refl _ _).alloc (Nat.le_refl _) _
  have H1 : Hid (Calls Try.prog 28 #[.slice (some ⟨b, off, none⟩) 0 0] (w.alloc (.cells #[.int .i64 0, .slice none 0 0, .bool false] 32)).drew fun e w' => ∃ a2, e = .returned (.slice a2 m.length m.length) ∧ (w'.cell? ⟨b, off, none⟩ = some (.int .u8 (40 : Nat))) ∧ (w'.cell? ⟨w.heap.size, 0, none⟩ = some (.int .i64 0) ∧ w'.cell? ⟨w.heap.size, 1, none⟩ = some (.slice none 0 0) ∧ w'.cell? ⟨w.heap.size, 2, none⟩ = some (.bool false) ∧ w'.frozen? ⟨w.heap.size, 0, none⟩ = false ∧ w'.frozen? ⟨w.heap.size, 1, none⟩ = false ∧ w'.frozen? ⟨w.heap.size, 2, none⟩ = false) ∧ Hid (a2 = some ⟨w.heap.size + 1, 0, none⟩ ∧ Bytes w' a2 m ∧ w'.heap[w.heap.size]? = some (.cells #[.int .i64 0, .slice none 0 0, .bool false] 32 (0, 0)) ∧ Below w.heap.size w w')) := hide (by
    refine (HC _ hbA.drew).mono ?_
    rintro e w' ⟨rfl, h2, h3⟩
    have hsz : (w.alloc (.cells #[.int .i64 0, .slice none 0 0, .bool false] 32)).drew.heap.size = w.heap.size + 1 := by show (w.alloc (.cells #[.int .i64 0, .slice none 0 0, .bool false] 32)).heap.size = _; simp
    have hr : w'.heap[w.heap.size]? = some (.cells #[.int .i64 0, .slice none 0 0, .bool false] 32 (0, 0)) := (h3.block w.heap.size (by rw [hsz]; omega)).trans hA
    have hbw : Below w.heap.size w w' := hbA.drew.trans (h3.mono (by rw [hsz]; omega))
    exact ⟨_, rfl, (hbw.cell (p := ⟨b, off, none⟩) hb).trans c0, cells3 hr, hide ⟨by rw [hsz], h2, hr, hbw⟩⟩)
  clear hA hbA HC
  have hnew := World.new_ne w ⟨b, off, none⟩ c0
  go_enter Try.func31, Try.ntmps31
  go_wp2_with fail
  go_region_held3 (fun w' => w'.cell? ⟨b, off, none⟩ = some (.int .u8 (40 : Nat))) (go_keep) (first | (go_at_call 28; refine (unhide H1).mono ?_; rintro e w2 ⟨a2, rfl, k0, ⟨k1, k2, k3, k4, k5, k6⟩, hO⟩))
  all_goals go_wp2
  all_goals
    obtain ⟨h4, h5, h6, h7⟩ := unhide hO
    subst h4
    refine bodyPost_ret (v := .tuple #[.agg #[.int .i64 0, .slice (some ⟨w.heap.size + 1, 0, none⟩) m.length m.length, .bool true], .int .i64 0]) ?_ rfl ?_
    · exact rlex_end _ _ (store3 h6 _ _ _) rfl rfl
    · exact ⟨_, _, rfl, ((h5.setOther (by omega)).setOther (by omega)).setOther (by omega), ((h7.setCell (Nat.le_refl _) _).setCell (Nat.le_refl _) _).setCell (Nat.le_refl _) _⟩

theorem rlex_any (a : Option Addr) (cap : Nat) (w : World) (l : List Nat) (hl : l.length ≤ 140737488355328) (hs : Small l) (hcap : l.length ≤ cap) (hB : Bytes w a l) :
    Calls Try.prog 31 #[.slice a l.length cap] w (RLexEnd (Larder.lexRes l) w) := by
  by_cases h0 : 0 < l.length
  · obtain ⟨b, off, rfl, hb, hc⟩ := hB.at h0
    have c0 := hc 0 h0
    rw [Nat.add_zero] at c0
    have hml : (l.drop 1).length = l.length - 1 := List.length_drop ..
    have hBm : 1 < l.length → ∀ W, Below w.heap.size w W → Bytes W (some ⟨b, off + 1, none⟩) (l.drop 1) := fun _ W hW => (show Bytes w (some ⟨b, off + 1, none⟩) (l.drop 1) from .inr ⟨b, off + 1, rfl, hb, fun i hi => by
      rw [hml] at hi
      rw [Larder.getD_drop, Nat.add_assoc, hc (1 + i) (by omega)]⟩).below hW
    by_cases q1 : l = [45]
    · have e : Larder.lexRes l = ((-1, [], false), 0) := by unfold Larder.lexRes; rw [if_pos q1]
      rw [e]
      subst q1
      exact rlex_A b off cap w hb c0
    by_cases q2 : l = [43]
    · have e : Larder.lexRes l = ((1, [], false), 0) := by unfold Larder.lexRes; rw [if_neg q1, if_pos q2]
      rw [e]
      subst q2
      exact rlex_B b off cap w hb c0
    by_cases q91 : l.getD 0 0 = 91
    · have e : Larder.lexRes l = ((0, l.drop 1, false), 0) := by unfold Larder.lexRes; rw [if_neg q1, if_neg q2, if_pos ⟨h0, q91⟩]
      rw [e]
      rw [q91] at c0
      by_cases h1 : l.length = 1
      · have em : l.drop 1 = [] := List.eq_nil_of_length_eq_zero (by omega)
        rw [em, h1]
        by_cases hc1 : cap = 1
        · subst hc1
          exact rlex_brim_91 b off w [] hb c0 (fun W _ => copy0_any (x := ⟨b, off, none⟩) (cap := 0) (w := W) [] (by simp) (.inl rfl))
        · exact rlex_one_91 b off cap w [] (by omega) hb c0 (fun W _ => copy0_any (x := ⟨b, off + 1, none⟩) (cap := cap - 1) (w := W) [] (by simp) (.inl rfl))
      · refine rlex_open_91 b off l.length cap w (l.drop 1) (by omega) hl hcap hb c0 (fun W hW => ?_)
        have := copy0_any (x := ⟨b, off + 1, none⟩) (cap := cap - 1) (w := W) (l.drop 1) (by omega) (hBm (by omega) W hW)
        rw [hml] at this ⊢
        exact this
    by_cases q40 : l.getD 0 0 = 40
    · have e : Larder.lexRes l = ((0, l.drop 1, true), 0) := by unfold Larder.lexRes; rw [if_neg q1, if_neg q2, if_neg (fun h => q91 h.2), if_pos ⟨h0, q40⟩]
      rw [e]
      rw [q40] at c0
      by_cases h1 : l.length = 1
      · have em : l.drop 1 = [] := List.eq_nil_of_length_eq_zero (by omega)
        rw [em, h1]
        by_cases hc1 : cap = 1
        · subst hc1
          exact rlex_brim_40 b off w [] hb c0 (fun W _ => copy0_any (x := ⟨b, off, none⟩) (cap := 0) (w := W) [] (by simp) (.inl rfl))
        · exact rlex_one_40 b off cap w [] (by omega) hb c0 (fun W _ => copy0_any (x := ⟨b, off + 1, none⟩) (cap := cap - 1) (w := W) [] (by simp) (.inl rfl))
      · refine rlex_open_40 b off l.length cap w (l.drop 1) (by omega) hl hcap hb c0 (fun W hW => ?_)
        have := copy0_any (x := ⟨b, off + 1, none⟩) (cap := cap - 1) (w := W) (l.drop 1) (by omega) (hBm (by omega) W hW)
        rw [hml] at this ⊢
        exact this
    have e : Larder.lexRes l = ((0, [], false), 91) := by unfold Larder.lexRes; rw [if_neg q1, if_neg q2, if_neg (fun h => q91 h.2), if_neg (fun h => q40 h.2)]
    rw [e]
    by_cases h1 : l.length = 1
    · have hl1 : ∀ c, l.getD 0 0 = c → l = [c] := fun c hc => by
        match l, h1 with
        | [x], _ => simp at hc; rw [hc]
      rw [h1]
      exact rlex_E1 b off cap _ w hb c0 (hs 0 h0) q91 q40 (fun h => q1 (hl1 _ h)) (fun h => q2 (hl1 _ h))
    · exact rlex_E2 b off l.length cap _ w (by omega) hl hb c0 (hs 0 h0) q91 q40
  · obtain rfl : l = [] := List.eq_nil_of_length_eq_zero (by omega)
    exact rlex_F a cap w
end Go.Proofs.Ytidfbelckdlbhab
