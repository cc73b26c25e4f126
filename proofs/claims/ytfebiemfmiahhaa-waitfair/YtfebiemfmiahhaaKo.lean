/- Waiting, Due. -/
import Derived.Test.YtfebiemfmiahhaaKn
namespace Go.Proofs.Ytfebiemfmiahhaa
open Go.ChangeShapes Go.WideShapes Go.ChangeAt Go.RowKit Go.Maps
set_option linter.unusedVariables false
set_option linter.unusedSimpArgs false
set_option maxRecDepth 100000
set_option maxHeartbeats 8000000
/-- two lists in one order that hold the same are the same -/
theorem perm_unique {α : Type} {R : α → α → Prop} : ∀ {l l' : List α}, l.Perm l' → l.Pairwise R → l'.Pairwise R → (∀ a ∈ l, ∀ b ∈ l, R a b → R b a → a = b) → l = l'
  | [], l', h, _, _, _ => (List.nil_perm.1 h).symm
  | x :: r, [], h, _, _, _ => absurd h.length_eq (by simp)
  | x :: r, y :: r', h, h1, h2, ha => by
    obtain ⟨a1, a2⟩ := List.pairwise_cons.1 h1
    obtain ⟨b1, b2⟩ := List.pairwise_cons.1 h2
    have hxy : x = y := by
      have hx : x ∈ y :: r' := h.mem_iff.1 (List.mem_cons_self ..)
      have hy : y ∈ x :: r := h.mem_iff.2 (List.mem_cons_self ..)
      rcases List.mem_cons.1 hx with e | hx'
      · exact e
      · rcases List.mem_cons.1 hy with e | hy'
        · exact e.symm
        · exact ha x (List.mem_cons_self ..) y (List.mem_cons_of_mem _ hy') (a1 y hy') (b1 x hx')
    subst hxy
    rw [perm_unique (List.Perm.cons_inv h) a2 b2 (fun a ha' b hb' => ha a (List.mem_cons_of_mem _ ha') b (List.mem_cons_of_mem _ hb'))]
theorem inj_turn {E : List En} (hi : E.Pairwise (fun a b => a.turn < b.turn)) {a b : En} (ha : a ∈ E) (hb : b ∈ E) (e : a.turn = b.turn) : a = b := by
  induction E with
  | nil => cases ha
  | cons x r ih =>
    obtain ⟨h1, h2⟩ := List.pairwise_cons.1 hi
    rcases List.mem_cons.1 ha with rfl | ha'
    · rcases List.mem_cons.1 hb with rfl | hb'
      · rfl
      · have := h1 b hb'; omega
    · rcases List.mem_cons.1 hb with rfl | hb'
      · have := h1 a ha'; omega
      · exact ih h2 ha' hb'
theorem waiting_any (O : Nat → Prop) (w : World) (p bw bl T : Nat) (E : List En) (h : WAt O w p bw bl T E) :
    Calls Try.prog 11 #[.pointer (some ⟨p, 0, none⟩)] w fun e w' => ∃ g n, e = .returned (.slice (some ⟨g, 0, none⟩) n n) ∧ Hid (RowI w' g (E.map (·.x.conn)) ∧ n = E.length ∧ w.heap.size ≤ g ∧ Below w.heap.size w w') := by
  have CT : Hid (Calls Try.prog 23 #[.pointer (some ⟨p, 0, none⟩), .func (.func 24) #[] #[], .func (.func 25) #[] #[]] w fun e w' => ∃ g n, e = .returned (.slice (some ⟨g, 0, none⟩) n n) ∧ Hid (RowI w' g (E.map (·.x.conn)) ∧ n = E.length ∧ w.heap.size ≤ g ∧ Below w.heap.size w w')) := hide ((told_any O w p bw bl T 24 25 #[] E (fun _ => true) cfTurn h swoTurn (enters_of Try.func24 (by kernel_rfl) rfl) (enters_of Try.func25 (by kernel_rfl) rfl) byTurn_any (fun W e _ _ => all25 W e)).mono (fun e w' ⟨g, n, e1, e2⟩ => by
    obtain ⟨F, h1, h2, h3, h4, h5, h6⟩ := unhide e2
    have h1' : F.Perm E := by rw [List.filter_eq_self.2 (fun _ _ => rfl)] at h1; exact h1
    have hF : F = E := by
      refine perm_unique (R := fun a b => ltOf cfTurn (w5 b) (w5 a) = false) h1' h2 (h.inc.imp (fun {a b} hab => ?_)) (fun a ha b hb r1 r2 => inj_turn h.inc (h1'.mem_iff.1 ha) (h1'.mem_iff.1 hb) ?_)
      · rw [ltTurn]
        simp [w5]
        omega
      · rw [ltTurn] at r1 r2
        simp [w5] at r1 r2
        omega
    subst hF
    exact ⟨g, n, e1, hide ⟨h3, h4, h5, h6⟩⟩))
  clear h
  go_enter Try.func11, Try.ntmps11
  go_wp2_with (first | (go_at_call 23; with_reducible refine (unhide CT).mono ?_; rintro e w1 ⟨g, n, rfl, k1⟩))
  go_ret
  exact ⟨g, n, rfl, k1⟩
/-- those whose time is over, in order -/
structure DueIs (E : List En) (now : Nat) (F : List En) : Prop where
  perm : F.Perm (E.filter (dueB now))
  sort : F.Pairwise (fun a b => a.x.till < b.x.till ∨ a.x.till = b.x.till ∧ a.turn ≤ b.turn)
theorem DueIs.one {E : List En} {now : Nat} {F F' : List En} (hi : E.Pairwise (fun a b => a.turn < b.turn)) (h : DueIs E now F) (h' : DueIs E now F') : F = F' :=
  perm_unique (h.perm.trans h'.perm.symm) h.sort h'.sort (fun a ha b hb r1 r2 => inj_turn hi (List.mem_filter.1 (h.perm.mem_iff.1 ha)).1 (List.mem_filter.1 (h.perm.mem_iff.1 hb)).1 (by omega))
theorem due_any (O : Nat → Prop) (w : World) (p bw bl T now : Nat) (E : List En) (h : WAt O w p bw bl T E) :
    Calls Try.prog 12 #[.pointer (some ⟨p, 0, none⟩), .int .u64 (now : Nat)] w fun e w' => ∃ g n, e = .returned (.slice (some ⟨g, 0, none⟩) n n) ∧ Hid (∃ F, DueIs E now F ∧ RowI w' g (F.map (·.x.conn)) ∧ n = F.length ∧ w.heap.size ≤ g ∧ Below w.heap.size w w') := by
  obtain ⟨w0, hw0⟩ : ∃ w0, w.alloc (.cells #[.int .u64 (now : Nat)] 29) = w0 := ⟨_, rfl⟩
  have hb0 : Below w.heap.size w w0 := by rw [← hw0]; exact (Below.refl _ _).alloc (Nat.le_refl _) _
  have hs0 : w0.heap.size = w.heap.size + 1 := by rw [← hw0]; simp
  have hc0 : w0.cell? ⟨w.heap.size, 0, none⟩ = some (.int .u64 (now : Nat)) := by rw [← hw0]; exact cell_blk (heap_alloc_new _ _) 0
  have CT : Hid (Calls Try.prog 23 #[.pointer (some ⟨p, 0, none⟩), .func (.func 26) #[] #[], .func (.func 27) #[] #[.pointer (some ⟨w.heap.size, 0, none⟩)]] w0 fun e w' => ∃ g n, e = .returned (.slice (some ⟨g, 0, none⟩) n n) ∧ Hid (∃ F, DueIs E now F ∧ RowI w' g (F.map (·.x.conn)) ∧ n = F.length ∧ w.heap.size ≤ g ∧ Below w.heap.size w w')) := hide ((told_any O w0 p bw bl T 26 27 #[.pointer (some ⟨w.heap.size, 0, none⟩)] E (dueB now) cfTime (h.below hb0) swoTime (enters_of Try.func26 (by kernel_rfl) rfl) (enters_of Try.func27 (by kernel_rfl) rfl) byTime_any (fun W e _ hb => due27 W w.heap.size now e ((hb.cell (p := ⟨w.heap.size, 0, none⟩) (by show w.heap.size < w0.heap.size; omega)).trans hc0) (by have := hb.size; omega))).mono (fun e w' ⟨g, n, e1, e2⟩ => by
    obtain ⟨F, h1, h2, h3, h4, h5, h6⟩ := unhide e2
    refine ⟨g, n, e1, hide ⟨F, ⟨h1, h2.imp (fun {a b} hab => ?_)⟩, h3, h4, by omega, hb0.trans (h6.mono hb0.size)⟩⟩
    rw [ltTime] at hab
    have hab' : ¬ (((b.x.till : Nat) : Int) < ((a.x.till : Nat) : Int) ∨ ((b.x.till : Nat) : Int) = ((a.x.till : Nat) : Int) ∧ ((b.turn : Nat) : Int) < ((a.turn : Nat) : Int)) := of_decide_eq_false hab
    omega))
  clear h hb0 hs0 hc0
  go_enter Try.func12, Try.ntmps12
  go_wp2_with (first | (go_at_call 23; with_reducible refine (unhide CT).mono ?_; rintro e w1 ⟨g, n, rfl, k1⟩))
  go_ret
  exact ⟨g, n, rfl, k1⟩
end Go.Proofs.Ytfebiemfmiahhaa
