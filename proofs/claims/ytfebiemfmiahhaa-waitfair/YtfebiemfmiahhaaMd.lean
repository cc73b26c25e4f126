/- The document's Places. -/
import Derived.Test.YtfebiemfmiahhaaMc
namespace Go.Proofs.Ytfebiemfmiahhaa
open Go.ChangeShapes Go.WideShapes Go.ChangeAt Go.RowKit Go.Maps
set_option linter.unusedVariables false
set_option linter.unusedSimpArgs false
set_option maxRecDepth 100000
set_option maxHeartbeats 8000000
theorem rplaces_any (Q : Nat → Prop) (w : World) (p : Nat) (L : List Wt) (c : Int) (h : RAt Q w p L) :
    Calls Try.prog 53 #[.pointer (some ⟨p, 0, none⟩), .int .i64 c] w fun e w' => ∃ v, e = .returned v ∧ Hid (w'.ownsRow w.heap.size 40 2 v (((lookW L c).map (·.places)).getD []).length ((((lookW L c).map (·.places)).getD []).flatMap plC) ∧ Below w.heap.size w w') := by
  have C := find_any Q w p L c h
  cases hf : findW L c with
  | none =>
    rw [find_nolook hf]
    unfold findI at C
    rw [hf] at C
    clear h
    go_enter Try.func53, Try.ntmps53
    go_wp2_with (go_at_call 61; refine C.mono ?_; clear C; rintro e w1 ⟨rfl, rfl⟩)
    go_ret
    exact ⟨_, rfl, hide ⟨⟨by simp, .inl ⟨rfl, rfl⟩⟩, Below.refl _ _⟩⟩
  | some i =>
    obtain ⟨x, hx, hl, -⟩ := find_look hf
    rw [hl]
    unfold findI at C
    rw [hf] at C
    obtain ⟨lv, D, h, hD⟩ := h
    have hxD := hx
    rw [← hD, List.getElem?_map] at hxD
    obtain ⟨d, hd, rfl⟩ := Option.map_eq_some_iff.1 hxD
    obtain ⟨b, cap, rfl, c0, c1, c2, c3⟩ := h.at hd
    have hi : i < D.length := (List.getElem?_eq_some_iff.1 hd).1
    have few := h.few
    have cp : w.cell? ⟨p, 0, none⟩ = some (.slice (some ⟨b, 0, none⟩) D.length cap) := cell_blk h.cell 0
    have hmem := List.mem_of_getElem? hd
    obtain ⟨pa, pc, e, hpl, -⟩ := (h.pl d hmem).at
    rw [e] at c2
    have hle := (h.ok d hmem).many.2
    obtain ⟨m, hm⟩ : ∃ m, m = d.x.places.length := ⟨_, rfl⟩
    rw [← hm] at c2 hle
    have C2 := copies_any w pa pc d.x.places m hm (by omega) hpl
    generalize D.length = n at *
    have f1 : decide ((i : Int) < 0) = false := decide_eq_false (by omega)
    have g1 : (0 : Int) ≤ (i : Int) := by omega
    have g2 : (i : Int) < (n : Int) := by omega
    clear h hD hd hx hl hf hxD hmem hpl e hm
    go_enter Try.func53, Try.ntmps53
    go_wp2_with (first
      | (go_at_call 61; refine C.mono ?_; clear C; rintro e w1 ⟨rfl, rfl⟩)
      | (go_at_call 63; refine C2.mono ?_; clear C2; rintro e w2 ⟨v, rfl, H2⟩))
    go_ret
    exact ⟨v, rfl, H2⟩
end Go.Proofs.Ytfebiemfmiahhaa
