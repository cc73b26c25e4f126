/- text: one number's text. -/
import Derived.Test.YtochdajeocganaaApiRText
import Derived.Test.YtochdajeocganaaApiBad
import Derived.Deep.RegionHeld3
import Derived.Laws.IdiomStrings
namespace Go.Proofs.Ytochdajeocganaa
open Go.ChangeShapes Go.WideShapes Go.ChangeAt Go.RowKit
set_option linter.unusedVariables false
set_option maxRecDepth 100000

theorem chain' {w0 wx w1 : World} {a b c d e : Prop} (h : a ∧ b ∧ c ∧ d ∧ e ∧ Below w0.heap.size w0 wx) (h3 : Below wx.heap.size wx w1) : Below w0.heap.size w0 w1 :=
  h.2.2.2.2.2.trans (h3.mono h.2.2.2.2.2.size)

theorem text_law (n : Int) (h1 : -9223372036854775808 ≤ n) (h2 : n ≤ 9223372036854775807) (w : World) :
    Calls Try.prog 8 #[.int .i64 n] w fun e w' => e = .returned (.bool true) ∧ Below w.heap.size w w' := by
  obtain ⟨S, hS⟩ : ∃ S, S = txt n := ⟨_, rfl⟩
  have HB : Hid (∀ w', Calls Try.prog 29 #[.int .i64 n] w' fun e w'' => ∃ g c, e = .returned (.agg #[.int .i64 2, .int .i64 0, .slice (some ⟨g, 0, none⟩) S.size c, .slice none 0 0]) ∧ (∀ j, j < S.size → w''.cell? ⟨g, j, none⟩ = some (.int .u8 (S.data.toList.getD j 0).toNat)) ∧ g < w''.heap.size ∧ Below w'.heap.size w' w'') := hide (fun w' => bad_any n h1 h2 S hS w')
  have HT : Hid (∀ w', Calls Try.prog 9 #[.int .i64 n] w' fun e w'' => e = .returned (.string S) ∧ Below w'.heap.size w' w'') := hide (fun w' => by rw [hS]; exact text_any n h1 h2 w')
  have HR : Hid (∀ w', Calls Try.prog 30 #[.int .i64 n] w' fun e w'' => e = .returned (.string S) ∧ w'' = w') := hide (fun w' => by rw [hS]; exact rtext_any n w')
  clear hS
  go_enter Try.func8, Try.ntmps8
  go_wp2_with fail
  refine (unhide HB w).mono ?_
  rintro e w1 ⟨g, c, rfl, hcells, hg, hb1⟩
  obtain ⟨w2, hw2⟩ : ∃ w2, w2 = w1.alloc (.cells #[.int .i64 2, .int .i64 0, .slice (some ⟨g, 0, none⟩) S.size c, .slice none 0 0] 62) := ⟨_, rfl⟩
  have b2 : Below w1.heap.size w1 w2 := by rw [hw2]; exact (Below.refl _ _).alloc (Nat.le_refl _) _
  have z0 : w2.cell? ⟨w1.heap.size, 0, none⟩ = some (.int .i64 2) := by rw [hw2]; exact World.cell?_alloc_new ..
  have z1 : w2.cell? ⟨w1.heap.size, 1, none⟩ = some (.int .i64 0) := by rw [hw2]; exact World.cell?_alloc_new ..
  have z2 : w2.cell? ⟨w1.heap.size, 2, none⟩ = some (.slice (some ⟨g, 0, none⟩) S.size c) := by rw [hw2]; exact World.cell?_alloc_new ..
  have z3 : w2.cell? ⟨w1.heap.size, 3, none⟩ = some (.slice none 0 0) := by rw [hw2]; exact World.cell?_alloc_new ..
  have hlt : w1.heap.size < w2.heap.size := by rw [hw2]; simp
  have hgl : g < w2.heap.size := by omega
  have hc2 : ∀ j, j < S.size → w2.cell? ⟨g, j, none⟩ = some (.int .u8 (S.data.toList.getD j 0).toNat) := fun j hj => (b2.cell (p := ⟨g, j, none⟩) hg).trans (hcells j hj)
  have HK : Hid (∀ w', Below w2.heap.size w2 w' → w'.cell? ⟨w1.heap.size, 0, none⟩ = some (.int .i64 2) ∧ w'.cell? ⟨w1.heap.size, 1, none⟩ = some (.int .i64 0) ∧ w'.cell? ⟨w1.heap.size, 2, none⟩ = some (.slice (some ⟨g, 0, none⟩) S.size c) ∧ w'.cell? ⟨w1.heap.size, 3, none⟩ = some (.slice none 0 0) ∧ (convert 26 9 (.slice (some ⟨g, 0, none⟩) S.size c)).run Try.prog w' = .ok (.string S) w' ∧ Below w2.heap.size w2 w') := hide (by
    intro w' hb
    refine ⟨(hb.cell (p := ⟨w1.heap.size, 0, none⟩) hlt).trans z0, (hb.cell (p := ⟨w1.heap.size, 1, none⟩) hlt).trans z1, (hb.cell (p := ⟨w1.heap.size, 2, none⟩) hlt).trans z2, (hb.cell (p := ⟨w1.heap.size, 3, none⟩) hlt).trans z3, ?_, hb⟩
    have hl : S.data.toList.length = S.size := Array.length_toList
    have h := run_convert_bytes_back (P := Try.prog) w' 26 9 5 ⟨g, 0, none⟩ c S.data.toList Try.underlying26 Try.underlying5 Try.underlying9 (fun j hj => by
      rw [add_plain, Nat.zero_add, hb.cell (p := ⟨g, j, none⟩) hgl, hc2 j (by omega), List.getD_eq_getElem?_getD, List.getElem?_eq_getElem hj]; rfl)
    rw [hl] at h
    exact h)
  have HZ := hide (b2.mono (Nat.le_refl _))
  have H1 := hide hb1
  have HW := hide hw2
  clear hw2 b2 z0 z1 z2 z3 hlt hgl hc2 hcells hg hb1
  go_wp2_with fail
  rw [← unhide HW]
  first | go_region_held3 (fun w' => w'.cell? ⟨w1.heap.size, 0, none⟩ = some (.int .i64 2) ∧ w'.cell? ⟨w1.heap.size, 1, none⟩ = some (.int .i64 0) ∧ w'.cell? ⟨w1.heap.size, 2, none⟩ = some (.slice (some ⟨g, 0, none⟩) S.size c) ∧ w'.cell? ⟨w1.heap.size, 3, none⟩ = some (.slice none 0 0) ∧ (convert 26 9 (.slice (some ⟨g, 0, none⟩) S.size c)).run Try.prog w' = .ok (.string S) w' ∧ Below w2.heap.size w2 w')
      (first | exact unhide HK _ ⟨rfl, rfl, rfl, Nat.le_refl _, fun _ _ => rfl⟩ | assumption | exact unhide HK _ (chain' (by assumption) (by assumption)))
      (first
        | (go_at_call 9; refine (unhide HT _).mono ?_; rintro e w3 ⟨rfl, hb3⟩)
        | (go_at_call 30; refine (unhide HR _).mono ?_; rintro e w9 ⟨rfl, hw9⟩; obtain rfl := hw9.symm)) | fail
  go_wp2
  go_ret
  have k1 := (unhide H1).trans ((unhide HZ).mono (unhide H1).size)
  have k2 : Below w2.heap.size w2 w2.drew := ⟨rfl, rfl, rfl, Nat.le_refl _, fun _ _ => rfl⟩
  have k3 := k1.trans (k2.mono k1.size)
  exact ⟨rfl, k3.trans (hb3.mono k3.size)⟩
end Go.Proofs.Ytochdajeocganaa
