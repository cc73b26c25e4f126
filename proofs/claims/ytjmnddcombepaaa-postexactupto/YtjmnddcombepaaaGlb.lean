/- Glob. -/
import Derived.Test.YtjmnddcombepaaaPcs
namespace Go.Proofs.Ytjmnddcombepaaa
open Go.ChangeShapes Go.WideShapes Go.ChangeAt Go.RowKit
set_option linter.unusedVariables false
set_option maxRecDepth 20000

theorem pieces_empty (a : Option Addr) (cap : Nat) (w : World) :
    Calls Try.prog 39 #[.slice a 0 cap] w fun e w' => Below w.heap.size w w' ∧
      ((∃ v rs, e = .returned (.tuple #[v, .bool true]) ∧ RowIs rs (Larder.parse []) ∧ w'.ownsRow w.heap.size 90 5 v rs.length (rcells rs)) ∨
       (e = .returned (.tuple #[.slice none 0 0, .bool false]) ∧ ∃ f, some f ∈ Larder.parse [] ∧ ∀ c, c < 256 → f c = false)) := by
  obtain ⟨i0, hi, hz0, hz1, hz2⟩ := info_parts Try.info90
  go_enter Try.func39, Try.ntmps39
  go_wp2_with (at_make; refine wpList_make_own _ rfl _ _ 83 rfl w.heap.size 90 i0 _ 5 Try.underlying83 hi hz0 hz1 _ _ _ 0 rfl rfl rfl (by rw [hz2]; omega) (by simp [maxLen]) (Nat.le_refl _) ?_)
  intro w1 hown hgrow
  have hb1 : Below w.heap.size w w1 := (Below.refl _ _).grown hgrow (Nat.le_refl _) (fun k h => by cases h)
  clear hgrow
  go_wp2_with fail
  go_loopw [4, 5] (fun v i wr => v = .slice (some ⟨w.heap.size, 0, none⟩) 0 0 ∧ i = .int .i64 0 ∧ wr = w1) (fun _ _ _ => 0)
  case atStart => exact ⟨rfl, rfl, rfl⟩
  case round =>
    obtain ⟨rfl, rfl, rfl⟩ := hrel
    have HO := hide hown
    have HB := hide hb1
    clear hown hb1
    go_wp2
    go_ret2
    exact ⟨unhide HB, .inl ⟨_, [], rfl, trivial, unhide HO⟩⟩

theorem pieces_all (a : Option Addr) (cap : Nat) (w : World) (p : List Nat) (hl : p.length ≤ 1073741824) (hs : Small p) (hB : Bytes w a p) :
    Calls Try.prog 39 #[.slice a p.length cap] w fun e w' => Below w.heap.size w w' ∧
      ((∃ v rs, e = .returned (.tuple #[v, .bool true]) ∧ RowIs rs (Larder.parse p) ∧ w'.ownsRow w.heap.size 90 5 v rs.length (rcells rs)) ∨
       (e = .returned (.tuple #[.slice none 0 0, .bool false]) ∧ ∃ f, some f ∈ Larder.parse p ∧ ∀ c, c < 256 → f c = false)) := by
  by_cases h0 : 0 < p.length
  · obtain ⟨b, off, rfl, hb, hc⟩ := hB.at h0
    exact pieces_any b off cap w p hl hs hb hc
  · obtain rfl : p = [] := List.eq_nil_of_length_eq_zero (by omega)
    exact pieces_empty a cap w

/-- the cells of a row of pieces -/
def RowAt (w : World) (g : Nat) (rs : List (Nat × List Nat)) : Prop := ∀ j r, rs[j]? = some r →
  w.cell? ⟨g, j * 5, none⟩ = some (.int .i64 (r.1 : Nat)) ∧ w.cell? ⟨g, j * 5 + 1, none⟩ = some (.int .u64 (r.2.getD 0 0 : Nat)) ∧ w.cell? ⟨g, j * 5 + 2, none⟩ = some (.int .u64 (r.2.getD 1 0 : Nat)) ∧ w.cell? ⟨g, j * 5 + 3, none⟩ = some (.int .u64 (r.2.getD 2 0 : Nat)) ∧ w.cell? ⟨g, j * 5 + 4, none⟩ = some (.int .u64 (r.2.getD 3 0 : Nat))
theorem rcells_get : ∀ (rs : List (Nat × List Nat)) (l : List (Option (Nat → Bool))), RowIs rs l → ∀ j r, rs[j]? = some r → ∀ q, q < 5 → (rcells rs)[j * 5 + q]? = (pcells r)[q]?
  | [], _, _, j, r, hj, q, _ => by simp at hj
  | r0 :: rs, [], h, _, _, _, _, _ => h.elim
  | r0 :: rs, pc :: l, ⟨h1, h2⟩, 0, r, hj, q, hq => by
    simp at hj
    subst hj
    show (pcells r0 ++ rcells rs)[0 * 5 + q]? = _
    rw [Nat.zero_mul, Nat.zero_add, List.getElem?_append_left (by rw [pcells_length h1.1]; exact hq)]
  | r0 :: rs, pc :: l, ⟨h1, h2⟩, j + 1, r, hj, q, hq => by
    have ih := rcells_get rs l h2 j r (by simpa using hj) q hq
    show (pcells r0 ++ rcells rs)[(j + 1) * 5 + q]? = _
    rw [List.getElem?_append_right (by rw [pcells_length h1.1]; omega), pcells_length h1.1, show (j + 1) * 5 + q - 5 = j * 5 + q by omega, ih]
theorem row_at {w : World} {base : Nat} {v : Value} {rs : List (Nat × List Nat)} {l : List (Option (Nat → Bool))} (hR : RowIs rs l) (h : w.ownsRow base 90 5 v rs.length (rcells rs)) :
    ∃ a cap, v = .slice a rs.length cap ∧ (rs = [] ∨ ∃ g, a = some ⟨g, 0, none⟩ ∧ g < w.heap.size ∧ RowAt w g rs) := by
  rcases h.2 with ⟨rfl, h0⟩ | ⟨g, cap, cur, rfl, hb, hg, hn, hm, hs, ht⟩
  · exact ⟨none, 0, by rw [h0], .inl (List.eq_nil_of_length_eq_zero h0)⟩
  · refine ⟨_, cap, rfl, .inr ⟨g, rfl, (Array.getElem?_eq_some_iff.1 hg).1, ?_⟩⟩
    intro j r hj
    have hjl : j < rs.length := (List.getElem?_eq_some_iff.1 hj).1
    obtain ⟨rr, hr1, hr2⟩ : ∃ rr, rs[j]? = some rr ∧ rr.2.length = 4 := by
      have hjl2 : j < l.length := by rw [← hR.length]; exact hjl
      obtain ⟨rr, h1, h2⟩ := hR.get j (l[j]) (List.getElem?_eq_getElem hjl2)
      exact ⟨rr, h1, h2.1⟩
    rw [hj] at hr1
    cases hr1
    have key : ∀ q, q < 5 → w.cell? ⟨g, j * 5 + q, none⟩ = (pcells r)[q]? := by
      intro q hq
      rw [h.cellAt (j * 5 + q) (by omega), rcells_get rs l hR j r hj q hq]
    obtain ⟨k, xs⟩ := r
    obtain ⟨x0, x1, x2, x3, rfl⟩ := Larder.four hr2
    exact ⟨key 0 (by omega), key 1 (by omega), key 2 (by omega), key 3 (by omega), key 4 (by omega)⟩
theorem RowAt.below {w w' : World} {g : Nat} {rs : List (Nat × List Nat)} (h : RowAt w g rs) (hg : g < w.heap.size) (hb : Below w.heap.size w w') : RowAt w' g rs := by
  intro j r hj
  obtain ⟨h0, h1, h2, h3, h4⟩ := h j r hj
  have cc : ∀ o v, w.cell? ⟨g, o, none⟩ = some v → w'.cell? ⟨g, o, none⟩ = some v := fun o v h => (hb.cell (p := ⟨g, o, none⟩) hg).trans h
  exact ⟨cc _ _ h0, cc _ _ h1, cc _ _ h2, cc _ _ h3, cc _ _ h4⟩
end Go.Proofs.Ytjmnddcombepaaa
