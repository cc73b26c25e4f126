/- record: the reader: take. -/
import Derived.Test.YtljeedgnjgeopaaYa
namespace Go.Proofs.Ytljeedgnjgeopaa
open Go.ChangeShapes Go.WideShapes Go.ChangeAt Go.RowKit
set_option linter.unusedVariables false
set_option linter.unusedSimpArgs false
set_option maxRecDepth 100000
set_option maxHeartbeats 4000000
/-- what take answers -/
def TkEnd (w : World) (g : Nat) (V : List Nat) (S : Larder.Rd) (e : Ending) (w' : World) : Prop := ∃ a n c, e = .returned (.slice a n c) ∧ n = V.length ∧ Hid (Kx g w w' ∧ RdAt w' g S ∧ Rst w' g a n c V)
theorem cell_eq {w w' : World} {b : Nat} (h : w'.heap[b]? = w.heap[b]?) (o : Nat) : w'.cell? ⟨b, o, none⟩ = w.cell? ⟨b, o, none⟩ := by
  simp only [World.cell?, h]
theorem take_wrong (w : World) (g : Nat) (k : Nat) (s : Larder.Rd) (hk : s = none ∨ (s.getD []).length < k) (h : RdAt w g s) : Calls Try.prog 57 #[.pointer (some ⟨g, 0, none⟩), .int .i64 (k : Nat)] w (TkEnd w g [] none) := by
  have h' := h
  obtain ⟨a, n, c, h1, h2⟩ := h
  have hlen := h2.len
  have c0 : w.cell? ⟨g, 0, none⟩ = some (.slice a n c) := cell_blk h1 0
  unfold TkEnd
  by_cases hkn : k ≤ n
  · have fd : decide ((k : Int) ≤ (n : Int)) = true := decide_eq_true (by omega)
    have fd2 : decide (k ≤ n) = true := decide_eq_true hkn
    have hs : s = none := by
      rcases hk with e | e
      · exact e
      · omega
    subst hs
    have C66 : Calls Try.prog 66 #[.pointer (some ⟨g, 0, none⟩), .bool true] w fun e w' => (∃ v, e = .returned v) ∧ w = w' := (want_t w g _ h').mono fun e w' ⟨q1, q2⟩ => ⟨q1, q2.symm⟩
    have c1 : w.cell? ⟨g, 1, none⟩ = some (.bool true) := cell_blk h1 1
    have HR := hide h'
    clear h' h1 h2 hlen hk
    go_enter Try.func57, Try.ntmps57
    go_wp2_with (go_at_call 66; refine C66.mono ?_; clear C66; rintro e w2 ⟨⟨v, rfl⟩, rfl⟩)
    go_ret
    exact ⟨none, 0, 0, rfl, rfl, hide ⟨Kx.refl _ _, unhide HR, .inl ⟨rfl, rfl, rfl, rfl⟩⟩⟩
  · have fd : decide ((k : Int) ≤ (n : Int)) = false := decide_eq_false (by omega)
    have fd2 : decide (k ≤ n) = false := decide_eq_false hkn
    have C66 : Calls Try.prog 66 #[.pointer (some ⟨g, 0, none⟩), .bool false] w fun e w' => (∃ v, e = .returned v) ∧ w'.cell? ⟨g, 1, none⟩ = some (.bool true) ∧ Hid (Kx g w w' ∧ RdAt w' g none) := by
      refine (want_f w g s h').mono ?_
      rintro e w' ⟨q1, q2⟩
      obtain ⟨a', n', c', z1, z2⟩ := (unhide q2).2
      exact ⟨q1, cell_blk z1 1, q2⟩
    clear h' h1 h2 hlen hk
    go_enter Try.func57, Try.ntmps57
    go_wp2_with (go_at_call 66; refine C66.mono ?_; clear C66; rintro e w2 ⟨⟨v, rfl⟩, y1, k2⟩)
    go_ret
    exact ⟨none, 0, 0, rfl, rfl, hide ⟨(unhide k2).1, (unhide k2).2, .inl ⟨rfl, rfl, rfl, rfl⟩⟩⟩
theorem getD_take {l : List Nat} {k i : Nat} (h : i < k) : (l.take k).getD i 0 = l.getD i 0 := by
  rw [List.getD_eq_getElem?_getD, List.getD_eq_getElem?_getD, List.getElem?_take, if_pos h]
theorem getD_drop {l : List Nat} {k i : Nat} : (l.drop k).getD i 0 = l.getD (k + i) 0 := by
  rw [List.getD_eq_getElem?_getD, List.getD_eq_getElem?_getD, List.getElem?_drop]
theorem take_right (w : World) (g : Nat) (k : Nat) (l : List Nat) (hk : k ≤ l.length) (h : RdAt w g (some l)) : Calls Try.prog 57 #[.pointer (some ⟨g, 0, none⟩), .int .i64 (k : Nat)] w (TkEnd w g (l.take k) (some (l.drop k))) := by
  have h' := h
  obtain ⟨a, n, c, h1, h2⟩ := h
  have hg := blk_lt h1
  have hlen : n = l.length := h2.len
  have hle := h2.le
  have hkn : k ≤ n := by omega
  have c0 : w.cell? ⟨g, 0, none⟩ = some (.slice a n c) := cell_blk h1 0
  have fd : decide ((k : Int) ≤ (n : Int)) = true := decide_eq_true (by omega)
  have fd2 : decide (k ≤ n) = true := decide_eq_true hkn
  have C66 : Calls Try.prog 66 #[.pointer (some ⟨g, 0, none⟩), .bool true] w fun e w' => (∃ v, e = .returned v) ∧ w = w' := (want_t w g _ h').mono fun e w' ⟨q1, q2⟩ => ⟨q1, q2.symm⟩
  have c1 : w.cell? ⟨g, 1, none⟩ = some (.bool false) := cell_blk h1 1
  have f0 : w.frozen? ⟨g, 0, none⟩ = false := by simp only [World.frozen?, h1]; simp
  have HS : Hid (∀ v, (w.setCell ⟨g, 0, none⟩ v).heap[g]? = some (.cells #[v, .bool false] 94 (0, 0))) := hide (fun v => set_block w g 0 v _ _ _ h1)
  rcases h2 with ⟨rfl, rfl, rfl, hl⟩ | ⟨b, off, rfl, hb, q1, q2, q3⟩
  · obtain rfl : k = 0 := by omega
    have HL : Hid (l = []) := hide hl
    clear h' h1 hlen hk hl
    unfold TkEnd
    go_enter Try.func57, Try.ntmps57
    go_wp2_with (go_at_call 66; refine C66.mono ?_; clear C66; rintro e w2 ⟨⟨v, rfl⟩, rfl⟩)
    go_ret
    exact ⟨none, 0, 0, rfl, by rw [List.take_zero]; rfl, hide ⟨Kx.put, ⟨none, 0, 0, unhide HS _, .inl ⟨rfl, rfl, rfl, by show List.drop 0 l = []; rw [unhide HL]; rfl⟩⟩, .inl ⟨rfl, rfl, rfl, by rw [List.take_zero]⟩⟩⟩
  · have Q1 : Hid (n = l.length) := hide q1
    have Q3 : Hid (∀ i, i < n → w.cell? ⟨b, off + i, none⟩ = some (.int .u8 (l.getD i 0 : Nat))) := hide q3
    clear h' h1 hlen hk q1 q3
    unfold TkEnd
    have g0 : (0 : Int) ≤ (k : Int) := by omega
    have g1 : (k : Int) ≤ (c : Int) := by omega
    have g2 : (k : Int) ≤ (n : Int) := by omega
    have g3 : ((n : Int) - (k : Int)).toNat = n - k := by omega
    have g4 : ((c : Int) - (k : Int)).toNat = c - k := by omega
    have g5 : (k : Int).toNat = k := by omega
    by_cases hc : c = k
    · go_enter Try.func57, Try.ntmps57
      go_wp2_with (go_at_call 66; refine C66.mono ?_; clear C66; rintro e w2 ⟨⟨v, rfl⟩, rfl⟩)
      go_ret
      refine ⟨some ⟨b, off, none⟩, k, k, rfl, by rw [List.length_take]; have := unhide Q1; omega, hide ⟨Kx.put, ⟨some ⟨b, off, none⟩, n - k, 0, unhide HS _, .inr ⟨b, off, rfl, hb, (by show _ = (l.drop k).length; rw [List.length_drop]; have := unhide Q1; omega), by omega, fun i hi => by omega⟩⟩, .inr ⟨b, off, rfl, hb, by rw [List.length_take]; have := unhide Q1; omega, by omega, fun i hi => ?_⟩⟩⟩
      rw [cell_eq (set_else _ _ _ _ _ (by omega)), getD_take hi]
      exact (unhide Q3) i (by omega)
    · go_enter Try.func57, Try.ntmps57
      go_wp2_with (go_at_call 66; refine C66.mono ?_; clear C66; rintro e w2 ⟨⟨v, rfl⟩, rfl⟩)
      go_ret
      refine ⟨some ⟨b, off, none⟩, k, c, rfl, by rw [List.length_take]; have := unhide Q1; omega, hide ⟨Kx.put, ⟨some ⟨b, off + k, none⟩, n - k, c - k, unhide HS _, .inr ⟨b, off + k, rfl, hb, (by show _ = (l.drop k).length; rw [List.length_drop]; have := unhide Q1; omega), by omega, fun i hi => ?_⟩⟩, .inr ⟨b, off, rfl, hb, by rw [List.length_take]; have := unhide Q1; omega, by omega, fun i hi => ?_⟩⟩⟩
      · rw [cell_eq (set_else _ _ _ _ _ (by omega))]
        show _ = some (Value.int IntKind.u8 ((l.drop k).getD i 0 : Nat))
        rw [getD_drop, Nat.add_assoc]
        exact (unhide Q3) (k + i) (by omega)
      · rw [cell_eq (set_else _ _ _ _ _ (by omega)), getD_take hi]
        exact (unhide Q3) i (by omega)
theorem take_any (w : World) (g : Nat) (k : Nat) (s : Larder.Rd) (h : RdAt w g s) : Calls Try.prog 57 #[.pointer (some ⟨g, 0, none⟩), .int .i64 (k : Nat)] w (TkEnd w g (Larder.tkV s k) (Larder.tkS s k)) := by
  unfold Larder.tkV Larder.tkS
  cases s with
  | none => exact take_wrong w g k none (.inl rfl) h
  | some l =>
    by_cases hk : k ≤ l.length
    · simp only [if_pos hk]
      exact take_right w g k l hk h
    · simp only [if_neg hk]
      exact take_wrong w g k (some l) (.inr (by show l.length < k; omega)) h
end Go.Proofs.Ytljeedgnjgeopaa
