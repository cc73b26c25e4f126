/- wire: Command. -/
import Derived.Test.YtfgemcmiilbodaaDoorWra
namespace Go.Proofs.YtfgemcmiilbodaaDoor
open Go.ChangeShapes Go.WideShapes Go.ChangeAt Go.RowKit
set_option linter.unusedVariables false
set_option linter.unusedSimpArgs false
set_option maxRecDepth 20000
set_option maxHeartbeats 4000000

def textL (T : List Nat) : List Nat := numL 36 T.length ++ T ++ [13, 10]
theorem addtext_any (w0 w : World) (va a : Option Addr) (n vc c : Nat) (l T : List Nat) (h : Gro w0 w w0.heap.size (.slice va n vc) n l) (ht : Tab w0) (hT : Bytes w0 a T) (hl : n ≤ 268435456) (hl2 : T.length ≤ 268435456) :
    Calls Tryd.prog 26 #[.slice va n vc, .slice a T.length c] w fun e w' => ∃ va' n' vc', e = .returned (.slice va' n' vc') ∧ Hid (Gro w0 w' w0.heap.size (.slice va' n' vc') n' (l ++ textL T)) := by
  obtain ⟨i5, hi5, hz5, hs5, hb5⟩ := info_partsS Tryd.info5s
  have CN : Hid (Calls Tryd.prog 25 #[.slice va n vc, .int .u8 36, .int .i64 (T.length : Nat)] w fun e w' => ∃ va' n' vc', e = .returned (.slice va' n' vc') ∧ Hid (Gro w0 w' w0.heap.size (.slice va' n' vc') n' (l ++ numL 36 T.length))) := hide (addnum_any w0 w w0.heap.size va n vc 36 l (T.length : Nat) h (ht.below h.bel) ⟨by omega, by omega⟩ (by omega))
  have AL : Hid (∀ W : World, ∀ o, Below W.heap.size W (W.alloc o)) := hide (fun W o => (Below.refl _ _).alloc (Nat.le_refl _) _)
  have MB : Hid (∀ W : World, Bytes (W.alloc (.cells #[.int .u8 13, .int .u8 10] 5)) (some ⟨W.heap.size, 0, none⟩) [13, 10]) := hide (fun W => made_bytes W [13, 10])
  have LN : Hid (∀ W n' v, Gro w0 W w0.heap.size v n' (l ++ numL 36 T.length) → n' + T.length + 2 ≤ 140737488355328) := hide (fun W n' v g => by
    have := g.len
    have sp := spell_short (T.length : Nat) (by omega) (by omega)
    have h1 := h.len
    unfold numL at this
    simp only [List.length_append, List.length_cons, List.length_nil] at this
    omega)
  have HT := hide hT
  clear h ht hT
  go_enter Tryd.func26, Tryd.ntmps26
  go_wp2_with (first
    | (go_at_call 25; refine (unhide CN).mono ?_; rintro e w1 ⟨a1, n1, c1, rfl, HG1⟩; have L1 := unhide LN _ _ _ (unhide HG1))
    | (at_builtin; refine append_bytes rfl _ _ 22 rfl i5 Tryd.underlying22 hi5 hz5 hs5 hb5 (.slice a1 n1 c1) n1 (byV (l ++ numL 36 T.length)) rfl (unhide HG1).row a c T rfl ((unhide HT).below (unhide HG1).bel) (by omega) ?_; intro v2 w2 h2 g2; have HG2 := hide ((unhide HG1).app h2 g2); obtain ⟨a2, c2, rfl⟩ := h2.shape; clear h2 g2)
    | (at_builtin; refine append_bytes rfl _ _ 22 rfl i5 Tryd.underlying22 hi5 hz5 hs5 hb5 (.slice a2 (n1 + T.length) c2) (n1 + T.length) (byV (l ++ numL 36 T.length ++ T)) rfl ((unhide HG2).row.below (unhide AL _ _)) (some ⟨w2.heap.size, 0, none⟩) 2 [13, 10] rfl (unhide MB w2) (by simp; omega) ?_; intro v3 w3 h3 g3; have HG3 := hide (((unhide HG2).below (unhide AL _ _)).app h3 g3); obtain ⟨a3, c3, rfl⟩ := h3.shape; clear h3 g3))
  go_ret
  exact ⟨_, _, _, rfl, by unfold textL; simpa using HG3⟩

def cmdL (L : List (List Nat)) : List Nat := numL 42 L.length ++ (L.map textL).flatten
def cmdBad (L : List (List Nat)) : Prop := L.length = 0 ∨ 128 < L.length ∨ ∃ T ∈ L, 4096 < T.length
/-- arguments that lie in memory -/
def ArgsAt (w : World) (b off : Nat) (L : List (List Nat)) : Prop := b < w.heap.size ∧ ∀ k T, L[k]? = some T → ∃ a c, w.cell? ⟨b, off + k, none⟩ = some (.slice a T.length c) ∧ Bytes w a T ∧ T.length ≤ 268435456
theorem textL_len (T : List Nat) (h : T.length ≤ 4096) : (textL T).length ≤ 4125 := by
  have sp := spell_short (T.length : Nat) (by omega) (by omega)
  unfold textL numL
  simp only [List.length_append, List.length_cons, List.length_nil]
  omega
end Go.Proofs.YtfgemcmiilbodaaDoor
