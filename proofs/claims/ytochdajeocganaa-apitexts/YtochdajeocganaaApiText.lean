/- api.Text. -/
import Derived.Test.YtochdajeocganaaHead
import Derived.Great.BuildSlice
import Derived.Deep.WholeRow
namespace Go.Proofs.Ytochdajeocganaa
open Go.ChangeShapes Go.WideShapes Go.ChangeAt Go.RowKit
set_option linter.unusedVariables false

/-- the texts of the commands' errors, from 301 on -/
def textsL : List ByteArray := [⟨#[69, 82, 82, 32, 80, 114, 111, 116, 111, 99, 111, 108, 32, 101, 114, 114, 111, 114]⟩,
  ⟨#[69, 82, 82, 32, 117, 110, 107, 110, 111, 119, 110, 32, 99, 111, 109, 109, 97, 110, 100]⟩,
  ⟨#[69, 82, 82, 32, 119, 114, 111, 110, 103, 32, 110, 117, 109, 98, 101, 114, 32, 111, 102, 32, 97, 114, 103, 117, 109, 101, 110, 116, 115]⟩,
  ⟨#[69, 82, 82, 32, 115, 121, 110, 116, 97, 120]⟩,
  ⟨#[69, 82, 82, 32, 110, 111, 116, 32, 97, 110, 32, 105, 110, 116, 101, 103, 101, 114]⟩,
  ⟨#[69, 82, 82, 32, 111, 117, 116, 32, 111, 102, 32, 114, 97, 110, 103, 101]⟩,
  ⟨#[87, 82, 79, 78, 71, 84, 89, 80, 69, 32, 97, 110, 111, 116, 104, 101, 114, 32, 107, 105, 110, 100, 32, 111, 102, 32, 118, 97, 108, 117, 101]⟩,
  ⟨#[69, 82, 82, 32, 110, 111, 32, 115, 117, 99, 104, 32, 107, 101, 121]⟩,
  ⟨#[69, 82, 82, 32, 116, 111, 111, 32, 108, 111, 110, 103]⟩,
  ⟨#[69, 82, 82, 32, 111, 118, 101, 114, 102, 108, 111, 119]⟩,
  ⟨#[69, 82, 82, 32, 98, 97, 100, 32, 116, 105, 109, 101]⟩,
  ⟨#[79, 79, 77]⟩,
  ⟨#[69, 82, 82, 32, 77, 85, 76, 84, 73, 32, 105, 110, 115, 105, 100, 101, 32, 77, 85, 76, 84, 73]⟩,
  ⟨#[69, 82, 82, 32, 69, 88, 69, 67, 32, 119, 105, 116, 104, 111, 117, 116, 32, 77, 85, 76, 84, 73]⟩,
  ⟨#[69, 82, 82, 32, 68, 73, 83, 67, 65, 82, 68, 32, 119, 105, 116, 104, 111, 117, 116, 32, 77, 85, 76, 84, 73]⟩,
  ⟨#[69, 88, 69, 67, 65, 66, 79, 82, 84]⟩,
  ⟨#[69, 82, 82, 32, 87, 65, 84, 67, 72, 32, 105, 110, 115, 105, 100, 101, 32, 77, 85, 76, 84, 73]⟩,
  ⟨#[69, 82, 82, 32, 110, 111, 116, 32, 110, 111, 119]⟩,
  ⟨#[69, 82, 82, 32, 116, 111, 111, 32, 109, 97, 110, 121]⟩,
  ⟨#[69, 82, 82, 32, 110, 111, 32, 115, 117, 99, 104, 32, 100, 97, 116, 97, 98, 97, 115, 101]⟩,
  ⟨#[69, 82, 82, 32, 98, 97, 100, 32, 98, 111, 117, 110, 100]⟩,
  ⟨#[69, 82, 82, 32, 98, 97, 100, 32, 99, 117, 114, 115, 111, 114]⟩,
  ⟨#[69, 82, 82, 32, 115, 97, 109, 101, 32, 112, 108, 97, 99, 101]⟩,
  ⟨#[69, 82, 82, 32, 98, 97, 100, 32, 98, 105, 116]⟩,
  ⟨#[69, 82, 82, 32, 98, 97, 100, 32, 102, 105, 101, 108, 100, 32, 116, 121, 112, 101]⟩]
def texts : Array Value := (textsL.map Value.string).toArray
/-- the text of a number -/
def txt (n : Int) : ByteArray := if 301 ≤ n ∧ n ≤ 325 then textsL.getD (n - 301).toNat ⟨#[]⟩ else ⟨#[]⟩

theorem texts_at (k : Nat) (h : k < 25) : texts[k]? = some (.string (textsL.getD k ⟨#[]⟩)) := by
  have hl : textsL.length = 25 := by decide
  unfold texts
  rw [List.getElem?_toArray, List.getElem?_map, List.getElem?_eq_getElem (by omega), List.getD_eq_getElem?_getD, List.getElem?_eq_getElem (by omega)]
  rfl
theorem texts_size : texts.size = 25 := by decide

set_option maxRecDepth 100000 in
theorem text_out (n : Int) (h1 : -9223372036854775808 ≤ n) (h2 : n ≤ 9223372036854775807) (h : ¬ (301 ≤ n ∧ n ≤ 325)) (w : World) :
    Calls Try.prog 9 #[.int .i64 n] w fun e w' => e = .returned (.string ⟨#[]⟩) ∧ Below w.heap.size w w' := by
  obtain ⟨d, hd⟩ : ∃ d, wrap64 (n - 301) = d := ⟨_, rfl⟩
  have hdd : d < 0 ∨ 25 ≤ d := by rw [← hd]; unfold wrap64; omega
  clear h
  by_cases h0 : d < 0
  · have e1 : decide (d < 0) = true := decide_eq_true h0
    clear hdd
    go_enter Try.func9, Try.ntmps9
    go_wp2_with (first
      | (refine wpList_buildTo rfl 65 _ rfl (some 5) rfl texts (by as_aux_lemma => kernel_rfl) ?_)
      | (refine wpList_store_rowTo rfl 65 _ _ rfl rfl w.heap.size texts rfl rfl 65 _ (heap_alloc_last w _) (by as_aux_lemma => kernel_rfl) (by as_aux_lemma => kernel_rfl) (by as_aux_lemma => kernel_rfl) ?_; rw [World.setRow_alloc_new]))
    go_ret
    exact ⟨rfl, (Below.refl _ _).alloc (Nat.le_refl _) _⟩
  · have e1 : decide (d < 0) = false := decide_eq_false h0
    have e2 : decide (25 ≤ d) = true := decide_eq_true (by omega)
    clear hdd
    go_enter Try.func9, Try.ntmps9
    go_wp2_with (first
      | (refine wpList_buildTo rfl 65 _ rfl (some 5) rfl texts (by as_aux_lemma => kernel_rfl) ?_)
      | (refine wpList_store_rowTo rfl 65 _ _ rfl rfl w.heap.size texts rfl rfl 65 _ (heap_alloc_last w _) (by as_aux_lemma => kernel_rfl) (by as_aux_lemma => kernel_rfl) (by as_aux_lemma => kernel_rfl) ?_; rw [World.setRow_alloc_new]))
    go_ret
    exact ⟨rfl, (Below.refl _ _).alloc (Nat.le_refl _) _⟩

set_option maxRecDepth 100000 in
theorem text_in (k : Nat) (hk : k < 25) (w : World) :
    Calls Try.prog 9 #[.int .i64 (301 + (k : Int))] w fun e w' => e = .returned (.string (textsL.getD k ⟨#[]⟩)) ∧ Below w.heap.size w w' := by
  have hd : wrap64 (301 + (k : Int) - 301) = (k : Int) := by unfold wrap64; omega
  have e1 : decide ((k : Int) < 0) = false := decide_eq_false (by omega)
  have e2 : decide (25 ≤ (k : Int)) = false := decide_eq_false (by omega)
  have ht := texts_at k hk
  obtain ⟨S, hS⟩ : ∃ S, S = textsL.getD k ⟨#[]⟩ := ⟨_, rfl⟩
  rw [← hS] at ht ⊢
  clear hS
  go_enter Try.func9, Try.ntmps9
  go_wp2_with (first
    | (refine wpList_buildTo rfl 65 _ rfl (some 5) rfl texts (by as_aux_lemma => kernel_rfl) ?_)
    | (refine wpList_store_rowTo rfl 65 _ _ rfl rfl w.heap.size texts rfl rfl 65 _ (heap_alloc_last w _) (by as_aux_lemma => kernel_rfl) (by as_aux_lemma => kernel_rfl) (by as_aux_lemma => kernel_rfl) ?_; rw [World.setRow_alloc_new]))
  go_ret
  exact ⟨rfl, (Below.refl _ _).alloc (Nat.le_refl _) _⟩

theorem text_any (n : Int) (h1 : -9223372036854775808 ≤ n) (h2 : n ≤ 9223372036854775807) (w : World) :
    Calls Try.prog 9 #[.int .i64 n] w fun e w' => e = .returned (.string (txt n)) ∧ Below w.heap.size w w' := by
  unfold txt
  by_cases h : 301 ≤ n ∧ n ≤ 325
  · rw [if_pos h]
    obtain ⟨k, hk⟩ : ∃ k : Nat, n = 301 + (k : Int) := ⟨(n - 301).toNat, by omega⟩
    subst hk
    have e : (301 + (k : Int) - 301).toNat = k := by omega
    rw [e]
    exact text_in k (by omega) w
  · rw [if_neg h]
    exact text_out n h1 h2 h w
end Go.Proofs.Ytochdajeocganaa
