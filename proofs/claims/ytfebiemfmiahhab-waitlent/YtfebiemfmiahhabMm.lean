/- Due by selection, in plain words. -/
import Derived.Test.YtfebiemfmiahhabMl
namespace Go.Proofs.Ytfebiemfmiahhab
open Go.ChangeShapes Go.WideShapes Go.ChangeAt Go.RowKit Go.Maps
set_option linter.unusedVariables false
set_option linter.unusedSimpArgs false
set_option maxRecDepth 100000
set_option maxHeartbeats 8000000
def tlW (L : List Wt) (i : Nat) : Nat := ((L[i]?).map (·.till)).getD 0
def cnW (L : List Wt) (i : Nat) : Nat := ((L[i]?).map (·.conn)).getD 0
/-- is one due? -/
def dueI (L : List Wt) (now i : Nat) : Prop := i < L.length ∧ tlW L i ≠ 0 ∧ tlW L i ≤ now
def lexI (L : List Wt) (a b : Nat) : Prop := tlW L a < tlW L b ∨ tlW L a = tlW L b ∧ a < b
/-- those that were selected so far -/
structure Sel (L : List Wt) (now : Nat) (S : List Nat) : Prop where
  nd : S.Nodup
  due : ∀ s ∈ S, dueI L now s
  sort : S.Pairwise (lexI L)
  rest : ∀ s ∈ S, ∀ r, dueI L now r → r ∉ S → lexI L s r
theorem Sel.nil (L : List Wt) (now : Nat) : Sel L now [] := ⟨List.nodup_nil, by simp, List.Pairwise.nil, by simp⟩
theorem Sel.len {L : List Wt} {now : Nat} {S : List Nat} (h : Sel L now S) : S.length ≤ L.length := by
  have := nodup_lenG S (List.range L.length) h.nd (fun s hs => List.mem_range.2 (h.due s hs).1)
  simpa using this
/-- the best of the first i that are left -/
def BestI (L : List Wt) (now : Nat) (S : List Nat) (i : Nat) : Option Nat → Prop
  | none => ∀ r, r < i → dueI L now r → r ∈ S
  | some b => b < i ∧ dueI L now b ∧ b ∉ S ∧ ∀ r, r < i → dueI L now r → r ∉ S → r = b ∨ lexI L b r
def bestV : Option Nat → Int
  | none => -1
  | some b => (b : Int)
theorem BestI.zero (L : List Wt) (now : Nat) (S : List Nat) : BestI L now S 0 none := fun r hr => by omega
theorem BestI.skip {L : List Wt} {now : Nat} {S : List Nat} {i : Nat} {o : Option Nat} (h : BestI L now S i o) (hi : dueI L now i → i ∈ S) : BestI L now S (i + 1) o := by
  cases o with
  | none =>
    intro r hr hd
    by_cases e : r = i
    · subst e; exact hi hd
    · exact h r (by omega) hd
  | some b =>
    obtain ⟨h1, h2, h3, h4⟩ := h
    refine ⟨by omega, h2, h3, fun r hr hd hn => ?_⟩
    by_cases e : r = i
    · subst e; exact absurd (hi hd) hn
    · exact h4 r (by omega) hd hn
theorem BestI.first {L : List Wt} {now : Nat} {S : List Nat} {i : Nat} (h : BestI L now S i none) (hd : dueI L now i) (hn : i ∉ S) : BestI L now S (i + 1) (some i) :=
  ⟨by omega, hd, hn, fun r hr hd' hn' => by
    by_cases e : r = i
    · exact .inl e
    · exact absurd (h r (by omega) hd') hn'⟩
theorem BestI.less {L : List Wt} {now : Nat} {S : List Nat} {i b : Nat} (h : BestI L now S i (some b)) (hd : dueI L now i) (hn : i ∉ S) (hl : tlW L i < tlW L b) : BestI L now S (i + 1) (some i) := by
  obtain ⟨h1, h2, h3, h4⟩ := h
  refine ⟨by omega, hd, hn, fun r hr hd' hn' => ?_⟩
  by_cases e : r = i
  · exact .inl e
  · right
    rcases h4 r (by omega) hd' hn' with rfl | h5
    · exact .inl hl
    · unfold lexI at h5 ⊢; omega
theorem BestI.more {L : List Wt} {now : Nat} {S : List Nat} {i b : Nat} (h : BestI L now S i (some b)) (hl : ¬ tlW L i < tlW L b) : BestI L now S (i + 1) (some b) := by
  obtain ⟨h1, h2, h3, h4⟩ := h
  refine ⟨by omega, h2, h3, fun r hr hd' hn' => ?_⟩
  by_cases e : r = i
  · subst e; right; unfold lexI; omega
  · exact h4 r (by omega) hd' hn'
theorem Sel.next {L : List Wt} {now : Nat} {S : List Nat} {b : Nat} (h : Sel L now S) (hb : BestI L now S L.length (some b)) : Sel L now (S ++ [b]) := by
  obtain ⟨h1, h2, h3, h4⟩ := hb
  refine ⟨?_, ?_, ?_, ?_⟩
  · rw [List.nodup_append]
    exact ⟨h.nd, by simp, fun x hx y hy e => by simp at hy; subst hy; subst e; exact h3 hx⟩
  · intro s hs
    rcases List.mem_append.1 hs with hs | hs
    · exact h.due s hs
    · simp at hs; subst hs; exact h2
  · rw [List.pairwise_append]
    exact ⟨h.sort, by simp, fun x hx y hy => by simp at hy; subst hy; exact h.rest x hx _ h2 h3⟩
  · intro s hs r hr hn
    simp only [List.mem_append, List.mem_singleton, not_or] at hn
    rcases List.mem_append.1 hs with hs | hs
    · exact h.rest s hs r hr hn.1
    · simp at hs
      subst hs
      rcases h4 r hr.1 hr hn.1 with e | e
      · exact absurd e hn.2
      · exact e
/-- all that are due, in order -/
structure DueI (L : List Wt) (now : Nat) (S : List Nat) : Prop where
  sel : Sel L now S
  all : ∀ r, dueI L now r → r ∈ S
theorem DueI.is {E : List En} {now : Nat} {S : List Nat} (hi : E.Pairwise (fun a b => a.turn < b.turn)) (h : DueI (E.map (·.x)) now S) : ∃ F, DueIs E now F ∧ F.map (·.x.conn) = S.map (cnW (E.map (·.x))) := by
  have tl : ∀ i e, E[i]? = some e → tlW (E.map (·.x)) i = e.x.till := fun i e he => by unfold tlW; rw [List.getElem?_map, he]; rfl
  have hst : (S.filterMap (fun s => E[s]?)).Pairwise (fun a b => a.x.till < b.x.till ∨ a.x.till = b.x.till ∧ a.turn < b.turn) := by
    rw [List.pairwise_filterMap]
    refine h.sel.sort.imp fun {a b} hab x hx y hy => ?_
    unfold lexI at hab
    rw [tl a x hx, tl b y hy] at hab
    rcases hab with q | ⟨q, r⟩
    · exact .inl q
    · obtain ⟨ha, ea⟩ := List.getElem?_eq_some_iff.1 hx
      obtain ⟨hb, eb⟩ := List.getElem?_eq_some_iff.1 hy
      have := List.pairwise_iff_getElem.1 hi a b ha hb r
      rw [ea, eb] at this
      exact .inr ⟨q, this⟩
  refine ⟨S.filterMap (fun s => E[s]?), ⟨?_, hst.imp fun {a b} hab => by omega⟩, ?_⟩
  · refine (List.perm_ext_iff_of_nodup (hst.imp fun {a b} hab e => by subst e; omega) ((hi.imp fun {a b} hab e => by subst e; omega : E.Nodup).filter _)).2 fun e => ?_
    rw [List.mem_filterMap, List.mem_filter]
    constructor
    · rintro ⟨s, hs, he⟩
      refine ⟨List.mem_of_getElem? he, ?_⟩
      obtain ⟨-, d1, d2⟩ := h.sel.due s hs
      rw [tl s e he] at d1 d2
      unfold dueB
      simp [d1, d2]
    · rintro ⟨he, hd⟩
      obtain ⟨s, hs, e1⟩ := List.getElem_of_mem he
      have hse : E[s]? = some e := by rw [List.getElem?_eq_getElem hs, e1]
      refine ⟨s, h.all s ⟨by simpa using hs, ?_⟩, hse⟩
      rw [tl s e hse]
      unfold dueB at hd
      simpa using hd
  · have hall : ∀ s ∈ S, ∃ e, E[s]? = some e := fun s hs => ⟨_, List.getElem?_eq_getElem (by simpa using (h.sel.due s hs).1)⟩
    clear hst h
    induction S with
    | nil => rfl
    | cons s S ih =>
      obtain ⟨e, he⟩ := hall s (List.mem_cons_self ..)
      rw [List.filterMap_cons, he, List.map_cons, List.map_cons, ih (fun s hs => hall s (List.mem_cons_of_mem _ hs))]
      congr 1
      unfold cnW
      rw [List.getElem?_map, he]; rfl
end Go.Proofs.Ytfebiemfmiahhab
