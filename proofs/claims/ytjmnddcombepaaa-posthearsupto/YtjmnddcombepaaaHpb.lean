/- PostHears: plain facts: Heard tells what is heard, Channels what meets. -/
import Derived.Test.YtjmnddcombepaaaHpa
import Derived.Test.YtjmnddcombepaaaPcl
namespace Go.Proofs.Ytjmnddcombepaaa
open Go.ChangeShapes Go.WideShapes Go.ChangeAt Go.RowKit Go.Maps Go.Sort
set_option linter.unusedVariables false
set_option linter.unusedSimpArgs false
set_option maxRecDepth 100000
set_option maxHeartbeats 4000000
/-- does a key hear a channel? -/
def heardB (G : List UInt8 → List UInt8 → Bool) (T : List UInt8) (k : Key) : Bool := if k.2.2 then G k.2.1 T else decide (k.2.1 = T)
def hitK (k : Key) : Hit := (k.1, k.2.2, k.2.1)
theorem mem_hearL {G : List UInt8 → List UInt8 → Bool} {S : List Key} {T : List UInt8} (hS : ∀ k ∈ S, 0 ≤ k.1 ∧ k.1 < 8) {k : Key} : hitK k ∈ hearL G S T ↔ k ∈ S ∧ heardB G T k = true := by
  obtain ⟨c, P, q⟩ := k
  unfold hearL hitK heardB
  rw [mem_hearN]
  dsimp only
  constructor
  · rintro ⟨-, h⟩
    rcases h with ⟨rfl, rfl, h⟩ | ⟨rfl, h1, h2⟩
    · exact ⟨h, by simp⟩
    · exact ⟨h2, by simpa using (List.mem_filter.1 h1).2⟩
  · rintro ⟨h1, h2⟩
    have h3 := hS _ h1
    refine ⟨⟨h3.1, by have := h3.2; dsimp only at this; omega⟩, ?_⟩
    cases q with
    | false =>
      have : P = T := by simpa using h2
      subst this
      exact .inl ⟨rfl, rfl, h1⟩
    | true => exact .inr ⟨rfl, List.mem_filter.2 ⟨mem_unlikeL.2 ⟨c, h1⟩, by simpa using h2⟩, h1⟩
theorem ltH_irrefl (a : Hit) : ¬ ltH a a := by
  rintro (h | ⟨-, ⟨h1, h2⟩ | ⟨-, h⟩⟩)
  · omega
  · rw [h1] at h2; cases h2
  · exact List.lt_irrefl _ h
theorem hearL_inc (G : List UInt8 → List UInt8 → Bool) (S : List Key) (T : List UInt8) : (hearL G S T).Pairwise ltH :=
  hearN_inc S T _ ((unlikeL_inc S true).sublist List.filter_sublist) 8
theorem hearL_nodup (G : List UInt8 → List UInt8 → Bool) (S : List Key) (T : List UInt8) : (hearL G S T).Nodup :=
  (hearL_inc G S T).imp (fun {a b} h e => by subst e; exact ltH_irrefl a h)
theorem hitK_inj {a b : Key} (h : hitK a = hitK b) : a = b := by
  obtain ⟨a1, a2, a3⟩ := a
  obtain ⟨b1, b2, b3⟩ := b
  unfold hitK at h
  simp only [Prod.mk.injEq] at h ⊢
  exact ⟨h.1, h.2.2, h.2.1⟩
theorem nodup_map_hit : ∀ {l : List Key}, l.Nodup → (l.map hitK).Nodup
  | [], _ => List.Pairwise.nil
  | a :: l, h => by
    rw [List.nodup_cons] at h
    rw [List.map_cons, List.nodup_cons]
    refine ⟨fun hm => ?_, nodup_map_hit h.2⟩
    obtain ⟨b, hb, e⟩ := List.mem_map.1 hm
    exact h.1 (by rw [← hitK_inj e]; exact hb)
theorem hearL_cnt {G : List UInt8 → List UInt8 → Bool} {S L : List Key} {T : List UInt8} (hS : ∀ k ∈ S, 0 ≤ k.1 ∧ k.1 < 8) (hL : L.Nodup) (hp : ∀ k, k ∈ S ↔ k ∈ L) : (hearL G S T).length = (L.filter (heardB G T)).length := by
  have h2 : ((L.filter (heardB G T)).map hitK).Nodup := nodup_map_hit (hL.filter _)
  have hperm : (hearL G S T).Perm ((L.filter (heardB G T)).map hitK) := (List.perm_ext_iff_of_nodup (hearL_nodup G S T) h2).2 (fun h => by
    obtain ⟨c, q, P⟩ := h
    have e : ((c, q, P) : Hit) = hitK (c, P, q) := rfl
    rw [e, mem_hearL hS, List.mem_map]
    constructor
    · rintro ⟨h1, h3⟩
      exact ⟨_, List.mem_filter.2 ⟨(hp _).1 h1, h3⟩, rfl⟩
    · rintro ⟨k, hk, e2⟩
      obtain ⟨h1, h3⟩ := List.mem_filter.1 hk
      have := hitK_inj e2
      subst this
      exact ⟨(hp _).2 h1, h3⟩)
  rw [hperm.length_eq, List.length_map]
theorem chanL_inc (G : List UInt8 → List UInt8 → Bool) (S : List Key) (P : List UInt8) : Inc (chanL G S P) := (unlikeL_inc S false).sublist List.filter_sublist
theorem mem_chanL {G : List UInt8 → List UInt8 → Bool} {S : List Key} {P T : List UInt8} : T ∈ chanL G S P ↔ (∃ c, (c, T, false) ∈ S) ∧ G P T = true := by
  unfold chanL
  rw [List.mem_filter, mem_unlikeL]
end Go.Proofs.Ytjmnddcombepaaa
