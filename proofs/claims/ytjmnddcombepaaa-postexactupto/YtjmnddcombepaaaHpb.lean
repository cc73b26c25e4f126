/- PostHears: plain facts: Heard tells what is heard, Channels what meets. -/
import Derived.Test.YtjmnddcombepaaaPck
import Derived.Test.YtjmnddcombepaaaPcl
namespace Go.Proofs.Ytjmnddcombepaaa
open Go.ChangeShapes Go.WideShapes Go.ChangeAt Go.RowKit Go.Maps Go.Sort
set_option linter.unusedVariables false
set_option linter.unusedSimpArgs false
set_option maxRecDepth 100000
set_option maxHeartbeats 4000000
/-- sorted, each once -/
def Inc (l : List (List UInt8)) : Prop := l.Pairwise (fun a b => a < b)
theorem compactUp_inc (d : Array (List UInt8)) (m : Nat) (h : ∀ j, 0 < j → j < m → d[j - 1]! ≤ d[j]!) :
    Inc (Lib.compactUpTo d m) ∧ (∀ x ∈ Lib.compactUpTo d m, 0 < m ∧ x ≤ d[m - 1]!) ∧ ∀ j, j < m → d[j]! ∈ Lib.compactUpTo d m := by
  induction m with
  | zero => exact ⟨List.Pairwise.nil, fun x hx => by simp [Lib.compactUpTo] at hx, fun j hj => absurd hj (Nat.not_lt_zero _)⟩
  | succ m ih =>
    obtain ⟨i1, i2, i3⟩ := ih (fun j h0 hj => h j h0 (by omega))
    rw [Lib.compactUpTo_succ]
    by_cases hk : Lib.keeps d m = true
    · rw [if_pos hk]
      have hlast : ∀ x ∈ Lib.compactUpTo d m, x < d[m]! := fun x hx => by
        obtain ⟨h0, hle⟩ := i2 x hx
        have h1 := h m h0 (by omega)
        have hne : d[m]! ≠ d[m - 1]! := by
          unfold Lib.keeps at hk
          rcases of_decide_eq_true hk with e | e
          · omega
          · exact e
        exact Std.lt_of_le_of_lt hle (Std.lt_of_le_of_ne h1 (fun e => hne e.symm))
      refine ⟨?_, fun x hx => ?_, fun j hj => ?_⟩
      · unfold Inc
        rw [List.pairwise_append]
        exact ⟨i1, List.pairwise_singleton _ _, fun a ha b hb => by rw [List.mem_singleton.1 hb]; exact hlast a ha⟩
      · refine ⟨by omega, ?_⟩
        rw [Nat.add_sub_cancel]
        rcases List.mem_append.1 hx with hx | hx
        · exact Std.le_of_lt (hlast x hx)
        · rw [List.mem_singleton.1 hx]; exact List.le_refl _
      · by_cases hjm : j < m
        · exact List.mem_append_left _ (i3 j hjm)
        · obtain rfl : j = m := by omega
          exact List.mem_append_right _ (List.mem_singleton.2 rfl)
    · rw [if_neg hk, List.append_nil]
      have hm0 : 0 < m := by
        rcases Nat.eq_zero_or_pos m with e | e
        · exfalso; apply hk; rw [e]; exact Lib.keeps_lt_one d 0 (by omega)
        · exact e
      have he : d[m]! = d[m - 1]! := by
        by_cases e : d[m]! = d[m - 1]!
        · exact e
        · exact absurd (Lib.keeps_pos e) hk
      refine ⟨i1, fun x hx => ⟨by omega, ?_⟩, fun j hj => ?_⟩
      · rw [Nat.add_sub_cancel, he]; exact (i2 x hx).2
      · by_cases hjm : j < m
        · exact i3 j hjm
        · obtain rfl : j = m := by omega
          rw [he]; exact i3 (j - 1) (by omega)
theorem pairwise_get {R : List UInt8 → List UInt8 → Prop} {l : List (List UInt8)} (h : l.Pairwise R) : ∀ j, 0 < j → j < l.length → R l.toArray[j - 1]! l.toArray[j]! := by
  intro j h0 hj
  have h2 := List.pairwise_iff_getElem.1 h (j - 1) j (by omega) hj (by omega)
  rw [getElem!_pos l.toArray (j - 1) (by simpa using (by omega : j - 1 < l.length)), getElem!_pos l.toArray j (by simpa using hj)]
  simpa using h2
theorem compact_inc {l : List (List UInt8)} (h : l.Pairwise (fun a b => a ≤ b)) : Inc (Lib.compact l) ∧ ∀ x ∈ l, x ∈ Lib.compact l := by
  obtain ⟨h1, h2, h3⟩ := compactUp_inc l.toArray l.length (pairwise_get h)
  refine ⟨h1, fun x hx => ?_⟩
  obtain ⟨j, hj, rfl⟩ := List.mem_iff_getElem.1 hx
  have := h3 j hj
  rw [getElem!_pos l.toArray j (by simpa using hj)] at this
  unfold Lib.compact
  simpa using this
theorem sorted_le (l : List (List UInt8)) : (l.mergeSort (fun x y => decide (x ≤ y))).Pairwise (fun x y => x ≤ y) := by
  have := List.pairwise_mergeSort (le := fun (x y : List UInt8) => decide (x ≤ y)) (by intro a b c h1 h2; simp at *; exact List.le_trans h1 h2) (by intro a b; simp; exact List.le_total a b) l
  simpa using this
theorem textsL_inc (S : List Key) (pr : Key → Bool) : Inc (textsL S pr) ∧ ∀ k ∈ S, pr k = true → k.2.1 ∈ textsL S pr := by
  obtain ⟨h1, h2⟩ := compact_inc (sorted_le ((S.filter pr).map (·.2.1)))
  refine ⟨h1, fun k hk hp => h2 _ ?_⟩
  rw [List.mem_mergeSort]
  exact List.mem_map_of_mem (List.mem_filter.2 ⟨hk, hp⟩)
theorem mem_unlikeL {S : List Key} {q : Bool} {T : List UInt8} : T ∈ unlikeL S q ↔ ∃ c, (c, T, q) ∈ S := by
  constructor
  · intro h
    obtain ⟨⟨c, T', q'⟩, hk, hp, rfl⟩ := textsL_sub h
    have : q' = q := by simpa using hp
    exact ⟨c, by rw [← this]; exact hk⟩
  · rintro ⟨c, hc⟩
    exact (textsL_inc S _).2 (c, T, q) hc (by simp)
theorem unlikeL_inc (S : List Key) (q : Bool) : Inc (unlikeL S q) := (textsL_inc S _).1
/-- the order of Heard -/
def ltH (a b : Hit) : Prop := a.1 < b.1 ∨ a.1 = b.1 ∧ (a.2.1 = false ∧ b.2.1 = true ∨ a.2.1 = b.2.1 ∧ a.2.2 < b.2.2)
theorem mem_hearN {S : List Key} {T : List UInt8} {M : List (List UInt8)} {h : Hit} : ∀ {n : Nat}, h ∈ hearN S T M n ↔ (0 ≤ h.1 ∧ h.1 < (n : Int)) ∧ ((h.2.1 = false ∧ h.2.2 = T ∧ (h.1, T, false) ∈ S) ∨ (h.2.1 = true ∧ h.2.2 ∈ M ∧ (h.1, h.2.2, true) ∈ S))
  | 0 => by simp [hearN]; omega
  | n + 1 => by
    obtain ⟨c, q, P⟩ := h
    rw [hearN, List.mem_append, List.mem_append, mem_hearN]
    have e1 : (c, q, P) ∈ hearT S T (n : Int) ↔ c = (n : Int) ∧ q = false ∧ P = T ∧ ((n : Int), T, false) ∈ S := by
      unfold hearT
      split
      · rename_i hS
        rw [List.mem_singleton]
        constructor
        · intro e; cases e; exact ⟨rfl, rfl, rfl, hS⟩
        · rintro ⟨rfl, rfl, rfl, -⟩; rfl
      · rename_i hS
        constructor
        · intro e; cases e
        · rintro ⟨-, -, -, e⟩; exact absurd e hS
    have e2 : (c, q, P) ∈ hearP S (n : Int) M ↔ c = (n : Int) ∧ q = true ∧ P ∈ M ∧ ((n : Int), P, true) ∈ S := by
      unfold hearP
      rw [List.mem_map]
      constructor
      · rintro ⟨P', h1, e⟩
        cases e
        obtain ⟨h2, h3⟩ := List.mem_filter.1 h1
        exact ⟨rfl, rfl, h2, of_decide_eq_true h3⟩
      · rintro ⟨rfl, rfl, h2, h3⟩
        exact ⟨P, List.mem_filter.2 ⟨h2, decide_eq_true h3⟩, rfl⟩
    rw [e1, e2]
    dsimp only
    constructor
    · rintro (⟨⟨h1, h2⟩, h3⟩ | ⟨rfl, h2⟩ | ⟨rfl, h2⟩)
      · exact ⟨⟨h1, by omega⟩, h3⟩
      · exact ⟨⟨by omega, by omega⟩, .inl h2⟩
      · exact ⟨⟨by omega, by omega⟩, .inr h2⟩
    · rintro ⟨⟨h1, h2⟩, h3⟩
      by_cases hc : c = (n : Int)
      · subst hc
        rcases h3 with h3 | h3
        · exact .inr (.inl ⟨rfl, h3⟩)
        · exact .inr (.inr ⟨rfl, h3⟩)
      · exact .inl ⟨⟨h1, by omega⟩, h3⟩
theorem hearN_inc (S : List Key) (T : List UInt8) (M : List (List UInt8)) (hM : Inc M) : ∀ n, (hearN S T M n).Pairwise ltH
  | 0 => List.Pairwise.nil
  | n + 1 => by
    rw [hearN, List.pairwise_append, List.pairwise_append]
    refine ⟨hearN_inc S T M hM n, ⟨?_, ?_, ?_⟩, ?_⟩
    · unfold hearT; split
      · exact List.pairwise_singleton _ _
      · exact List.Pairwise.nil
    · unfold hearP
      rw [List.pairwise_map]
      exact (hM.sublist List.filter_sublist).imp (fun {a b} h => .inr ⟨rfl, .inr ⟨rfl, h⟩⟩)
    · intro a ha b hb
      unfold hearT at ha
      split at ha
      · obtain rfl := List.mem_singleton.1 ha
        obtain ⟨P, -, rfl⟩ := List.mem_map.1 hb
        exact .inr ⟨rfl, .inl ⟨rfl, rfl⟩⟩
      · cases ha
    · intro a ha b hb
      have h1 := (mem_hearN.1 ha).1.2
      have h2 : b.1 = (n : Int) := by
        rcases List.mem_append.1 hb with hb | hb
        · unfold hearT at hb
          split at hb
          · rw [List.mem_singleton.1 hb]
          · cases hb
        · obtain ⟨P, -, rfl⟩ := List.mem_map.1 hb
          rfl
      exact .inl (by omega)
end Go.Proofs.Ytjmnddcombepaaa
namespace Go.Proofs.Ytjmnddcombepaaa
open Go.ChangeShapes Go.WideShapes Go.ChangeAt Go.RowKit Go.Maps Go.Sort
set_option linter.unusedVariables false
set_option linter.unusedSimpArgs false
set_option maxRecDepth 100000
set_option maxHeartbeats 4000000
/-- does a key hear a channel? -/
def heardB (G : List UInt8 → List UInt8 → Bool) (T : List UInt8) (k : Key) : Bool := if k.2.2 then G k.2.1 T else decide (k.2.1 = T)
def hitK (k : Key) : Hit := (k.1, k.2.2, k.2.1)
theorem mem_hearL {G : List UInt8 → List UInt8 → Bool} {S : List Key} {T : List UInt8} (hS : ∀ k ∈ S, 0 ≤ k.1 ∧ k.1 < 8) {k : Key} : hitK k ∈ hearL G S T ↔ k ∈ S ∧ heardB G T k = true := by
  obtain ⟨c, P, q⟩ := k
  unfold hearL hitK heardB
  rw [mem_hearN]
  dsimp only
  constructor
  · rintro ⟨-, h⟩
    rcases h with ⟨rfl, rfl, h⟩ | ⟨rfl, h1, h2⟩
    · exact ⟨h, by simp⟩
    · exact ⟨h2, by simpa using (List.mem_filter.1 h1).2⟩
  · rintro ⟨h1, h2⟩
    have h3 := hS _ h1
    refine ⟨⟨h3.1, by have := h3.2; dsimp only at this; omega⟩, ?_⟩
    cases q with
    | false =>
      have : P = T := by simpa using h2
      subst this
      exact .inl ⟨rfl, rfl, h1⟩
    | true => exact .inr ⟨rfl, List.mem_filter.2 ⟨mem_unlikeL.2 ⟨c, h1⟩, by simpa using h2⟩, h1⟩
theorem ltH_irrefl (a : Hit) : ¬ ltH a a := by
  rintro (h | ⟨-, ⟨h1, h2⟩ | ⟨-, h⟩⟩)
  · omega
  · rw [h1] at h2; cases h2
  · exact List.lt_irrefl _ h
theorem hearL_inc (G : List UInt8 → List UInt8 → Bool) (S : List Key) (T : List UInt8) : (hearL G S T).Pairwise ltH :=
  hearN_inc S T _ ((unlikeL_inc S true).sublist List.filter_sublist) 8
theorem hearL_nodup (G : List UInt8 → List UInt8 → Bool) (S : List Key) (T : List UInt8) : (hearL G S T).Nodup :=
  (hearL_inc G S T).imp (fun {a b} h e => by subst e; exact ltH_irrefl a h)
theorem hitK_inj {a b : Key} (h : hitK a = hitK b) : a = b := by
  obtain ⟨a1, a2, a3⟩ := a
  obtain ⟨b1, b2, b3⟩ := b
  unfold hitK at h
  simp only [Prod.mk.injEq] at h ⊢
  exact ⟨h.1, h.2.2, h.2.1⟩
theorem nodup_map_hit : ∀ {l : List Key}, l.Nodup → (l.map hitK).Nodup
  | [], _ => List.Pairwise.nil
  | a :: l, h => by
    rw [List.nodup_cons] at h
    rw [List.map_cons, List.nodup_cons]
    refine ⟨fun hm => ?_, nodup_map_hit h.2⟩
    obtain ⟨b, hb, e⟩ := List.mem_map.1 hm
    exact h.1 (by rw [← hitK_inj e]; exact hb)
theorem hearL_cnt {G : List UInt8 → List UInt8 → Bool} {S L : List Key} {T : List UInt8} (hS : ∀ k ∈ S, 0 ≤ k.1 ∧ k.1 < 8) (hL : L.Nodup) (hp : ∀ k, k ∈ S ↔ k ∈ L) : (hearL G S T).length = (L.filter (heardB G T)).length := by
  have h2 : ((L.filter (heardB G T)).map hitK).Nodup := nodup_map_hit (hL.filter _)
  have hperm : (hearL G S T).Perm ((L.filter (heardB G T)).map hitK) := (List.perm_ext_iff_of_nodup (hearL_nodup G S T) h2).2 (fun h => by
    obtain ⟨c, q, P⟩ := h
    have e : ((c, q, P) : Hit) = hitK (c, P, q) := rfl
    rw [e, mem_hearL hS, List.mem_map]
    constructor
    · rintro ⟨h1, h3⟩
      exact ⟨_, List.mem_filter.2 ⟨(hp _).1 h1, h3⟩, rfl⟩
    · rintro ⟨k, hk, e2⟩
      obtain ⟨h1, h3⟩ := List.mem_filter.1 hk
      have := hitK_inj e2
      subst this
      exact ⟨(hp _).2 h1, h3⟩)
  rw [hperm.length_eq, List.length_map]
theorem chanL_inc (G : List UInt8 → List UInt8 → Bool) (S : List Key) (P : List UInt8) : Inc (chanL G S P) := (unlikeL_inc S false).sublist List.filter_sublist
theorem mem_chanL {G : List UInt8 → List UInt8 → Bool} {S : List Key} {P T : List UInt8} : T ∈ chanL G S P ↔ (∃ c, (c, T, false) ∈ S) ∧ G P T = true := by
  unfold chanL
  rw [List.mem_filter, mem_unlikeL]
end Go.Proofs.Ytjmnddcombepaaa
