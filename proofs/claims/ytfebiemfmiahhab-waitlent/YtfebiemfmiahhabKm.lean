/- A list of waiters in memory, sorted. -/
import Derived.Test.YtfebiemfmiahhabKl
import Derived.Shelf.SlSortCmp.NoneTotal
namespace Go.Proofs.Ytfebiemfmiahhab
open Go.ChangeShapes Go.WideShapes Go.ChangeAt Go.RowKit Go.Maps
set_option linter.unusedVariables false
set_option linter.unusedSimpArgs false
set_option maxRecDepth 100000
set_option maxHeartbeats 8000000
def enC (e : En) : List Value := enc5 (w5 e)
theorem enC_len (e : En) : (enC e).length = 5 := rfl
theorem flatE_len (l : List En) : (l.flatMap enC).length = l.length * 5 := by
  induction l with
  | nil => rfl
  | cons y r ih => rw [List.flatMap_cons, List.length_append, ih, enC_len, List.length_cons]; omega
theorem flatE_get (l : List En) (i : Nat) (x : En) (hi : l[i]? = some x) (j : Nat) (hj : j < 5) : (l.flatMap enC)[i * 5 + j]? = (enC x)[j]? := by
  induction l generalizing i with
  | nil => simp at hi
  | cons y r ih =>
    rw [List.flatMap_cons]
    cases i with
    | zero =>
      simp at hi
      subst hi
      rw [List.getElem?_append_left (by rw [enC_len]; omega)]
      simp
    | succ i =>
      rw [List.getElem?_append_right (by rw [enC_len]; omega), enC_len, show (i + 1) * 5 + j - 5 = i * 5 + j by omega]
      exact ih i (by simpa using hi)
/-- a list of waiters of our own -/
def OwnW (w : World) (base : Nat) (v : Value) (F : List En) : Prop := w.ownsRow base 73 5 v F.length (F.flatMap enC)
/-- its cells -/
def CelW (w : World) (g : Nat) (F : List En) : Prop := ∀ (i : Nat) (e : En), F[i]? = some e → ∀ j u, (enC e)[j]? = some u → w.cell? ⟨g, i * 5 + j, none⟩ = some u
theorem OwnW.blk {w : World} {base : Nat} {v : Value} {F : List En} (h : OwnW w base v F) (hne : F ≠ []) : ∃ g cap cur, v = .slice (some ⟨g, 0, none⟩) F.length cap ∧ base ≤ g ∧ w.heap[g]? = some (.cells cur 73 (0, 0)) ∧ F.length ≤ cap ∧ CelW w g F := by
  have hc := h
  rcases h.2 with ⟨-, h0⟩ | ⟨g, cap, cur, rfl, hb, hg, hn, -, hs, ht⟩
  · exact absurd (List.eq_nil_of_length_eq_zero h0) hne
  · refine ⟨g, cap, cur, rfl, hb, hg, hn, fun i e he j u hu => ?_⟩
    have hi : i < F.length := (List.getElem?_eq_some_iff.1 he).1
    have hj : j < 5 := by
      have := (List.getElem?_eq_some_iff.1 hu).1
      rwa [enC_len] at this
    have h1 := flatE_get F i e he j hj
    rw [hu] at h1
    have h2 := World.ownsRow.cellAt hc (i * 5 + j) (by omega)
    rw [h2, h1]
theorem perm_map_inv {α β : Type} (f : α → β) {l : List β} {F : List α} (h : l.Perm (F.map f)) : ∃ F1 : List α, F1.Perm F ∧ l = F1.map f := by
  generalize hM : F.map f = M at h
  induction h generalizing F with
  | nil => exact ⟨[], by rw [List.map_eq_nil_iff.1 hM], rfl⟩
  | cons x h ih =>
    cases F with
    | nil => cases hM
    | cons y r =>
      rw [List.map_cons, List.cons.injEq] at hM
      obtain ⟨F1, h1, h2⟩ := ih hM.2
      exact ⟨y :: F1, h1.cons y, by rw [List.map_cons, hM.1, h2]⟩
  | swap x y l =>
    match F, hM with
    | a :: b :: r, hM =>
      rw [List.map_cons, List.map_cons, List.cons.injEq, List.cons.injEq] at hM
      exact ⟨b :: a :: r, List.Perm.swap a b r, by rw [List.map_cons, List.map_cons, hM.1, hM.2.1, hM.2.2]⟩
  | trans h1 h2 ih1 ih2 =>
    obtain ⟨F2, a1, a2⟩ := ih2 hM
    obtain ⟨F1, b1, b2⟩ := ih1 a2.symm
    exact ⟨F1, b1.trans a1, b2⟩
theorem sort_none (w : World) (fv : Value) : Calls Try.prog 53 #[.slice none 0 0, fv] w fun e w' => e = .returned (.tuple #[]) ∧ w' = w := by
  have h := AnyF.slices_SortFunc_none Try.sortW none 0 fv w
  exact h
theorem hlen12 (n : Nat) (W : World) (h : n ≤ 12) : Calls Try.prog 61 #[.int .u64 n] W fun e w' => (∃ l : Int, e = .returned (.int .i64 l)) ∧ w' = W :=
  (Try.bits_Len n W (by omega) (by omega)).mono fun _ _ ⟨he, hw⟩ => ⟨⟨_, he⟩, hw⟩
/-- sorted -/
theorem sort_some (w : World) (base g cap fo : Nat) (F : List En) (cf : W5 → W5 → Int) (hS : Sort.SWO (ltOf cf)) (eg : ∀ args w, (callFunc fo args).run Try.prog w = .ok (.enter fo args) w) (CMP : ∀ W x y, Calls Try.prog fo #[.agg (enc5 x).toArray, .agg (enc5 y).toArray] W fun e w' => e = .returned (.int .i64 (cf x y)) ∧ Gw W w') (h : OwnW w base (.slice (some ⟨g, 0, none⟩) F.length cap) F) (hne : F ≠ []) (h8 : F.length ≤ 8) (hb : base ≤ g) :
    Calls Try.prog 53 #[.slice (some ⟨g, 0, none⟩) F.length cap, .func (.func fo) #[] #[]] w fun e w' => e = .returned (.tuple #[]) ∧ Hid (∃ F1, F1.Perm F ∧ F1.Pairwise (fun a b => ltOf cf (w5 b) (w5 a) = false) ∧ CelW w' g F1 ∧ Below base w w' ∧ g < w.heap.size) := by
  obtain ⟨g', cap', cur, e, -, hg, hn, hC⟩ := h.blk hne
  cases e
  have hgl := blk_lt hg
  obtain ⟨d, hd⟩ : ∃ d, d = (F.map w5).toArray := ⟨_, rfl⟩
  have hds : d.size = F.length := by rw [hd]; simp
  have hdj : ∀ i (hi : i < F.length), d[i]! = w5 F[i] := fun i hi => by rw [hd, getElem!_def, List.getElem?_toArray, List.getElem?_map, List.getElem?_eq_getElem hi]; rfl
  have hH : Sort.HoldsK enc5 5 w g 0 d := by
    intro t ht
    rw [Sort.size_flatK, hds] at ht
    have hi : t / 5 < F.length := by omega
    refine ⟨?_, by simp [World.frozen?, hg]⟩
    rw [Sort.get_flatK enc5 5 d t (by rw [hds]; exact ht), hdj _ hi, Nat.zero_add]
    have hu : (enC F[t / 5])[t % 5]? = some (enC F[t / 5])[t % 5]! := by
      rw [getElem!_def]
      have : t % 5 < (enC F[t / 5]).length := by rw [enC_len]; omega
      rw [List.getElem?_eq_getElem this]
    have h1 := hC (t / 5) _ (List.getElem?_eq_getElem hi) (t % 5) _ hu
    rw [show t / 5 * 5 + t % 5 = t by omega] at h1
    exact h1
  have hcon := AnyQ.slices_SortFunc_small_sorted Try.sortW 5 Try.isAgg73 Try.sizeOf73 enc5 (fun _ => rfl) (fun x v hv => by simp [enc5] at hv; rcases hv with rfl | rfl | rfl | rfl | rfl <;> rfl) cf fo #[] hS g 0 cap d w eg (fun m os dk _ x y => (CMP _ x y).mono (fun e w' ⟨e1, e2⟩ => ⟨e1, e2⟩)) hH hgl (by omega) hlen12
  change Calls Try.prog 53 _ _ _ at hcon
  rw [hds] at hcon
  refine hcon.mono (fun e w' ⟨e1, d', n, os, hp, hs, hw⟩ => ⟨e1, hide ?_⟩)
  have hd's : d'.size = F.length := hp.1.trans hds
  have hpl : d'.toList.Perm (F.map w5) := by
    have h1 := hp.2.2
    rw [Array.extract_eq_self_of_le (by omega), Array.extract_eq_self_of_le (by omega)] at h1
    rw [hd] at h1
    exact h1
  obtain ⟨F1, hF1, hl1⟩ := perm_map_inv w5 hpl
  have hF1l : F1.length = F.length := hF1.length_eq
  have hd'j : ∀ i (hi : i < F1.length), d'[i]! = w5 F1[i] := fun i hi => by
    rw [getElem!_def, ← Array.getElem?_toList, hl1, List.getElem?_map, List.getElem?_eq_getElem hi]
    rfl
  have hH' : Sort.HoldsK enc5 5 w' g 0 d' := by
    rw [hw]
    unfold sortWorldK
    refine Sort.holdsK_grow enc5 5 _ _ g 0 d' (by simp [Sort.putRowK]; exact hgl) ?_
    exact Sort.holdsK_putRowK enc5 5 (Sort.ahead w n) g 0 d d' hH (by omega)
  refine ⟨F1, hF1, ?_, fun i x hx j u hu => ?_, ?_, hgl⟩
  · rw [List.pairwise_iff_getElem]
    intro i j hi hj hij
    have := hs i j (Nat.zero_le _) hij (by omega)
    rw [hd'j i hi, hd'j j hj] at this
    exact this
  · have hi : i < F1.length := (List.getElem?_eq_some_iff.1 hx).1
    have hj : j < 5 := by
      have := (List.getElem?_eq_some_iff.1 hu).1
      rwa [enC_len] at this
    have h1 := (hH' (i * 5 + j) (by rw [Sort.size_flatK, hd's]; omega)).1
    rw [Sort.get_flatK enc5 5 d' _ (by rw [hd's]; omega), Nat.zero_add, show (i * 5 + j) / 5 = i by omega, show (i * 5 + j) % 5 = j by omega, hd'j i hi] at h1
    rw [h1]
    have hx' : F1[i] = x := by
      have := List.getElem?_eq_getElem hi
      rw [hx] at this
      injection this with this
      exact this.symm
    show some (id (enc5 (w5 F1[i]))[j]!) = some u
    rw [hx', getElem!_def]
    change (enc5 (w5 x))[j]? = some u at hu
    rw [hu]
    rfl
  · rw [hw]
    unfold sortWorldK Sort.putRowK
    refine ⟨rfl, rfl, rfl, by simp [Sort.grow], fun k hk => ?_⟩
    have hkg : k ≠ g := by omega
    have hkl : k < w.heap.size := by omega
    have h1 : (Sort.grow (Sort.putRow id (Sort.ahead w n) g 0 (Sort.flatK enc5 5 d')) os).heap[k]? = (Sort.putRow id (Sort.ahead w n) g 0 (Sort.flatK enc5 5 d')).heap[k]? := by
      simp only [Sort.grow]
      exact Array.getElem?_append_left (by simp; exact hkl)
    rw [h1]
    simp [Sort.putRow, Sort.mapBlock, Array.getElem?_modify, Ne.symm hkg, Sort.ahead]
end Go.Proofs.Ytfebiemfmiahhab
