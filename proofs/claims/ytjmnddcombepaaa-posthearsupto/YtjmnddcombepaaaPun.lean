/- What unlike's list holds; a list of its own as seats in memory. -/
import Derived.Test.YtjmnddcombepaaaPjo
namespace Go.Proofs.Ytjmnddcombepaaa
open Go.ChangeShapes Go.WideShapes Go.ChangeAt Go.RowKit Go.Maps Go.Sort
set_option linter.unusedVariables false
set_option linter.unusedSimpArgs false

structure Unl (o : List Sv) : Prop where
  nodup : (o.map (·.1)).Nodup
  cnt : ∀ c, cnts o c ≤ 64
  ok : ∀ y ∈ o, (0 ≤ y.1.1 ∧ y.1.1 < 8) ∧ y.1.2.1.length ≤ 64
theorem Unl.add {o : List Sv} (h : Unl o) (x : Sv) (hx : (0 ≤ x.1.1 ∧ x.1.1 < 8) ∧ x.1.2.1.length ≤ 64) : Unl (addV o x) := by
  unfold addV
  split
  · exact h
  · rename_i hne
    refine ⟨?_, fun c => ?_, fun y hy => ?_⟩
    · rw [List.map_append, List.nodup_append]
      refine ⟨h.nodup, by simp, fun a ha b hb e => hne (.inr ?_)⟩
      have hb' : b = x.1 := by simpa using hb
      rw [← hb', ← e]
      exact ha
    · unfold cnts
      rw [List.map_append, List.map_cons, List.map_nil, cntC_snoc]
      by_cases e : x.1.1 = c
      · rw [if_pos e, ← e]
        have : ¬ 64 ≤ cnts o x.1.1 := fun e => hne (.inl e)
        unfold cnts at this
        omega
      · rw [if_neg e]
        exact h.cnt c
    · rcases List.mem_append.1 hy with h1 | h1
      · exact h.ok y h1
      · rw [List.mem_singleton.1 h1]; exact hx
theorem fitV_ok (x : Sv) : (0 ≤ (fitV x).1.1 ∧ (fitV x).1.1 < 8) ∧ (fitV x).1.2.1.length ≤ 64 := by
  unfold fitV
  refine ⟨⟨Int.emod_nonneg _ (by decide), Int.emod_lt_of_pos _ (by decide)⟩, ?_⟩
  simp only [List.length_take]
  omega
theorem unV_ok (l : List Sv) : Unl (unV l) := by
  unfold unV
  suffices h : ∀ o : List Sv, Unl o → Unl (l.foldl (fun o x => addV o (fitV x)) o) from h [] ⟨by simp, fun c => by simp [cnts, cntC], by simp⟩
  induction l with
  | nil => intro o ho; exact ho
  | cons x l ih =>
    intro o ho
    exact ih _ (ho.add _ (fitV_ok x))
theorem Unl.perm {o o' : List Sv} (h : Unl o) (hp : o.Perm o') : Unl o' :=
  ⟨((hp.map (·.1)).nodup_iff).1 h.nodup, fun c => by
    have := cntC_perm (hp.map (·.1)) c
    unfold cnts
    rw [← this]
    exact h.cnt c, fun y hy => h.ok y (hp.mem_iff.2 hy)⟩
/-- a list that lies in a block of its own -/
theorem OwnV.at {w : World} {base : Nat} {a : Option Addr} {n cap : Nat} {l : List Sv} (h : OwnV w base (.slice a n cap) l) : SvAt w a l := by
  cases l with
  | nil => exact .inl rfl
  | cons x0 r =>
    obtain ⟨g, rfl, -, hgl, -⟩ := h.cell (i := 0) (x := x0) rfl
    refine .inr ⟨g, 0, rfl, hgl, fun i x hx => ?_⟩
    obtain ⟨g', e, -, -, h0, h1, h2⟩ := h.cell hx
    cases e
    rw [Nat.zero_add]
    exact ⟨h0, h1, h2⟩
theorem SvAt.seats {w : World} {a : Option Addr} {l : List Sv} (h : SvAt w a l) (hN : ∀ x ∈ l, Named w x) : SeatsAt w a (l.map (·.1)) := by
  rcases h with h | ⟨b, off, e, hb, hc⟩
  · exact .inl (by rw [h]; rfl)
  · refine .inr ⟨b, off, e, hb, fun i k hk => ?_⟩
    rw [List.getElem?_map] at hk
    cases hx : l[i]? with
    | none => rw [hx] at hk; cases hk
    | some x =>
      rw [hx] at hk
      obtain rfl : x.1 = k := by simpa using hk
      obtain ⟨h0, h1, h2⟩ := hc i x hx
      exact ⟨h0, ⟨x.2.1, x.2.2, h1, hN x (List.mem_of_getElem? hx)⟩, h2⟩
end Go.Proofs.Ytjmnddcombepaaa
