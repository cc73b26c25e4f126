/- unlike and joined over lists of their own. -/
import Derived.Test.YtjmnddcombepaaaPos
namespace Go.Proofs.Ytjmnddcombepaaa
open Go.ChangeShapes Go.WideShapes Go.ChangeAt Go.RowKit Go.Maps Go.Sort
set_option linter.unusedVariables false
set_option linter.unusedSimpArgs false
set_option maxRecDepth 100000
set_option maxHeartbeats 8000000
/-- a seat's number and its name's length are Go's -/
def Bnd (l : List Sv) : Prop := ∀ x ∈ l, (-9223372036854775808 ≤ x.1.1 ∧ x.1.1 ≤ 9223372036854775807) ∧ x.1.2.1.length ≤ x.2.2 ∧ x.1.2.1.length ≤ 9223372036854775807
theorem Bnd.un {l : List Sv} (h : Bnd l) (k : Nat) : Bnd (unV (l.take k)) := by
  refine unV_all _ (fun x hx => ?_)
  have h1 := h x (List.mem_of_mem_take hx)
  have h2 := fitV_ok x
  refine ⟨⟨by omega, by omega⟩, ?_, by omega⟩
  show (x.1.2.1.take 64).length ≤ x.2.2
  rw [List.length_take]
  omega
/-- a seat list of its own -/
structure LAt (W wr : World) (base : Nat) (v : Value) (l : List Sv) : Prop where
  bel : Below W.heap.size W wr
  own : OwnV wr base v l
  hb : W.heap.size ≤ base
  nam : ∀ x ∈ l, Named wr x
  bnd : Bnd l
theorem LAt.below {W wr w' : World} {base : Nat} {v : Value} {l : List Sv} (h : LAt W wr base v l) (hb : Below wr.heap.size wr w') : LAt W w' base v l :=
  ⟨h.bel.trans (hb.mono h.bel.size), h.own.below hb, h.hb, fun x hx => (h.nam x hx).below hb, h.bnd⟩
/-- where an unlike list's names lie: below its own block -/
def Near (base : Nat) (x : Sv) : Prop := x.1.2.1 = [] ∨ ∃ b off, x.2.1 = some ⟨b, off, none⟩ ∧ b < base
theorem Named.near {w : World} {x : Sv} (h : Named w x) {base : Nat} (hb : w.heap.size ≤ base) : Near base x := by
  rcases h with h | ⟨b, off, e, hlt, -⟩
  · exact .inl (List.eq_nil_of_length_eq_zero (by rw [← nb_len, h]; rfl))
  · exact .inr ⟨b, off, e, Nat.lt_of_lt_of_le hlt hb⟩
/-- unlike of what came in -/
theorem seats_in (W wr : World) (a : Option Addr) (n cap : Nat) (l : List Sv) (hw : Below W.heap.size W wr) (hl : SvAt wr a l) (hn : n = l.length) (hN : ∀ x ∈ l, Named wr x) (hB : Bnd l) :
    Calls Try.prog 17 #[.slice a n cap] wr fun e w' => ∃ v, e = .returned v ∧ Hid (LAt W w' (wr.heap.size + 1) v (unV (l.take 1000)) ∧ ∀ x ∈ unV (l.take 1000), Near wr.heap.size x) ∧ Hid (Below wr.heap.size wr w') := by
  refine (seats_any wr a n cap l hl hn hN hB).mono (fun e w' ⟨a', n', c', e1, _, h⟩ => ?_)
  obtain ⟨h1, h2⟩ := unhide h
  have hU : ∀ x ∈ unV (l.take 1000), Named wr x := unV_all (P := Named wr) _ (fun y hy => (hN y (List.mem_of_mem_take hy)).fit)
  exact ⟨_, e1, hide ⟨⟨hw.trans (h1.mono hw.size), h2, by have := hw.size; omega, fun x hx => (hU x hx).below h1, hB.un 1000⟩, fun x hx => (hU x hx).near (Nat.le_refl _)⟩, hide h1⟩
/-- unlike of a list of its own -/
theorem seats_own (W wr : World) (base : Nat) (v : Value) (l : List Sv) (h : LAt W wr base v l) :
    Calls Try.prog 17 #[v] wr fun e w' => ∃ v', e = .returned v' ∧ Hid (LAt W w' (wr.heap.size + 1) v' (unV (l.take 1000)) ∧ ∀ x ∈ unV (l.take 1000), Near wr.heap.size x) ∧ Hid (Below wr.heap.size wr w') := by
  obtain ⟨a, n, cp, rfl, hn⟩ := h.own.slice
  exact seats_in W wr a n cp l h.bel h.own.at hn h.nam h.bnd
/-- joined of a list of its own, every seat once -/
theorem joined_own (W wr : World) (base : Nat) (v : Value) (l : List Sv) (h : LAt W wr base v l) (hu : Unl l) (hl : l.length ≤ 1000) :
    Calls Try.prog 18 #[v] wr fun e w' => ∃ p b, e = .returned (.pointer (some ⟨p, 0, none⟩)) ∧ Hid ((∃ D, PostAt w' p b D (l.map (·.1)).reverse) ∧ wr.heap.size ≤ b ∧ Below wr.heap.size wr w') := by
  obtain ⟨a, n, cp, rfl, hn⟩ := h.own.slice
  refine (joined_any wr a n cp l h.own.at hn h.nam hu.ok hl hu.nodup hu.cnt).mono (fun e w' ⟨p, b, D, e1, h2⟩ => ?_)
  obtain ⟨h3, h4, h5⟩ := unhide h2
  exact ⟨p, b, e1, hide ⟨⟨D, h4⟩, h5, h3⟩⟩
/-- alike over a list of its own: two Posts with the same keys -/
theorem alike_own (G : List UInt8 → List UInt8 → Bool) (hG : GlobIs G) (W wr : World) (base p q bp bq : Nat) (v : Value) (l : List Sv) (S S' : List Key) (C : List UInt8) (h : LAt W wr base v l) (hu : Unl l) (hl : l.length ≤ 1000) (hp : ∃ D, PostAt wr p bp D S) (hq : ∃ D, PostAt wr q bq D S') (hS : S.Perm (l.map (·.1))) (hS' : S'.Perm (l.map (·.1))) (hC : C.length ≤ 140737488355328) :
    Calls Try.prog 23 #[.pointer (some ⟨p, 0, none⟩), .pointer (some ⟨q, 0, none⟩), v, .string (bs C)] wr fun e w' => e = .returned (.bool true) ∧ Hid (Below wr.heap.size wr w') := by
  obtain ⟨a, n, cp, rfl, hn⟩ := h.own.slice
  obtain ⟨D, hp⟩ := hp
  obtain ⟨D', hq⟩ := hq
  have hk : ∀ k ∈ l.map (·.1), k.2.1.length ≤ 4096 := fun k hk => by
    obtain ⟨x, hx, rfl⟩ := List.mem_map.1 hk
    have := (hu.ok x hx).2
    omega
  exact alike_any G hG wr p q bp bq D D' S S' a n cp (l.map (·.1)) C hp hq (hS.trans hS'.symm) (by rw [hS.length_eq, List.length_map]; omega) (fun k h => hk k (hS.mem_iff.1 h)) (h.own.at.seats h.nam) (by rw [hn, List.length_map]) hk (by omega) hC
end Go.Proofs.Ytjmnddcombepaaa
