/- Replies as trees; much and heavy of them. -/
import Derived.Test.YtfgemcmiilbodaaDoorWrb
namespace Go.Proofs.YtfgemcmiilbodaaDoor
open Go.ChangeShapes Go.WideShapes Go.ChangeAt Go.RowKit
set_option linter.unusedVariables false
set_option linter.unusedSimpArgs false
set_option maxRecDepth 20000
set_option maxHeartbeats 4000000

structure Nd (α : Type) where
  k : Int
  n : Int
  t : List Nat
  l : List α
/-- replies of a depth below d -/
def Tr : Nat → Type
  | 0 => Empty
  | d + 1 => Nd (Tr d)
def Tr.nd {d : Nat} (x : Tr (d + 1)) : Nd (Tr d) := x
/-- a reply that lies in memory -/
def RpAt (w : World) : (d : Nat) → Tr d → Value → Value → Value → Value → Prop
  | 0, _, _, _, _, _ => False
  | d + 1, x, v0, v1, v2, v3 => (v0 = .int .i64 x.nd.k ∧ -9223372036854775808 ≤ x.nd.k ∧ x.nd.k ≤ 9223372036854775807) ∧ (v1 = .int .i64 x.nd.n ∧ -9223372036854775808 ≤ x.nd.n ∧ x.nd.n ≤ 9223372036854775807) ∧
      (∃ a c, v2 = .slice a x.nd.t.length c ∧ Bytes w a x.nd.t ∧ Small x.nd.t ∧ x.nd.t.length ≤ 140737488351232 ∧ x.nd.t.length ≤ c) ∧
      ∃ a c, v3 = .slice a x.nd.l.length c ∧ x.nd.l.length ≤ 140737488351232 ∧
      (x.nd.l = [] ∨ ∃ b off, a = some ⟨b, off, none⟩ ∧ b < w.heap.size ∧ ∀ i y, x.nd.l[i]? = some y → ∃ u0 u1 u2 u3, w.cell? ⟨b, off + i * 4, none⟩ = some u0 ∧ w.cell? ⟨b, off + i * 4 + 1, none⟩ = some u1 ∧ w.cell? ⟨b, off + i * 4 + 2, none⟩ = some u2 ∧ w.cell? ⟨b, off + i * 4 + 3, none⟩ = some u3 ∧ RpAt w d y u0 u1 u2 u3)
theorem RpAt.below {w w' : World} (hb : Below w.heap.size w w') : ∀ {d : Nat} {x : Tr d} {v0 v1 v2 v3 : Value}, RpAt w d x v0 v1 v2 v3 → RpAt w' d x v0 v1 v2 v3
  | 0, _, _, _, _, _, h => h
  | d + 1, x, v0, v1, v2, v3, ⟨h0, h1, ⟨a2, c2, h2, h2b, h2c⟩, a, c, h3, h4, h5⟩ => by
    refine ⟨h0, h1, ⟨a2, c2, h2, h2b.below hb, h2c⟩, a, c, h3, h4, ?_⟩
    rcases h5 with h | ⟨b, off, e, hlt, hc⟩
    · exact .inl h
    · refine .inr ⟨b, off, e, Nat.lt_of_lt_of_le hlt hb.size, fun i y hi => ?_⟩
      obtain ⟨u0, u1, u2, u3, c0, c1, c2, c3, r⟩ := hc i y hi
      exact ⟨u0, u1, u2, u3, by rw [hb.cell hlt]; exact c0, by rw [hb.cell hlt]; exact c1, by rw [hb.cell hlt]; exact c2, by rw [hb.cell hlt]; exact c3, RpAt.below hb r⟩
/-- what it has: its bytes, and ten for each reply -/
def sz : (d : Nat) → Tr d → Nat
  | 0, _ => 0
  | d + 1, x => 10 + x.nd.t.length + (x.nd.l.map (sz d)).sum
theorem sum_mem {α : Type} (f : α → Nat) : ∀ {l : List α} {y : α}, y ∈ l → f y ≤ (l.map f).sum
  | x :: l, y, h => by
    simp only [List.map_cons, List.sum_cons]
    rcases List.mem_cons.1 h with rfl | h
    · omega
    · have := sum_mem f h; omega
theorem sz_ten : ∀ (d : Nat) (x : Tr d), d ≠ 0 → 10 ≤ sz d x
  | 0, _, h => absurd rfl h
  | d + 1, x, _ => by show 10 ≤ 10 + x.nd.t.length + _; omega
theorem sum_ten {d : Nat} : ∀ (l : List (Tr d)), (∀ y ∈ l, d ≠ 0) → 10 * l.length ≤ (l.map (sz d)).sum
  | [], _ => by simp
  | x :: l, h => by
    have h1 := sz_ten d x (h x (List.mem_cons_self ..))
    have h2 := sum_ten l (fun y hy => h y (List.mem_cons_of_mem _ hy))
    simp only [List.map_cons, List.sum_cons, List.length_cons]
    omega
theorem tr_pos {d : Nat} (x : Tr d) : d ≠ 0 := by
  cases d with
  | zero => exact (nomatch (show Empty from x))
  | succ d => omega
theorem sz_list {d : Nat} (x : Tr (d + 1)) : x.nd.t.length + 10 + 10 * x.nd.l.length ≤ sz (d + 1) x := by
  have := sum_ten x.nd.l (fun y _ => tr_pos y)
  show _ ≤ 10 + x.nd.t.length + (x.nd.l.map (sz d)).sum
  omega
theorem sz_child {d : Nat} (x : Tr (d + 1)) {y : Tr d} (h : y ∈ x.nd.l) : sz d y + 10 + x.nd.t.length ≤ sz (d + 1) x := by
  have := sum_mem (sz d) h
  show _ ≤ 10 + x.nd.t.length + (x.nd.l.map (sz d)).sum
  omega
def sumTo (d : Nat) (l : List (Tr d)) (i : Nat) : Nat := ((l.take i).map (sz d)).sum
theorem sumTo_step {d : Nat} {l : List (Tr d)} {i : Nat} {y : Tr d} (h : l[i]? = some y) : sumTo d l (i + 1) = sumTo d l i + sz d y := by
  unfold sumTo
  rw [List.take_add_one, h]
  simp
theorem sumTo_all {d : Nat} (l : List (Tr d)) (i : Nat) (h : i = l.length) : sumTo d l i = (l.map (sz d)).sum := by
  subst h
  unfold sumTo
  rw [List.take_length]
end Go.Proofs.YtfgemcmiilbodaaDoor
