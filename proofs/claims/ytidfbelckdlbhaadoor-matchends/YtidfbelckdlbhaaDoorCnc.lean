/- slices.Grow at nil, slices.Concat of three. -/
import Derived.Test.YtidfbelckdlbhaaDoorCln
import Derived.Lib.AppendZeros
namespace Go.Proofs.YtidfbelckdlbhaaDoor
open Go.ChangeShapes Go.WideShapes Go.ChangeAt Go.RowKit
set_option linter.unusedVariables false
set_option maxRecDepth 20000
set_option maxHeartbeats 1000000

/-- append(v, m...): v is the call's own, m lies wherever -/
theorem wpList_app {w : World} {ops : Array Oper} {rest : List Oper} {o : Oper} {act : Act} {Q : Exit → Act → World → Prop} (hgd : o.guard = none) (s x : Operand)
    (ho : o.op = .call { callee := .builtin .append, args := #[s, x], argTypes := #[22, 22] })
    (base : Nat) (v : Value) (l m : List Nat) (a : Option Addr) (n c : Nat) (hs : act.eval s = v) (hx : act.eval x = .slice a n c) (hO : OwnB w base v l) (hn : n = m.length) (hB : Bytes w a m) (hz : a = none → c = 0) (hlen : l.length + m.length ≤ 140737488355328) (hbase : base ≤ w.heap.size)
    (h : ∀ v' w', OwnB w' base v' (l ++ m) → Below base w w' → wpList Tryd.prog ops Q rest (act.put o.dst v') w') : wpList Tryd.prog ops Q (o :: rest) act w := by
  obtain ⟨i0, hi, hz0, hz1, hz2⟩ := info_parts Tryd.info5
  subst hn
  cases a with
  | none =>
    have hm : m = [] := by
      rcases hB with h | ⟨b, off, h, _⟩
      · exact h
      · cases h
    subst hm
    obtain rfl := hz rfl
    refine wpList_append_own_none hgd s x 22 ho base 5 i0 1 Tryd.underlying22 hi v l.length (cellsOf l) hs hO hx ?_
    refine h v w ?_ (Below.refl _ _)
    rw [List.append_nil]
    exact hO
  | some ad =>
    have hnews : ∀ j u, (cellsOf m)[j]? = some u → w.cell? (ad.add j) = some u := by
      intro j u hu
      obtain ⟨hj, rfl⟩ := cellsOf_get m j u hu
      rcases hB with rfl | ⟨b, off, h, hb, hc⟩
      · simp at hj
      · cases h
        rw [add_plain]; exact hc j hj
    refine wpList_append_own _ hgd s x 22 ho base 5 i0 (.int .u8 0) 1 1 Tryd.underlying22 hi hz0 hz1 hz2 rfl (by decide) v l.length (cellsOf l) hs hO ad m.length c (cellsOf m) hx (by simp [cellsOf]) hnews (cellsOf_one m) (by simp [maxLen]; omega) (by omega) hbase ?_
    intro v' w' h1 h2 _
    refine h v' w' ?_ ((Below.refl _ _).grown h2 hbase (fun k hk => ?_))
    · unfold OwnB
      rw [List.length_append]
      have e : cellsOf (l ++ m) = cellsOf l ++ cellsOf m := by simp [cellsOf]
      rw [e]
      exact h1
    · rcases hO.2 with ⟨rfl, _⟩ | ⟨g, cap, cur, rfl, hb, _⟩
      · simp [Value.ownBlock] at hk
      · simp [Value.ownBlock] at hk
        omega

end Go.Proofs.YtidfbelckdlbhaaDoor
