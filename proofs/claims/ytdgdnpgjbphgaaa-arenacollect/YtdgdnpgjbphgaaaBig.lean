/- A number put behind a list, also where that list is very long. -/
import Derived.Test.YtdgdnpgjbphgaaaSeek
namespace Go.Proofs.Ytdgdnpgjbphgaaa
open Go.ChangeShapes Go.WideShapes Go.ChangeAt Go.RowKit
set_option linter.unusedVariables false
set_option maxRecDepth 100000
set_option maxHeartbeats 2000000

theorem next_big {old : Nat} (h : 256 ≤ old) (hb : old ≤ 17592187092992) : Builtin.nextslicecap (old + 1) old * 8 ≤ 281474976710656 := by
  unfold Builtin.nextslicecap
  rw [if_neg (by omega), if_neg (by omega)]
  simp only [Builtin.growBy]
  repeat' split
  all_goals omega
theorem wp_appended {P : Program} {w : World} {o : Oper} {a : Act} {K : Act → World → Prop} {Q : Exit → Act → World → Prop} (s x : Operand) (t : TypeId) (ho : o.op = .call { callee := .builtin .append, args := #[s, x], argTypes := #[t, t] }) (v vx : Value) (hs : a.eval s = v) (hx : a.eval x = vx) (v' : Value) (w' : World) (hr : (Builtin.append_ #[t, t] o.type #[v, vx]).run P w = .ok v' w') (h : K (a.put o.dst v') w') : o.wp P a w K Q := by
  unfold Oper.wp execOp
  simp only [ho, resolve, invoke, builtin, Sem.run_bind, Sem.run_pure, Result.andThen_ok, List.map_toArray, List.map_cons, List.map_nil, hs, hx, hr]
  exact h
theorem append_big {w : World} {ops : Array Oper} {rest : List Oper} {o : Oper} {a : Act} {Q : Exit → Act → World → Prop} (hgd : o.guard = none) (s x : Operand) (ho : o.op = .call { callee := .builtin .append, args := #[s, x], argTypes := #[30, 30] })
    (base : Nat) (v : Value) (l : List Nat) (q : Nat) (hs : a.eval s = v) (hown : OwnI w base v l) (b : Nat) (hx : a.eval x = .slice (some ⟨b, 0, none⟩) 1 1) (hc : w.cell? ⟨b, 0, none⟩ = some (.int .i64 (q : Int))) (hn : l.length ≤ 17592187092992) (hbase : base ≤ w.heap.size)
    (h : ∀ v' w', OwnI w' base v' (l ++ [q]) → w.grownBy w' v.ownBlock → wpList Try.prog ops Q rest (a.put o.dst v') w') : wpList Try.prog ops Q (o :: rest) a w := by
  have hi0 := Try.info3
  obtain ⟨i0, hi, hy⟩ := Option.map_eq_some_iff.1 hi0
  simp only [Prod.mk.injEq] at hy
  obtain ⟨hy0, hy1, hy2⟩ := hy
  have hnews : ∀ j u, [Value.int .i64 (q : Int)][j]? = some u → w.cell? ((⟨b, 0, none⟩ : Addr).add j) = some u := by
    intro j u hj
    match j, hj with
    | 0, hj => simp at hj; subst hj; simpa [Addr.add] using hc
  have h1 : ∀ u ∈ [Value.int .i64 (q : Int)], u.oneCell' = true := by intro u hu; simp at hu; subst hu; rfl
  by_cases hle : (l.length + 1) * 8 ≤ 140737488355328
  · refine wpList_append_own _ hgd _ _ 30 ho base 3 i0 (.int .i64 0) 1 8 Try.underlying30 hi hy0 hy1 hy2 rfl (by decide) v _ _ hs hown ⟨b, 0, none⟩ 1 1 [.int .i64 (q : Int)] hx rfl hnews h1 (by simp only [maxLen]; omega) hle hbase ?_
    intro v' w' ho' hg _
    refine h v' w' ?_ hg
    unfold OwnI
    rw [List.length_append, List.length_singleton]
    have : icells (l ++ [q]) = icells l ++ [.int .i64 (q : Int)] := by simp [icells]
    rw [this]
    exact ho'
  · refine wpList_plain hgd fun _ hK => ?_
    have hown' := hown
    have hlen : (icells l).length = l.length := by simp [icells]
    rcases hown.2 with ⟨rfl, h0⟩ | ⟨g, cap, cur, rfl, hbg, hg, hnc, hcm, hcs, htake⟩
    · omega
    · have happ : icells (l ++ [q]) = icells l ++ [.int .i64 (q : Int)] := by simp [icells]
      by_cases hroom : l.length + 1 ≤ cap
      · have hr := run_append_room (P := Try.prog) w 30 o.type 3 i0 Try.underlying30 hi g l.length cap cur hg ⟨b, 0, none⟩ 1 1 [.int .i64 (q : Int)] (by rw [hy1]; rfl) hnews h1 hroom (by rw [hy1, hcs]; simp; omega)
        refine wp_appended s x 30 ho _ _ hs hx _ _ hr (hK _ _ (h _ _ ?_ ?_))
        · refine ⟨by simp [icells], .inr ⟨g, cap, _, by simp, hbg, setRow_heap w g cur _ 3 _ hg, by simpa using hroom, hcm, ?_, ?_⟩⟩
          · rw [hy1]
            simp only [List.size_toArray, List.length_append, List.length_take, List.length_drop, Array.length_toList, List.length_singleton]
            omega
          · rw [hy1, htake, happ]
            have e1 : (l ++ [q]).length * 1 = (icells l ++ [Value.int .i64 (q : Int)]).length := by simp [icells]
            rw [e1]
            exact List.take_left
        · exact ⟨rfl, rfl, rfl, by simp, fun k _ hk => setRow_other w g k _ (fun e => hk (by simp [Value.ownBlock, e]))⟩
      · have hcl : cap = l.length := by omega
        subst hcl
        have holds : ∀ j u, (icells l)[j]? = some u → w.cell? ((⟨g, 0, none⟩ : Addr).add j) = some u := World.ownsRow.cells (g := g) hown rfl
        have hr := run_append_grow (P := Try.prog) w 30 o.type 3 i0 (.int .i64 0) Try.underlying30 hi hy0 ⟨g, 0, none⟩ l.length l.length (icells l) (by rw [hy1]; omega) holds ⟨b, 0, none⟩ 1 1 [.int .i64 (q : Int)] (by rw [hy1]; rfl) hnews (by omega) (by omega) (by rw [hy2]; exact next_big (by omega) hn)
        have hge := grownCap_ge w (l.length + 1) l.length 3
        have hcm2 : grownCap w (l.length + 1) l.length 3 ≤ maxLen := grownCap_le_maxLen w (l.length + 1) l.length 3 (by simp only [maxLen]; omega)
        refine wp_appended s x 30 ho _ _ hs hx _ _ hr (hK _ _ (h _ _ ?_ ?_))
        · refine ⟨by simp [icells], .inr ⟨w.heap.size, _, _, by simp, hbase, heap_alloc_new w.drew _, by simpa using hge, hcm2, ?_, ?_⟩⟩
          · simp only [Array.size_append, List.size_toArray, size_zeroCells, hlen, List.length_singleton]
            show l.length + 1 + (grownCap w (l.length + 1) l.length 3 - (l.length + 1)) * 1 = _
            omega
          · rw [happ]
            simp only [Array.toList_append, List.append_assoc]
            have e1 : (l ++ [q]).length * 1 = (icells l ++ [Value.int .i64 (q : Int)]).length := by simp [icells]
            rw [← List.append_assoc, e1]
            exact List.take_left
        · exact ⟨rfl, rfl, rfl, by simp, fun k hk _ => heap_alloc_old w.drew _ hk⟩
end Go.Proofs.Ytdgdnpgjbphgaaa
