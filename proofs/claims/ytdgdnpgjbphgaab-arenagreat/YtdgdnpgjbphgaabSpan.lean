/- Lists that may begin inside a block, if they have no spare room there. -/
import Derived.Test.YtdgdnpgjbphgaabLine
namespace Go.Proofs.Ytdgdnpgjbphgaab
open Go.ChangeShapes Go.WideShapes Go.ChangeAt Go.RowKit
set_option linter.unusedVariables false
set_option maxRecDepth 100000
set_option maxHeartbeats 2000000

def offOf : Value → Nat
  | .slice (some a) _ _ => a.off
  | _ => 0
/-- a list that begins its block, or a full one inside of it, or one without room at all -/
def Span (w : World) (e : TypeId) (v : Value) (n : Nat) (f : Nat → Value) : Prop :=
  Line w e v n f ∨ (∃ g o cur, o ≠ 0 ∧ v = .slice (some ⟨g, o, none⟩) n n ∧ w.heap[g]? = some (.cells cur e (0, 0)) ∧ n ≤ maxLen ∧ o + n ≤ cur.size ∧ ∀ j, j < n → cur[o + j]? = some (f j)) ∨ ∃ g x, n = 0 ∧ v = .slice (some ⟨g, 0, none⟩) 0 0 ∧ w.heap[g]? = some x
/-- the tag of the memory of a list of mark m -/
def code (m c : Nat) (v : Value) : Nat := if offOf v = 0 then 10 + 2 * m + c else 5 + c
theorem code_ne (m c : Nat) (v : Value) (k : Nat) (h : k ≤ 4) : code m c v ≠ k := by unfold code; split <;> omega
theorem code_low (m c : Nat) (v : Value) : 5 ≤ code m c v := by unfold code; split <;> omega
theorem Line.off {w : World} {e : TypeId} {v : Value} {n : Nat} {f : Nat → Value} (h : Line w e v n f) : offOf v = 0 := by
  rcases h with ⟨rfl, _⟩ | ⟨g, cap, cur, rfl, _⟩ <;> rfl
theorem Line.code {w : World} {e : TypeId} {v : Value} {n : Nat} {f : Nat → Value} (h : Line w e v n f) (m c : Nat) : code m c v = 10 + 2 * m + c := by
  unfold Go.Proofs.Ytdgdnpgjbphgaab.code
  rw [if_pos h.off]
theorem Line.span {w : World} {e : TypeId} {v : Value} {n : Nat} {f : Nat → Value} (h : Line w e v n f) : Span w e v n f := .inl h
theorem Span.same {w w' : World} {e : TypeId} {v : Value} {n : Nat} {f : Nat → Value} (h : Span w e v n f) (hb : ∀ g, v.ownBlock = some g → w'.heap[g]? = w.heap[g]?) : Span w' e v n f := by
  rcases h with h | ⟨g, o, cur, h0, rfl, hg, r⟩ | ⟨g, x, h0, rfl, hg⟩
  · exact .inl (h.same hb)
  · exact .inr (.inl ⟨g, o, cur, h0, rfl, by rw [hb g rfl]; exact hg, r⟩)
  · exact .inr (.inr ⟨g, x, h0, rfl, by rw [hb g rfl]; exact hg⟩)
theorem Span.lt {w : World} {e : TypeId} {v : Value} {n : Nat} {f : Nat → Value} (h : Span w e v n f) : ∀ g, v.ownBlock = some g → g < w.heap.size := by
  intro k hk
  rcases h with h | ⟨g, o, cur, h0, rfl, hg, r⟩ | ⟨g, x, h0, rfl, hg⟩
  · exact h.lt k hk
  · simp [Value.ownBlock] at hk
    subst hk
    exact (Array.getElem?_eq_some_iff.1 hg).1
  · simp [Value.ownBlock] at hk
    subst hk
    exact (Array.getElem?_eq_some_iff.1 hg).1
theorem Span.shape {w : World} {e : TypeId} {v : Value} {n : Nat} {f : Nat → Value} (h : Span w e v n f) : ∃ a cap, v = .slice a n cap := by
  rcases h with h | ⟨g, o, cur, h0, rfl, hg, r⟩ | ⟨g, x, h0, rfl, hg⟩
  · exact h.shape
  · exact ⟨_, n, rfl⟩
  · exact ⟨_, 0, by rw [h0]⟩
theorem Span.congr {w : World} {e : TypeId} {v : Value} {n : Nat} {f f' : Nat → Value} (h : Span w e v n f) (hf : ∀ j, j < n → f j = f' j) : Span w e v n f' := by
  rcases h with h | ⟨g, o, cur, h0, rfl, hg, h1, h2, hh⟩ | h
  · exact .inl (h.congr hf)
  · exact .inr (.inl ⟨g, o, cur, h0, rfl, hg, h1, h2, fun j hj => by rw [hh j hj, hf j hj]⟩)
  · exact .inr (.inr h)
theorem Span.at {w : World} {e : TypeId} {v : Value} {n : Nat} {f : Nat → Value} (h : Span w e v n f) (hn : 0 < n) : ∃ g o cap, v = .slice (some ⟨g, o, none⟩) n cap ∧ v.ownBlock = some g ∧ ∀ j, j < n → w.cell? ⟨g, o + j, none⟩ = some (f j) ∧ w.frozen? ⟨g, o + j, none⟩ = false := by
  rcases h with h | ⟨g, o, cur, h0, rfl, hg, h1, h2, hh⟩ | ⟨g, x, h0, rfl, hg⟩
  rotate_left 2
  · omega
  · obtain ⟨g, cap, hv, hb, hc⟩ := h.at hn
    exact ⟨g, 0, cap, hv, hb, fun j hj => by rw [Nat.zero_add]; exact hc j hj⟩
  · refine ⟨g, o, n, rfl, rfl, fun j hj => ⟨?_, ?_⟩⟩
    · simp only [World.cell?, hg]
      exact hh j hj
    · simp only [World.frozen?, hg]
      simp
theorem Span.put {w : World} {e : TypeId} {g o n cap : Nat} {f : Nat → Value} (h : Span w e (.slice (some ⟨g, o, none⟩) n cap) n f) (k : Nat) (u : Value) (hk : k < n) : Span (w.setCell ⟨g, o + k, none⟩ u) e (.slice (some ⟨g, o, none⟩) n cap) n (fun j => if j = k then u else f j) := by
  rcases h with h | ⟨g', o', cur, h0, hv, hg, h1, h2, hh⟩ | ⟨g', x, h0, hv, hg⟩
  rotate_left 2
  · omega
  · have h3 := h.off
    have h3' : o = 0 := h3
    subst h3'
    rw [Nat.zero_add]
    exact .inl (h.put rfl k u hk)
  · simp only [Value.slice.injEq, Option.some.injEq, Addr.mk.injEq] at hv
    obtain ⟨⟨rfl, rfl, _⟩, _, rfl⟩ := hv
    refine .inr (.inl ⟨g, o, cur.setIfInBounds (o + k) u, h0, rfl, setCell_block w g (o + k) u cur e _ hg, h1, by simpa using h2, fun j hj => ?_⟩)
    rw [Array.getElem?_setIfInBounds]
    show _ = some (if j = k then u else f j)
    by_cases e1 : k = j
    · subst e1
      rw [if_pos rfl, if_pos (by omega), if_pos rfl]
    · rw [if_neg (by omega), if_neg (fun h => e1 h.symm), hh j hj]
/-- another list, that may lie in the same memory if it agrees -/
theorem Grew.span {e e2 : TypeId} {n n2 : Nat} {u : Value} {w w' : World} {v v' v2 : Value} {f2 : Nat → Value} (h : Grew e n u w w' v v') (h2 : Span w e2 v2 n2 f2) (hs : v2.ownBlock = v.ownBlock → v.ownBlock ≠ none → offOf v2 = 0 ∧ (n < n2 → f2 n = u)) : Span w' e2 v2 n2 f2 := by
  rcases h2 with h2 | ⟨g2, o, cur2, h0, rfl, hg2, h1, h3, hh⟩ | ⟨g2, x, h0, rfl, hg2⟩
  rotate_left 2
  · rcases h.how with ⟨g, cur, _, _, _, ⟨cur', hw', _⟩, _, hb⟩ | ⟨_, _, hb⟩
    · by_cases e1 : g2 = g
      · subst e1; exact .inr (.inr ⟨g2, _, h0, rfl, hw'⟩)
      · exact .inr (.inr ⟨g2, x, h0, rfl, by rw [hb g2 e1]; exact hg2⟩)
    · exact .inr (.inr ⟨g2, x, h0, rfl, by rw [hb g2 (Array.getElem?_eq_some_iff.1 hg2).1]; exact hg2⟩)
  · refine .inl (h.line h2 (fun e1 hlt => ?_))
    cases hv : v.ownBlock with
    | none =>
      rw [hv] at e1
      rcases h2 with ⟨_, hz⟩ | ⟨q, cap, cur, rfl, _⟩
      · omega
      · cases e1
    | some q => exact (hs e1 (by rw [hv]; simp)).2 hlt
  · refine .inr (.inl ⟨g2, o, cur2, h0, rfl, ?_, h1, h3, hh⟩)
    rw [h.other g2 (Array.getElem?_eq_some_iff.1 hg2).1 (fun e1 => h0 (hs e1.symm (by rw [e1]; simp)).1)]
    exact hg2
theorem Grew.apartS {e e2 : TypeId} {n n2 : Nat} {u : Value} {w w' : World} {v v' v2 : Value} {f2 : Nat → Value} (h : Grew e n u w w' v v') (h2 : Span w e2 v2 n2 f2) (hne : ∀ q, v.ownBlock = some q → v2.ownBlock ≠ some q) : Span w' e2 v2 n2 f2 :=
  h2.same (fun q hq => h.other q (h2.lt q hq) (fun e => hne q e hq))
theorem append_span {P : Program} {w : World} {ops : Array Oper} {rest : List Oper} {o : Oper} {a : Act} {Q : Exit → Act → World → Prop} (hgd : o.guard = none) (s x : Operand) (t : TypeId) (ho : o.op = .call { callee := .builtin .append, args := #[s, x], argTypes := #[t, t] })
    (e : TypeId) (i : TypeInfo) (z : Value) (bytes : Nat) (ht : P.underlying t = some (.slice e)) (hi : P.info? e = some i) (hz : i.zero = some z) (hsize : i.size = 1) (hby : i.bytes = bytes) (hzs : z.cells.size = 1)
    (v : Value) (n : Nat) (f : Nat → Value) (hs : a.eval s = v) (hown : Span w e v n f) (b : Nat) (hx : a.eval x = .slice (some ⟨b, 0, none⟩) 1 1) (u : Value) (hc : w.cell? ⟨b, 0, none⟩ = some u) (h1 : u.oneCell' = true) (hn : (n + 1) * bytes ≤ 140737488355328) (hn2 : n + 1 ≤ 9007199254740992)
    (h : ∀ v0 v' w', Line w' e v' (n + 1) (fun j => if j < n then f j else u) → Grew e n u w w' v0 v' → (v0 = v ∧ offOf v = 0 ∨ v0 = .slice none 0 0) → wpList P ops Q rest (a.put o.dst v') w') : wpList P ops Q (o :: rest) a w := by
  rcases hown with hl | ⟨g, og, cur, h0, rfl, hg, hcm, hcs, hf⟩ | ⟨g, x0, h0, rfl, hg⟩
  rotate_left 2
  · subst h0
    have hnews : ∀ j x, [u][j]? = some x → w.cell? ((⟨b, 0, none⟩ : Addr).add j) = some x := by
      intro j x hj
      match j, hj with
      | 0, hj => simp at hj; subst hj; simpa [Addr.add] using hc
    refine wpList_plain hgd fun _ hK => ?_
    have hml : 0 + 1 ≤ maxLen := by simp only [maxLen]; omega
    have hr := run_append_grow (P := P) w t o.type e i z ht hi hz ⟨g, 0, none⟩ 0 0 [] (by simp) (fun j x hj => by simp at hj) ⟨b, 0, none⟩ 1 1 [u] (by rw [hsize]; rfl) hnews (by omega) (by omega) (by rw [hby]; exact growslice_fits (by omega) hn)
    have hge := grownCap_ge w (0 + 1) 0 e
    have hcm2 : grownCap w (0 + 1) 0 e ≤ maxLen := grownCap_le_maxLen w (0 + 1) 0 e hml
    refine wp_appended s x t ho _ _ hs hx _ _ hr (hK _ _ (h (.slice none 0 0) _ _ (.inr ⟨w.heap.size, _, _, rfl, heap_alloc_new w.drew _, hge, hcm2, ?_, fun j hj => ?_⟩) ⟨rfl, rfl, rfl, .inr ⟨rfl, by simp, fun k hk => heap_alloc_old w.drew _ hk⟩⟩ (.inr rfl)))
    · simp only [Array.size_append, List.size_toArray, size_zeroCells, hzs, List.length_nil, List.length_singleton]
      omega
    · have : j = 0 := by omega
      subst this
      show _ = some (if 0 < 0 then f 0 else u)
      rw [if_neg (by omega), Array.getElem?_append_left (by simp)]
      rfl
  · exact append_line hgd s x t ho e i z bytes ht hi hz hsize hby hzs v n f hs hl b hx u hc h1 hn hn2 (fun v' w' k1 k2 => h v v' w' k1 k2 (.inl ⟨rfl, hl.off⟩))
  · have hnews : ∀ j x, [u][j]? = some x → w.cell? ((⟨b, 0, none⟩ : Addr).add j) = some x := by
      intro j x hj
      match j, hj with
      | 0, hj => simp at hj; subst hj; simpa [Addr.add] using hc
    refine wpList_plain hgd fun _ hK => ?_
    have hml : n + 1 ≤ maxLen := by simp only [maxLen]; omega
    have hol : ((cur.toList.drop og).take n).length = n := by simp; omega
    have holds : ∀ j x, ((cur.toList.drop og).take n)[j]? = some x → w.cell? ((⟨g, og, none⟩ : Addr).add j) = some x := by
      intro j x hj
      have hadd : (⟨g, og, none⟩ : Addr).add j = ⟨g, og + j, none⟩ := by unfold Addr.add; split <;> simp_all
      rw [hadd]
      simp only [World.cell?, hg]
      rw [List.getElem?_take] at hj
      split at hj
      · rw [List.getElem?_drop] at hj; simpa using hj
      · cases hj
    have hr := run_append_grow (P := P) w t o.type e i z ht hi hz ⟨g, og, none⟩ n n ((cur.toList.drop og).take n) (by rw [hsize]; omega) holds ⟨b, 0, none⟩ 1 1 [u] (by rw [hsize]; rfl) hnews (by omega) (by omega) (by rw [hby]; exact growslice_fits (by omega) hn)
    have hge := grownCap_ge w (n + 1) n e
    have hcm2 : grownCap w (n + 1) n e ≤ maxLen := grownCap_le_maxLen w (n + 1) n e hml
    refine wp_appended s x t ho _ _ hs hx _ _ hr (hK _ _ (h (.slice none 0 0) _ _ (.inr ⟨w.heap.size, _, _, rfl, heap_alloc_new w.drew _, hge, hcm2, ?_, fun j hj => ?_⟩) ⟨rfl, rfl, rfl, .inr ⟨rfl, by simp, fun k hk => heap_alloc_old w.drew _ hk⟩⟩ (.inr rfl)))
    · simp only [Array.size_append, List.size_toArray, size_zeroCells, hzs, hol, List.length_singleton]
      omega
    · rw [Array.getElem?_append_left (by simp; omega)]
      show _ = some (if j < n then f j else u)
      by_cases e1 : j < n
      · rw [if_pos e1, ← hf j e1, Array.getElem?_append_left (by simp; omega), List.getElem?_toArray, List.getElem?_take, if_pos e1, List.getElem?_drop]
        simp
      · have : j = n := by omega
        subst this
        rw [if_neg (by omega), Array.getElem?_append_right (by simp; omega)]
        simp [hol]
end Go.Proofs.Ytdgdnpgjbphgaab
