/- larderlaw3's spread: sign, what lies there. -/
import Derived.Test.YtidfbelckdlbhabGreatSame
import Derived.Laws.Append
import Derived.Laws.AppendOwn
import Derived.Deep.RegionHeld3
import Derived.Deep.MidRow
namespace Go.Proofs.YtidfbelckdlbhabGreat
open Go.ChangeShapes Go.WideShapes Go.ChangeAt Go.RowKit
set_option linter.unusedVariables false
set_option maxRecDepth 100000
set_option maxHeartbeats 2000000

theorem wp_appended {P : Program} {w : World} {o : Oper} {a : Act} {K : Act → World → Prop} {Q : Exit → Act → World → Prop} (s x : Operand) (t : TypeId) (ho : o.op = .call { callee := .builtin .append, args := #[s, x], argTypes := #[t, t] }) (v vx : Value) (hs : a.eval s = v) (hx : a.eval x = vx) (v' : Value) (w' : World) (hr : (Builtin.append_ #[t, t] o.type #[v, vx]).run P w = .ok v' w') (h : K (a.put o.dst v') w') : Oper.wp P o a w K Q := by
  unfold Oper.wp execOp
  simp only [ho, resolve, invoke, builtin, Sem.run_bind, Sem.run_pure, Result.andThen_ok, List.map_toArray, List.map_cons, List.map_nil, hs, hx, hr]
  exact h
/-- a slice whose memory begins a block of type t (or that is nil); an element has s cells, of n elements the cells are f 0, f 1, .. -/
def Rws (w : World) (t : TypeId) (s : Nat) (v : Value) (n : Nat) (f : Nat → Value) : Prop :=
  (v = .slice none 0 0 ∧ n = 0) ∨ ∃ b cap cur, v = .slice (some ⟨b, 0, none⟩) n cap ∧ w.heap[b]? = some (.cells cur t (0, 0)) ∧ n ≤ cap ∧ cap ≤ maxLen ∧ cur.size = cap * s ∧ ∀ k, k < n * s → cur[k]? = some (f k)
theorem Rws.same {w w' : World} {t : TypeId} {s : Nat} {v : Value} {n : Nat} {f : Nat → Value} (h : Rws w t s v n f) (hb : ∀ g, v.ownBlock = some g → w'.heap[g]? = w.heap[g]?) : Rws w' t s v n f := by
  rcases h with h | ⟨g, cap, cur, rfl, hg, r⟩
  · exact .inl h
  · exact .inr ⟨g, cap, cur, rfl, by rw [hb g rfl]; exact hg, r⟩
theorem Rws.lt {w : World} {t : TypeId} {s : Nat} {v : Value} {n : Nat} {f : Nat → Value} (h : Rws w t s v n f) : ∀ g, v.ownBlock = some g → g < w.heap.size := by
  intro k hk
  rcases h with ⟨rfl, _⟩ | ⟨g, cap, cur, rfl, hg, r⟩
  · simp [Value.ownBlock] at hk
  · simp [Value.ownBlock] at hk
    subst hk
    exact (Array.getElem?_eq_some_iff.1 hg).1
theorem Rws.below {w w' : World} {t : TypeId} {s : Nat} {v : Value} {n : Nat} {f : Nat → Value} (h : Rws w t s v n f) (hb : Below w.heap.size w w') : Rws w' t s v n f := h.same (fun g hg => hb.block g (h.lt g hg))
theorem Rws.shape {w : World} {t : TypeId} {s : Nat} {v : Value} {n : Nat} {f : Nat → Value} (h : Rws w t s v n f) : ∃ a cap, v = .slice a n cap := by
  rcases h with ⟨rfl, h0⟩ | ⟨g, cap, cur, rfl, hg, r⟩
  · exact ⟨none, 0, by rw [h0]⟩
  · exact ⟨_, cap, rfl⟩
theorem Rws.type {w : World} {t : TypeId} {s : Nat} {v : Value} {n : Nat} {f : Nat → Value} (h : Rws w t s v n f) (g : Nat) (hg : v.ownBlock = some g) : ∃ c, w.heap[g]? = some (.cells c t (0, 0)) := by
  rcases h with ⟨rfl, _⟩ | ⟨g', cap, cur, rfl, hg', _⟩
  · simp [Value.ownBlock] at hg
  · simp [Value.ownBlock] at hg
    subst hg
    exact ⟨cur, hg'⟩
/-- two lists in blocks of two types lie apart -/
theorem Rws.apart {w : World} {t t' : TypeId} {s s' : Nat} {v v' : Value} {n n' : Nat} {f f' : Nat → Value} (h : Rws w t s v n f) (h' : Rws w t' s' v' n' f') (ht : t ≠ t') (g : Nat) (hg : v.ownBlock = some g) : v'.ownBlock ≠ some g := fun e => by
  obtain ⟨c, hc⟩ := h.type g hg
  obtain ⟨c', hc'⟩ := h'.type g e
  rw [hc] at hc'
  cases hc'
  exact ht rfl
theorem Rws.at {w : World} {t : TypeId} {s : Nat} {v : Value} {n : Nat} {f : Nat → Value} (h : Rws w t s v n f) (hn : 0 < n) : ∃ g cap, v = .slice (some ⟨g, 0, none⟩) n cap ∧ v.ownBlock = some g ∧ g < w.heap.size ∧ ∀ j, j < n * s → w.cell? ⟨g, j, none⟩ = some (f j) := by
  rcases h with ⟨rfl, h0⟩ | ⟨g, cap, cur, rfl, hg, hn, hc, hs, hf⟩
  · omega
  · refine ⟨g, cap, rfl, rfl, (Array.getElem?_eq_some_iff.1 hg).1, fun j hj => ?_⟩
    simp only [World.cell?, hg]
    exact hf j hj
theorem Rws.congr {w : World} {t : TypeId} {s : Nat} {v : Value} {n : Nat} {f f' : Nat → Value} (h : Rws w t s v n f) (hf : ∀ j, j < n * s → f j = f' j) : Rws w t s v n f' := by
  rcases h with h | ⟨g, cap, cur, rfl, hg, hn, hc, hs, hh⟩
  · exact .inl h
  · exact .inr ⟨g, cap, cur, rfl, hg, hn, hc, hs, fun j hj => by rw [hh j hj, hf j hj]⟩
/-- what an append changed, whose cells lie from c on -/
structure Gr (e : TypeId) (c m : Nat) (w w' : World) (v v' : Value) : Prop where
  os : w'.os = w.os
  tape : w'.tape = w.tape
  output : w'.output = w.output
  how : (∃ g cur cur', v.ownBlock = some g ∧ v'.ownBlock = some g ∧ w.heap[g]? = some (.cells cur e (0, 0)) ∧ w'.heap[g]? = some (.cells cur' e (0, 0)) ∧ cur'.size = cur.size ∧ (∀ j, j < c ∨ c + m ≤ j → cur'[j]? = cur[j]?) ∧ w'.heap.size = w.heap.size ∧ ∀ k, k ≠ g → w'.heap[k]? = w.heap[k]?) ∨
    (v'.ownBlock = some w.heap.size ∧ w'.heap.size = w.heap.size + 1 ∧ ∀ k, k < w.heap.size → w'.heap[k]? = w.heap[k]?)
theorem Gr.size {e : TypeId} {c m : Nat} {w w' : World} {v v' : Value} (h : Gr e c m w w' v v') : w.heap.size ≤ w'.heap.size := by
  rcases h.how with ⟨g, cur, cur', _, _, _, _, _, _, hs, _⟩ | ⟨_, hs, _⟩ <;> omega
theorem Gr.other {e : TypeId} {c m : Nat} {w w' : World} {v v' : Value} (h : Gr e c m w w' v v') (k : Nat) (hk : k < w.heap.size) (hv : v.ownBlock ≠ some k) : w'.heap[k]? = w.heap[k]? := by
  rcases h.how with ⟨g, cur, cur', h1, _, _, _, _, _, _, hb⟩ | ⟨_, _, hb⟩
  · exact hb k (fun e => hv (by rw [h1, e]))
  · exact hb k hk
/-- where what was appended to lies from B on, all below B is as it was -/
theorem Gr.below {e : TypeId} {c m : Nat} {w w' : World} {v v' : Value} (h : Gr e c m w w' v v') (B : Nat) (hB : B ≤ w.heap.size) (hv : ∀ g, v.ownBlock = some g → B ≤ g) : Below B w w' :=
  ⟨h.os, h.tape, h.output, h.size, fun b hb => h.other b (by omega) (fun e => by have := hv b e; omega)⟩
theorem Gr.own {e : TypeId} {c m : Nat} {w w' : World} {v v' : Value} (h : Gr e c m w w' v v') (B : Nat) (hB : B ≤ w.heap.size) (hv : ∀ g, v.ownBlock = some g → B ≤ g) : ∀ g, v'.ownBlock = some g → B ≤ g := fun g hg => by
  rcases h.how with ⟨g', cur, cur', h1, h2, _⟩ | ⟨h2, _⟩
  · rw [hg] at h2; cases h2; exact hv g h1
  · rw [hg] at h2; cases h2; exact hB
theorem addr0 (b j : Nat) : (⟨b, 0, none⟩ : Addr).add j = ⟨b, j, none⟩ := by unfold Addr.add; split <;> simp_all
theorem run_append_rws {P : Program} {w : World} (ty t e : TypeId) (i : TypeInfo) (z : Value) (s bytes : Nat) (ht : P.underlying t = some (.slice e)) (hi : P.info? e = some i) (hz : i.zero = some z) (hsize : i.size = s) (hby : i.bytes = bytes) (hzs : z.cells.size = s)
    (tb : TypeId) (v : Value) (n : Nat) (f : Nat → Value) (hown : Rws w tb s v n f) (hfull : tb = e ∨ ∀ b cap, v = .slice (some b) n cap → cap = n) (b m mc : Nat) (news : List Value) (hm : 0 < m) (hl : news.length = m * s) (hc : ∀ j x, news[j]? = some x → w.cell? ⟨b, j, none⟩ = some x) (h1 : ∀ x ∈ news, x.oneCell' = true) (hn : (n + m) * bytes ≤ 140737488355328) (hn2 : n + m ≤ 9007199254740992) :
    ∃ v' w', (Builtin.append_ #[t, t] ty #[v, .slice (some ⟨b, 0, none⟩) m mc]).run P w = .ok v' w' ∧ Rws w' e s v' (n + m) (fun k => if k < n * s then f k else news.getD (k - n * s) undef) ∧ Gr e (n * s) news.length w w' v v' := by
  have hnews : ∀ j x, news[j]? = some x → w.cell? ((⟨b, 0, none⟩ : Addr).add j) = some x := by
    intro j x hj
    rw [addr0]
    exact hc j x hj
  have hml : n + m ≤ maxLen := by simp only [maxLen]; omega
  have hnm : (n + m) * s = n * s + m * s := Nat.add_mul _ _ _
  rcases hown with ⟨rfl, rfl⟩ | ⟨g, cap, cur, rfl, hg, hnc, hcm, hcs, hf⟩
  · simp only [Nat.zero_add, Nat.zero_mul, Nat.not_lt_zero, if_false, Nat.sub_zero] at *
    have hr := run_append_nil (P := P) w t ty e i z ht hi hz ⟨b, 0, none⟩ m mc news (by rw [hsize]; exact hl) hnews hm (by omega) (by rw [hby]; omega)
    have hge := grownCap_ge w m 0 e
    have hcm2 : grownCap w m 0 e ≤ maxLen := grownCap_le_maxLen w m 0 e hml
    refine ⟨_, _, hr, .inr ⟨w.heap.size, _, _, rfl, heap_alloc_new w.drew _, hge, hcm2, ?_, fun j hj => ?_⟩, ⟨rfl, rfl, rfl, .inr ⟨rfl, by simp, fun k hk => heap_alloc_old w.drew _ hk⟩⟩⟩
    · simp only [Array.size_append, List.size_toArray, size_zeroCells, hzs, hl]
      rw [← Nat.add_mul]
      congr 1
      omega
    · show _ = some (news.getD j undef)
      rw [Array.getElem?_append_left (by rw [List.size_toArray, hl]; exact hj), List.getElem?_toArray, List.getD_eq_getElem?_getD, List.getElem?_eq_getElem (by omega)]
      rfl
  · by_cases hroom : n + m ≤ cap
    · have hte : tb = e := by
        rcases hfull with h | h
        · exact h
        · have := h _ _ rfl; omega
      subst hte
      have hcap : (n + m) * s ≤ cap * s := Nat.mul_le_mul_right _ hroom
      have hr := run_append_room (P := P) w t ty tb i ht hi g n cap cur hg ⟨b, 0, none⟩ m mc news (by rw [hsize]; exact hl) hnews h1 hroom (by rw [hsize, hcs, hl]; omega)
      rw [hsize] at hr
      have hlt : (cur.toList.take (n * s)).length = n * s := by simp; omega
      have hcur : ∀ j, j < n * s ∨ n * s + news.length ≤ j → (cur.toList.take (n * s) ++ news ++ cur.toList.drop (n * s + news.length)).toArray[j]? = cur[j]? := by
        intro j hj
        rw [List.getElem?_toArray]
        rcases hj with hj | hj
        · rw [List.append_assoc, List.getElem?_append_left (by omega), List.getElem?_take, if_pos hj]
          simp
        · rw [List.getElem?_append_right (by simp only [List.length_append, hlt]; omega), List.length_append, hlt, List.getElem?_drop]
          rw [show n * s + news.length + (j - (n * s + news.length)) = j by omega]
          simp
      have hnew : ∀ j, n * s ≤ j → j < n * s + news.length → (cur.toList.take (n * s) ++ news ++ cur.toList.drop (n * s + news.length)).toArray[j]? = some (news.getD (j - n * s) undef) := by
        intro j hj hj2
        rw [List.getElem?_toArray, List.append_assoc, List.getElem?_append_right (by omega), hlt, List.getElem?_append_left (by omega), List.getD_eq_getElem?_getD, List.getElem?_eq_getElem (by omega)]
        rfl
      have hsz : (cur.toList.take (n * s) ++ news ++ cur.toList.drop (n * s + news.length)).toArray.size = cur.size := by
        simp only [List.size_toArray, List.length_append, hlt, List.length_drop, Array.length_toList]
        omega
      have hblk := setRow_heap w g cur (cur.toList.take (n * s) ++ news ++ cur.toList.drop (n * s + news.length)).toArray tb _ hg
      generalize (cur.toList.take (n * s) ++ news ++ cur.toList.drop (n * s + news.length)).toArray = cur' at *
      refine ⟨_, _, hr, .inr ⟨g, cap, cur', rfl, hblk, hroom, hcm, by omega, fun j hj => ?_⟩, ⟨rfl, rfl, rfl, .inl ⟨g, cur, cur', rfl, rfl, hg, hblk, hsz, hcur, by simp [World.setRow], fun k hk => setRow_other w g k _ hk⟩⟩⟩
      by_cases e1 : j < n * s
      · simp only [if_pos e1]
        rw [hcur j (.inl e1), hf j e1]
      · simp only [if_neg e1]
        exact hnew j (by omega) (by omega)
    · have hol : (cur.toList.take (n * s)).length = n * s := by
        have := Nat.mul_le_mul_right s hnc
        simp; omega
      have holds : ∀ j x, (cur.toList.take (n * s))[j]? = some x → w.cell? ((⟨g, 0, none⟩ : Addr).add j) = some x := by
        intro j x hj
        rw [addr0]
        simp only [World.cell?, hg]
        rw [List.getElem?_take] at hj
        split at hj
        · simpa using hj
        · cases hj
      have hr := run_append_grow (P := P) w t ty e i z ht hi hz ⟨g, 0, none⟩ n cap (cur.toList.take (n * s)) (by rw [hsize]; omega) holds ⟨b, 0, none⟩ m mc news (by rw [hsize]; exact hl) hnews (by omega) (by omega) (by rw [hby]; exact growslice_fits (by omega) hn)
      have hge := grownCap_ge w (n + m) cap e
      have hcm2 : grownCap w (n + m) cap e ≤ maxLen := grownCap_le_maxLen w (n + m) cap e hml
      refine ⟨_, _, hr, .inr ⟨w.heap.size, _, _, rfl, heap_alloc_new w.drew _, hge, hcm2, ?_, fun j hj => ?_⟩, ⟨rfl, rfl, rfl, .inr ⟨rfl, by simp, fun k hk => heap_alloc_old w.drew _ hk⟩⟩⟩
      · simp only [Array.size_append, List.size_toArray, size_zeroCells, hzs, hol, hl]
        rw [← Nat.add_mul, ← Nat.add_mul]
        congr 1
        omega
      · rw [Array.getElem?_append_left (by simp only [Array.size_append, List.size_toArray, hol, hl]; omega)]
        by_cases e1 : j < n * s
        · simp only [if_pos e1]
          rw [← hf j e1, Array.getElem?_append_left (by simp only [List.size_toArray, hol]; omega), List.getElem?_toArray, List.getElem?_take, if_pos e1]
          simp
        · simp only [if_neg e1]
          rw [Array.getElem?_append_right (by simp only [List.size_toArray, hol]; omega), List.size_toArray, hol, List.getElem?_toArray, List.getD_eq_getElem?_getD, List.getElem?_eq_getElem (by omega)]
          rfl
/-- at a plain region -/
theorem append_rws {P : Program} {w : World} {ops : Array Oper} {rest : List Oper} {o : Oper} {a : Act} {Q : Exit → Act → World → Prop} (hgd : o.guard = none) (so x : Operand) (t : TypeId) (ho : o.op = .call { callee := .builtin .append, args := #[so, x], argTypes := #[t, t] })
    (e : TypeId) (i : TypeInfo) (z : Value) (s bytes : Nat) (ht : P.underlying t = some (.slice e)) (hi : P.info? e = some i) (hz : i.zero = some z) (hsize : i.size = s) (hby : i.bytes = bytes) (hzs : z.cells.size = s)
    (tb : TypeId) (v : Value) (n : Nat) (f : Nat → Value) (hs : a.eval so = v) (hown : Rws w tb s v n f) (hfull : tb = e ∨ ∀ b cap, v = .slice (some b) n cap → cap = n) (b m : Nat) (hx : a.eval x = .slice (some ⟨b, 0, none⟩) m m) (news : List Value) (hm : 0 < m) (hl : news.length = m * s) (hc : ∀ j x, news[j]? = some x → w.cell? ⟨b, j, none⟩ = some x) (h1 : ∀ x ∈ news, x.oneCell' = true) (hn : (n + m) * bytes ≤ 140737488355328) (hn2 : n + m ≤ 9007199254740992)
    (h : ∀ v' w', Rws w' e s v' (n + m) (fun k => if k < n * s then f k else news.getD (k - n * s) undef) → Gr e (n * s) news.length w w' v v' → wpList P ops Q rest (a.put o.dst v') w') : wpList P ops Q (o :: rest) a w := by
  refine wpList_plain hgd fun _ hK => ?_
  obtain ⟨v', w', hr, h2, h3⟩ := run_append_rws (P := P) (w := w) o.type t e i z s bytes ht hi hz hsize hby hzs tb v n f hown hfull b m m news hm hl hc h1 hn hn2
  exact wp_appended so x t ho _ _ hs hx _ _ hr (hK _ _ (h v' w' h2 h3))
/-- at a step of a region that draws -/
theorem step_append_rws {P : Program} {ops : Array Oper} {o : Oper} {a : Act} {w : World} {K : Act → World → Prop} {Q : Exit → Act → World → Prop} {E : Prop} (hg : o.guard = none) (so x : Operand) (t : TypeId) (ho : o.op = .call { callee := .builtin .append, args := #[so, x], argTypes := #[t, t] })
    (e : TypeId) (i : TypeInfo) (z : Value) (s bytes : Nat) (ht : P.underlying t = some (.slice e)) (hi : P.info? e = some i) (hz : i.zero = some z) (hsize : i.size = s) (hby : i.bytes = bytes) (hzs : z.cells.size = s)
    (tb : TypeId) (v : Value) (n : Nat) (f : Nat → Value) (hs : a.eval so = v) (hown : Rws w tb s v n f) (hfull : tb = e ∨ ∀ b cap, v = .slice (some b) n cap → cap = n) (b m : Nat) (hx : a.eval x = .slice (some ⟨b, 0, none⟩) m m) (news : List Value) (hm : 0 < m) (hl : news.length = m * s) (hc : ∀ j x, news[j]? = some x → w.cell? ⟨b, j, none⟩ = some x) (h1 : ∀ x ∈ news, x.oneCell' = true) (hn : (n + m) * bytes ≤ 140737488355328) (hn2 : n + m ≤ 9007199254740992)
    (h : ∀ v' w', Rws w' e s v' (n + m) (fun k => if k < n * s then f k else news.getD (k - n * s) undef) → Gr e (n * s) news.length w w' v v' → K (a.put o.dst v') w') : if Region.wanted o (yielded ops a.tmps) = true then Oper.wp P o a w K Q else E := by
  have hw : Region.wanted o (yielded ops a.tmps) = true := by simp [Region.wanted, hg]
  rw [if_pos hw]
  obtain ⟨v', w', hr, h2, h3⟩ := run_append_rws (P := P) (w := w) o.type t e i z s bytes ht hi hz hsize hby hzs tb v n f hown hfull b m m news hm hl hc h1 hn hn2
  exact wp_appended so x t ho _ _ hs hx _ _ hr (h v' w' h2 h3)
/-- the cells of a new row -/
theorem made_cells (w : World) (l : List Value) (t : TypeId) : ∀ j x, l[j]? = some x → (w.alloc (.cells l.toArray t)).cell? ⟨w.heap.size, j, none⟩ = some x := fun j x hj => by
  rw [cell_of_row _ _ _ _ _ _ (heap_alloc_new w _), List.getElem?_toArray]
  exact hj
end Go.Proofs.YtidfbelckdlbhabGreat
namespace Go.Proofs.YtidfbelckdlbhabGreat
open Go.ChangeShapes Go.WideShapes Go.ChangeAt Go.RowKit
set_option linter.unusedVariables false
set_option maxRecDepth 20000
set_option maxHeartbeats 2000000

/-- byte k of the mark of list n -/
def sgN (n k : Nat) : Nat := if k % 2 = 0 then 1 + n % 251 else 1 + (7 * n + n / 251) % 251
theorem sgN_lt (n k : Nat) : sgN n k < 256 := by unfold sgN; split <;> omega
def sgV (n k : Nat) : Value := .int .u8 (sgN n k : Nat)
theorem sign_any (n k : Nat) (w : World) (hn : n ≤ 1000000000000) (hk : k ≤ 9007199254740992) : Calls Tryz.prog 84 #[.int .i64 n, .int .i64 k] w fun e w' => e = .returned (.int .u8 (sgN n k : Nat)) ∧ w' = w := by
  have e1 : (k : Int).tmod 2 = ((k % 2 : Nat) : Int) := rfl
  have e2 : (n : Int).tmod 251 = ((n % 251 : Nat) : Int) := rfl
  have e3 : (n : Int).tdiv 251 = ((n / 251 : Nat) : Int) := rfl
  have e4 : (7 * (n : Int) + ((n / 251 : Nat) : Int)).tmod 251 = (((7 * n + n / 251) % 251 : Nat) : Int) := rfl
  have l1 : n % 251 < 251 := Nat.mod_lt _ (by decide)
  have l2 : (7 * n + n / 251) % 251 < 251 := Nat.mod_lt _ (by decide)
  have l3 : n / 251 ≤ n := Nat.div_le_self _ _
  unfold sgN
  by_cases h : k % 2 = 0
  · rw [if_pos h]
    rw [h] at e1
    generalize n % 251 = r at *
    clear e3 e4 l2 l3
    rw [show ((1 + r : Nat) : Int) = 1 + (r : Int) by omega]
    go_enter Tryz.func84, Tryz.ntmps84
    go_wp2
    go_ret
    exact ⟨rfl, rfl⟩
  · rw [if_neg h]
    have h1 : k % 2 = 1 := by omega
    rw [h1] at e1
    generalize n / 251 = d at *
    generalize (7 * n + d) % 251 = r at *
    rw [show ((1 + r : Nat) : Int) = 1 + (r : Int) by omega]
    go_enter Tryz.func84, Tryz.ntmps84
    go_wp2
    go_ret
    exact ⟨rfl, rfl⟩
theorem block_lt {w : World} {b : Nat} {o : Obj} (h : w.heap[b]? = some o) : b < w.heap.size := (Array.getElem?_eq_some_iff.1 h).1
/-- a spread that holds lists of bytes alone -/
def SpAt (W : World) (py : Nat) (yv : Value) : Prop := W.heap[py]? = some (.cells #[yv, .slice none 0 0, .slice none 0 0, .slice none 0 0] 107 (0, 0))
/-- its lists: each in memory of its own; the first i are written full, of list i the first k -/
structure Mk (W : World) (py : Nat) (yv : Value) (n : Nat) (F : Nat → Value) (L : Nat → Nat) (i k : Nat) : Prop where
  at' : SpAt W py yv
  row : Rws W 34 1 yv n F
  ent : ∀ j, j < n → ∃ f, Rws W 5 1 (F j) (L j) f ∧ ∀ q, q < L j → (j < i ∨ (j = i ∧ q < k)) → f q = sgV j q
  one : ∀ i j g, i < n → j < n → (F i).ownBlock = some g → (F j).ownBlock = some g → i = j
  len : ∀ j, j < n → L j ≤ 8388608
/-- only the lists' own memory has changed, and memory has been made -/
structure Tch (n : Nat) (F : Nat → Value) (w w' : World) : Prop where
  os : w'.os = w.os
  tape : w'.tape = w.tape
  output : w'.output = w.output
  size : w.heap.size ≤ w'.heap.size
  blk : ∀ b, b < w.heap.size → (∀ j, j < n → (F j).ownBlock ≠ some b) → w'.heap[b]? = w.heap[b]?
theorem Tch.refl (n : Nat) (F : Nat → Value) (w : World) : Tch n F w w := ⟨rfl, rfl, rfl, Nat.le_refl _, fun _ _ _ => rfl⟩
theorem Tch.trans {n : Nat} {F : Nat → Value} {a b c : World} (h : Tch n F a b) (k : Tch n F b c) : Tch n F a c :=
  ⟨k.os.trans h.os, k.tape.trans h.tape, k.output.trans h.output, Nat.le_trans h.size k.size, fun x hx hF => (k.blk x (Nat.lt_of_lt_of_le hx h.size) hF).trans (h.blk x hx hF)⟩
theorem Tch.below {n : Nat} {F : Nat → Value} {w w' : World} (h : Below w.heap.size w w') : Tch n F w w' := ⟨h.os, h.tape, h.output, h.size, fun b hb _ => h.block b hb⟩
theorem Mk.next {W : World} {py : Nat} {yv : Value} {n : Nat} {F : Nat → Value} {L : Nat → Nat} {i k : Nat} (h : Mk W py yv n F L i k) (hk : L i ≤ k) : Mk W py yv n F L (i + 1) 0 :=
  ⟨h.at', h.row, fun j hj => by
    obtain ⟨f, h1, h2⟩ := h.ent j hj
    refine ⟨f, h1, fun q hq hh => h2 q hq ?_⟩
    rcases Nat.lt_trichotomy j i with e | e | e
    · exact .inl e
    · subst e; exact .inr ⟨rfl, by omega⟩
    · omega, h.one, h.len⟩
theorem Mk.below {W W' : World} {py : Nat} {yv : Value} {n : Nat} {F : Nat → Value} {L : Nat → Nat} {i k : Nat} (h : Mk W py yv n F L i k) (hb : Below W.heap.size W W') : Mk W' py yv n F L i k :=
  ⟨by unfold SpAt; rw [hb.block _ (block_lt h.at')]; exact h.at', h.row.below hb, fun j hj => by
    obtain ⟨f, h1, h2⟩ := h.ent j hj
    exact ⟨f, h1.below hb, h2⟩, h.one, h.len⟩
theorem setCell_block (w : World) (g k : Nat) (u : Value) (cur : Array Value) (e : TypeId) (fr : Nat × Nat) (hg : w.heap[g]? = some (.cells cur e fr)) : (w.setCell ⟨g, k, none⟩ u).heap[g]? = some (.cells (cur.setIfInBounds k u) e fr) := by
  simp only [World.setCell, Array.getElem?_modify, if_true, hg, Option.map_some]
  rfl
theorem setCell_else (w : World) (g k j : Nat) (u : Value) (h : j ≠ g) : (w.setCell ⟨g, k, none⟩ u).heap[j]? = w.heap[j]? := by
  simp [World.setCell, Array.getElem?_modify, Ne.symm h]
theorem Rws.put {w : World} {t : TypeId} {v : Value} {n : Nat} {f : Nat → Value} (h : Rws w t 1 v n f) {g : Nat} (hg : v.ownBlock = some g) (k : Nat) (u : Value) : Rws (w.setCell ⟨g, k, none⟩ u) t 1 v n (fun j => if j = k then u else f j) := by
  rcases h with ⟨rfl, h0⟩ | ⟨g', cap, cur, rfl, hg', hn, hc, hs, hh⟩
  · simp [Value.ownBlock] at hg
  · simp [Value.ownBlock] at hg
    subst hg
    refine .inr ⟨g', cap, cur.setIfInBounds k u, rfl, setCell_block w g' k u cur t _ hg', hn, hc, by simpa using hs, fun j hj => ?_⟩
    have hj' : j < n * 1 := hj
    rw [Array.getElem?_setIfInBounds]
    show _ = some (if j = k then u else f j)
    by_cases e1 : k = j
    · subst e1
      rw [if_pos rfl, if_pos (by omega), if_pos rfl]
    · rw [if_neg e1, if_neg (fun h => e1 h.symm), hh j hj]
/-- a byte of list i is written -/
theorem Mk.put {W : World} {py : Nat} {yv : Value} {n : Nat} {F : Nat → Value} {L : Nat → Nat} {i k g : Nat} (h : Mk W py yv n F L i k) (hi : i < n) (hg : (F i).ownBlock = some g) :
    Mk (W.setCell ⟨g, k, none⟩ (sgV i k)) py yv n F L i (k + 1) ∧ Tch n F W (W.setCell ⟨g, k, none⟩ (sgV i k)) := by
  obtain ⟨f0, r0, _⟩ := h.ent i hi
  obtain ⟨c0, hc0⟩ := r0.type g hg
  have hpy : py ≠ g := fun e => by
    have := h.at'
    unfold SpAt at this
    rw [e, hc0] at this
    cases this
  refine ⟨⟨?_, ?_, fun j hj => ?_, h.one, h.len⟩, ⟨rfl, rfl, rfl, by simp [World.setCell], fun b hb hF => setCell_else _ _ _ _ _ (fun e => hF i hi (by rw [hg, e]))⟩⟩
  · unfold SpAt; rw [setCell_else _ _ _ _ _ hpy]; exact h.at'
  · refine h.row.same (fun x hx => setCell_else _ _ _ _ _ (fun e => ?_))
    obtain ⟨c, hc⟩ := h.row.type x hx
    rw [e, hc0] at hc
    cases hc
  · obtain ⟨f, h1, h2⟩ := h.ent j hj
    by_cases e : (F j).ownBlock = some g
    · have hij := h.one j i g hj hi e hg
      subst hij
      refine ⟨_, h1.put e k (sgV j k), fun q hq hh => ?_⟩
      by_cases eq : q = k
      · subst eq; simp
      · simp only [if_neg eq]
        exact h2 q hq (by omega)
    · refine ⟨f, h1.same (fun x hx => setCell_else _ _ _ _ _ (fun e2 => e (by rw [← e2]; exact hx))), fun q hq hh => h2 q hq ?_⟩
      rcases hh with hh | ⟨hh, _⟩
      · exact .inl hh
      · subst hh; exact absurd hg e
end Go.Proofs.YtidfbelckdlbhabGreat
