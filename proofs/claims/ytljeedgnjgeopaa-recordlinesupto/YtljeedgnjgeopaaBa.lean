/- Contracts of sameBytes, Sum over the seat's translation. -/
import Derived.Test.YtljeedgnjgeopaaRows
import Derived.Deep.QuietTactic
import Derived.BigQuiet
import Derived.WalkSmall
import Derived.Laws.AppendOwnNone
import Derived.Laws.OwnMore
import Derived.WalkKit
import Derived.WalkLawsBesides
import Derived.WalkSpells
import Derived.ProofKit
import Derived.OpenShut
import Derived.ShutString
import Derived.ChangeOld
import Derived.Below
import Derived.Laws.BytesArg
import Derived.Laws.BitsAllLaws
import Derived.Laws.Append
import Derived.Laws.AppendOwn
import Derived.Laws.CopyRow
import Derived.Deep.OwnRows
import Derived.Lib.ConvBytes
import Derived.Lib.Hide
import Derived.Deep.Light
import Derived.Deep.RegionHeld3
namespace Go.Proofs.Ytljeedgnjgeopaa
open Go.ChangeShapes Go.WideShapes Go.ChangeAt Go.RowKit
set_option linter.unusedVariables false
set_option linter.unusedSimpArgs false
set_option maxRecDepth 100000
set_option maxHeartbeats 4000000

theorem hide {p : Prop} (h : p) : Hid p := h
theorem unhide {p : Prop} (h : Hid p) : p := h.out

/-- the bytes l lie at the head of a slice with the address a -/
def Bytes (w : World) (a : Option Addr) (l : List Nat) : Prop :=
  l = [] ∨ ∃ b off, a = some ⟨b, off, none⟩ ∧ b < w.heap.size ∧ ∀ i, i < l.length → w.cell? ⟨b, off + i, none⟩ = some (.int .u8 (l.getD i 0 : Nat))

def Small (l : List Nat) : Prop := ∀ i, i < l.length → l.getD i 0 < 256

theorem Bytes.below {w w' : World} {a : Option Addr} {l : List Nat} (h : Bytes w a l) (hb : Below w.heap.size w w') : Bytes w' a l := by
  rcases h with h | ⟨b, off, rfl, hlt, hc⟩
  · exact .inl h
  · exact .inr ⟨b, off, rfl, Nat.lt_of_lt_of_le hlt hb.size, fun i hi => (hb.cell (p := ⟨b, off + i, none⟩) hlt).trans (hc i hi)⟩

theorem ret_int {k : IntKind} {a b : Int} (h : a = b) : Ending.returned (.int k a) = .returned (.int k b) := by rw [h]
theorem ret_bool {a b : Bool} (h : a = b) : Ending.returned (.bool a) = .returned (.bool b) := by rw [h]


theorem cell_blk {w : World} {b : Nat} {C : Array Value} {t : TypeId} {f : Nat × Nat} (h : w.heap[b]? = some (.cells C t f)) (j : Nat) : w.cell? ⟨b, j, none⟩ = C[j]? := by
  simp [World.cell?, h]
theorem blk_lt {w : World} {b : Nat} {o : Obj} (h : w.heap[b]? = some o) : b < w.heap.size := (Array.getElem?_eq_some_iff.1 h).1
theorem add_plain (b off j : Nat) : (⟨b, off, none⟩ : Addr).add j = ⟨b, off + j, none⟩ := by unfold Addr.add; split <;> simp_all

theorem wp_appended {P : Program} {w : World} {o : Oper} {a : Act} {K : Act → World → Prop} {Q : Exit → Act → World → Prop} (s x : Operand) (t : TypeId) (ho : o.op = .call { callee := .builtin .append, args := #[s, x], argTypes := #[t, t] }) (v vx : Value) (hs : a.eval s = v) (hx : a.eval x = vx) (v' : Value) (w' : World) (hr : (Builtin.append_ #[t, t] o.type #[v, vx]).run P w = .ok v' w') (h : K (a.put o.dst v') w') : Oper.wp P o a w K Q := by
  unfold Oper.wp execOp
  simp only [ho, resolve, invoke, builtin, Sem.run_bind, Sem.run_pure, Result.andThen_ok, List.map_toArray, List.map_cons, List.map_nil, hs, hx, hr]
  exact h
/-- a slice whose memory begins a block of type t (or that is nil); an element has s cells, of n elements the cells are f 0, f 1, .. -/
def Rws (w : World) (t : TypeId) (s : Nat) (v : Value) (n : Nat) (f : Nat → Value) : Prop :=
  (v = .slice none 0 0 ∧ n = 0) ∨ ∃ b cap cur, v = .slice (some ⟨b, 0, none⟩) n cap ∧ w.heap[b]? = some (.cells cur t (0, 0)) ∧ n ≤ cap ∧ cap ≤ maxLen ∧ cur.size = cap * s ∧ ∀ k, k < n * s → cur[k]? = some (f k)
theorem Rws.same {w w' : World} {t : TypeId} {s : Nat} {v : Value} {n : Nat} {f : Nat → Value} (h : Rws w t s v n f) (hb : ∀ g, v.ownBlock = some g → w'.heap[g]? = w.heap[g]?) : Rws w' t s v n f := by
  rcases h with h | ⟨g, cap, cur, rfl, hg, r⟩
  · exact .inl h
  · exact .inr ⟨g, cap, cur, rfl, by rw [hb g rfl]; exact hg, r⟩
theorem Rws.lt {w : World} {t : TypeId} {s : Nat} {v : Value} {n : Nat} {f : Nat → Value} (h : Rws w t s v n f) : ∀ g, v.ownBlock = some g → g < w.heap.size := by
  intro k hk
  rcases h with ⟨rfl, _⟩ | ⟨g, cap, cur, rfl, hg, r⟩
  · simp [Value.ownBlock] at hk
  · simp [Value.ownBlock] at hk
    subst hk
    exact (Array.getElem?_eq_some_iff.1 hg).1
theorem Rws.below {w w' : World} {t : TypeId} {s : Nat} {v : Value} {n : Nat} {f : Nat → Value} (h : Rws w t s v n f) (hb : Below w.heap.size w w') : Rws w' t s v n f := h.same (fun g hg => hb.block g (h.lt g hg))
theorem Rws.shape {w : World} {t : TypeId} {s : Nat} {v : Value} {n : Nat} {f : Nat → Value} (h : Rws w t s v n f) : ∃ a cap, v = .slice a n cap := by
  rcases h with ⟨rfl, h0⟩ | ⟨g, cap, cur, rfl, hg, r⟩
  · exact ⟨none, 0, by rw [h0]⟩
  · exact ⟨_, cap, rfl⟩
theorem Rws.type {w : World} {t : TypeId} {s : Nat} {v : Value} {n : Nat} {f : Nat → Value} (h : Rws w t s v n f) (g : Nat) (hg : v.ownBlock = some g) : ∃ c, w.heap[g]? = some (.cells c t (0, 0)) := by
  rcases h with ⟨rfl, _⟩ | ⟨g', cap, cur, rfl, hg', _⟩
  · simp [Value.ownBlock] at hg
  · simp [Value.ownBlock] at hg
    subst hg
    exact ⟨cur, hg'⟩
/-- two lists in blocks of two types lie apart -/
theorem Rws.apart {w : World} {t t' : TypeId} {s s' : Nat} {v v' : Value} {n n' : Nat} {f f' : Nat → Value} (h : Rws w t s v n f) (h' : Rws w t' s' v' n' f') (ht : t ≠ t') (g : Nat) (hg : v.ownBlock = some g) : v'.ownBlock ≠ some g := fun e => by
  obtain ⟨c, hc⟩ := h.type g hg
  obtain ⟨c', hc'⟩ := h'.type g e
  rw [hc] at hc'
  cases hc'
  exact ht rfl
theorem Rws.at {w : World} {t : TypeId} {s : Nat} {v : Value} {n : Nat} {f : Nat → Value} (h : Rws w t s v n f) (hn : 0 < n) : ∃ g cap, v = .slice (some ⟨g, 0, none⟩) n cap ∧ v.ownBlock = some g ∧ g < w.heap.size ∧ ∀ j, j < n * s → w.cell? ⟨g, j, none⟩ = some (f j) := by
  rcases h with ⟨rfl, h0⟩ | ⟨g, cap, cur, rfl, hg, hn, hc, hs, hf⟩
  · omega
  · refine ⟨g, cap, rfl, rfl, (Array.getElem?_eq_some_iff.1 hg).1, fun j hj => ?_⟩
    simp only [World.cell?, hg]
    exact hf j hj
theorem Rws.congr {w : World} {t : TypeId} {s : Nat} {v : Value} {n : Nat} {f f' : Nat → Value} (h : Rws w t s v n f) (hf : ∀ j, j < n * s → f j = f' j) : Rws w t s v n f' := by
  rcases h with h | ⟨g, cap, cur, rfl, hg, hn, hc, hs, hh⟩
  · exact .inl h
  · exact .inr ⟨g, cap, cur, rfl, hg, hn, hc, hs, fun j hj => by rw [hh j hj, hf j hj]⟩
/-- what an append changed, whose cells lie from c on -/
structure Gr (e : TypeId) (c m : Nat) (w w' : World) (v v' : Value) : Prop where
  os : w'.os = w.os
  tape : w'.tape = w.tape
  output : w'.output = w.output
  how : (∃ g cur cur', v.ownBlock = some g ∧ v'.ownBlock = some g ∧ w.heap[g]? = some (.cells cur e (0, 0)) ∧ w'.heap[g]? = some (.cells cur' e (0, 0)) ∧ cur'.size = cur.size ∧ (∀ j, j < c ∨ c + m ≤ j → cur'[j]? = cur[j]?) ∧ w'.heap.size = w.heap.size ∧ ∀ k, k ≠ g → w'.heap[k]? = w.heap[k]?) ∨
    (v'.ownBlock = some w.heap.size ∧ w'.heap.size = w.heap.size + 1 ∧ ∀ k, k < w.heap.size → w'.heap[k]? = w.heap[k]?)
theorem Gr.size {e : TypeId} {c m : Nat} {w w' : World} {v v' : Value} (h : Gr e c m w w' v v') : w.heap.size ≤ w'.heap.size := by
  rcases h.how with ⟨g, cur, cur', _, _, _, _, _, _, hs, _⟩ | ⟨_, hs, _⟩ <;> omega
theorem Gr.other {e : TypeId} {c m : Nat} {w w' : World} {v v' : Value} (h : Gr e c m w w' v v') (k : Nat) (hk : k < w.heap.size) (hv : v.ownBlock ≠ some k) : w'.heap[k]? = w.heap[k]? := by
  rcases h.how with ⟨g, cur, cur', h1, _, _, _, _, _, _, hb⟩ | ⟨_, _, hb⟩
  · exact hb k (fun e => hv (by rw [h1, e]))
  · exact hb k hk
/-- where what was appended to lies from B on, all below B is as it was -/
theorem Gr.below {e : TypeId} {c m : Nat} {w w' : World} {v v' : Value} (h : Gr e c m w w' v v') (B : Nat) (hB : B ≤ w.heap.size) (hv : ∀ g, v.ownBlock = some g → B ≤ g) : Below B w w' :=
  ⟨h.os, h.tape, h.output, h.size, fun b hb => h.other b (by omega) (fun e => by have := hv b e; omega)⟩
theorem Gr.own {e : TypeId} {c m : Nat} {w w' : World} {v v' : Value} (h : Gr e c m w w' v v') (B : Nat) (hB : B ≤ w.heap.size) (hv : ∀ g, v.ownBlock = some g → B ≤ g) : ∀ g, v'.ownBlock = some g → B ≤ g := fun g hg => by
  rcases h.how with ⟨g', cur, cur', h1, h2, _⟩ | ⟨h2, _⟩
  · rw [hg] at h2; cases h2; exact hv g h1
  · rw [hg] at h2; cases h2; exact hB
theorem addr0 (b j : Nat) : (⟨b, 0, none⟩ : Addr).add j = ⟨b, j, none⟩ := by unfold Addr.add; split <;> simp_all
theorem run_append_rws {P : Program} {w : World} (ty t e : TypeId) (i : TypeInfo) (z : Value) (s bytes : Nat) (ht : P.underlying t = some (.slice e)) (hi : P.info? e = some i) (hz : i.zero = some z) (hsize : i.size = s) (hby : i.bytes = bytes) (hzs : z.cells.size = s)
    (tb : TypeId) (v : Value) (n : Nat) (f : Nat → Value) (hown : Rws w tb s v n f) (hfull : tb = e ∨ ∀ b cap, v = .slice (some b) n cap → cap = n) (b m mc : Nat) (news : List Value) (hm : 0 < m) (hl : news.length = m * s) (hc : ∀ j x, news[j]? = some x → w.cell? ⟨b, j, none⟩ = some x) (h1 : ∀ x ∈ news, x.oneCell' = true) (hn : (n + m) * bytes ≤ 140737488355328) (hn2 : n + m ≤ 1000000) :
    ∃ v' w', (Builtin.append_ #[t, t] ty #[v, .slice (some ⟨b, 0, none⟩) m mc]).run P w = .ok v' w' ∧ Rws w' e s v' (n + m) (fun k => if k < n * s then f k else news.getD (k - n * s) undef) ∧ Gr e (n * s) news.length w w' v v' := by
  have hnews : ∀ j x, news[j]? = some x → w.cell? ((⟨b, 0, none⟩ : Addr).add j) = some x := by
    intro j x hj
    rw [addr0]
    exact hc j x hj
  have hml : n + m ≤ maxLen := by simp only [maxLen]; omega
  have hnm : (n + m) * s = n * s + m * s := Nat.add_mul _ _ _
  rcases hown with ⟨rfl, rfl⟩ | ⟨g, cap, cur, rfl, hg, hnc, hcm, hcs, hf⟩
  · simp only [Nat.zero_add, Nat.zero_mul, Nat.not_lt_zero, if_false, Nat.sub_zero] at *
    have hr := run_append_nil (P := P) w t ty e i z ht hi hz ⟨b, 0, none⟩ m mc news (by rw [hsize]; exact hl) hnews hm (by omega) (by rw [hby]; omega)
    have hge := grownCap_ge w m 0 e
    have hcm2 : grownCap w m 0 e ≤ maxLen := grownCap_le_maxLen w m 0 e hml
    refine ⟨_, _, hr, .inr ⟨w.heap.size, _, _, rfl, heap_alloc_new w.drew _, hge, hcm2, ?_, fun j hj => ?_⟩, ⟨rfl, rfl, rfl, .inr ⟨rfl, by simp, fun k hk => heap_alloc_old w.drew _ hk⟩⟩⟩
    · simp only [Array.size_append, List.size_toArray, size_zeroCells, hzs, hl]
      rw [← Nat.add_mul]
      congr 1
      omega
    · show _ = some (news.getD j undef)
      rw [Array.getElem?_append_left (by rw [List.size_toArray, hl]; exact hj), List.getElem?_toArray, List.getD_eq_getElem?_getD, List.getElem?_eq_getElem (by omega)]
      rfl
  · by_cases hroom : n + m ≤ cap
    · have hte : tb = e := by
        rcases hfull with h | h
        · exact h
        · have := h _ _ rfl; omega
      subst hte
      have hcap : (n + m) * s ≤ cap * s := Nat.mul_le_mul_right _ hroom
      have hr := run_append_room (P := P) w t ty tb i ht hi g n cap cur hg ⟨b, 0, none⟩ m mc news (by rw [hsize]; exact hl) hnews h1 hroom (by rw [hsize, hcs, hl]; omega)
      rw [hsize] at hr
      have hlt : (cur.toList.take (n * s)).length = n * s := by simp; omega
      have hcur : ∀ j, j < n * s ∨ n * s + news.length ≤ j → (cur.toList.take (n * s) ++ news ++ cur.toList.drop (n * s + news.length)).toArray[j]? = cur[j]? := by
        intro j hj
        rw [List.getElem?_toArray]
        rcases hj with hj | hj
        · rw [List.append_assoc, List.getElem?_append_left (by omega), List.getElem?_take, if_pos hj]
          simp
        · rw [List.getElem?_append_right (by simp only [List.length_append, hlt]; omega), List.length_append, hlt, List.getElem?_drop]
          rw [show n * s + news.length + (j - (n * s + news.length)) = j by omega]
          simp
      have hnew : ∀ j, n * s ≤ j → j < n * s + news.length → (cur.toList.take (n * s) ++ news ++ cur.toList.drop (n * s + news.length)).toArray[j]? = some (news.getD (j - n * s) undef) := by
        intro j hj hj2
        rw [List.getElem?_toArray, List.append_assoc, List.getElem?_append_right (by omega), hlt, List.getElem?_append_left (by omega), List.getD_eq_getElem?_getD, List.getElem?_eq_getElem (by omega)]
        rfl
      have hsz : (cur.toList.take (n * s) ++ news ++ cur.toList.drop (n * s + news.length)).toArray.size = cur.size := by
        simp only [List.size_toArray, List.length_append, hlt, List.length_drop, Array.length_toList]
        omega
      have hblk := setRow_heap w g cur (cur.toList.take (n * s) ++ news ++ cur.toList.drop (n * s + news.length)).toArray tb _ hg
      generalize (cur.toList.take (n * s) ++ news ++ cur.toList.drop (n * s + news.length)).toArray = cur' at *
      refine ⟨_, _, hr, .inr ⟨g, cap, cur', rfl, hblk, hroom, hcm, by omega, fun j hj => ?_⟩, ⟨rfl, rfl, rfl, .inl ⟨g, cur, cur', rfl, rfl, hg, hblk, hsz, hcur, by simp [World.setRow], fun k hk => setRow_other w g k _ hk⟩⟩⟩
      by_cases e1 : j < n * s
      · simp only [if_pos e1]
        rw [hcur j (.inl e1), hf j e1]
      · simp only [if_neg e1]
        exact hnew j (by omega) (by omega)
    · have hol : (cur.toList.take (n * s)).length = n * s := by
        have := Nat.mul_le_mul_right s hnc
        simp; omega
      have holds : ∀ j x, (cur.toList.take (n * s))[j]? = some x → w.cell? ((⟨g, 0, none⟩ : Addr).add j) = some x := by
        intro j x hj
        rw [addr0]
        simp only [World.cell?, hg]
        rw [List.getElem?_take] at hj
        split at hj
        · simpa using hj
        · cases hj
      have hr := run_append_grow (P := P) w t ty e i z ht hi hz ⟨g, 0, none⟩ n cap (cur.toList.take (n * s)) (by rw [hsize]; omega) holds ⟨b, 0, none⟩ m mc news (by rw [hsize]; exact hl) hnews (by omega) (by omega) (by rw [hby]; exact growslice_fits (by omega) hn)
      have hge := grownCap_ge w (n + m) cap e
      have hcm2 : grownCap w (n + m) cap e ≤ maxLen := grownCap_le_maxLen w (n + m) cap e hml
      refine ⟨_, _, hr, .inr ⟨w.heap.size, _, _, rfl, heap_alloc_new w.drew _, hge, hcm2, ?_, fun j hj => ?_⟩, ⟨rfl, rfl, rfl, .inr ⟨rfl, by simp, fun k hk => heap_alloc_old w.drew _ hk⟩⟩⟩
      · simp only [Array.size_append, List.size_toArray, size_zeroCells, hzs, hol, hl]
        rw [← Nat.add_mul, ← Nat.add_mul]
        congr 1
        omega
      · rw [Array.getElem?_append_left (by simp only [Array.size_append, List.size_toArray, hol, hl]; omega)]
        by_cases e1 : j < n * s
        · simp only [if_pos e1]
          rw [← hf j e1, Array.getElem?_append_left (by simp only [List.size_toArray, hol]; omega), List.getElem?_toArray, List.getElem?_take, if_pos e1]
          simp
        · simp only [if_neg e1]
          rw [Array.getElem?_append_right (by simp only [List.size_toArray, hol]; omega), List.size_toArray, hol, List.getElem?_toArray, List.getD_eq_getElem?_getD, List.getElem?_eq_getElem (by omega)]
          rfl
/-- at a plain region -/
theorem append_rws {P : Program} {w : World} {ops : Array Oper} {rest : List Oper} {o : Oper} {a : Act} {Q : Exit → Act → World → Prop} (hgd : o.guard = none) (so x : Operand) (t : TypeId) (ho : o.op = .call { callee := .builtin .append, args := #[so, x], argTypes := #[t, t] })
    (e : TypeId) (i : TypeInfo) (z : Value) (s bytes : Nat) (ht : P.underlying t = some (.slice e)) (hi : P.info? e = some i) (hz : i.zero = some z) (hsize : i.size = s) (hby : i.bytes = bytes) (hzs : z.cells.size = s)
    (tb : TypeId) (v : Value) (n : Nat) (f : Nat → Value) (hs : a.eval so = v) (hown : Rws w tb s v n f) (hfull : tb = e ∨ ∀ b cap, v = .slice (some b) n cap → cap = n) (b m : Nat) (hx : a.eval x = .slice (some ⟨b, 0, none⟩) m m) (news : List Value) (hm : 0 < m) (hl : news.length = m * s) (hc : ∀ j x, news[j]? = some x → w.cell? ⟨b, j, none⟩ = some x) (h1 : ∀ x ∈ news, x.oneCell' = true) (hn : (n + m) * bytes ≤ 140737488355328) (hn2 : n + m ≤ 1000000)
    (h : ∀ v' w', Rws w' e s v' (n + m) (fun k => if k < n * s then f k else news.getD (k - n * s) undef) → Gr e (n * s) news.length w w' v v' → wpList P ops Q rest (a.put o.dst v') w') : wpList P ops Q (o :: rest) a w := by
  refine wpList_plain hgd fun _ hK => ?_
  obtain ⟨v', w', hr, h2, h3⟩ := run_append_rws (P := P) (w := w) o.type t e i z s bytes ht hi hz hsize hby hzs tb v n f hown hfull b m m news hm hl hc h1 hn hn2
  exact wp_appended so x t ho _ _ hs hx _ _ hr (hK _ _ (h v' w' h2 h3))
/-- at a step of a region that draws -/
theorem step_append_rws {P : Program} {ops : Array Oper} {o : Oper} {a : Act} {w : World} {K : Act → World → Prop} {Q : Exit → Act → World → Prop} {E : Prop} (hg : o.guard = none) (so x : Operand) (t : TypeId) (ho : o.op = .call { callee := .builtin .append, args := #[so, x], argTypes := #[t, t] })
    (e : TypeId) (i : TypeInfo) (z : Value) (s bytes : Nat) (ht : P.underlying t = some (.slice e)) (hi : P.info? e = some i) (hz : i.zero = some z) (hsize : i.size = s) (hby : i.bytes = bytes) (hzs : z.cells.size = s)
    (tb : TypeId) (v : Value) (n : Nat) (f : Nat → Value) (hs : a.eval so = v) (hown : Rws w tb s v n f) (hfull : tb = e ∨ ∀ b cap, v = .slice (some b) n cap → cap = n) (b m : Nat) (hx : a.eval x = .slice (some ⟨b, 0, none⟩) m m) (news : List Value) (hm : 0 < m) (hl : news.length = m * s) (hc : ∀ j x, news[j]? = some x → w.cell? ⟨b, j, none⟩ = some x) (h1 : ∀ x ∈ news, x.oneCell' = true) (hn : (n + m) * bytes ≤ 140737488355328) (hn2 : n + m ≤ 1000000)
    (h : ∀ v' w', Rws w' e s v' (n + m) (fun k => if k < n * s then f k else news.getD (k - n * s) undef) → Gr e (n * s) news.length w w' v v' → K (a.put o.dst v') w') : if Region.wanted o (yielded ops a.tmps) = true then Oper.wp P o a w K Q else E := by
  have hw : Region.wanted o (yielded ops a.tmps) = true := by simp [Region.wanted, hg]
  rw [if_pos hw]
  obtain ⟨v', w', hr, h2, h3⟩ := run_append_rws (P := P) (w := w) o.type t e i z s bytes ht hi hz hsize hby hzs tb v n f hown hfull b m m news hm hl hc h1 hn hn2
  exact wp_appended so x t ho _ _ hs hx _ _ hr (h v' w' h2 h3)
/-- the cells of a new row -/
theorem made_cells (w : World) (l : List Value) (t : TypeId) : ∀ j x, l[j]? = some x → (w.alloc (.cells l.toArray t)).cell? ⟨w.heap.size, j, none⟩ = some x := fun j x hj => by
  rw [cell_of_row _ _ _ _ _ _ (heap_alloc_new w _), List.getElem?_toArray]
  exact hj

/-- as run_append_rws, from any address, of any length -/
theorem run_append_at {P : Program} {w : World} (ty t e : TypeId) (i : TypeInfo) (z : Value) (s bytes : Nat) (ht : P.underlying t = some (.slice e)) (hi : P.info? e = some i) (hz : i.zero = some z) (hsize : i.size = s) (hby : i.bytes = bytes) (hzs : z.cells.size = s)
    (tb : TypeId) (v : Value) (n : Nat) (f : Nat → Value) (hown : Rws w tb s v n f) (hfull : tb = e ∨ ∀ b cap, v = .slice (some b) n cap → cap = n) (ad : Addr) (m mc : Nat) (news : List Value) (hm : 0 < m) (hl : news.length = m * s) (hnews : ∀ j x, news[j]? = some x → w.cell? (ad.add j) = some x) (h1 : ∀ x ∈ news, x.oneCell' = true) (hn : (n + m) * bytes ≤ 140737488355328) (hml : n + m ≤ maxLen) :
    ∃ v' w', (Builtin.append_ #[t, t] ty #[v, .slice (some ad) m mc]).run P w = .ok v' w' ∧ Rws w' e s v' (n + m) (fun k => if k < n * s then f k else news.getD (k - n * s) undef) ∧ Gr e (n * s) news.length w w' v v' := by
  have hml2 : n + m ≤ 9223372036854775807 := hml
  have hnm : (n + m) * s = n * s + m * s := Nat.add_mul _ _ _
  rcases hown with ⟨rfl, rfl⟩ | ⟨g, cap, cur, rfl, hg, hnc, hcm, hcs, hf⟩
  · simp only [Nat.zero_add, Nat.zero_mul, Nat.not_lt_zero, if_false, Nat.sub_zero] at *
    have hr := run_append_nil (P := P) w t ty e i z ht hi hz ad m mc news (by rw [hsize]; exact hl) hnews hm (by omega) (by rw [hby]; omega)
    have hge := grownCap_ge w m 0 e
    have hcm2 : grownCap w m 0 e ≤ maxLen := grownCap_le_maxLen w m 0 e hml
    refine ⟨_, _, hr, .inr ⟨w.heap.size, _, _, rfl, heap_alloc_new w.drew _, hge, hcm2, ?_, fun j hj => ?_⟩, ⟨rfl, rfl, rfl, .inr ⟨rfl, by simp, fun k hk => heap_alloc_old w.drew _ hk⟩⟩⟩
    · simp only [Array.size_append, List.size_toArray, size_zeroCells, hzs, hl]
      rw [← Nat.add_mul]
      congr 1
      omega
    · show _ = some (news.getD j undef)
      rw [Array.getElem?_append_left (by rw [List.size_toArray, hl]; exact hj), List.getElem?_toArray, List.getD_eq_getElem?_getD, List.getElem?_eq_getElem (by omega)]
      rfl
  · by_cases hroom : n + m ≤ cap
    · have hte : tb = e := by
        rcases hfull with h | h
        · exact h
        · have := h _ _ rfl; omega
      subst hte
      have hcap : (n + m) * s ≤ cap * s := Nat.mul_le_mul_right _ hroom
      have hr := run_append_room (P := P) w t ty tb i ht hi g n cap cur hg ad m mc news (by rw [hsize]; exact hl) hnews h1 hroom (by rw [hsize, hcs, hl]; omega)
      rw [hsize] at hr
      have hlt : (cur.toList.take (n * s)).length = n * s := by simp; omega
      have hcur : ∀ j, j < n * s ∨ n * s + news.length ≤ j → (cur.toList.take (n * s) ++ news ++ cur.toList.drop (n * s + news.length)).toArray[j]? = cur[j]? := by
        intro j hj
        rw [List.getElem?_toArray]
        rcases hj with hj | hj
        · rw [List.append_assoc, List.getElem?_append_left (by omega), List.getElem?_take, if_pos hj]
          simp
        · rw [List.getElem?_append_right (by simp only [List.length_append, hlt]; omega), List.length_append, hlt, List.getElem?_drop]
          rw [show n * s + news.length + (j - (n * s + news.length)) = j by omega]
          simp
      have hnew : ∀ j, n * s ≤ j → j < n * s + news.length → (cur.toList.take (n * s) ++ news ++ cur.toList.drop (n * s + news.length)).toArray[j]? = some (news.getD (j - n * s) undef) := by
        intro j hj hj2
        rw [List.getElem?_toArray, List.append_assoc, List.getElem?_append_right (by omega), hlt, List.getElem?_append_left (by omega), List.getD_eq_getElem?_getD, List.getElem?_eq_getElem (by omega)]
        rfl
      have hsz : (cur.toList.take (n * s) ++ news ++ cur.toList.drop (n * s + news.length)).toArray.size = cur.size := by
        simp only [List.size_toArray, List.length_append, hlt, List.length_drop, Array.length_toList]
        omega
      have hblk := setRow_heap w g cur (cur.toList.take (n * s) ++ news ++ cur.toList.drop (n * s + news.length)).toArray tb _ hg
      generalize (cur.toList.take (n * s) ++ news ++ cur.toList.drop (n * s + news.length)).toArray = cur' at *
      refine ⟨_, _, hr, .inr ⟨g, cap, cur', rfl, hblk, hroom, hcm, by omega, fun j hj => ?_⟩, ⟨rfl, rfl, rfl, .inl ⟨g, cur, cur', rfl, rfl, hg, hblk, hsz, hcur, by simp [World.setRow], fun k hk => setRow_other w g k _ hk⟩⟩⟩
      by_cases e1 : j < n * s
      · simp only [if_pos e1]
        rw [hcur j (.inl e1), hf j e1]
      · simp only [if_neg e1]
        exact hnew j (by omega) (by omega)
    · have hol : (cur.toList.take (n * s)).length = n * s := by
        have := Nat.mul_le_mul_right s hnc
        simp; omega
      have holds : ∀ j x, (cur.toList.take (n * s))[j]? = some x → w.cell? ((⟨g, 0, none⟩ : Addr).add j) = some x := by
        intro j x hj
        rw [addr0]
        simp only [World.cell?, hg]
        rw [List.getElem?_take] at hj
        split at hj
        · simpa using hj
        · cases hj
      have hr := run_append_grow (P := P) w t ty e i z ht hi hz ⟨g, 0, none⟩ n cap (cur.toList.take (n * s)) (by rw [hsize]; omega) holds ad m mc news (by rw [hsize]; exact hl) hnews (by omega) (by omega) (by rw [hby]; exact growslice_fits (by omega) hn)
      have hge := grownCap_ge w (n + m) cap e
      have hcm2 : grownCap w (n + m) cap e ≤ maxLen := grownCap_le_maxLen w (n + m) cap e hml
      refine ⟨_, _, hr, .inr ⟨w.heap.size, _, _, rfl, heap_alloc_new w.drew _, hge, hcm2, ?_, fun j hj => ?_⟩, ⟨rfl, rfl, rfl, .inr ⟨rfl, by simp, fun k hk => heap_alloc_old w.drew _ hk⟩⟩⟩
      · simp only [Array.size_append, List.size_toArray, size_zeroCells, hzs, hol, hl]
        rw [← Nat.add_mul, ← Nat.add_mul]
        congr 1
        omega
      · rw [Array.getElem?_append_left (by simp only [Array.size_append, List.size_toArray, hol, hl]; omega)]
        by_cases e1 : j < n * s
        · simp only [if_pos e1]
          rw [← hf j e1, Array.getElem?_append_left (by simp only [List.size_toArray, hol]; omega), List.getElem?_toArray, List.getElem?_take, if_pos e1]
          simp
        · simp only [if_neg e1]
          rw [Array.getElem?_append_right (by simp only [List.size_toArray, hol]; omega), List.size_toArray, hol, List.getElem?_toArray, List.getD_eq_getElem?_getD, List.getElem?_eq_getElem (by omega)]
          rfl
/-- nothing is appended -/
theorem run_append_zero {P : Program} {w : World} (ty t e : TypeId) (i : TypeInfo) (s : Nat) (ht : P.underlying t = some (.slice e)) (hi : P.info? e = some i)
    (tb : TypeId) (v : Value) (n : Nat) (f : Nat → Value) (hown : Rws w tb s v n f) (a : Option Addr) (c : Nat) : (Builtin.append_ #[t, t] ty #[v, .slice a 0 c]).run P w = .ok v w := by
  rcases hown with ⟨rfl, rfl⟩ | ⟨g, cap, cur, rfl, hg, hnc, hcm, hcs, hf⟩
  · cases a <;> simp [Builtin.append_, run_underlying ht, sizeOf, typeInfo, hi, Builtin.lenOf, Builtin.firstCells, loadCells, loadCellsFrom, storeCells]
  · cases a <;> simp [Builtin.append_, run_underlying ht, sizeOf, typeInfo, hi, Builtin.lenOf, Builtin.firstCells, hnc, loadCells, loadCellsFrom, storeCells]
/-- what an append of any list leaves -/
def Ga (e : TypeId) (c m : Nat) (w w' : World) (v v' : Value) : Prop := (w' = w ∧ v' = v) ∨ Gr e c m w w' v v'
theorem run_append_any {P : Program} {w : World} (ty t e : TypeId) (i : TypeInfo) (z : Value) (s bytes : Nat) (ht : P.underlying t = some (.slice e)) (hi : P.info? e = some i) (hz : i.zero = some z) (hsize : i.size = s) (hby : i.bytes = bytes) (hzs : z.cells.size = s)
    (v : Value) (n : Nat) (f : Nat → Value) (hown : Rws w e s v n f) (a : Option Addr) (m mc : Nat) (news : List Value) (hl : news.length = m * s) (hnil : a = none → m = 0) (hc : ∀ ad, a = some ad → ∀ (j : Nat) (x : Value), news[j]? = some x → w.cell? (ad.add j) = some x) (h1 : ∀ x ∈ news, x.oneCell' = true) (hn : (n + m) * bytes ≤ 140737488355328) (hn2 : n + m ≤ maxLen) :
    ∃ v' w', (Builtin.append_ #[t, t] ty #[v, .slice a m mc]).run P w = .ok v' w' ∧ Rws w' e s v' (n + m) (fun k => if k < n * s then f k else news.getD (k - n * s) undef) ∧ Ga e (n * s) news.length w w' v v' := by
  by_cases hm : m = 0
  · subst hm
    exact ⟨v, w, run_append_zero ty t e i s ht hi e v n f hown a mc, hown.congr fun k hk => by rw [if_pos hk], .inl ⟨rfl, rfl⟩⟩
  · cases a with
    | none => exact absurd (hnil rfl) hm
    | some ad =>
      obtain ⟨v', w', h, h2, h3⟩ := run_append_at (P := P) (w := w) ty t e i z s bytes ht hi hz hsize hby hzs e v n f hown (.inl rfl) ad m mc news (by omega) hl (hc ad rfl) h1 hn hn2
      exact ⟨v', w', h, h2, .inr h3⟩
/-- at a step of a region that draws -/
theorem step_append_any {P : Program} {ops : Array Oper} {o : Oper} {a : Act} {w : World} {K : Act → World → Prop} {Q : Exit → Act → World → Prop} {E : Prop} (hg : o.guard = none) (so x : Operand) (t : TypeId) (ho : o.op = .call { callee := .builtin .append, args := #[so, x], argTypes := #[t, t] })
    (e : TypeId) (i : TypeInfo) (z : Value) (s bytes : Nat) (ht : P.underlying t = some (.slice e)) (hi : P.info? e = some i) (hz : i.zero = some z) (hsize : i.size = s) (hby : i.bytes = bytes) (hzs : z.cells.size = s)
    (v : Value) (n : Nat) (f : Nat → Value) (hs : a.eval so = v) (hown : Rws w e s v n f) (b : Option Addr) (m mc : Nat) (hx : a.eval x = .slice b m mc) (news : List Value) (hl : news.length = m * s) (hnil : b = none → m = 0) (hc : ∀ ad, b = some ad → ∀ (j : Nat) (x : Value), news[j]? = some x → w.cell? (ad.add j) = some x) (h1 : ∀ x ∈ news, x.oneCell' = true) (hn : (n + m) * bytes ≤ 140737488355328) (hn2 : n + m ≤ maxLen)
    (h : ∀ v' w', Rws w' e s v' (n + m) (fun k => if k < n * s then f k else news.getD (k - n * s) undef) → Ga e (n * s) news.length w w' v v' → K (a.put o.dst v') w') : if Region.wanted o (yielded ops a.tmps) = true then Oper.wp P o a w K Q else E := by
  have hw : Region.wanted o (yielded ops a.tmps) = true := by simp [Region.wanted, hg]
  rw [if_pos hw]
  obtain ⟨v', w', hr, h2, h3⟩ := run_append_any (P := P) (w := w) o.type t e i z s bytes ht hi hz hsize hby hzs v n f hown b m mc news hl hnil hc h1 hn hn2
  exact wp_appended so x t ho _ _ hs hx _ _ hr (h v' w' h2 h3)

theorem append_gen {P : Program} {w : World} {ops : Array Oper} {rest : List Oper} {o : Oper} {a : Act} {Q : Exit → Act → World → Prop} (hgd : o.guard = none) (so x : Operand) (t : TypeId) (ho : o.op = .call { callee := .builtin .append, args := #[so, x], argTypes := #[t, t] })
    (e : TypeId) (i : TypeInfo) (z : Value) (s bytes : Nat) (ht : P.underlying t = some (.slice e)) (hi : P.info? e = some i) (hz : i.zero = some z) (hsize : i.size = s) (hby : i.bytes = bytes) (hzs : z.cells.size = s)
    (v : Value) (n : Nat) (f : Nat → Value) (hs : a.eval so = v) (hown : Rws w e s v n f) (b : Option Addr) (m mc : Nat) (hx : a.eval x = .slice b m mc) (news : List Value) (hl : news.length = m * s) (hnil : b = none → m = 0) (hc : ∀ ad, b = some ad → ∀ (j : Nat) (x : Value), news[j]? = some x → w.cell? (ad.add j) = some x) (h1 : ∀ x ∈ news, x.oneCell' = true) (hn : (n + m) * bytes ≤ 140737488355328) (hn2 : n + m ≤ maxLen)
    (h : ∀ v' w', Rws w' e s v' (n + m) (fun k => if k < n * s then f k else news.getD (k - n * s) undef) → Ga e (n * s) news.length w w' v v' → wpList P ops Q rest (a.put o.dst v') w') : wpList P ops Q (o :: rest) a w := by
  refine wpList_plain hgd fun _ hK => ?_
  obtain ⟨v', w', hr, h2, h3⟩ := run_append_any (P := P) (w := w) o.type t e i z s bytes ht hi hz hsize hby hzs v n f hown b m mc news hl hnil hc h1 hn hn2
  exact wp_appended so x t ho _ _ hs hx _ _ hr (hK _ _ (h v' w' h2 h3))
/-- a list in new memory -/
structure Nw (w W : World) (v : Value) : Prop where
  bel : Below w.heap.size w W
  own : ∀ g, v.ownBlock = some g → w.heap.size ≤ g
theorem Nw.nil (w : World) : Nw w w (.slice none 0 0) := ⟨Below.refl _ _, fun g hg => (by cases hg)⟩
theorem Nw.on {w W W' : World} {v : Value} (h : Nw w W v) (hb : Below W.heap.size W W') : Nw w W' v := ⟨h.bel.trans (hb.mono h.bel.size), h.own⟩
theorem Nw.ga {w W W' : World} {v v' : Value} {e : TypeId} {c m : Nat} (h : Nw w W v) (hg : Ga e c m W W' v v') : Nw w W' v' := by
  rcases hg with ⟨rfl, rfl⟩ | hg
  · exact h
  · refine ⟨h.bel.trans (hg.below _ h.bel.size h.own), fun g hg' => ?_⟩
    exact hg.own _ h.bel.size h.own g hg'
theorem info_parts4 {t : TypeId} {z : Value} {s b : Nat} (h : (Try.prog.info? t).map (fun i => (i.zero, i.size, i.bytes)) = some (some z, s, b)) : ∃ i, Try.prog.info? t = some i ∧ i.zero = some z ∧ i.size = s ∧ i.bytes = b := by
  obtain ⟨i0, hi0, hzz⟩ := Option.map_eq_some_iff.1 h
  simp only [Prod.mk.injEq] at hzz
  exact ⟨i0, hi0, hzz.1, hzz.2.1, hzz.2.2⟩
/-- a list of lists of bytes -/
def BL (w : World) (a : Option Addr) (l : List (List Nat)) : Prop := l = [] ∨ ∃ b off, a = some ⟨b, off, none⟩ ∧ b < w.heap.size ∧ ∀ i T, l[i]? = some T → ∃ ai ci, w.cell? ⟨b, off + i, none⟩ = some (.slice ai T.length ci) ∧ Bytes w ai T
theorem Bytes.below' {w w' : World} {a : Option Addr} {l : List Nat} (h : Bytes w a l) (hb : Below w.heap.size w w') : Bytes w' a l := by
  rcases h with h | ⟨b, off, e, hl, hc⟩
  · exact .inl h
  · exact .inr ⟨b, off, e, Nat.lt_of_lt_of_le hl hb.size, fun i hi => (hb.cell (p := ⟨b, off + i, none⟩) hl).trans (hc i hi)⟩
theorem BL.below {w w' : World} {a : Option Addr} {l : List (List Nat)} (h : BL w a l) (hb : Below w.heap.size w w') : BL w' a l := by
  rcases h with h | ⟨b, off, e, hl, hc⟩
  · exact .inl h
  · refine .inr ⟨b, off, e, Nat.lt_of_lt_of_le hl hb.size, fun i T hi => ?_⟩
    obtain ⟨ai, ci, k1, k2⟩ := hc i T hi
    exact ⟨ai, ci, (hb.cell (p := ⟨b, off + i, none⟩) hl).trans k1, k2.below' hb⟩
end Go.Proofs.Ytljeedgnjgeopaa
