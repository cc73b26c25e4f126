/- The book: marks, what it keeps. -/
import Derived.Test.YtcnlikojbkegiaaGreatDoorLine
namespace Go.Proofs.YtcnlikojbkegiaaGreatDoor.Bk
open Go.ChangeShapes Go.WideShapes Go.ChangeAt Go.RowKit
set_option linter.unusedVariables false
set_option maxRecDepth 100000
set_option maxHeartbeats 4000000

theorem Tryz.info3 : (Tryz.prog.info? 3).map (fun i => (i.zero, i.size, i.bytes)) = some (some (.int .i64 0), 1, 8) := by kernel_rfl
/-- byte k of the mark of list n -/
def atN (n k : Nat) : Nat := if k % 2 = 0 then 1 + n % 251 else 1 + (7 * n + n / 251) % 251
theorem atN_lt (n k : Nat) : atN n k < 256 := by unfold atN; split <;> omega
theorem at_any (n k : Nat) (w : World) (hn : n ≤ 1000000000000) (hk : k ≤ 9007199254740992) : Calls Tryz.prog 63 #[.int .i64 n, .int .i64 k] w fun e w' => e = .returned (.int .u8 (atN n k : Nat)) ∧ w' = w := by
  have e1 : (k : Int).tmod 2 = ((k % 2 : Nat) : Int) := rfl
  have e2 : (n : Int).tmod 251 = ((n % 251 : Nat) : Int) := rfl
  have e3 : (n : Int).tdiv 251 = ((n / 251 : Nat) : Int) := rfl
  have e4 : (7 * (n : Int) + ((n / 251 : Nat) : Int)).tmod 251 = (((7 * n + n / 251) % 251 : Nat) : Int) := rfl
  have l1 : n % 251 < 251 := Nat.mod_lt _ (by decide)
  have l2 : (7 * n + n / 251) % 251 < 251 := Nat.mod_lt _ (by decide)
  have l3 : n / 251 ≤ n := Nat.div_le_self _ _
  unfold atN
  by_cases h : k % 2 = 0
  · rw [if_pos h]
    rw [h] at e1
    generalize n % 251 = r at *
    clear e3 e4 l2 l3
    rw [show ((1 + r : Nat) : Int) = 1 + (r : Int) by omega]
    go_enter Tryz.func63, Tryz.ntmps63
    go_wp2
    go_ret
    exact ⟨rfl, rfl⟩
  · rw [if_neg h]
    have h1 : k % 2 = 1 := by omega
    rw [h1] at e1
    generalize n / 251 = d at *
    generalize (7 * n + d) % 251 = r at *
    rw [show ((1 + r : Nat) : Int) = 1 + (r : Int) by omega]
    go_enter Tryz.func63, Tryz.ntmps63
    go_wp2
    go_ret
    exact ⟨rfl, rfl⟩
def wmN (m : Nat) : Nat := m * 1099511627776
theorem wm_any (m : Nat) (w : World) (hm : m < 16777216) : Calls Tryz.prog 122 #[.int .i64 m] w fun e w' => e = .returned (.int .u64 (wmN m : Nat)) ∧ w' = w := by
  unfold wmN
  rw [show ((m * 1099511627776 : Nat) : Int) = (m : Int) * 1099511627776 by omega]
  go_enter Tryz.func122, Tryz.ntmps122
  go_wp2
  go_ret
  exact ⟨rfl, rfl⟩
def intV (n : Nat) : Value := .int .i64 (n : Int)
/-- one half of a book: lists of one kind: their row, the row of their marks, what these hold; how many have been grown -/
structure HalfSt where
  v : Value
  o : Value
  L : List Value
  M : List Nat
  n : Nat
/-- c tells the kind: its rows have the tags 1 + 2 c and 2 + 2 c, the memory of its lists of mark m the tag 10 + 2 m + c -/
structure Half (c : Nat) (te tl : TypeId) (mk : Nat → Nat → Value) (w : World) (tag : Nat → Nat) (T : Nat) (H : HalfSt) : Prop where
  rl : Line w tl H.v H.L.length (fun j => H.L.getD j undef)
  ro : Line w 3 H.o H.M.length (fun j => intV (H.M.getD j 0))
  tl' : ∀ g, H.v.ownBlock = some g → tag g = 1 + 2 * c
  to' : ∀ g, H.o.ownBlock = some g → tag g = 2 + 2 * c
  ent : ∀ j, j < H.M.length → Line w te (H.L.getD j undef) (lenOf (H.L.getD j undef)) (mk (H.M.getD j 0)) ∧ (∀ g, (H.L.getD j undef).ownBlock = some g → tag g = 10 + 2 * H.M.getD j 0 + c) ∧ lenOf (H.L.getD j undef) ≤ 33554432 ∧ H.M.getD j 0 ≤ T
  fresh : ∀ j, H.n ≤ j → j < H.M.length → lenOf (H.L.getD j undef) ≤ 16777216
  le : H.M.length ≤ H.L.length
/-- all that has the tag 0 is beyond -/
def Under (w : World) (tag : Nat → Nat) : Prop := ∀ g, tag g ≠ 0 → g < w.heap.size
theorem Half.same {c : Nat} {te tl : TypeId} {mk : Nat → Nat → Value} {w w' : World} {tag : Nat → Nat} {T T' : Nat} {H : HalfSt} (h : Half c te tl mk w tag T H) (hb : ∀ g, tag g ≠ 0 → w'.heap[g]? = w.heap[g]?) (hT : T ≤ T') : Half c te tl mk w' tag T' H := by
  refine ⟨h.rl.same (fun g hg => hb g (by rw [h.tl' g hg]; omega)), h.ro.same (fun g hg => hb g (by rw [h.to' g hg]; omega)), h.tl', h.to', fun j hj => ?_, h.fresh, h.le⟩
  obtain ⟨h1, h2, h3, h4⟩ := h.ent j hj
  exact ⟨h1.same (fun g hg => hb g (by rw [h2 g hg]; omega)), h2, h3, by omega⟩
/-- a change of what has another tag -/
theorem Half.conf {c : Nat} {te tl : TypeId} {mk : Nat → Nat → Value} {w w' : World} {tag tag' : Nat → Nat} {T : Nat} {H : HalfSt} (h : Half c te tl mk w tag T H) (k : Nat) (hb : ∀ g, g < w.heap.size → tag g ≠ k → w'.heap[g]? = w.heap[g]?) (ht : ∀ g, g < w.heap.size → tag' g = tag g) (k1 : k ≠ 1 + 2 * c) (k2 : k ≠ 2 + 2 * c) (k3 : ∀ m, k ≠ 10 + 2 * m + c) : Half c te tl mk w' tag' T H := by
  refine ⟨h.rl.same (fun g hg => hb g (h.rl.lt g hg) (by rw [h.tl' g hg]; omega)), h.ro.same (fun g hg => hb g (h.ro.lt g hg) (by rw [h.to' g hg]; omega)), fun g hg => (ht g (h.rl.lt g hg)).trans (h.tl' g hg), fun g hg => (ht g (h.ro.lt g hg)).trans (h.to' g hg), fun j hj => ?_, h.fresh, h.le⟩
  obtain ⟨h1, h2, h3, h4⟩ := h.ent j hj
  exact ⟨h1.same (fun g hg => hb g (h1.lt g hg) (by rw [h2 g hg]; exact fun e => k3 _ e.symm)), fun g hg => (ht g (h1.lt g hg)).trans (h2 g hg), h3, h4⟩
def tagAt (tag : Nat → Nat) (v : Value) (k : Nat) : Nat → Nat := fun g => if v.ownBlock = some g then k else tag g
theorem tagAt_old {e : TypeId} {n : Nat} {u : Value} {w w' : World} {v v' : Value} {tag : Nat → Nat} {k : Nat} (hg : Grew e n u w w' v v') (hv : ∀ g, v.ownBlock = some g → tag g = k) : ∀ g, g < w.heap.size → tagAt tag v' k g = tag g := by
  intro g hlt
  unfold tagAt
  by_cases hh : v'.ownBlock = some g
  · rw [if_pos hh]
    rcases hg.how with ⟨q, cur, h1, h2, _⟩ | ⟨h1, _⟩
    · rw [h2] at hh; cases hh; exact (hv _ h1).symm
    · rw [h1] at hh; cases hh; omega
  · rw [if_neg hh]
theorem tagAt_under {e : TypeId} {n : Nat} {u : Value} {w w' : World} {v v' : Value} {tag : Nat → Nat} {k : Nat} {f : Nat → Value} (hg : Grew e n u w w' v v') (hu : Under w tag) (hl : Line w e v n f) : Under w' (tagAt tag v' k) := by
  intro g hne
  unfold tagAt at hne
  have hs := hg.size
  by_cases hh : v'.ownBlock = some g
  · rcases hg.how with ⟨q, cur, h1, h2, _⟩ | ⟨h1, h2, _⟩
    · rw [h2] at hh; cases hh; have := hl.lt _ h1; omega
    · rw [h1] at hh; cases hh; omega
  · rw [if_neg hh] at hne
    have := hu g hne
    omega
/-- one list more in the row -/
theorem Half.addL {c : Nat} {te tl : TypeId} {mk : Nat → Nat → Value} {w w' : World} {tag : Nat → Nat} {T : Nat} {H : HalfSt} (hc : c ≤ 1) (h : Half c te tl mk w tag T H) {x v' : Value} (hg : Grew tl H.L.length x w w' H.v v') (hl : Line w' tl v' (H.L.length + 1) (fun j => if j < H.L.length then H.L.getD j undef else x)) : Half c te tl mk w' (tagAt tag v' (1 + 2 * c)) T { H with v := v', L := H.L ++ [x] } := by
  have hle := h.le
  have hb : ∀ g, g < w.heap.size → tag g ≠ 1 + 2 * c → w'.heap[g]? = w.heap[g]? := fun g hlt hne => hg.other g hlt (fun e => hne (h.tl' g e))
  have ht := tagAt_old hg h.tl'
  have hgd : ∀ j, j < H.L.length → (H.L ++ [x]).getD j undef = H.L.getD j undef := fun j hj => by
    rw [List.getD_eq_getElem?_getD, List.getElem?_append_left hj, ← List.getD_eq_getElem?_getD]
  refine ⟨?_, h.ro.same (fun g hg => hb g (h.ro.lt g hg) (by rw [h.to' g hg]; omega)), fun g hg => by unfold tagAt; rw [if_pos hg], fun g hg => (ht g (h.ro.lt g hg)).trans (h.to' g hg), fun j hj => ?_, fun j h1 h2 => ?_, by simp; omega⟩
  · show Line w' tl v' (H.L ++ [x]).length _
    rw [List.length_append, List.length_singleton]
    refine hl.congr (fun j hj => ?_)
    by_cases hlt : j < H.L.length
    · rw [if_pos hlt]; exact (hgd j hlt).symm
    · have : j = H.L.length := by omega
      subst this
      rw [if_neg hlt]
      show x = (H.L ++ [x]).getD H.L.length undef
      simp [List.getD_eq_getElem?_getD]
  · have hj' : j < H.M.length := hj
    obtain ⟨h1, h2, h3, h4⟩ := h.ent j hj'
    show Line w' te ((H.L ++ [x]).getD j undef) (lenOf ((H.L ++ [x]).getD j undef)) _ ∧ (∀ g, ((H.L ++ [x]).getD j undef).ownBlock = some g → _) ∧ lenOf ((H.L ++ [x]).getD j undef) ≤ _ ∧ _
    rw [hgd j (by omega)]
    exact ⟨h1.same (fun g hg => hb g (h1.lt g hg) (by rw [h2 g hg]; omega)), fun g hg => (ht g (h1.lt g hg)).trans (h2 g hg), h3, h4⟩
  · show lenOf ((H.L ++ [x]).getD j undef) ≤ _
    have h2' : j < H.M.length := h2
    rw [hgd j (by omega)]
    exact h.fresh j h1 h2'
/-- and its mark -/
theorem Half.addO {c : Nat} {te tl : TypeId} {mk : Nat → Nat → Value} {w w' : World} {tag : Nat → Nat} {T : Nat} {H : HalfSt} (hc : c ≤ 1) (h : Half c te tl mk w tag T H) (hlen : H.L.length = H.M.length + 1) {m : Nat} {o' : Value} (hg : Grew 3 H.M.length (intV m) w w' H.o o') (hl : Line w' 3 o' (H.M.length + 1) (fun j => if j < H.M.length then intV (H.M.getD j 0) else intV m))
    (hn : Line w te (H.L.getD H.M.length undef) (lenOf (H.L.getD H.M.length undef)) (mk m)) (htg : ∀ g, (H.L.getD H.M.length undef).ownBlock = some g → tag g = 10 + 2 * m + c) (hz : lenOf (H.L.getD H.M.length undef) ≤ 33554432) (hmT : m ≤ T) (hf : H.n ≤ H.M.length → lenOf (H.L.getD H.M.length undef) ≤ 16777216) :
    Half c te tl mk w' (tagAt tag o' (2 + 2 * c)) T { H with o := o', M := H.M ++ [m] } := by
  have hb : ∀ g, g < w.heap.size → tag g ≠ 2 + 2 * c → w'.heap[g]? = w.heap[g]? := fun g hlt hne => hg.other g hlt (fun e => hne (h.to' g e))
  have ht := tagAt_old hg h.to'
  have hgd : ∀ j, j < H.M.length → (H.M ++ [m]).getD j 0 = H.M.getD j 0 := fun j hj => by
    rw [List.getD_eq_getElem?_getD, List.getElem?_append_left hj, ← List.getD_eq_getElem?_getD]
  have hgl : (H.M ++ [m]).getD H.M.length 0 = m := by simp [List.getD_eq_getElem?_getD]
  refine ⟨h.rl.same (fun g hg => hb g (h.rl.lt g hg) (by rw [h.tl' g hg]; omega)), ?_, fun g hg => (ht g (h.rl.lt g hg)).trans (h.tl' g hg), fun g hg => by unfold tagAt; rw [if_pos hg], fun j hj => ?_, fun j h1 h2 => ?_, by simp; omega⟩
  · show Line w' 3 o' (H.M ++ [m]).length _
    rw [List.length_append, List.length_singleton]
    refine hl.congr (fun j hj => ?_)
    show _ = intV ((H.M ++ [m]).getD j 0)
    by_cases hlt : j < H.M.length
    · rw [if_pos hlt, hgd j hlt]
    · have : j = H.M.length := by omega
      subst this
      rw [if_neg hlt, hgl]
  · have hj' : j < H.M.length + 1 := by simpa using hj
    show Line w' te (H.L.getD j undef) (lenOf (H.L.getD j undef)) (mk ((H.M ++ [m]).getD j 0)) ∧ (∀ g, (H.L.getD j undef).ownBlock = some g → tagAt tag o' (2 + 2 * c) g = 10 + 2 * (H.M ++ [m]).getD j 0 + c) ∧ lenOf (H.L.getD j undef) ≤ _ ∧ (H.M ++ [m]).getD j 0 ≤ T
    by_cases hlt : j < H.M.length
    · obtain ⟨h1, h2, h3, h4⟩ := h.ent j hlt
      rw [hgd j hlt]
      exact ⟨h1.same (fun g hg => hb g (h1.lt g hg) (by rw [h2 g hg]; omega)), fun g hg => (ht g (h1.lt g hg)).trans (h2 g hg), h3, h4⟩
    · have : j = H.M.length := by omega
      subst this
      rw [hgl]
      exact ⟨hn.same (fun g hg => hb g (hn.lt g hg) (by rw [htg g hg]; omega)), fun g hg => (ht g (hn.lt g hg)).trans (htg g hg), hz, hmT⟩
  · have hj' : j < H.M.length + 1 := by simpa using h2
    by_cases hlt : j < H.M.length
    · exact h.fresh j h1 hlt
    · have : j = H.M.length := by omega
      subst this
      exact hf h1
/-- a list of mark m grows: within its memory, or in new one -/
theorem Half.growIn {c : Nat} {te tl : TypeId} {mk : Nat → Nat → Value} {w w' : World} {tag : Nat → Nat} {T : Nat} {H : HalfSt} (hc : c ≤ 1) (h : Half c te tl mk w tag T H) {m n : Nat} {g g' : Value} (hg : Grew te n (mk m n) w w' g g') (hv : ∀ q, g.ownBlock = some q → tag q = 10 + 2 * m + c) : Half c te tl mk w' (tagAt tag g' (10 + 2 * m + c)) T H := by
  have hb : ∀ q, q < w.heap.size → tag q ≠ 10 + 2 * m + c → w'.heap[q]? = w.heap[q]? := fun q hlt hne => hg.other q hlt (fun e => hne (hv q e))
  have ht := tagAt_old hg hv
  refine ⟨h.rl.same (fun q hq => hb q (h.rl.lt q hq) (by rw [h.tl' q hq]; omega)), h.ro.same (fun q hq => hb q (h.ro.lt q hq) (by rw [h.to' q hq]; omega)), fun q hq => (ht q (h.rl.lt q hq)).trans (h.tl' q hq), fun q hq => (ht q (h.ro.lt q hq)).trans (h.to' q hq), fun j hj => ?_, h.fresh, h.le⟩
  obtain ⟨h1, h2, h3, h4⟩ := h.ent j hj
  refine ⟨hg.line h1 (fun e hlt => ?_), fun q hq => (ht q (h1.lt q hq)).trans (h2 q hq), h3, h4⟩
  cases hq : (H.L.getD j undef).ownBlock with
  | none =>
    rcases h1 with ⟨h0, hz⟩ | ⟨q, cap, cur, hv2, _⟩
    · omega
    · rw [hv2] at hq; cases hq
  | some q =>
    have e1 := h2 q hq
    rw [hq] at e
    have e2 := hv q e.symm
    have : H.M.getD j 0 = m := by omega
    rw [this]
/-- the other kind is not touched by it -/
theorem Half.growElse {c c' : Nat} {te tl te' : TypeId} {mk : Nat → Nat → Value} {w w' : World} {tag : Nat → Nat} {T : Nat} {H : HalfSt} (hc : c ≤ 1) (hc' : c' ≤ 1) (hne : c ≠ c') (h : Half c te tl mk w tag T H) {k n : Nat} {u g g' : Value} (hg : Grew te' n u w w' g g') (hv : ∀ q, g.ownBlock = some q → tag q = k) (hk : k = 1 + 2 * c' ∨ k = 2 + 2 * c' ∨ ∃ m, k = 10 + 2 * m + c') : Half c te tl mk w' (tagAt tag g' k) T H := by
  have hb : ∀ q, q < w.heap.size → tag q ≠ k → w'.heap[q]? = w.heap[q]? := fun q hlt hne => hg.other q hlt (fun e => hne (hv q e))
  refine h.conf k hb (tagAt_old hg hv) ?_ ?_ ?_
  · rcases hk with rfl | rfl | ⟨m, rfl⟩ <;> omega
  · rcases hk with rfl | rfl | ⟨m, rfl⟩ <;> omega
  · intro m'
    rcases hk with rfl | rfl | ⟨m, rfl⟩ <;> omega
end Go.Proofs.YtcnlikojbkegiaaGreatDoor.Bk
