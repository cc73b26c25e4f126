/- The document's block: New, Clear, lay. -/
import Derived.Test.YtdgdnpgjbphgaabLive
import Derived.Test.YtdgdnpgjbphgaabMove
import Derived.Test.YtdgdnpgjbphgaabRefSet
namespace Go.Proofs.Ytdgdnpgjbphgaab
open Go.ChangeShapes Go.WideShapes Go.ChangeAt Go.RowKit
set_option linter.unusedVariables false
set_option maxRecDepth 100000
set_option maxHeartbeats 2000000

theorem place_prefix (A B : List (Nat × Nat × Nat)) : ∀ m, m ≤ A.length → place (A ++ B) m = place A m := by
  intro m
  induction m with
  | zero => intro _; rfl
  | succ m ih =>
    intro h
    show place (A ++ B) m + wd ((A ++ B).getD m (0, 0, 0)) = place A m + wd (A.getD m (0, 0, 0))
    rw [ih (by omega)]
    congr 2
    rw [List.getD_eq_getElem?_getD, List.getElem?_append_left (by omega), ← List.getD_eq_getElem?_getD]
end Go.Proofs.Ytdgdnpgjbphgaab
namespace Go.Proofs.Ytdgdnpgjbphgaab
open Go.ChangeShapes Go.WideShapes Go.ChangeAt Go.RowKit
set_option linter.unusedVariables false
set_option maxRecDepth 100000
set_option maxHeartbeats 4000000

def RefSt.new (size : Nat) : RefSt := ⟨[], [], [], [], .slice none 0 0, size⟩
def tagPut (rt : Nat → Nat) (g v : Nat) : Nat → Nat := fun x => if x = g then v else rt x
theorem RefAt.empty {w : World} {pr r : Nat} {rt : Nat → Nat} {size : Nat} (h0 : w.cell? ⟨pr, 0, none⟩ = some (.int .i64 size)) (h1 : w.cell? ⟨pr, 1, none⟩ = some (.int .i64 1)) (h2 : w.cell? ⟨pr, 2, none⟩ = some (.slice none 0 0)) (f1 : w.frozen? ⟨pr, 1, none⟩ = false) (f2 : w.frozen? ⟨pr, 2, none⟩ = false) (lp : pr < w.heap.size) (tp : rt pr = 10 + r) (hs : 1 ≤ size) (hs2 : size ≤ 1048576) : RefAt w pr r rt (RefSt.new size) := by
  refine ⟨h0, h1, h2, f1, f2, lp, tp, .inl ⟨rfl, rfl⟩, fun g hg => (by cases hg), fun j hj => absurd hj (Nat.not_lt_zero _), rfl, rfl, rfl, fun j hj => absurd hj (Nat.not_lt_zero _), ?_, hs2, fun j k => ?_, fun j t ht => ?_, fun j hj => absurd hj (Nat.not_lt_zero _)⟩
  · show place [] 0 ≤ size
    exact hs
  · show (([] : List (List Nat)).getD j []).getD k 0 < _
    simp
  · have : ([] : List (Option Nat)).getD j none = some t := ht
    simp at this
theorem rnew_yes {w : World} (r : Nat) {rt : Nat → Nat} (un : ∀ g, rt g ≠ 0 → g < w.heap.size) (size : Nat) (hs : 1 ≤ size) (hs2 : size ≤ 1048576) :
    Calls Try.prog 13 #[.int .i64 size] w fun e w' => e = .returned (.tuple #[.pointer (some ⟨w.heap.size, 0, none⟩), .int .i64 0]) ∧ RefAt w' w.heap.size r (tagPut rt w.heap.size (10 + r)) (RefSt.new size) ∧ RChg (fun _ => False) rt (tagPut rt w.heap.size (10 + r)) w w' := by
  have d1 : decide ((size : Int) < 1) = false := decide_eq_false (by omega)
  have d1' : decide (size < 1) = false := decide_eq_false (by omega)
  have d2 : decide (1048576 < (size : Int)) = false := decide_eq_false (by omega)
  have d2' : decide (1048576 < size) = false := decide_eq_false (by omega)
  have d3 : decide ((1048576 : Int) < (size : Int)) = false := d2
  go_enter Try.func13, Try.ntmps13
  go_wp2
  refine bodyPost_ret (v := .tuple #[.pointer (some ⟨w.heap.size, 0, none⟩), .int .i64 0]) (by simp [results, Try.results13, go_sem]) rfl ⟨rfl, RefAt.empty (by simp) (by simp) (by simp) (by simp [go_sem]) (by simp [go_sem]) (by simp) (by simp [tagPut]) hs hs2, ?_⟩
  refine ⟨rfl, rfl, rfl, by simp, fun g hg => ?_, fun g hg _ => heap_alloc_old w _ hg, fun g hg => ?_⟩
  · unfold tagPut; rw [if_neg (by omega)]
  · unfold tagPut at hg
    by_cases e : g = w.heap.size
    · simp [e]
    · rw [if_neg e] at hg
      have := un g hg
      simp
      omega
theorem rnew_no {w : World} (size : Int) (hs : size < 1 ∨ 1048576 < size) :
    Calls Try.prog 13 #[.int .i64 size] w fun e w' => e = .returned (.tuple #[.pointer none, .int .i64 20]) ∧ Still w w' := by
  by_cases h1 : size < 1
  · have d1 : decide (size < 1) = true := decide_eq_true h1
    go_enter Try.func13, Try.ntmps13
    go_wp2
    go_ret2
    exact ⟨rfl, Still.refl _⟩
  · have d1 : decide (size < 1) = false := decide_eq_false h1
    have d2 : decide (1048576 < size) = true := decide_eq_true (by omega)
    go_enter Try.func13, Try.ntmps13
    go_wp2
    go_ret2
    exact ⟨rfl, Still.refl _⟩
theorem rclear_any {w : World} {pr r : Nat} {rt : Nat → Nat} {R : RefSt} (h : RefAt w pr r rt R) (un : ∀ g, rt g ≠ 0 → g < w.heap.size) :
    Calls Try.prog 44 #[.pointer (some ⟨pr, 0, none⟩)] w fun e w' => e = .returned (.tuple #[]) ∧ RefAt w' pr r rt (RefSt.new R.size) ∧ RChg (Mine r) rt rt w w' := by
  have c0 := h.c0
  have c1 := h.c1
  have c2 := h.c2
  have f1 := h.f1
  have f2 := h.f2
  have lp := h.lp
  have tp := h.tp
  have u1 := h.u2
  have u2 := h.sz
  have u3 : 1 ≤ R.used := by
    have := place_le R.L (Nat.zero_le R.L.length)
    exact this
  clear h
  go_enter Try.func44, Try.ntmps44
  go_wp2
  (try simp only [Exit.inBlock, Exit.then])
  refine bodyPost_end (results_none rfl _ _ _) rfl ⟨rfl, RefAt.empty ?_ ?_ ?_ ?_ ?_ ?_ tp (by omega) u2, ?_⟩
  · rw [World.cell?_setCell_other _ _ _ _ (by simp), World.cell?_setCell_other _ _ _ _ (by simp)]; exact c0
  · exact World.cell?_setCell_same' _ _ _ (by rw [World.cell?_setCell_other _ _ _ _ (by simp), c1]; rfl)
  · rw [World.cell?_setCell_other _ _ _ _ (by simp)]; exact World.cell?_setCell_same' _ _ _ (by rw [c2]; rfl)
  · rw [World.frozen?_setCell, World.frozen?_setCell]; exact f1
  · rw [World.frozen?_setCell, World.frozen?_setCell]; exact f2
  · simpa using lp
  · exact (RChg.set un pr 2 _ (by rw [tp]; exact ⟨by omega, by omega⟩)).trans (RChg.set (fun g hg => by simpa using un g hg) pr 1 _ (by rw [tp]; exact ⟨by omega, by omega⟩))
/-- an object more -/
def RefSt.lay (R : RefSt) (k rf rw : Nat) (x : List Nat) (F v' : Value) : RefSt := ⟨R.L ++ [(k, rf, rw)], R.X ++ [x], R.Gn ++ [none], R.F ++ [F], v', R.size⟩
theorem getD_snoc {α : Type} (l : List α) (x d : α) (j : Nat) : (l ++ [x]).getD j d = if j < l.length then l.getD j d else if j = l.length then x else d := by
  by_cases h : j < l.length
  · rw [if_pos h, List.getD_eq_getElem?_getD, List.getElem?_append_left h, ← List.getD_eq_getElem?_getD]
  · rw [if_neg h]
    by_cases e : j = l.length
    · subst e; rw [if_pos rfl]; simp
    · rw [if_neg e, List.getD_eq_getElem?_getD, List.getElem?_eq_none (by simp; omega)]; rfl
theorem place_snoc (L : List (Nat × Nat × Nat)) (s : Nat × Nat × Nat) : place (L ++ [s]) (L.length + 1) = place L L.length + wd s := by
  show place (L ++ [s]) L.length + wd ((L ++ [s]).getD L.length (0, 0, 0)) = _
  rw [place_prefix L [s] L.length (Nat.le_refl _), getD_snoc, if_neg (by omega), if_pos rfl]
def newObj (at' k rf : Nat) (F : Value) : List Value := [.int .i64 (at' : Nat), .int .i64 (k : Nat), .int .i64 (rf : Nat), F, .bool false, .int .i64 0]
theorem lay_field (R : RefSt) (k rf rw : Nat) (x : List Nat) (F v' : Value) (hg : R.Gn.length = R.L.length) (hf : R.F.length = R.L.length) (j c : Nat) (hj : j ≤ R.L.length) : objField (R.lay k rf rw x F v') j c = if j < R.L.length then objField R j c else (if c = 0 then .int .i64 (R.used : Nat) else if c = 1 then .int .i64 (k : Nat) else if c = 2 then .int .i64 (rf : Nat) else if c = 3 then F else if c = 4 then .bool false else .int .i64 0) := by
  unfold objField RefSt.lay
  dsimp only
  rw [place_prefix R.L _ j hj, getD_snoc, getD_snoc, getD_snoc, hf, hg]
  by_cases h : j < R.L.length
  · simp only [if_pos h]
  · have e : j = R.L.length := by omega
    subst e
    simp only [if_neg (Nat.lt_irrefl _), if_true]
    rfl
theorem RefAt.lay {w w' : World} {pr r : Nat} {rt : Nat → Nat} {R : RefSt} (h : RefAt w pr r rt R) (k rf rw : Nat) (x : List Nat) (F v' : Value)
    (hk : 1 ≤ k ∧ k ≤ 255) (hx : x.length = rf + rw) (hxs : ∀ i, x.getD i 0 < 18446744073709551616) (hF : Line w 24 F (rf + rw) (fun i => w64 (x.getD i 0))) (tF : ∀ g, F.ownBlock = some g → rt g = 40 + 3 * R.L.length + r) (hfit : R.used + 1 + (rf + rw) ≤ R.size)
    (hv : Wide w' 112 6 v' (R.L.length + 1) (fun j => if j < R.L.length * 6 then objCell R j else (newObj R.used k rf F).getD (j - R.L.length * 6) undef))
    (hh : (∃ g, R.v.ownBlock = some g ∧ v'.ownBlock = some g ∧ w'.heap.size = w.heap.size ∧ ∀ k, k ≠ g → w'.heap[k]? = w.heap[k]?) ∨ (v'.ownBlock = some w.heap.size ∧ w'.heap.size = w.heap.size + 1 ∧ ∀ k, k < w.heap.size → w'.heap[k]? = w.heap[k]?)) :
    RefAt ((w'.setCell ⟨pr, 2, none⟩ v').setCell ⟨pr, 1, none⟩ (.int .i64 ((R.used + 1 + (rf + rw) : Nat)))) pr r (tagAt rt v' (22 + r)) (R.lay k rf rw x F v') := by
  have hold : ∀ g, g < w.heap.size → R.v.ownBlock ≠ some g → w'.heap[g]? = w.heap[g]? := fun g hg hn => by
    rcases hh with ⟨q, h1, h2, h3, h4⟩ | ⟨h2, h3, h4⟩
    · exact h4 g (fun e => hn (by rw [e]; exact h1))
    · exact h4 g hg
  have htag : ∀ g, g < w.heap.size → tagAt rt v' (22 + r) g = rt g := fun g hg => by
    unfold tagAt
    by_cases e : v'.ownBlock = some g
    · rw [if_pos e]
      rcases hh with ⟨q, h1, h2, h3, h4⟩ | ⟨h2, h3, h4⟩
      · rw [h2] at e
        injection e with e
        subst e
        exact (h.tr q h1).symm
      · rw [h2] at e
        injection e with e
        omega
    · rw [if_neg e]
  have hsz : w.heap.size ≤ w'.heap.size := by
    rcases hh with ⟨q, h1, h2, h3, h4⟩ | ⟨h2, h3, h4⟩ <;> omega
  have hp : w'.heap[pr]? = w.heap[pr]? := hold pr h.lp (fun e => by have := h.tr pr e; rw [h.tp] at this; omega)
  have hvp : ∀ g, v'.ownBlock = some g → g ≠ pr := fun g hg e => by
    subst e
    have h1 := htag g h.lp
    rw [h.tp] at h1
    unfold tagAt at h1
    rw [if_pos hg] at h1
    omega
  have two : ∀ g, g ≠ pr → ((w'.setCell ⟨pr, 2, none⟩ v').setCell ⟨pr, 1, none⟩ (.int .i64 ((R.used + 1 + (rf + rw) : Nat)))).heap[g]? = w'.heap[g]? := fun g hg => (setCell_else _ pr 1 g _ hg).trans (setCell_else w' pr 2 g v' hg)
  have c0 := (World.cell?_of_block (a := ⟨pr, 0, none⟩) hp).trans h.c0
  have c1 := (World.cell?_of_block (a := ⟨pr, 1, none⟩) hp).trans h.c1
  have c2 := (World.cell?_of_block (a := ⟨pr, 2, none⟩) hp).trans h.c2
  have f1 := (World.frozen?_of_block (a := ⟨pr, 1, none⟩) hp).trans h.f1
  have f2 := (World.frozen?_of_block (a := ⟨pr, 2, none⟩) hp).trans h.f2
  have hl : (R.lay k rf rw x F v').L.length = R.L.length + 1 := by show (R.L ++ [_]).length = _; simp
  have hfo : ∀ j, j ≤ R.L.length → fldsOf (R.lay k rf rw x F v').L j = if j < R.L.length then fldsOf R.L j else rf + rw := fun j hj => by
    unfold fldsOf RefSt.lay
    dsimp only
    rw [getD_snoc]
    by_cases e : j < R.L.length
    · simp only [if_pos e]
    · have e2 : j = R.L.length := by omega
      simp only [if_neg e, if_pos e2]
  have us : (R.lay k rf rw x F v').used = R.used + 1 + (rf + rw) := by
    show place (R.L ++ [(k, rf, rw)]) (R.L ++ [(k, rf, rw)]).length = place R.L R.L.length + 1 + (rf + rw)
    rw [List.length_append]
    show place (R.L ++ [(k, rf, rw)]) (R.L.length + 1) = _
    rw [place_snoc]
    show place R.L R.L.length + (1 + rf + rw) = _
    omega
  refine ⟨?_, ?_, ?_, ?_, ?_, ?_, ?_, ?_, fun g hg => ?_, fun j hj => ?_, ?_, ?_, ?_, fun j hj => ?_, ?_, h.sz, fun j i => ?_, fun j t ht => ?_, fun j hj => ?_⟩
  · rw [World.cell?_setCell_other _ _ _ _ (by simp), World.cell?_setCell_other _ _ _ _ (by simp)]; exact c0
  · rw [us]; exact World.cell?_setCell_same' _ _ _ (by rw [World.cell?_setCell_other _ _ _ _ (by simp), c1]; rfl)
  · rw [World.cell?_setCell_other _ _ _ _ (by simp)]; exact World.cell?_setCell_same' _ _ _ (by rw [c2]; rfl)
  · rw [World.frozen?_setCell, World.frozen?_setCell]; exact f1
  · rw [World.frozen?_setCell, World.frozen?_setCell]; exact f2
  · have := h.lp; simp; omega
  · rw [htag pr h.lp]; exact h.tp
  · rw [hl]
    refine (hv.same (fun g hg => two g (hvp g hg))).congr (fun j hj => ?_)
    unfold objCell
    rw [lay_field R k rf rw x F v' h.gl h.fl _ _ (by omega)]
    by_cases e : j < R.L.length * 6
    · rw [if_pos e, if_pos (by omega)]
    · rw [if_neg e, if_neg (by omega)]
      unfold newObj
      have : j - R.L.length * 6 = j % 6 := by omega
      rw [this]
      have h6 : j % 6 < 6 := by omega
      generalize j % 6 = c at h6
      match c, h6 with
      | 0, _ => rfl
      | 1, _ => rfl
      | 2, _ => rfl
      | 3, _ => rfl
      | 4, _ => rfl
      | 5, _ => rfl
  · have hg' : v'.ownBlock = some g := hg
    unfold tagAt; rw [if_pos hg']
  · rw [hl] at hj
    rw [hfo j (by omega)]
    show Line _ 24 ((R.F ++ [F]).getD j undef) _ (fun i => w64 (((R.X ++ [x]).getD j []).getD i 0)) ∧ ∀ g, ((R.F ++ [F]).getD j undef).ownBlock = some g → _
    rw [getD_snoc, getD_snoc, h.fl, h.xl]
    have mine : ∀ i g, rt g = 40 + 3 * i + r → g < w.heap.size → ((w'.setCell ⟨pr, 2, none⟩ v').setCell ⟨pr, 1, none⟩ (.int .i64 ((R.used + 1 + (rf + rw) : Nat)))).heap[g]? = w.heap[g]? := fun i g hg hl => (two g (fun e => by rw [e, h.tp] at hg; omega)).trans (hold g hl (fun e => by have := h.tr g e; omega))
    by_cases e : j < R.L.length
    · simp only [if_pos e]
      obtain ⟨h1, h2⟩ := h.fld j e
      exact ⟨h1.same (fun g hg => mine j g (h2 g hg) (h1.lt g hg)), fun g hg => by rw [htag g (h1.lt g hg)]; exact h2 g hg⟩
    · have e2 : j = R.L.length := by omega
      simp only [if_neg e, if_pos e2]
      exact ⟨hF.same (fun g hg => mine R.L.length g (tF g hg) (hF.lt g hg)), fun g hg => by rw [htag g (hF.lt g hg), e2]; exact tF g hg⟩
  · rw [hl]; show (R.X ++ [x]).length = _; simp [h.xl]
  · rw [hl]; show (R.Gn ++ [none]).length = _; simp [h.gl]
  · rw [hl]; show (R.F ++ [F]).length = _; simp [h.fl]
  · rw [hl] at hj
    rw [hfo j (by omega)]
    show ((R.X ++ [x]).getD j []).length = _
    rw [getD_snoc, h.xl]
    by_cases e : j < R.L.length
    · rw [if_pos e, if_pos e]; exact h.xs j e
    · rw [if_neg e, if_neg e, if_pos (by omega)]; exact hx
  · rw [us]; exact hfit
  · show ((R.X ++ [x]).getD j []).getD i 0 < _
    rw [getD_snoc, h.xl]
    by_cases e : j < R.L.length
    · rw [if_pos e]; exact h.sm j i
    · rw [if_neg e]
      by_cases e2 : j = R.L.length
      · rw [if_pos e2]; exact hxs i
      · rw [if_neg e2]; simp
  · have ht' : (R.Gn ++ [none]).getD j none = some t := ht
    rw [getD_snoc] at ht'
    by_cases e : j < R.Gn.length
    · rw [if_pos e] at ht'; exact h.go j t ht'
    · rw [if_neg e] at ht'
      by_cases e2 : j = R.Gn.length
      · rw [if_pos e2] at ht'; cases ht'
      · rw [if_neg e2] at ht'; cases ht'
  · rw [hl] at hj
    show 1 ≤ ((R.L ++ [(k, rf, rw)]).getD j (0, 0, 0)).1 ∧ ((R.L ++ [(k, rf, rw)]).getD j (0, 0, 0)).1 ≤ 255
    rw [getD_snoc]
    by_cases e : j < R.L.length
    · rw [if_pos e]; exact h.sh j e
    · rw [if_neg e, if_pos (by omega)]; exact hk
theorem rlay_no {w : World} {pr r : Nat} {rt : Nat → Nat} {R : RefSt} (h : RefAt w pr r rt R) (k rf n : Nat) (a : Option Addr) (cp : Nat) (hn : n ≤ 2097152) (hfit : R.size < R.used + 1 + n) :
    Calls Try.prog 61 #[.pointer (some ⟨pr, 0, none⟩), .int .i64 (k : Nat), .int .i64 (rf : Nat), .slice a n cp] w fun e w' => e = .returned (.tuple #[.int .i64 0, .int .i64 22]) ∧ Still w w' := by
  have c0 := h.c0
  have c1 := h.c1
  have hu := h.u2
  have hs := h.sz
  clear h
  generalize R.used = us at *
  generalize R.size = sz at *
  have d1 : decide ((sz : Int) < (us : Int) + 1 + (n : Int)) = true := decide_eq_true (by omega)
  go_enter Try.func61, Try.ntmps61
  go_wp2
  go_ret2
  exact ⟨rfl, Still.refl _⟩
/-- the row grew -/
theorem RChg.row {w w' : World} {rt : Nat → Nat} {v v' : Value} {T : Nat} (P : Nat → Prop) (hr : ∀ g, v.ownBlock = some g → rt g = T) (hP : P T) (un : ∀ g, rt g ≠ 0 → g < w.heap.size) (hl : ∀ g, v'.ownBlock = some g → g < w'.heap.size) (hq : w'.os = w.os ∧ w'.tape = w.tape ∧ w'.output = w.output)
    (hh : (∃ g, v.ownBlock = some g ∧ v'.ownBlock = some g ∧ w'.heap.size = w.heap.size ∧ ∀ k, k ≠ g → w'.heap[k]? = w.heap[k]?) ∨ (v'.ownBlock = some w.heap.size ∧ w'.heap.size = w.heap.size + 1 ∧ ∀ k, k < w.heap.size → w'.heap[k]? = w.heap[k]?)) : RChg P rt (tagAt rt v' T) w w' := by
  refine ⟨hq.1, hq.2.1, hq.2.2, ?_, fun g hg => ?_, fun g hg hn => ?_, fun g hg => ?_⟩
  · rcases hh with ⟨q, h1, h2, h3, h4⟩ | ⟨h2, h3, h4⟩ <;> omega
  · unfold tagAt
    by_cases e : v'.ownBlock = some g
    · rw [if_pos e]
      rcases hh with ⟨q, h1, h2, h3, h4⟩ | ⟨h2, h3, h4⟩
      · rw [h2] at e
        injection e with e
        subst e
        exact (hr q h1).symm
      · rw [h2] at e
        injection e with e
        omega
    · rw [if_neg e]
  · rcases hh with ⟨q, h1, h2, h3, h4⟩ | ⟨h2, h3, h4⟩
    · exact h4 g (fun e => hn (by rw [e, hr q h1]; exact hP))
    · exact h4 g hg
  · unfold tagAt at hg
    by_cases e : v'.ownBlock = some g
    · exact hl g e
    · rw [if_neg e] at hg
      have := un g hg
      rcases hh with ⟨q, h1, h2, h3, h4⟩ | ⟨h2, h3, h4⟩ <;> omega
theorem Try.info112 : (Try.prog.info? 112).map (fun i => (i.zero, i.size, i.bytes)) = some (some (.agg #[.int .i64 0, .int .i64 0, .int .i64 0, .slice none 0 0, .bool false, .int .i64 0]), 6, 64) := by kernel_rfl
theorem rlay_yes {w : World} {pr r : Nat} {rt : Nat → Nat} {R : RefSt} (h : RefAt w pr r rt R) (un : ∀ g, rt g ≠ 0 → g < w.heap.size) (k rf rw : Nat) (x : List Nat) (F : Value)
    (hk : 1 ≤ k ∧ k ≤ 255) (hx : x.length = rf + rw) (hxs : ∀ i, x.getD i 0 < 18446744073709551616) (hF : Line w 24 F (rf + rw) (fun i => w64 (x.getD i 0))) (tF : ∀ g, F.ownBlock = some g → rt g = 40 + 3 * R.L.length + r) (hfit : R.used + 1 + (rf + rw) ≤ R.size) :
    Calls Try.prog 61 #[.pointer (some ⟨pr, 0, none⟩), .int .i64 (k : Nat), .int .i64 (rf : Nat), F] w fun e w' => e = .returned (.tuple #[.int .i64 (R.used : Nat), .int .i64 0]) ∧ ∃ rt' v', RefAt w' pr r rt' (R.lay k rf rw x F v') ∧ RChg (Mine r) rt rt' w w' := by
  have c0 := h.c0
  have c1 := h.c1
  have c2 := h.c2
  have f1 := h.f1
  have f2 := h.f2
  have hu := h.u2
  have hs := h.sz
  have hrow := hide h.row
  obtain ⟨a0, cp0, hv0⟩ := h.row.shape
  obtain ⟨aF, cF, hF0⟩ := hF.shape
  rw [hv0] at c2
  have HV := hide hv0.symm
  have HA : Hid (∀ y, RefAt (w.alloc y) pr r rt R ∧ Line (w.alloc y) 24 F (rf + rw) (fun i => w64 (x.getD i 0)) ∧ RChg (Mine r) rt rt w (w.alloc y)) := hide (fun y => ⟨h.conf (by simp) (fun g hg _ => heap_alloc_old w y hg) (fun _ _ _ => rfl), hF.same (fun g hg => heap_alloc_old w y (hF.lt g hg)), RChg.below un ⟨rfl, rfl, rfl, by simp, fun g hg => heap_alloc_old w y hg⟩⟩)
  have HT := hide tF
  have HX := hide hx
  have HFI := hide hfit
  have HFE := hide hF0
  have hlp := h.lp
  have hll : R.L.length ≤ 1048576 := by
    have h3 : ∀ m, m + 1 ≤ place R.L m := fun m => by
      induction m with
      | zero => exact Nat.le_refl _
      | succ m ih => have := place_lt R.L (show m < m + 1 by omega); unfold wd at this; omega
    have := h3 R.L.length
    unfold RefSt.used at hu
    omega
  obtain ⟨i0, hi, hy0, hy1, hy2⟩ := info_parts Try.info112
  obtain ⟨us, hus⟩ : ∃ us, us = R.used := ⟨_, rfl⟩
  obtain ⟨n, hnn⟩ : ∃ n, n = rf + rw := ⟨_, rfl⟩
  rw [← hnn] at hF0
  subst hF0
  rw [← hus] at c1 hu hfit ⊢
  rw [← hnn] at hfit
  have HUS := hide hus
  have HNN := hide hnn
  clear h hF tF hv0 hx hus hnn hrow
  generalize hsz : R.size = sz at *
  have d1 : decide ((sz : Int) < (us : Int) + 1 + (n : Int)) = false := decide_eq_false (by omega)
  have d1' : decide (sz < us + 1 + n) = false := decide_eq_false (by omega)
  go_enter Try.func61, Try.ntmps61
  go_wp2_with (at_builtin; refine append_wide rfl _ _ 70 rfl 112 i0 (.agg #[.int .i64 0, .int .i64 0, .int .i64 0, .slice none 0 0, .bool false, .int .i64 0]) 6 64 Try.underlying70 hi hy0 hy1 hy2 rfl _ _ _ (unhide HV) (unhide HA _).1.row w.heap.size rfl (newObj us k rf (.slice aF n cF)) rfl ?c1 ?c2 ?c3 ?c4 ?_)
  case c1 =>
    intro j y hj
    rw [World.cell?_alloc_at _ _ _ _ rfl]
    simpa [newObj] using hj
  case c2 =>
    intro y hy
    simp [newObj] at hy
    rcases hy with rfl | rfl | rfl | rfl | rfl | rfl <;> rfl
  case c3 => omega
  case c4 => omega
  intro v' w' hv q1 q2 q3 hh
  obtain ⟨a1, cp1, hv1⟩ := hv.shape
  have hA := unhide HA (.cells #[.int .i64 us, .int .i64 k, .int .i64 rf, .slice aF n cF, .bool false, .int .i64 0] 112)
  have hC := RChg.row (fun k => k = 22 + r) hA.1.tr rfl hA.2.2.un hv.lt ⟨q1, q2, q3⟩ (by simpa using hh)
  have hus := unhide HUS
  have hv2 := hv
  rw [hus] at hv2
  have hL := hA.1.lay k rf rw x (.slice aF n cF) v' hk (unhide HX) hxs hA.2.1 (unhide HT) (by rw [hsz]; exact unhide HFI) hv2 (by simpa using hh)
  have hpp : w'.heap[pr]? = w.heap[pr]? := (hC.blk pr (by simp; omega) (by rw [hA.1.tp]; omega)).trans (heap_alloc_old w _ hlp)
  have tp := hA.1.tp
  have hC2 := hA.2.2.trans (hC.weak (P' := Mine r) (fun k e => by subst e; exact ⟨by omega, by omega⟩))
  have mpr : Mine r (tagAt rt v' (22 + r) pr) := by
    rw [hC.tg pr (by simp; omega), tp]; exact ⟨by omega, by omega⟩
  have hC3 := hC2.trans (RChg.set hC2.un pr 2 v' mpr)
  have hC4 := hC3.trans (RChg.set hC3.un pr 1 (.int .i64 ((R.used + 1 + (rf + rw) : Nat))) mpr)
  have HL := hide hL
  have HC := hide hC4
  have c1' := (World.cell?_of_block (a := ⟨pr, 1, none⟩) hpp).trans c1
  have c2' := (World.cell?_of_block (a := ⟨pr, 2, none⟩) hpp).trans c2
  have f1' := (World.frozen?_of_block (a := ⟨pr, 1, none⟩) hpp).trans f1
  have f2' := (World.frozen?_of_block (a := ⟨pr, 2, none⟩) hpp).trans f2
  clear hL hC hC2 hC3 hC4 mpr hpp hv hv2 hus hA hh c0 c1 c2 f1 f2 hxs HA HT HX HFE HFI
  subst hv1
  go_wp2
  have e1 : (us : Int) + 1 + (n : Int) = ((R.used + 1 + (rf + rw) : Nat) : Int) := by
    have := unhide HUS
    have := unhide HNN
    omega
  rw [e1]
  exact bodyPost_ret (v := .tuple #[.int .i64 us, .int .i64 0]) (by simp [results, Try.results61, go_sem]) rfl ⟨rfl, tagAt rt (.slice a1 (R.L.length + 1) cp1) (22 + r), .slice a1 (R.L.length + 1) cp1, unhide HL, unhide HC⟩
end Go.Proofs.Ytdgdnpgjbphgaab
