/- The document's block: Take. -/
import Derived.Test.YtdgdnpgjbphgaabRefNew
import Derived.Deep.AppendSrc
import Derived.Deep.Upon
namespace Go.Proofs.Ytdgdnpgjbphgaab
open Go.ChangeShapes Go.WideShapes Go.ChangeAt Go.RowKit
set_option linter.unusedVariables false
set_option maxRecDepth 100000
set_option maxHeartbeats 4000000

/-- a list is appended to nothing -/
theorem run_append_copy {P : Program} {w : World} (ty t e : TypeId) (i : TypeInfo) (z : Value) (bytes : Nat) (ht : P.underlying t = some (.slice e)) (hi : P.info? e = some i) (hz : i.zero = some z) (hsize : i.size = 1) (hby : i.bytes = bytes) (hzs : z.cells.size = 1)
    (x : Value) (n : Nat) (f : Nat → Value) (hx : (n = 0 ∧ ∃ a c, x = .slice a 0 c) ∨ (0 < n ∧ ∃ ad c, x = .slice (some ad) n c ∧ ∀ j, j < n → w.cell? (ad.add j) = some (f j))) (hn : n * bytes ≤ 140737488355328) (hn2 : n ≤ 9007199254740992) :
    ∃ v' w', (Builtin.append_ #[t, t] ty #[.slice none 0 0, x]).run P w = .ok v' w' ∧ Line w' e v' n f ∧ Below w.heap.size w w' ∧ (∀ g, v'.ownBlock = some g → w.heap.size ≤ g) := by
  rcases hx with ⟨rfl, a, c, rfl⟩ | ⟨h0, ad, c, rfl, hc⟩
  · have hs : Src P i.size t (.slice a 0 c) 0 [] w := by
      cases a with
      | none => exact Src.ofNil w ht c
      | some ad => exact Src.ofSlice w ht ad 0 c [] (by simp) (fun j u hj => by cases hj) (fun u hu => by cases hu)
    exact ⟨_, _, run_append_nothing w t t ty e i ht hi none 0 0 (Nat.le_refl _) _ hs, .inl ⟨rfl, rfl⟩, Below.refl _ _, fun g hg => by cases hg⟩
  · have hml : n ≤ maxLen := by simp only [maxLen]; omega
    have hr := run_append_nil (P := P) w t ty e i z ht hi hz ad n c ((List.range n).map f) (by simp [hsize]) (fun j v hj => by
      have hjl : j < n := by simpa using (List.getElem?_eq_some_iff.1 hj).1
      rw [List.getElem?_map, List.getElem?_range hjl] at hj
      simp at hj
      rw [← hj]
      exact hc j hjl) h0 (by omega) (by rw [hby]; omega)
    have hge := grownCap_ge w n 0 e
    have hcm2 : grownCap w n 0 e ≤ maxLen := grownCap_le_maxLen w n 0 e hml
    refine ⟨_, _, hr, .inr ⟨w.heap.size, _, _, rfl, heap_alloc_new w.drew _, hge, hcm2, ?_, fun j hj => ?_⟩, ⟨rfl, rfl, rfl, by simp, fun g hg => heap_alloc_old w.drew _ hg⟩, fun g hg => ?_⟩
    · simp only [Array.size_append, List.size_toArray, size_zeroCells, hzs, List.length_map, List.length_range]
      omega
    · rw [Array.getElem?_append_left (by simp; omega), List.getElem?_toArray, List.getElem?_map, List.getElem?_range hj]
      rfl
    · have : w.heap.size = g := by injection hg
      omega
theorem append_copy {P : Program} {w : World} {ops : Array Oper} {rest : List Oper} {o : Oper} {a : Act} {Q : Exit → Act → World → Prop} (hgd : o.guard = none) (s x : Operand) (t : TypeId) (ho : o.op = .call { callee := .builtin .append, args := #[s, x], argTypes := #[t, t] })
    (e : TypeId) (i : TypeInfo) (z : Value) (bytes : Nat) (ht : P.underlying t = some (.slice e)) (hi : P.info? e = some i) (hz : i.zero = some z) (hsize : i.size = 1) (hby : i.bytes = bytes) (hzs : z.cells.size = 1)
    (hs : a.eval s = .slice none 0 0) (xv : Value) (hxv : a.eval x = xv) (n : Nat) (f : Nat → Value) (hx : (n = 0 ∧ ∃ a c, xv = .slice a 0 c) ∨ (0 < n ∧ ∃ ad c, xv = .slice (some ad) n c ∧ ∀ j, j < n → w.cell? (ad.add j) = some (f j))) (hn : n * bytes ≤ 140737488355328) (hn2 : n ≤ 9007199254740992)
    (h : ∀ v' w', Line w' e v' n f → Below w.heap.size w w' → (∀ g, v'.ownBlock = some g → w.heap.size ≤ g) → wpList P ops Q rest (a.put o.dst v') w') : wpList P ops Q (o :: rest) a w := by
  obtain ⟨v', w', hr, h2, h3, h4⟩ := run_append_copy (P := P) o.type t e i z bytes ht hi hz hsize hby hzs xv n f hx hn hn2
  exact wpList_plain hgd fun _ hK => wp_appended s x t ho _ _ hs hxv _ _ hr (hK _ _ (h v' w' h2 h3 h4))
theorem rtake_none {w : World} {pr r pa : Nat} {rt : Nat → Nat} {R : RefSt} (h : RefAt w pr r rt R) (at' : Int) (hno : ∀ j, j < R.L.length → at' ≠ (place R.L j : Nat)) :
    Calls Try.prog 37 #[.pointer (some ⟨pa, 0, none⟩), .pointer (some ⟨pr, 0, none⟩), .int .i64 at'] w fun e w' => e = .returned (.tuple #[.int .i64 0, .int .i64 23]) ∧ Still w w' := by
  have HF := hide (find_no h at' hno)
  clear h hno
  go_enter Try.func37, Try.ntmps37
  go_wp2_with fail
  refine (unhide HF).mono ?_
  rintro e w1 ⟨rfl, hst⟩
  have HS := hide hst
  clear hst
  go_wp2
  go_ret2
  exact ⟨rfl, unhide HS⟩
theorem rtake_gone {w : World} {pr r pa : Nat} {rt : Nat → Nat} {R : RefSt} (h : RefAt w pr r rt R) (j t : Nat) (hj : j < R.L.length) (hg : R.Gn.getD j none = some t) :
    Calls Try.prog 37 #[.pointer (some ⟨pa, 0, none⟩), .pointer (some ⟨pr, 0, none⟩), .int .i64 (place R.L j : Nat)] w fun e w' => e = .returned (.tuple #[.int .i64 (t : Nat), .int .i64 0]) ∧ Below w.heap.size w w' := by
  have HF := hide (find_yes h j hj)
  have HO := hide (fun wq k => h.six j hj wq k)
  have y0 : (0 : Int) ≤ (j : Int) := by omega
  have y1 : (j : Int) < (R.L.length : Int) := by omega
  have d0 : decide ((j : Int) < 0) = false := decide_eq_false (by omega)
  rw [hg] at HO
  generalize (R.L.getD j (0, 0, 0)).1 = kd at *
  generalize (R.L.getD j (0, 0, 0)).2.1 = rf at *
  generalize fldsOf R.L j = nf at *
  generalize place R.L j = pj at *
  clear h hg
  go_enter Try.func37, Try.ntmps37
  go_wp2_with fail
  refine (unhide HF).mono ?_
  rintro e w1 ⟨rfl, hst⟩
  obtain ⟨g, cap, aF, cF, c2, eF, o0, o1, o2, o3, o4, o5, _⟩ := unhide HO w1 hst
  have o4' : w1.cell? ⟨g, j * 6 + 4, none⟩ = some (.bool true) := o4
  have o5' : w1.cell? ⟨g, j * 6 + 5, none⟩ = some (.int .i64 (t : Nat)) := o5
  have HBL := hide hst.below
  clear o4 o5 hst HO HF eF
  go_wp2
  go_ret2
  refine ⟨rfl, ?_⟩
  have hb := (unhide HBL).alloc (unhide HBL).size (.cells #[.int .i64 (pj : Nat), .int .i64 (kd : Nat), .int .i64 (rf : Nat), .slice aF nf cF, .bool true, .int .i64 (t : Nat)] 112)
  exact ⟨hb.os, hb.tape, hb.output, hb.size, hb.block⟩
/-- object j went to t -/
def RefSt.mark (R : RefSt) (j t : Nat) : RefSt := { R with Gn := R.Gn.set j (some t) }
theorem rmark_at (R : RefSt) (j t i : Nat) (hj : j < R.Gn.length) : (R.mark j t).Gn.getD i none = if i = j then some t else R.Gn.getD i none := by
  show (R.Gn.set j (some t)).getD i none = _
  rw [List.getD_eq_getElem?_getD, List.getElem?_set]
  by_cases e : j = i
  · subst e
    rw [if_pos rfl, if_pos hj, if_pos rfl]; rfl
  · rw [if_neg e, if_neg (fun h => e h.symm), ← List.getD_eq_getElem?_getD]
theorem RefAt.mark {w : World} {pr r : Nat} {rt : Nat → Nat} {R : RefSt} (h : RefAt w pr r rt R) (j t g : Nat) (hj : j < R.L.length) (ht : t ≤ 1048576) (hg : R.v.ownBlock = some g) : RefAt ((w.setCell ⟨g, j * 6 + 4, none⟩ (.bool true)).setCell ⟨g, j * 6 + 5, none⟩ (.int .i64 (t : Nat))) pr r rt (R.mark j t) := by
  have tg := h.tr g hg
  have hgl := h.gl
  have hne : ∀ b, b ≠ g → ((w.setCell ⟨g, j * 6 + 4, none⟩ (.bool true)).setCell ⟨g, j * 6 + 5, none⟩ (.int .i64 (t : Nat))).heap[b]? = w.heap[b]? := fun b hb => (setCell_else _ g _ b _ hb).trans (setCell_else w g _ b _ hb)
  have hp := hne pr (fun e => by rw [← e, h.tp] at tg; omega)
  have hat := fun i => rmark_at R j t i (by omega)
  refine ⟨(World.cell?_of_block (a := ⟨pr, 0, none⟩) hp).trans h.c0, (World.cell?_of_block (a := ⟨pr, 1, none⟩) hp).trans h.c1, (World.cell?_of_block (a := ⟨pr, 2, none⟩) hp).trans h.c2, (World.frozen?_of_block (a := ⟨pr, 1, none⟩) hp).trans h.f1, (World.frozen?_of_block (a := ⟨pr, 2, none⟩) hp).trans h.f2, by simpa using h.lp, h.tp, ?_, h.tr, fun i hi => ?_, h.xl, by show (R.Gn.set j _).length = _; rw [List.length_set]; exact h.gl, h.fl, h.xs, h.u2, h.sz, h.sm, fun i t' => ?_, h.sh⟩
  · have h1 := (h.row.put hg (j * 6 + 4) (.bool true) (by omega)).put hg (j * 6 + 5) (.int .i64 (t : Nat)) (by omega)
    refine h1.congr (fun k hk => ?_)
    show (if k = j * 6 + 5 then _ else if k = j * 6 + 4 then _ else objCell R k) = objCell (R.mark j t) k
    obtain ⟨q, c, hc, rfl⟩ : ∃ q c, c < 6 ∧ k = q * 6 + c := ⟨k / 6, k % 6, by omega, by omega⟩
    rw [objCell_at _ _ _ hc, objCell_at _ _ _ hc]
    by_cases e : q = j
    · subst e
      match c, hc with
      | 0, _ => rw [if_neg (by omega), if_neg (by omega)]; rfl
      | 1, _ => rw [if_neg (by omega), if_neg (by omega)]; rfl
      | 2, _ => rw [if_neg (by omega), if_neg (by omega)]; rfl
      | 3, _ => rw [if_neg (by omega), if_neg (by omega)]; rfl
      | 4, _ =>
        rw [if_neg (by omega), if_pos rfl]
        show Value.bool true = .bool ((R.mark q t).Gn.getD q none).isSome
        rw [hat q, if_pos rfl]; rfl
      | 5, _ =>
        rw [if_pos rfl]
        show Value.int .i64 (t : Nat) = .int .i64 (((R.mark q t).Gn.getD q none).getD 0 : Nat)
        rw [hat q, if_pos rfl]; rfl
    · rw [if_neg (by omega), if_neg (by omega)]
      match c, hc with
      | 0, _ => rfl
      | 1, _ => rfl
      | 2, _ => rfl
      | 3, _ => rfl
      | 4, _ =>
        show Value.bool (R.Gn.getD q none).isSome = .bool ((R.mark j t).Gn.getD q none).isSome
        rw [hat q, if_neg e]
      | 5, _ =>
        show Value.int .i64 ((R.Gn.getD q none).getD 0 : Nat) = .int .i64 (((R.mark j t).Gn.getD q none).getD 0 : Nat)
        rw [hat q, if_neg e]
  · obtain ⟨h1, h2⟩ := h.fld i hi
    exact ⟨h1.same (fun b hb => hne b (fun e => by have := h2 b hb; rw [e, tg] at this; omega)), h2⟩
  · rw [hat i]
    by_cases e : i = j
    · rw [if_pos e]
      intro e2
      injection e2 with e2
      omega
    · rw [if_neg e]; exact h.go i t'
theorem add_at (g j : Nat) : (⟨g, 0, none⟩ : Addr).add j = ⟨g, j, none⟩ := by unfold Addr.add; split <;> simp_all
/-- what the copied list is made of -/
theorem Line.news {w : World} {e : TypeId} {v : Value} {n : Nat} {f : Nat → Value} (h : Line w e v n f) : (n = 0 ∧ ∃ a c, v = .slice a 0 c) ∨ (0 < n ∧ ∃ ad c, v = .slice (some ad) n c ∧ ∀ j, j < n → w.cell? (ad.add j) = some (f j)) := by
  by_cases h0 : n = 0
  · obtain ⟨a, c, hv⟩ := h.shape
    exact .inl ⟨h0, a, c, by rw [hv, h0]⟩
  · obtain ⟨g, cap, hv, _, hc⟩ := h.at (by omega)
    exact .inr ⟨by omega, _, cap, hv, fun j hj => by rw [add_at]; exact (hc j hj).1⟩
theorem RChg.never {rt : Nat → Nat} {w w' : World} {v : Value} (T : Nat) (un : ∀ g, rt g ≠ 0 → g < w.heap.size) (hb : Below w.heap.size w w') (hv : ∀ g, v.ownBlock = some g → w.heap.size ≤ g) (hl : ∀ g, v.ownBlock = some g → g < w'.heap.size) : RChg (fun _ => False) rt (tagAt rt v T) w w' := by
  refine ⟨hb.os, hb.tape, hb.output, hb.size, fun g hg => ?_, fun g hg _ => hb.block g hg, fun g hg => ?_⟩
  · unfold tagAt
    rw [if_neg (fun e => by have := hv g e; omega)]
  · unfold tagAt at hg
    by_cases e : v.ownBlock = some g
    · exact hl g e
    · rw [if_neg e] at hg
      exact Nat.lt_of_lt_of_le (un g hg) hb.size
theorem RefAt.chg {P : Nat → Prop} {w w' : World} {pr r : Nat} {rt rt' : Nat → Nat} {R : RefSt} (h : RefAt w pr r rt R) (c : RChg P rt rt' w w') (hp : ∀ k, Mine r k → ¬ P k) : RefAt w' pr r rt' R := h.conf c.size (fun g hg hm => c.blk g hg (hp _ hm)) (fun g hg _ => c.tg g hg)
/-- what Take's copy is: the world behind the append -/
theorem rtaken {w w1 w2 : World} {pr r pa ra : Nat} {rt : Nat → Nat} {R Ra : RefSt} (h : RefAt w pr r rt R) (ha : RefAt w pa ra rt Ra) (un : ∀ g, rt g ≠ 0 → g < w.heap.size) (j : Nat) (hj : j < R.L.length) (hst : Still w w1) (y : Obj) (v : Value) (hb : Below (w1.alloc y).heap.size (w1.alloc y) w2) (hL : Line w2 24 v (fldsOf R.L j) (fun i => w64 ((R.X.getD j []).getD i 0))) (hv : ∀ g, v.ownBlock = some g → (w1.alloc y).heap.size ≤ g) :
    RefAt w2 pa ra (tagAt rt v (40 + 3 * Ra.L.length + ra)) Ra ∧ RefAt w2 pr r (tagAt rt v (40 + 3 * Ra.L.length + ra)) R ∧ RChg (fun _ => False) rt (tagAt rt v (40 + 3 * Ra.L.length + ra)) w w2 ∧ w2.heap[w1.heap.size]? = some y := by
  have hsz : (w1.alloc y).heap.size = w.heap.size + 1 := by simp [hst.heap]
  have hs2 := hb.size
  have hB : Below w.heap.size w w2 := ⟨hb.os.trans hst.os, hb.tape.trans hst.tape, hb.output.trans hst.output, by omega, fun g hg => (hb.block g (by omega)).trans ((heap_alloc_old w1 y (by rw [hst.heap]; exact hg)).trans (by rw [hst.heap]))⟩
  have hC := RChg.never (40 + 3 * Ra.L.length + ra) un hB (fun g hg => by have := hv g hg; omega) hL.lt
  refine ⟨ha.chg hC (fun _ _ => id), h.chg hC (fun _ _ => id), hC, ?_⟩
  rw [hb.block w1.heap.size (by simp)]
  exact heap_alloc_new w1 y
theorem rtake_full {w : World} {pr r pa ra : Nat} {rt : Nat → Nat} {R Ra : RefSt} (h : RefAt w pr r rt R) (ha : RefAt w pa ra rt Ra) (un : ∀ g, rt g ≠ 0 → g < w.heap.size) (j : Nat) (hj : j < R.L.length) (hg : R.Gn.getD j none = none) (hfull : Ra.size < Ra.used + 1 + fldsOf R.L j) :
    Calls Try.prog 37 #[.pointer (some ⟨pa, 0, none⟩), .pointer (some ⟨pr, 0, none⟩), .int .i64 (place R.L j : Nat)] w fun e w' => e = .returned (.tuple #[.int .i64 0, .int .i64 22]) ∧ ∃ rt', RChg (fun _ => False) rt rt' w w' := by
  have HF := hide (find_yes h j hj)
  have HO := hide (fun wq k => h.six j hj wq k)
  have HX : Hid (∀ wq, Still w wq → ∀ aF cF, R.F.getD j undef = .slice aF (fldsOf R.L j) cF → ∀ y, Line (wq.alloc y) 24 (.slice aF (fldsOf R.L j) cF) (fldsOf R.L j) (fun i => w64 ((R.X.getD j []).getD i 0))) := hide (fun wq k aF cF e y => by
    have h1 := ((h.still k).fld j hj).1
    rw [e] at h1
    exact h1.same (fun g hgg => heap_alloc_old wq y (h1.lt g hgg)))
  have HT := hide (fun w1 w2 hst y v hb hL hv => rtaken (w1 := w1) (w2 := w2) h ha un j hj hst y v hb hL hv)
  have HLN : Hid (∀ w2 rt2, RefAt w2 pa ra rt2 Ra → ∀ (k rf : Nat) a cp, Calls Try.prog 61 #[.pointer (some ⟨pa, 0, none⟩), .int .i64 (k : Nat), .int .i64 (rf : Nat), .slice a (fldsOf R.L j) cp] w2 fun e w' => e = .returned (.tuple #[.int .i64 0, .int .i64 22]) ∧ Still w2 w') := hide (fun w2 rt2 hh k rf a cp => rlay_no hh k rf (fldsOf R.L j) a cp (by have := (h.flds j hj).1; omega) hfull)
  have y0 : (0 : Int) ≤ (j : Int) := by omega
  have y1 : (j : Int) < (R.L.length : Int) := by omega
  have d0 : decide ((j : Int) < 0) = false := decide_eq_false (by omega)
  rw [hg] at HO
  obtain ⟨hf1, hf2, hf3⟩ := h.flds j hj
  obtain ⟨i0, hi, hx0, hx1, hx2⟩ := info_parts Try.info24
  generalize (R.L.getD j (0, 0, 0)).1 = kd at *
  generalize (R.L.getD j (0, 0, 0)).2.1 = rf at *
  generalize fldsOf R.L j = nf at *
  generalize place R.L j = pj at *
  clear h hg ha hf3
  go_enter Try.func37, Try.ntmps37
  go_wp2_with fail
  refine (unhide HF).mono ?_
  rintro e w1 ⟨rfl, hst⟩
  obtain ⟨g, cap, aF, cF, c2, eF, o0, o1, o2, o3, o4, o5, _⟩ := unhide HO w1 hst
  have o4' : w1.cell? ⟨g, j * 6 + 4, none⟩ = some (.bool false) := o4
  have o5' : w1.cell? ⟨g, j * 6 + 5, none⟩ = some (.int .i64 0) := o5
  have HST := hide hst
  have HN := hide (unhide HX w1 hst aF cF eF)
  clear o4 o5 hst HO HF eF HX
  go_wp2_with (at_builtin; refine append_copy rfl _ _ 62 rfl 24 i0 (.int .u64 0) 8 Try.underlying62 hi hx0 hx1 hx2 rfl rfl (.slice aF nf cF) rfl nf (fun i => w64 ((R.X.getD j []).getD i 0)) (unhide HN _).news ?q2 ?q3 ?_)
  case q2 => omega
  case q3 => omega
  intro v w2 hL hb hv
  obtain ⟨av, cv, rfl⟩ := hL.shape
  obtain ⟨t1, t2, t3, t4⟩ := unhide HT w1 w2 (unhide HST) (.cells #[.int .i64 (pj : Nat), .int .i64 (kd : Nat), .int .i64 (rf : Nat), .slice aF nf cF, .bool false, .int .i64 0] 112) _ (by simpa using hb) hL (by simpa using hv)
  have HC := hide t3
  have HLAY := hide (unhide HLN w2 _ t1 kd rf av cv)
  have z1 : w2.cell? ⟨w1.heap.size, 1, none⟩ = some (.int .i64 (kd : Nat)) := by simp [World.cell?, t4]
  have z2 : w2.cell? ⟨w1.heap.size, 2, none⟩ = some (.int .i64 (rf : Nat)) := by simp [World.cell?, t4]
  have z3 : w2.cell? ⟨w1.heap.size, 0, none⟩ = some (.int .i64 (pj : Nat)) := by simp [World.cell?, t4]
  clear t1 t2 t3 t4 hL hb hv HT HLN HN o0 o1 o2 o3 o4' o5' c2
  go_wp2_with fail
  refine (unhide HLAY).mono ?_
  rintro e w3 ⟨rfl, hs3⟩
  have HS3 := hide hs3
  clear hs3
  go_wp2
  go_ret2
  refine ⟨rfl, _, (unhide HC).trans (RChg.below (P := fun _ => False) (unhide HC).un (unhide HS3).below)⟩
/-- Take, where it is done: Rs is the block it takes from, behind the lay -/
theorem rtake_yes {w : World} {pr r pa ra : Nat} {rt : Nat → Nat} {R Ra : RefSt} (h : RefAt w pr r rt R) (ha : RefAt w pa ra rt Ra) (un : ∀ g, rt g ≠ 0 → g < w.heap.size) (j : Nat) (hj : j < R.L.length) (hg : R.Gn.getD j none = none) (hfit : Ra.used + 1 + fldsOf R.L j ≤ Ra.size)
    (Rs : Value → Value → RefSt) (hRs : ∀ w3 rt3 F v, RefAt w3 pa ra rt3 (Ra.lay (R.L.getD j (0, 0, 0)).1 (R.L.getD j (0, 0, 0)).2.1 (R.L.getD j (0, 0, 0)).2.2 (R.X.getD j []) F v) → RChg (Mine ra) rt rt3 w w3 → RefAt w3 pr r rt3 (Rs F v) ∧ j < (Rs F v).L.length) :
    Calls Try.prog 37 #[.pointer (some ⟨pa, 0, none⟩), .pointer (some ⟨pr, 0, none⟩), .int .i64 (place R.L j : Nat)] w fun e w' => e = .returned (.tuple #[.int .i64 (Ra.used : Nat), .int .i64 0]) ∧ ∃ rt' F v w3 g, RefAt w3 pa ra rt' (Ra.lay (R.L.getD j (0, 0, 0)).1 (R.L.getD j (0, 0, 0)).2.1 (R.L.getD j (0, 0, 0)).2.2 (R.X.getD j []) F v) ∧ RChg (Mine ra) rt rt' w w3 ∧ (Rs F v).v.ownBlock = some g ∧ RefAt w3 pr r rt' (Rs F v) ∧ w' = (w3.setCell ⟨g, j * 6 + 4, none⟩ (.bool true)).setCell ⟨g, j * 6 + 5, none⟩ (.int .i64 (Ra.used : Nat)) ∧ RefAt w' pr r rt' ((Rs F v).mark j Ra.used) := by
  have HF := hide (find_yes h j hj)
  have HO := hide (fun wq k => h.six j hj wq k)
  have HX : Hid (∀ wq, Still w wq → ∀ aF cF, R.F.getD j undef = .slice aF (fldsOf R.L j) cF → ∀ y, Line (wq.alloc y) 24 (.slice aF (fldsOf R.L j) cF) (fldsOf R.L j) (fun i => w64 ((R.X.getD j []).getD i 0))) := hide (fun wq k aF cF e y => by
    have h1 := ((h.still k).fld j hj).1
    rw [e] at h1
    exact h1.same (fun g hgg => heap_alloc_old wq y (h1.lt g hgg)))
  have HT := hide (fun w1 w2 hst y v hb hL hv => rtaken (w1 := w1) (w2 := w2) h ha un j hj hst y v hb hL hv)
  have hul := ha.u2
  have hsl := ha.sz
  obtain ⟨us, hus⟩ : ∃ us, us = Ra.used := ⟨_, rfl⟩
  have HEND : Hid (∀ w3 rt3 F v, RefAt w3 pa ra rt3 (Ra.lay (R.L.getD j (0, 0, 0)).1 (R.L.getD j (0, 0, 0)).2.1 (R.L.getD j (0, 0, 0)).2.2 (R.X.getD j []) F v) → RChg (Mine ra) rt rt3 w w3 → ∃ g cap n x4 x5, w3.cell? ⟨pr, 2, none⟩ = some (.slice (some ⟨g, 0, none⟩) n cap) ∧ (j : Int) < (n : Int) ∧ w3.cell? ⟨g, j * 6 + 4, none⟩ = some (.bool x4) ∧ w3.cell? ⟨g, j * 6 + 5, none⟩ = some (.int .i64 x5) ∧ w3.frozen? ⟨g, j * 6 + 4, none⟩ = false ∧ w3.frozen? ⟨g, j * 6 + 5, none⟩ = false ∧ g ≠ pr ∧
      (∃ rt' F v w3' g', RefAt w3' pa ra rt' (Ra.lay (R.L.getD j (0, 0, 0)).1 (R.L.getD j (0, 0, 0)).2.1 (R.L.getD j (0, 0, 0)).2.2 (R.X.getD j []) F v) ∧ RChg (Mine ra) rt rt' w w3' ∧ (Rs F v).v.ownBlock = some g' ∧ RefAt w3' pr r rt' (Rs F v) ∧ (w3.setCell ⟨g, j * 6 + 4, none⟩ (.bool true)).setCell ⟨g, j * 6 + 5, none⟩ (.int .i64 (us : Nat)) = (w3'.setCell ⟨g', j * 6 + 4, none⟩ (.bool true)).setCell ⟨g', j * 6 + 5, none⟩ (.int .i64 (us : Nat)) ∧ RefAt ((w3.setCell ⟨g, j * 6 + 4, none⟩ (.bool true)).setCell ⟨g, j * 6 + 5, none⟩ (.int .i64 (us : Nat))) pr r rt' ((Rs F v).mark j us))) := hide (fun w3 rt3 F v q1 q2 => by
    obtain ⟨q3, q4⟩ := hRs w3 rt3 F v q1 q2
    obtain ⟨g, cap, hv, hc2, hc⟩ := q3.obj j q4
    have hgo : (Rs F v).v.ownBlock = some g := by rw [hv]; rfl
    have hm := q3.mark j us g q4 (by omega) hgo
    exact ⟨g, cap, _, _, _, hc2, by omega, (hc 4 (by decide)).1, (hc 5 (by decide)).1, (hc 4 (by decide)).2, (hc 5 (by decide)).2, fun e => by have h1 := q3.tr g hgo; rw [e, q3.tp] at h1; omega, rt3, F, v, w3, g, q1, q2, hgo, q3, rfl, hm⟩)
  have HLN : Hid (∀ w2 v, RefAt w2 pa ra (tagAt rt v (40 + 3 * Ra.L.length + ra)) Ra → RChg (fun _ => False) rt (tagAt rt v (40 + 3 * Ra.L.length + ra)) w w2 → Line w2 24 v (fldsOf R.L j) (fun i => w64 ((R.X.getD j []).getD i 0)) → Calls Try.prog 61 #[.pointer (some ⟨pa, 0, none⟩), .int .i64 ((R.L.getD j (0, 0, 0)).1 : Nat), .int .i64 ((R.L.getD j (0, 0, 0)).2.1 : Nat), v] w2 fun e w' => e = .returned (.tuple #[.int .i64 (us : Nat), .int .i64 0]) ∧ ∃ rt' v', RefAt w' pa ra rt' (Ra.lay (R.L.getD j (0, 0, 0)).1 (R.L.getD j (0, 0, 0)).2.1 (R.L.getD j (0, 0, 0)).2.2 (R.X.getD j []) v v') ∧ RChg (Mine ra) rt rt' w w') := hide (fun w2 v hh hc hL => by
    rw [hus]
    refine (rlay_yes hh hc.un (R.L.getD j (0, 0, 0)).1 (R.L.getD j (0, 0, 0)).2.1 (R.L.getD j (0, 0, 0)).2.2 (R.X.getD j []) v (h.sh j hj) (h.xs j hj) (h.sm j) hL (fun g hgg => by unfold tagAt; rw [if_pos hgg]) hfit).mono ?_
    rintro e w' ⟨rfl, rt', v', b1, b2⟩
    exact ⟨rfl, rt', v', b1, (hc.weak (fun _ => False.elim)).trans b2⟩)
  have y0 : (0 : Int) ≤ (j : Int) := by omega
  have y1 : (j : Int) < (R.L.length : Int) := by omega
  have d0 : decide ((j : Int) < 0) = false := decide_eq_false (by omega)
  rw [hg] at HO
  obtain ⟨hf1, hf2, hf3⟩ := h.flds j hj
  obtain ⟨i0, hi, hx0, hx1, hx2⟩ := info_parts Try.info24
  generalize (R.L.getD j (0, 0, 0)).1 = kd at *
  generalize (R.L.getD j (0, 0, 0)).2.1 = rf at *
  generalize (R.L.getD j (0, 0, 0)).2.2 = rw' at *
  generalize fldsOf R.L j = nf at *
  generalize place R.L j = pj at *
  rw [← hus]
  rw [← hus] at hul
  clear h hg ha hf3 hfit hRs hus
  go_enter Try.func37, Try.ntmps37
  go_wp2_with fail
  refine (unhide HF).mono ?_
  rintro e w1 ⟨rfl, hst⟩
  obtain ⟨g, cap, aF, cF, c2, eF, o0, o1, o2, o3, o4, o5, _⟩ := unhide HO w1 hst
  have o4' : w1.cell? ⟨g, j * 6 + 4, none⟩ = some (.bool false) := o4
  have o5' : w1.cell? ⟨g, j * 6 + 5, none⟩ = some (.int .i64 0) := o5
  have HST := hide hst
  have HN := hide (unhide HX w1 hst aF cF eF)
  clear o4 o5 hst HO HF eF HX
  go_wp2_with (at_builtin; refine append_copy rfl _ _ 62 rfl 24 i0 (.int .u64 0) 8 Try.underlying62 hi hx0 hx1 hx2 rfl rfl (.slice aF nf cF) rfl nf (fun i => w64 ((R.X.getD j []).getD i 0)) (unhide HN _).news ?q2 ?q3 ?_)
  case q2 => omega
  case q3 => omega
  intro v w2 hL hb hv
  obtain ⟨av, cv, rfl⟩ := hL.shape
  obtain ⟨t1, t2, t3, t4⟩ := unhide HT w1 w2 (unhide HST) (.cells #[.int .i64 (pj : Nat), .int .i64 (kd : Nat), .int .i64 (rf : Nat), .slice aF nf cF, .bool false, .int .i64 0] 112) _ (by simpa using hb) hL (by simpa using hv)
  have HLAY := hide (unhide HLN w2 _ t1 t3 hL)
  have z1 : w2.cell? ⟨w1.heap.size, 1, none⟩ = some (.int .i64 (kd : Nat)) := by simp [World.cell?, t4]
  have z2 : w2.cell? ⟨w1.heap.size, 2, none⟩ = some (.int .i64 (rf : Nat)) := by simp [World.cell?, t4]
  have z3 : w2.cell? ⟨w1.heap.size, 0, none⟩ = some (.int .i64 (pj : Nat)) := by simp [World.cell?, t4]
  clear t1 t2 t3 t4 hL hb hv HT HLN HN o0 o1 o2 o3 o4' o5' c2
  go_wp2_with fail
  refine (unhide HLAY).mono ?_
  rintro e w3 ⟨rfl, rt', v', b1, b2⟩
  obtain ⟨g3, cap3, n3, x4, x5, s2, sj, s4, s5, s6, s7, s8, s9⟩ := unhide HEND w3 _ _ _ b1 b2
  have HS9 := hide s9
  clear b1 b2 s9 HEND HLAY z1 z2 z3
  go_wp2
  go_ret2
  exact ⟨rfl, unhide HS9⟩
theorem Mine.apart {r ra k : Nat} (h : Mine r k) (hr : r % 3 ≠ ra % 3) : ¬ Mine ra k := fun e => by
  have h1 := h.2
  have h2 := e.2
  omega
/-- from another block -/
theorem rtake_other {w : World} {pr r pa ra : Nat} {rt : Nat → Nat} {R Ra : RefSt} (h : RefAt w pr r rt R) (ha : RefAt w pa ra rt Ra) (un : ∀ g, rt g ≠ 0 → g < w.heap.size) (hr : r % 3 ≠ ra % 3) (j : Nat) (hj : j < R.L.length) (hg : R.Gn.getD j none = none) (hfit : Ra.used + 1 + fldsOf R.L j ≤ Ra.size) :
    Calls Try.prog 37 #[.pointer (some ⟨pa, 0, none⟩), .pointer (some ⟨pr, 0, none⟩), .int .i64 (place R.L j : Nat)] w fun e w' => e = .returned (.tuple #[.int .i64 (Ra.used : Nat), .int .i64 0]) ∧ ∃ rt' F v, RefAt w' pa ra rt' (Ra.lay (R.L.getD j (0, 0, 0)).1 (R.L.getD j (0, 0, 0)).2.1 (R.L.getD j (0, 0, 0)).2.2 (R.X.getD j []) F v) ∧ RefAt w' pr r rt' (R.mark j Ra.used) ∧ RChg (fun k => Mine r k ∨ Mine ra k) rt rt' w w' := by
  refine (rtake_yes h ha un j hj hg hfit (fun _ _ => R) (fun w3 rt3 F v q1 q2 => ⟨h.chg q2 (fun k hm => hm.apart hr), hj⟩)).mono ?_
  rintro e w' ⟨rfl, rt', F, v, w3, g, a1, a2, a3, a4, rfl, a5⟩
  have mg : Mine r (rt' g) := by rw [a4.tr g a3]; exact ⟨by omega, by omega⟩
  have c1 := RChg.set (P := Mine r) (w := w3) a2.un g (j * 6 + 4) (.bool true) mg
  have c2 := c1.trans (RChg.set (P := Mine r) c1.un g (j * 6 + 5) (.int .i64 (Ra.used : Nat)) mg)
  exact ⟨rfl, rt', F, v, a1.chg c2 (fun k hm => hm.apart (fun e => hr e.symm)), a5, (a2.weak (fun _ => .inr)).trans (c2.weak (fun _ => .inl))⟩
/-- from the block itself -/
theorem rtake_same {w : World} {pr r : Nat} {rt : Nat → Nat} {R : RefSt} (h : RefAt w pr r rt R) (un : ∀ g, rt g ≠ 0 → g < w.heap.size) (j : Nat) (hj : j < R.L.length) (hg : R.Gn.getD j none = none) (hfit : R.used + 1 + fldsOf R.L j ≤ R.size) :
    Calls Try.prog 37 #[.pointer (some ⟨pr, 0, none⟩), .pointer (some ⟨pr, 0, none⟩), .int .i64 (place R.L j : Nat)] w fun e w' => e = .returned (.tuple #[.int .i64 (R.used : Nat), .int .i64 0]) ∧ ∃ rt' F v, RefAt w' pr r rt' ((R.lay (R.L.getD j (0, 0, 0)).1 (R.L.getD j (0, 0, 0)).2.1 (R.L.getD j (0, 0, 0)).2.2 (R.X.getD j []) F v).mark j R.used) ∧ RChg (Mine r) rt rt' w w' := by
  refine (rtake_yes h h un j hj hg hfit (fun F v => R.lay (R.L.getD j (0, 0, 0)).1 (R.L.getD j (0, 0, 0)).2.1 (R.L.getD j (0, 0, 0)).2.2 (R.X.getD j []) F v) (fun w3 rt3 F v q1 q2 => ⟨q1, by show j < (R.L ++ [_]).length; simp; omega⟩)).mono ?_
  rintro e w' ⟨rfl, rt', F, v, w3, g, a1, a2, a3, a4, rfl, a5⟩
  have mg : Mine r (rt' g) := by rw [a4.tr g a3]; exact ⟨by omega, by omega⟩
  have c1 := RChg.set (P := Mine r) (w := w3) a2.un g (j * 6 + 4) (.bool true) mg
  have c2 := c1.trans (RChg.set (P := Mine r) c1.un g (j * 6 + 5) (.int .i64 (R.used : Nat)) mg)
  exact ⟨rfl, rt', F, v, a5, a2.trans c2⟩
end Go.Proofs.Ytdgdnpgjbphgaab
