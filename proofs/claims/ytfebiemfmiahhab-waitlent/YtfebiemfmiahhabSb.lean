/- WaitLent: lentHeld: its state within a round. -/
import Derived.Test.YtfebiemfmiahhabRs
namespace Go.Proofs.Ytfebiemfmiahhab
open Go.ChangeShapes Go.WideShapes Go.ChangeAt Go.RowKit Go.Maps
set_option linter.unusedVariables false
set_option linter.unusedSimpArgs false
set_option maxRecDepth 100000
set_option maxHeartbeats 8000000
/-- as run_append_rws, from any address, of any length -/
theorem run_append_at {P : Program} {w : World} (ty t e : TypeId) (i : TypeInfo) (z : Value) (s bytes : Nat) (ht : P.underlying t = some (.slice e)) (hi : P.info? e = some i) (hz : i.zero = some z) (hsize : i.size = s) (hby : i.bytes = bytes) (hzs : z.cells.size = s)
    (tb : TypeId) (v : Value) (n : Nat) (f : Nat → Value) (hown : Rws w tb s v n f) (hfull : tb = e ∨ ∀ b cap, v = .slice (some b) n cap → cap = n) (ad : Addr) (m mc : Nat) (news : List Value) (hm : 0 < m) (hl : news.length = m * s) (hnews : ∀ j x, news[j]? = some x → w.cell? (ad.add j) = some x) (h1 : ∀ x ∈ news, x.oneCell' = true) (hn : (n + m) * bytes ≤ 140737488355328) (hml : n + m ≤ maxLen) :
    ∃ v' w', (Builtin.append_ #[t, t] ty #[v, .slice (some ad) m mc]).run P w = .ok v' w' ∧ Rws w' e s v' (n + m) (fun k => if k < n * s then f k else news.getD (k - n * s) undef) ∧ Gr e (n * s) news.length w w' v v' := by
  have hml2 : n + m ≤ 9223372036854775807 := hml
  have hnm : (n + m) * s = n * s + m * s := Nat.add_mul _ _ _
  rcases hown with ⟨rfl, rfl⟩ | ⟨g, cap, cur, rfl, hg, hnc, hcm, hcs, hf⟩
  · simp only [Nat.zero_add, Nat.zero_mul, Nat.not_lt_zero, if_false, Nat.sub_zero] at *
    have hr := run_append_nil (P := P) w t ty e i z ht hi hz ad m mc news (by rw [hsize]; exact hl) hnews hm (by omega) (by rw [hby]; omega)
    have hge := grownCap_ge w m 0 e
    have hcm2 : grownCap w m 0 e ≤ maxLen := grownCap_le_maxLen w m 0 e hml
    refine ⟨_, _, hr, .inr ⟨w.heap.size, _, _, rfl, heap_alloc_new w.drew _, hge, hcm2, ?_, fun j hj => ?_⟩, ⟨rfl, rfl, rfl, .inr ⟨rfl, by simp, fun k hk => heap_alloc_old w.drew _ hk⟩⟩⟩
    · simp only [Array.size_append, List.size_toArray, size_zeroCells, hzs, hl]
      rw [← Nat.add_mul]
      congr 1
      omega
    · show _ = some (news.getD j undef)
      rw [Array.getElem?_append_left (by rw [List.size_toArray, hl]; exact hj), List.getElem?_toArray, List.getD_eq_getElem?_getD, List.getElem?_eq_getElem (by omega)]
      rfl
  · by_cases hroom : n + m ≤ cap
    · have hte : tb = e := by
        rcases hfull with h | h
        · exact h
        · have := h _ _ rfl; omega
      subst hte
      have hcap : (n + m) * s ≤ cap * s := Nat.mul_le_mul_right _ hroom
      have hr := run_append_room (P := P) w t ty tb i ht hi g n cap cur hg ad m mc news (by rw [hsize]; exact hl) hnews h1 hroom (by rw [hsize, hcs, hl]; omega)
      rw [hsize] at hr
      have hlt : (cur.toList.take (n * s)).length = n * s := by simp; omega
      have hcur : ∀ j, j < n * s ∨ n * s + news.length ≤ j → (cur.toList.take (n * s) ++ news ++ cur.toList.drop (n * s + news.length)).toArray[j]? = cur[j]? := by
        intro j hj
        rw [List.getElem?_toArray]
        rcases hj with hj | hj
        · rw [List.append_assoc, List.getElem?_append_left (by omega), List.getElem?_take, if_pos hj]
          simp
        · rw [List.getElem?_append_right (by simp only [List.length_append, hlt]; omega), List.length_append, hlt, List.getElem?_drop]
          rw [show n * s + news.length + (j - (n * s + news.length)) = j by omega]
          simp
      have hnew : ∀ j, n * s ≤ j → j < n * s + news.length → (cur.toList.take (n * s) ++ news ++ cur.toList.drop (n * s + news.length)).toArray[j]? = some (news.getD (j - n * s) undef) := by
        intro j hj hj2
        rw [List.getElem?_toArray, List.append_assoc, List.getElem?_append_right (by omega), hlt, List.getElem?_append_left (by omega), List.getD_eq_getElem?_getD, List.getElem?_eq_getElem (by omega)]
        rfl
      have hsz : (cur.toList.take (n * s) ++ news ++ cur.toList.drop (n * s + news.length)).toArray.size = cur.size := by
        simp only [List.size_toArray, List.length_append, hlt, List.length_drop, Array.length_toList]
        omega
      have hblk := setRow_heap w g cur (cur.toList.take (n * s) ++ news ++ cur.toList.drop (n * s + news.length)).toArray tb _ hg
      generalize (cur.toList.take (n * s) ++ news ++ cur.toList.drop (n * s + news.length)).toArray = cur' at *
      refine ⟨_, _, hr, .inr ⟨g, cap, cur', rfl, hblk, hroom, hcm, by omega, fun j hj => ?_⟩, ⟨rfl, rfl, rfl, .inl ⟨g, cur, cur', rfl, rfl, hg, hblk, hsz, hcur, by simp [World.setRow], fun k hk => setRow_other w g k _ hk⟩⟩⟩
      by_cases e1 : j < n * s
      · simp only [if_pos e1]
        rw [hcur j (.inl e1), hf j e1]
      · simp only [if_neg e1]
        exact hnew j (by omega) (by omega)
    · have hol : (cur.toList.take (n * s)).length = n * s := by
        have := Nat.mul_le_mul_right s hnc
        simp; omega
      have holds : ∀ j x, (cur.toList.take (n * s))[j]? = some x → w.cell? ((⟨g, 0, none⟩ : Addr).add j) = some x := by
        intro j x hj
        rw [addr0]
        simp only [World.cell?, hg]
        rw [List.getElem?_take] at hj
        split at hj
        · simpa using hj
        · cases hj
      have hr := run_append_grow (P := P) w t ty e i z ht hi hz ⟨g, 0, none⟩ n cap (cur.toList.take (n * s)) (by rw [hsize]; omega) holds ad m mc news (by rw [hsize]; exact hl) hnews (by omega) (by omega) (by rw [hby]; exact growslice_fits (by omega) hn)
      have hge := grownCap_ge w (n + m) cap e
      have hcm2 : grownCap w (n + m) cap e ≤ maxLen := grownCap_le_maxLen w (n + m) cap e hml
      refine ⟨_, _, hr, .inr ⟨w.heap.size, _, _, rfl, heap_alloc_new w.drew _, hge, hcm2, ?_, fun j hj => ?_⟩, ⟨rfl, rfl, rfl, .inr ⟨rfl, by simp, fun k hk => heap_alloc_old w.drew _ hk⟩⟩⟩
      · simp only [Array.size_append, List.size_toArray, size_zeroCells, hzs, hol, hl]
        rw [← Nat.add_mul, ← Nat.add_mul]
        congr 1
        omega
      · rw [Array.getElem?_append_left (by simp only [Array.size_append, List.size_toArray, hol, hl]; omega)]
        by_cases e1 : j < n * s
        · simp only [if_pos e1]
          rw [← hf j e1, Array.getElem?_append_left (by simp only [List.size_toArray, hol]; omega), List.getElem?_toArray, List.getElem?_take, if_pos e1]
          simp
        · simp only [if_neg e1]
          rw [Array.getElem?_append_right (by simp only [List.size_toArray, hol]; omega), List.size_toArray, hol, List.getElem?_toArray, List.getD_eq_getElem?_getD, List.getElem?_eq_getElem (by omega)]
          rfl
/-- nothing is appended -/
theorem run_append_zero {P : Program} {w : World} (ty t e : TypeId) (i : TypeInfo) (s : Nat) (ht : P.underlying t = some (.slice e)) (hi : P.info? e = some i)
    (tb : TypeId) (v : Value) (n : Nat) (f : Nat → Value) (hown : Rws w tb s v n f) (a : Option Addr) (c : Nat) : (Builtin.append_ #[t, t] ty #[v, .slice a 0 c]).run P w = .ok v w := by
  rcases hown with ⟨rfl, rfl⟩ | ⟨g, cap, cur, rfl, hg, hnc, hcm, hcs, hf⟩
  · cases a <;> simp [Builtin.append_, run_underlying ht, sizeOf, typeInfo, hi, Builtin.lenOf, Builtin.firstCells, loadCells, loadCellsFrom, storeCells]
  · cases a <;> simp [Builtin.append_, run_underlying ht, sizeOf, typeInfo, hi, Builtin.lenOf, Builtin.firstCells, hnc, loadCells, loadCellsFrom, storeCells]
/-- what an append of any list leaves -/
def Ga (e : TypeId) (c m : Nat) (w w' : World) (v v' : Value) : Prop := (w' = w ∧ v' = v) ∨ Gr e c m w w' v v'
theorem run_append_any {P : Program} {w : World} (ty t e : TypeId) (i : TypeInfo) (z : Value) (s bytes : Nat) (ht : P.underlying t = some (.slice e)) (hi : P.info? e = some i) (hz : i.zero = some z) (hsize : i.size = s) (hby : i.bytes = bytes) (hzs : z.cells.size = s)
    (v : Value) (n : Nat) (f : Nat → Value) (hown : Rws w e s v n f) (a : Option Addr) (m mc : Nat) (news : List Value) (hl : news.length = m * s) (hnil : a = none → m = 0) (hc : ∀ ad, a = some ad → ∀ (j : Nat) (x : Value), news[j]? = some x → w.cell? (ad.add j) = some x) (h1 : ∀ x ∈ news, x.oneCell' = true) (hn : (n + m) * bytes ≤ 140737488355328) (hn2 : n + m ≤ maxLen) :
    ∃ v' w', (Builtin.append_ #[t, t] ty #[v, .slice a m mc]).run P w = .ok v' w' ∧ Rws w' e s v' (n + m) (fun k => if k < n * s then f k else news.getD (k - n * s) undef) ∧ Ga e (n * s) news.length w w' v v' := by
  by_cases hm : m = 0
  · subst hm
    exact ⟨v, w, run_append_zero ty t e i s ht hi e v n f hown a mc, hown.congr fun k hk => by rw [if_pos hk], .inl ⟨rfl, rfl⟩⟩
  · cases a with
    | none => exact absurd (hnil rfl) hm
    | some ad =>
      obtain ⟨v', w', h, h2, h3⟩ := run_append_at (P := P) (w := w) ty t e i z s bytes ht hi hz hsize hby hzs e v n f hown (.inl rfl) ad m mc news (by omega) hl (hc ad rfl) h1 hn hn2
      exact ⟨v', w', h, h2, .inr h3⟩
/-- at a step of a region that draws -/
theorem step_append_any {P : Program} {ops : Array Oper} {o : Oper} {a : Act} {w : World} {K : Act → World → Prop} {Q : Exit → Act → World → Prop} {E : Prop} (hg : o.guard = none) (so x : Operand) (t : TypeId) (ho : o.op = .call { callee := .builtin .append, args := #[so, x], argTypes := #[t, t] })
    (e : TypeId) (i : TypeInfo) (z : Value) (s bytes : Nat) (ht : P.underlying t = some (.slice e)) (hi : P.info? e = some i) (hz : i.zero = some z) (hsize : i.size = s) (hby : i.bytes = bytes) (hzs : z.cells.size = s)
    (v : Value) (n : Nat) (f : Nat → Value) (hs : a.eval so = v) (hown : Rws w e s v n f) (b : Option Addr) (m mc : Nat) (hx : a.eval x = .slice b m mc) (news : List Value) (hl : news.length = m * s) (hnil : b = none → m = 0) (hc : ∀ ad, b = some ad → ∀ (j : Nat) (x : Value), news[j]? = some x → w.cell? (ad.add j) = some x) (h1 : ∀ x ∈ news, x.oneCell' = true) (hn : (n + m) * bytes ≤ 140737488355328) (hn2 : n + m ≤ maxLen)
    (h : ∀ v' w', Rws w' e s v' (n + m) (fun k => if k < n * s then f k else news.getD (k - n * s) undef) → Ga e (n * s) news.length w w' v v' → K (a.put o.dst v') w') : if Region.wanted o (yielded ops a.tmps) = true then Oper.wp P o a w K Q else E := by
  have hw : Region.wanted o (yielded ops a.tmps) = true := by simp [Region.wanted, hg]
  rw [if_pos hw]
  obtain ⟨v', w', hr, h2, h3⟩ := run_append_any (P := P) (w := w) o.type t e i z s bytes ht hi hz hsize hby hzs v n f hown b m mc news hl hnil hc h1 hn hn2
  exact wp_appended so x t ho _ _ hs hx _ _ hr (h v' w' h2 h3)
/-- a list: its value, its length, its cells -/
structure LV where
  v : Value
  n : Nat
  c : List Value
def lv0 : LV := ⟨undef, 0, []⟩
/-- lists of elements of type e (s cells each), each in a block of its own of colour 9; the first n of them are in a row of colour k -/
structure RL (W : World) (X : Nat → Nat) (e le : TypeId) (s k : Nat) (L : List LV) (a : Option Addr) (n cap : Nat) : Prop where
  few : n ≤ L.length
  row : Rws W le 1 (.slice a n cap) n (fun j => (L.getD j lv0).v)
  col : ∀ g, (Value.slice a n cap).ownBlock = some g → X g = k
  ent : ∀ x ∈ L, Rws W e s x.v x.n (fun j => x.c.getD j undef) ∧ x.c.length = x.n * s ∧ x.n ≤ 64 ∧ ∃ g cap, x.v = .slice (some ⟨g, 0, none⟩) x.n cap ∧ X g = 9
  apart : L.Pairwise (fun x y => x.v.ownBlock ≠ y.v.ownBlock)
section
variable {w0 W W' : World} {X : Nat → Nat} {ps p r T : Nat} {E : List En} {D : LD} {e le : TypeId} {s k : Nat} {L : List LV} {a : Option Addr} {n cap : Nat}
theorem RL.below (h : RL W X e le s k L a n cap) (hb : Below W.heap.size W W') : RL W' X e le s k L a n cap :=
  ⟨h.few, h.row.below hb, h.col, fun x hx => ⟨(h.ent x hx).1.below hb, (h.ent x hx).2⟩, h.apart⟩
/-- blocks of another colour have changed -/
theorem RL.ch (h : RL W X e le s k L a n cap) {k' : Nat} (hc : Ch X k' W W') (h1 : k' ≠ k) (h2 : k' ≠ 9) : RL W' (upc X W W' k') e le s k L a n cap := by
  refine ⟨h.few, h.row.same fun g hg => hc.block g (h.row.lt g hg) (by rw [h.col g hg]; omega), fun g hg => by rw [upc_old (h.row.lt g hg)]; exact h.col g hg, fun x hx => ?_, h.apart⟩
  obtain ⟨q1, q2, q3, g, c, q4, q5⟩ := h.ent x hx
  have hg : x.v.ownBlock = some g := by rw [q4]; rfl
  have hl := q1.lt g hg
  refine ⟨q1.same fun g' hg' => ?_, q2, q3, g, c, q4, by rw [upc_old hl]; exact q5⟩
  rw [hg] at hg'; cases hg'
  exact hc.block g hl (by omega)
/-- a block without a colour takes one -/
theorem RL.pn (h : RL W X e le s k L a n cap) {g c : Nat} (hg : X g ≠ k ∧ X g ≠ 9) : RL W (pnt X g c) e le s k L a n cap := by
  refine ⟨h.few, h.row, fun b hb => ?_, fun x hx => ?_, h.apart⟩
  · have := h.col b hb
    rw [pnt_else (by rintro rfl; omega)]; exact this
  · obtain ⟨q1, q2, q3, g', c', q4, q5⟩ := h.ent x hx
    exact ⟨q1, q2, q3, g', c', q4, by rw [pnt_else (by rintro rfl; omega)]; exact q5⟩
theorem RL.own (h : RL W X e le s k L a n cap) {x : LV} (hx : x ∈ L) {g : Nat} (hg : x.v.ownBlock = some g) : X g = 9 := by
  obtain ⟨q1, q2, q3, g', c', q4, q5⟩ := h.ent x hx
  rw [q4] at hg
  cases hg
  exact q5
/-- one list more, in a block that had no colour -/
theorem RL.add (h : RL W X e le s k L a n cap) {g m c : Nat} {l : List Value} (hg : X g ≠ k ∧ X g ≠ 9) (hr : Rws W e s (.slice (some ⟨g, 0, none⟩) m c) m (fun j => l.getD j undef)) (hl : l.length = m * s) (hm : m ≤ 64) : RL W (pnt X g 9) e le s k (L ++ [⟨.slice (some ⟨g, 0, none⟩) m c, m, l⟩]) a n cap := by
  have h' := h.pn (c := 9) hg
  refine ⟨by rw [List.length_append]; have := h.few; omega, h.row.congr fun j hj => ?_, h'.col, fun x hx => ?_, ?_⟩
  · have := h.few
    rw [List.getD_eq_getElem?_getD, List.getD_eq_getElem?_getD, List.getElem?_append_left (by omega)]
  · rcases List.mem_append.1 hx with q | q
    · exact h'.ent x q
    · rw [List.mem_singleton.1 q]
      exact ⟨hr, hl, hm, g, c, rfl, pnt_self⟩
  · rw [List.pairwise_append]
    refine ⟨h.apart, List.pairwise_singleton _ _, fun x hx y hy e => ?_⟩
    rw [List.mem_singleton.1 hy] at e
    have := h.own hx (g := g) (by rw [e]; rfl)
    omega
/-- the row takes up lists that are there -/
theorem RL.grow (h : RL W X e le s k L a n cap) (hk : k ≠ 9) (h0 : k ≠ 0) {q m : Nat} {v : Value} (hq : n + q ≤ L.length) {news : List Value} (hn : ∀ j, j < q → news.getD j undef = (L.getD (n + j) lv0).v) (hr : Rws W' le 1 v (n + q) (fun j => if j < n * 1 then (L.getD j lv0).v else news.getD (j - n * 1) undef)) (hg : Gr le (n * 1) m W W' (.slice a n cap) v) :
    ∃ a' c', v = .slice a' (n + q) c' ∧ RL W' (upc X W W' k) e le s k L a' (n + q) c' ∧ Ch X k W W' := by
  have hc : Ch X k W W' := gr_ch hg h.col
  obtain ⟨a', c', rfl⟩ := hr.shape
  refine ⟨a', c', rfl, ⟨hq, hr.congr fun j hj => ?_, fun g hg' => ?_, fun x hx => ?_, h.apart⟩, hc⟩
  · by_cases z : j < n * 1
    · simp only [if_pos z]
    · simp only [if_neg z]
      rw [hn _ (by omega)]
      congr 2
      omega
  · rcases hg.how with ⟨g', cur, cur', k1, k2, -⟩ | ⟨k2, k3, -⟩
    · have e2 : some g' = some g := k2.symm.trans hg'
      cases e2
      rw [upc_old (h.row.lt _ k1)]; exact h.col _ k1
    · have e2 := k2.symm.trans hg'
      cases e2
      exact upc_new (Nat.le_refl _) (by omega)
  · obtain ⟨q1, q2, q3, g', c2, q4, q5⟩ := h.ent x hx
    have hg2 : x.v.ownBlock = some g' := by rw [q4]; rfl
    have hl := q1.lt g' hg2
    refine ⟨q1.same fun b hb => ?_, q2, q3, g', c2, q4, by rw [upc_old hl]; exact q5⟩
    rw [hg2] at hb; cases hb
    exact hc.block g' hl (by omega)
/-- blocks of a colour from 9 on have changed: the rest is as it was -/
theorem LS.ch9 (h : LS w0 W X ps p r T E D) {k : Nat} (hc : Ch X k W W') (hk : 9 ≤ k) : LS w0 W' (upc X W W' k) ps p r T E D := by
  obtain ⟨s1, s2⟩ := h.sdk hc (by omega) (by omega)
  obtain ⟨a1, a2⟩ := h.kak hc (by omega)
  obtain ⟨b1, b2⟩ := h.kbk hc (by omega)
  obtain ⟨c1, c2⟩ := row_keep h hc (c := 4) (by omega) (by omega) h.ra h.xra
  obtain ⟨d1, d2⟩ := row_keep h hc (c := 5) (by omega) (by omega) h.rm h.xrm
  obtain ⟨e1, e2⟩ := row_keep h hc (c := 6) (by omega) (by omega) h.rb h.xrb
  obtain ⟨f1, f2⟩ := row_keep h hc (c := 7) (by omega) (by omega) h.rn h.xrn
  exact ⟨hc.bel h (by omega), h.upl hc.size, s1, s2, a1, a2, b1, b2, c1, c2, d1, d2, e1, e2, f1, f2, h.la, h.lb⟩
end
end Go.Proofs.Ytfebiemfmiahhab
namespace Go.Proofs.Ytfebiemfmiahhab
open Go.ChangeShapes Go.WideShapes Go.ChangeAt Go.RowKit Go.Maps
set_option linter.unusedVariables false
set_option linter.unusedSimpArgs false
set_option maxRecDepth 100000
set_option maxHeartbeats 8000000
abbrev cP (l : List Pl) : List Value := l.flatMap plC
abbrev cI (l : List Nat) : List Value := l.map (fun c => Value.int .i64 (c : Nat))
/-- the program's lists, copies of the document's, the rows of both, the list that is lent -/
structure HC where
  H : List LV
  Wd : List LV
  N : List LV
  Dd : List LV
  ha : Option Addr
  hn : Nat
  hc : Nat
  wa : Option Addr
  wn : Nat
  wc : Nat
  na : Option Addr
  nn : Nat
  nc : Nat
  da : Option Addr
  dn : Nat
  dc : Nat
  la : Option Addr
  ln : Nat
  lc : Nat
  lf : List Value
structure HS (W : World) (X : Nat → Nat) (C : HC) : Prop where
  h : RL W X 46 38 2 10 C.H C.ha C.hn C.hc
  w : RL W X 46 38 2 11 C.Wd C.wa C.wn C.wc
  n : RL W X 3 51 1 12 C.N C.na C.nn C.nc
  d : RL W X 3 51 1 13 C.Dd C.da C.dn C.dc
  l : Rws W 46 2 (.slice C.la C.ln C.lc) C.ln (fun k => C.lf.getD k undef)
  xl : ∀ g, (Value.slice C.la C.ln C.lc).ownBlock = some g → X g = 14
  hp : ∀ x ∈ C.H, ∃ l : List Pl, x.c = cP l ∧ x.n = l.length
  np : ∀ x ∈ C.N, ∃ l : List Nat, x.c = cI l ∧ x.n = l.length
section
variable {w0 W W' : World} {X : Nat → Nat} {ps p r T : Nat} {E F : List En} {D : LD} {C : HC} {g k c bo t j : Nat} {o : Ol}
theorem HS.below (h : HS W X C) (hb : Below W.heap.size W W') : HS W' X C := ⟨h.h.below hb, h.w.below hb, h.n.below hb, h.d.below hb, h.l.below hb, h.xl, h.hp, h.np⟩
theorem HS.ch (h : HS W X C) (hc : Ch X k W W') (hk : k < 9 ∨ 14 < k) : HS W' (upc X W W' k) C :=
  ⟨h.h.ch hc (by omega) (by omega), h.w.ch hc (by omega) (by omega), h.n.ch hc (by omega) (by omega), h.d.ch hc (by omega) (by omega), h.l.same fun g hg => hc.block g (h.l.lt g hg) (by have := h.xl g hg; omega), fun g hg => by rw [upc_old (h.l.lt g hg)]; exact h.xl g hg, h.hp, h.np⟩
theorem HS.xlp (h : HS W X C) (hg : X g ≠ 14) : ∀ b, (Value.slice C.la C.ln C.lc).ownBlock = some b → pnt X g c b = 14 := fun b hb => by
  have := h.xl b hb
  rw [pnt_else (by rintro rfl; omega)]; exact this
theorem HS.pn (h : HS W X C) (hg : X g < 9 ∨ 14 < X g) : HS W (pnt X g c) C :=
  ⟨h.h.pn (by omega), h.w.pn (by omega), h.n.pn (by omega), h.d.pn (by omega), h.l, h.xlp (by omega), h.hp, h.np⟩
theorem HS.addH (h : HS W X C) (hg : X g < 9 ∨ 14 < X g) {m : Nat} {l : List Pl} (hr : Rws W 46 2 (.slice (some ⟨g, 0, none⟩) m c) m (fun j => (cP l).getD j undef)) (hm : m = l.length) (h6 : m ≤ 64) : HS W (pnt X g 9) { C with H := C.H ++ [⟨.slice (some ⟨g, 0, none⟩) m c, m, cP l⟩] } :=
  ⟨h.h.add (by omega) hr (by rw [flatP_len, hm]) h6, h.w.pn (by omega), h.n.pn (by omega), h.d.pn (by omega), h.l, h.xlp (by omega), fun x hx => by
    rcases List.mem_append.1 hx with q | q
    · exact h.hp x q
    · rw [List.mem_singleton.1 q]; exact ⟨l, rfl, hm⟩, h.np⟩
theorem HS.addW (h : HS W X C) (hg : X g < 9 ∨ 14 < X g) {m : Nat} {l : List Pl} (hr : Rws W 46 2 (.slice (some ⟨g, 0, none⟩) m c) m (fun j => (cP l).getD j undef)) (hm : m = l.length) (h6 : m ≤ 64) : HS W (pnt X g 9) { C with Wd := C.Wd ++ [⟨.slice (some ⟨g, 0, none⟩) m c, m, cP l⟩] } :=
  ⟨h.h.pn (by omega), h.w.add (by omega) hr (by rw [flatP_len, hm]) h6, h.n.pn (by omega), h.d.pn (by omega), h.l, h.xlp (by omega), h.hp, h.np⟩
theorem HS.addN (h : HS W X C) (hg : X g < 9 ∨ 14 < X g) {m : Nat} {l : List Nat} (hr : Rws W 3 1 (.slice (some ⟨g, 0, none⟩) m c) m (fun j => (cI l).getD j undef)) (hm : m = l.length) (h6 : m ≤ 64) : HS W (pnt X g 9) { C with N := C.N ++ [⟨.slice (some ⟨g, 0, none⟩) m c, m, cI l⟩] } :=
  ⟨h.h.pn (by omega), h.w.pn (by omega), h.n.add (by omega) hr (by rw [List.length_map, hm, Nat.mul_one]) h6, h.d.pn (by omega), h.l, h.xlp (by omega), h.hp, fun x hx => by
    rcases List.mem_append.1 hx with q | q
    · exact h.np x q
    · rw [List.mem_singleton.1 q]; exact ⟨l, rfl, hm⟩⟩
theorem HS.addD (h : HS W X C) (hg : X g < 9 ∨ 14 < X g) {m : Nat} {l : List Nat} (hr : Rws W 3 1 (.slice (some ⟨g, 0, none⟩) m c) m (fun j => (cI l).getD j undef)) (hm : m = l.length) (h6 : m ≤ 64) : HS W (pnt X g 9) { C with Dd := C.Dd ++ [⟨.slice (some ⟨g, 0, none⟩) m c, m, cI l⟩] } :=
  ⟨h.h.pn (by omega), h.w.pn (by omega), h.n.pn (by omega), h.d.add (by omega) hr (by rw [List.length_map, hm, Nat.mul_one]) h6, h.l, h.xlp (by omega), h.hp, h.np⟩
theorem LT.pn (h : LT w0 W X ps p r T E D bo o) (hg : X g = 0 ∨ 9 ≤ X g) (hl : g < W.heap.size ∧ w0.heap.size ≤ g) : LT w0 W (pnt X g k) ps p r T E D bo o :=
  ⟨h.ls.paint hg hl, h.bk, pnt_col hg h.xo (by omega) (by omega), h.ok⟩
theorem LT.ch9 (h : LT w0 W X ps p r T E D bo o) (hc : Ch X k W W') (hk : 9 ≤ k) : LT w0 W' (upc X W W' k) ps p r T E D bo o := by
  have hl := blk_lt h.bk
  exact ⟨h.ls.ch9 hc hk, (hc.block bo hl (by rw [h.xo]; omega)).trans h.bk, by rw [upc_old hl]; exact h.xo, h.ok⟩
/-- how far a round's lists have come -/
def RelP (k : Nat) (C : HC) (E : List En) (o : Ol) : Prop := C.H.map (·.c) = C.Wd.map (·.c) ++ (if k = 1 then [cP (plOf E o.conn)] else [])
def RelN (k : Nat) (C : HC) (E F : List En) : Prop := C.N.map (·.c) = C.Dd.map (·.c) ++ (if k = 2 then [cI (F.map (·.x.conn))] else if k = 3 then [cI (F.map (·.x.conn)), cI (E.map (·.x.conn))] else if k = 4 then [cI (E.map (·.x.conn))] else [])
structure Hq (k : Nat) (w0 W : World) (X : Nat → Nat) (ps p r T : Nat) (E F : List En) (C : HC) (t bo : Nat) (o : Ol) : Prop where
  lt : LT w0 W X ps p r T E ld0 bo o
  hs : HS W X C
  tt : T ≤ t
  rp : RelP k C E o
  rn : RelN k C E F
  du : k = 2 ∨ k = 3 → DueIs E o.time F
def Hx (k : Nat) (w0 W : World) (ps p r : Nat) (C : HC) (t bo : Nat) (o : Ol) : Prop := ∃ X T E F, Hq k w0 W X ps p r T E F C t bo o
/-- with an empty list at hand -/
def Hy (k : Nat) (w0 W : World) (ps p r : Nat) (C : HC) (t bo : Nat) (o : Ol) (g : Nat) (e : TypeId) : Prop := ∃ X T E F, Hq k w0 W X ps p r T E F C t bo o ∧ X g = 15 ∧ W.heap[g]? = some (.cells #[] e (0, 0))
theorem Hq.below (h : Hq k w0 W X ps p r T E F C t bo o) (hb : Below W.heap.size W W') : Hq k w0 W' X ps p r T E F C t bo o := ⟨h.lt.below hb, h.hs.below hb, h.tt, h.rp, h.rn, h.du⟩
theorem Hx.below (h : Hx k w0 W ps p r C t bo o) (hb : Below W.heap.size W W') : Hx k w0 W' ps p r C t bo o := by
  obtain ⟨X, T, E, F, a⟩ := h
  exact ⟨X, T, E, F, a.below hb⟩
theorem below_drew1 (W : World) : Below W.heap.size W W.drew := ⟨rfl, rfl, rfl, Nat.le_refl _, fun _ _ => rfl⟩
theorem Hx.drew (h : Hx k w0 W ps p r C t bo o) : Hx k w0 W.drew ps p r C t bo o := h.below (below_drew1 W)
theorem Hy.below {e : TypeId} (h : Hy k w0 W ps p r C t bo o g e) (hb : Below W.heap.size W W') : Hy k w0 W' ps p r C t bo o g e := by
  obtain ⟨X, T, E, F, a, b, c⟩ := h
  exact ⟨X, T, E, F, a.below hb, b, (hb.block g (blk_lt'' c)).trans c⟩
theorem Hy.drew {e : TypeId} (h : Hy k w0 W ps p r C t bo o g e) : Hy k w0 W.drew ps p r C t bo o g e := h.below (below_drew1 W)
theorem Hq.cs (h : Hq k w0 W X ps p r T E F C t bo o) (hj : Hid (j = o.pl.length)) : Cs W ps p r bo j o := by
  obtain rfl := unhide hj
  obtain ⟨P, Q, s, -⟩ := h.lt.ls.sd
  obtain ⟨c0, c1, c2, c3, c4, c5⟩ := h.lt.bk.cells
  exact ⟨cell_blk s.cell 0, cell_blk s.cell 1, c0, c1, c2, c3, c4, c5⟩
theorem Hx.cs (h : Hx k w0 W ps p r C t bo o) (hj : Hid (j = o.pl.length)) : Cs W ps p r bo j o := by
  obtain ⟨X, T, E, F, a⟩ := h
  exact a.cs hj
theorem Hy.cs {e : TypeId} (h : Hy k w0 W ps p r C t bo o g e) (hj : Hid (j = o.pl.length)) : Cs W ps p r bo j o := by
  obtain ⟨X, T, E, F, a, -⟩ := h
  exact a.cs hj
theorem Hx.hy (h : Hx k w0 W ps p r C t bo o) {e : TypeId} (hb : Below W.heap.size W W') (hg : W.heap.size ≤ g) (hc : W'.heap[g]? = some (.cells #[] e (0, 0))) : Hy k w0 W' ps p r C t bo o g e := by
  obtain ⟨X, T, E, F, a⟩ := h
  have a' := a.below hb
  have h0 := col0 a.lt hg
  have := a.lt.ls.bel.size
  exact ⟨_, T, E, F, ⟨a'.lt.pn (k := 15) (.inl h0) ⟨blk_lt'' hc, by omega⟩, a'.hs.pn (by omega), a'.tt, a'.rp, a'.rn, a'.du⟩, pnt_self, hc⟩
theorem Hy.rws {e : TypeId} {s : Nat} (h : Hy k w0 W ps p r C t bo o g e) : Rws W e s (.slice (some ⟨g, 0, none⟩) 0 0) 0 (fun _ => undef) := by
  obtain ⟨X, T, E, F, a, b, c⟩ := h
  exact .inr ⟨g, 0, _, rfl, c, Nat.le_refl _, by simp only [maxLen]; omega, by simp, fun j hj => by omega⟩
/-- lists that lie in memory -/
theorem Rws.pls {a : Option Addr} {n cap : Nat} {l : List Pl} (h : Rws W 46 2 (.slice a n cap) n (fun k => (cP l).getD k undef)) (hn : n = l.length) : PlsAt W a l := by
  rcases h with ⟨e, h0⟩ | ⟨b, cap', cur, e, hg, hc, hm, hs, hf⟩
  · exact .inl (List.eq_nil_of_length_eq_zero (by omega))
  · cases e
    refine .inr ⟨b, 0, rfl, blk_lt'' hg, fun i x hx => ?_⟩
    have hl := (List.getElem?_eq_some_iff.1 hx).1
    have h0 := flatP_get l i x hx 0 (by omega)
    have h1 := flatP_get l i x hx 1 (by omega)
    have e0 : ∀ q v, (cP l)[q]? = some v → q < n * 2 → W.cell? ⟨b, q, none⟩ = some v := fun q v hq hl => by
      rw [cell_of_row _ _ _ _ _ _ hg, hf q hl]
      show some (List.getD _ q undef) = _
      rw [List.getD_eq_getElem?_getD, hq]; rfl
    rw [Nat.zero_add]
    exact ⟨e0 _ _ h0 (by omega), e0 _ _ h1 (by omega)⟩
theorem Rws.isI {a : Option Addr} {n cap : Nat} {l : List Nat} (h : Rws W 3 1 (.slice a n cap) n (fun k => (cI l).getD k undef)) (hn : n = l.length) : IsI W a l := by
  rcases h with ⟨e, h0⟩ | ⟨b, cap', cur, e, hg, hc, hm, hs, hf⟩
  · exact .inl (List.eq_nil_of_length_eq_zero (by omega))
  · cases e
    refine .inr ⟨b, 0, rfl, blk_lt'' hg, fun i x hx => ?_⟩
    have hl := (List.getElem?_eq_some_iff.1 hx).1
    rw [Nat.zero_add, cell_of_row _ _ _ _ _ _ hg, hf i (by omega)]
    show some (List.getD _ i undef) = _
    rw [List.getD_eq_getElem?_getD, List.getElem?_map, hx]; rfl
end
end Go.Proofs.Ytfebiemfmiahhab
