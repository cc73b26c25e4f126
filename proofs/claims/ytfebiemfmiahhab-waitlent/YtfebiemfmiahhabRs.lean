/- WaitLent: a round's lists are marked and kept, one after another. -/
import Derived.Test.YtfebiemfmiahhabRq
namespace Go.Proofs.Ytfebiemfmiahhab
open Go.ChangeShapes Go.WideShapes Go.ChangeAt Go.RowKit Go.Maps
set_option linter.unusedVariables false
set_option linter.unusedSimpArgs false
set_option maxRecDepth 100000
set_option maxHeartbeats 8000000
/-- the blocks of G wait for their marks; they are as they were in V -/
def Pk (w0 V W : World) (ps p r : Nat) (D : LD) (i : Nat) (G : List Nat) : Prop := ∃ X T E, LS w0 W X ps p r T E D ∧ T ≤ i ∧ ∀ b ∈ G, b < V.heap.size ∧ X b = 9 ∧ W.heap[b]? = V.heap[b]?
/-- five lists that bear a mark -/
def Five (M : List Ent) (c : List Value) (n : Nat) : Prop := M.length = 5 ∧ ∀ y ∈ M, y.c = c ∧ y.n ≤ n + 80 ∧ ∃ a cap, y.v = .slice a y.n cap
section
variable {w0 V W W' : World} {X : Nat → Nat} {ps p r T : Nat} {E F : List En} {D : LD} {i t bo gf j gl nl gd nd gn nn : Nat} {o : Ol} {G : List Nat}
theorem info38 : (Try.prog.info? 38).map (fun i => (i.zero, i.size, i.bytes)) = some (some (.slice none 0 0), 1, 24) := by kernel_rfl
theorem info51 : (Try.prog.info? 51).map (fun i => (i.zero, i.size, i.bytes)) = some (some (.slice none 0 0), 1, 24) := by kernel_rfl
theorem Five.len {M : List Ent} {c : List Value} {n : Nat} (h : Five M c n) : (M.map (·.v)).length = 5 * 1 := by rw [List.length_map]; exact h.1
theorem Five.one {M : List Ent} {c : List Value} {n : Nat} (h : Five M c n) : ∀ x ∈ M.map (·.v), x.oneCell' = true := fun x hx => by
  obtain ⟨y, hy, rfl⟩ := List.mem_map.1 hx
  obtain ⟨-, -, a, cap, e⟩ := h.2 y hy
  rw [e]; simp [Value.oneCell']
theorem Pk.below (h : Pk w0 V W ps p r D i G) (hb : Below W.heap.size W W') : Pk w0 V W' ps p r D i G := by
  obtain ⟨X, T, E, a, b, c⟩ := h
  refine ⟨X, T, E, a.below hb, b, fun q hq => ?_⟩
  obtain ⟨c1, c2, c3⟩ := c q hq
  exact ⟨c1, c2, (hb.block q (a.lt q (by omega)).1).trans c3⟩
theorem Pk.drew (h : Pk w0 V W ps p r D i G) : Pk w0 V W.drew ps p r D i G := h.below ⟨rfl, rfl, rfl, Nat.le_refl _, fun _ _ => rfl⟩
theorem Pk.bel (h : Pk w0 V W ps p r D i G) : Below w0.heap.size w0 W := by
  obtain ⟨X, T, E, a, b, c⟩ := h
  exact a.bel
/-- the answers of a round wait for their marks -/
theorem Aw.pk (h : Aw 3 w0 W ps p r D i t bo gf o gl nl gd nd gn nn) (hj : j = o.pl.length) (hl : j ≤ 100000) (ht : t ≤ i + 1) :
    Pk w0 W W ps p r D (i + 1) [gl, gf, gd, gn] ∧ LI D i ∧ (∃ f, Rws W 46 2 (.slice (some ⟨gl, 0, none⟩) nl nl) nl f) ∧ (∃ f, Rws W 46 2 (.slice (some ⟨gf, 0, none⟩) j (j + 1)) j f) ∧ (∃ f, Rws W 3 1 (.slice (some ⟨gd, 0, none⟩) nd nd) nd f) ∧ (∃ f, Rws W 3 1 (.slice (some ⟨gn, 0, none⟩) nn nn) nn f) ∧ gf < gl ∧ gl < gd ∧ gd < gn := by
  have hf := h.few
  obtain ⟨X, T, E, F, a⟩ := h
  obtain ⟨s1, s2, s3, s4⟩ := a.s1 (by omega)
  obtain ⟨d1, d2, d3, d4, d5, d6⟩ := a.s2 (by omega)
  obtain ⟨n1, n2, n3, n4, n5⟩ := a.s3 (by omega)
  have b1 := blk_lt s1
  have b2 := blk_lt d2
  have b3 := blk_lt n1
  have g0 := (a.lt.ls.lt gf (by have := a.xg; omega)).2
  have l1 := a.lt.ls.paint (g := gl) (k := 9) (.inl s3) ⟨b1, by omega⟩
  have l2 := l1.paint (g := gd) (k := 9) (.inl (by rw [pnt_else (by omega)]; exact d5)) ⟨b2, by omega⟩
  have l3 := l2.paint (g := gn) (k := 9) (.inl (by rw [pnt_else (by omega), pnt_else (by omega)]; exact n4)) ⟨b3, by omega⟩
  refine ⟨⟨_, T, E, l3, by have := a.tt; omega, fun b hb => ?_⟩, a.li, ?_, (by subst hj; exact ⟨_, a.bk.rws rfl hl⟩), ?_, ?_, s4, d6, n5⟩
  · simp only [List.mem_cons, List.not_mem_nil, or_false] at hb
    rcases hb with rfl | rfl | rfl | rfl
    · exact ⟨b1, by rw [pnt_else (by omega), pnt_else (by omega)]; exact pnt_self, rfl⟩
    · exact ⟨a.bk.lt, by rw [pnt_else (by omega), pnt_else (by omega), pnt_else (by omega)]; exact a.xg, rfl⟩
    · exact ⟨b2, by rw [pnt_else (by omega)]; exact pnt_self, rfl⟩
    · exact ⟨b3, pnt_self, rfl⟩
  · have := s1.rws (by omega)
    rw [← s2] at this
    exact ⟨_, this⟩
  · have := RowI.rws d2 (by rw [List.length_map]; omega)
    rw [List.length_map, ← d3] at this
    exact ⟨_, this⟩
  · have := RowI.rws n1 (by rw [List.length_map]; omega)
    rw [List.length_map, ← n2] at this
    exact ⟨_, this⟩
theorem pk_mark {f : Nat → Value} {g n cap : Nat} (h : Pk w0 V W ps p r D i (g :: G)) (hr : Rws V 46 2 (.slice (some ⟨g, 0, none⟩) n cap) n f) (hG : ∀ b ∈ G, b ≠ g) (hn : n ≤ 100000) (m : Pl) :
    Calls Try.prog 22 #[.slice (some ⟨g, 0, none⟩) n cap, .agg #[.int .i64 m.1, .string (bs m.2)]] W fun e w' => ∃ g' M, e = .returned (.slice (some ⟨g', 0, none⟩) 5 5) ∧ Hid (Five M [.int .i64 m.1, .string (bs m.2)] n ∧ Pk w0 V w' ps p r { D with A := D.A ++ M } i G ∧ ∀ j x, (M.map (·.v))[j]? = some x → w'.cell? ⟨g', j, none⟩ = some x) := by
  obtain ⟨X, T, E, a, b, c⟩ := h
  obtain ⟨c1, c2, c3⟩ := c g (List.mem_cons_self ..)
  refine (ls_mark (g := g) a (.inr (by omega)) (hr.same fun q hq => by cases hq; exact c3) (a.lt g (by omega)).2 hn m).mono ?_
  rintro e w' ⟨g', rfl, H⟩
  obtain ⟨X', M, m1, m2, m3, m4, m5⟩ := unhide H
  refine ⟨g', M, rfl, hide ⟨⟨m1, m2⟩, ⟨X', T, E, m3, b, fun q hq => ?_⟩, m4⟩⟩
  obtain ⟨q1, q2, q3⟩ := c q (List.mem_cons_of_mem _ hq)
  have hx := Array.getElem?_eq_getElem q1
  obtain ⟨z1, z2⟩ := m5 q _ (hG q hq) q2 (q3.trans hx)
  exact ⟨q1, z1, z2.trans hx.symm⟩
theorem pk_number {f : Nat → Value} {g n cap : Nat} (h : Pk w0 V W ps p r D i (g :: G)) (hr : Rws V 3 1 (.slice (some ⟨g, 0, none⟩) n cap) n f) (hG : ∀ b ∈ G, b ≠ g) (hn : n ≤ 100000) (m : Int) :
    Calls Try.prog 23 #[.slice (some ⟨g, 0, none⟩) n cap, .int .i64 m] W fun e w' => ∃ g' M, e = .returned (.slice (some ⟨g', 0, none⟩) 5 5) ∧ Hid (Five M [.int .i64 m] n ∧ Pk w0 V w' ps p r { D with B := D.B ++ M } i G ∧ ∀ j x, (M.map (·.v))[j]? = some x → w'.cell? ⟨g', j, none⟩ = some x) := by
  obtain ⟨X, T, E, a, b, c⟩ := h
  obtain ⟨c1, c2, c3⟩ := c g (List.mem_cons_self ..)
  refine (ls_number (g := g) a (.inr (by omega)) (hr.same fun q hq => by cases hq; exact c3) (a.lt g (by omega)).2 hn m).mono ?_
  rintro e w' ⟨g', rfl, H⟩
  obtain ⟨X', M, m1, m2, m3, m4, m5⟩ := unhide H
  refine ⟨g', M, rfl, hide ⟨⟨m1, m2⟩, ⟨X', T, E, m3, b, fun q hq => ?_⟩, m4⟩⟩
  obtain ⟨q1, q2, q3⟩ := c q (List.mem_cons_of_mem _ hq)
  have hx := Array.getElem?_eq_getElem q1
  obtain ⟨z1, z2⟩ := m5 q _ (hG q hq) q2 (q3.trans hx)
  exact ⟨q1, z1, z2.trans hx.symm⟩
/-- what waits is kept by a step of another colour -/
theorem pend_all {k : Nat} (hc : Ch X k W W') (h9 : k ≠ 9) (c : ∀ b ∈ G, b < V.heap.size ∧ X b = 9 ∧ W.heap[b]? = V.heap[b]?) : ∀ b ∈ G, b < V.heap.size ∧ upc X W W' k b = 9 ∧ W'.heap[b]? = V.heap[b]? := fun q hq => by
  obtain ⟨q1, q2, q3⟩ := c q hq
  have hx := Array.getElem?_eq_getElem q1
  obtain ⟨z1, z2⟩ := hc.pend h9 q2 (q3.trans hx)
  exact ⟨q1, z1, z2.trans hx.symm⟩
/-- the five lists are appended to the row of lists -/
theorem pk_app4 {A M : List Ent} {c : List Value} {n : Nat} (h : Pk w0 V W ps p r { D with A := A ++ M } i G) (hn : D.na = A.length) (hm : Five M c n) :
    Rws W 38 1 (.slice D.aa D.na D.ac) D.na (fun k => ((A ++ M).getD k ent0).v) ∧ ∀ v W', Rws W' 38 1 v (D.na + 5) (fun k => if k < D.na * 1 then ((A ++ M).getD k ent0).v else (M.map (·.v)).getD (k - D.na * 1) undef) → Gr 38 (D.na * 1) (M.map (·.v)).length W W' (.slice D.aa D.na D.ac) v → ∃ a' c', v = .slice a' (D.na + 5) c' ∧ Pk w0 V W' ps p r { D with A := A ++ M, aa := a', na := D.na + 5, ac := c' } i G := by
  obtain ⟨X, T, E, a, b, c'⟩ := h
  refine ⟨a.ra, fun v W' hr hg => ?_⟩
  rw [List.length_map, hm.1] at hg
  obtain ⟨a', c2, rfl, l⟩ := LS.row4 a hn hm.1 hr hg
  exact ⟨a', c2, rfl, _, T, E, l, b, pend_all (gr_ch hg a.xra) (by omega) c'⟩
theorem pk_app6 {A M : List Ent} {c : List Value} {n : Nat} (h : Pk w0 V W ps p r { D with B := A ++ M } i G) (hn : D.nb = A.length) (hm : Five M c n) :
    Rws W 51 1 (.slice D.ba D.nb D.bc) D.nb (fun k => ((A ++ M).getD k ent0).v) ∧ ∀ v W', Rws W' 51 1 v (D.nb + 5) (fun k => if k < D.nb * 1 then ((A ++ M).getD k ent0).v else (M.map (·.v)).getD (k - D.nb * 1) undef) → Gr 51 (D.nb * 1) (M.map (·.v)).length W W' (.slice D.ba D.nb D.bc) v → ∃ a' c', v = .slice a' (D.nb + 5) c' ∧ Pk w0 V W' ps p r { D with B := A ++ M, ba := a', nb := D.nb + 5, bc := c' } i G := by
  obtain ⟨X, T, E, a, b, c'⟩ := h
  refine ⟨a.rb, fun v W' hr hg => ?_⟩
  rw [List.length_map, hm.1] at hg
  obtain ⟨a', c2, rfl, l⟩ := LS.row6 a hn hm.1 hr hg
  exact ⟨a', c2, rfl, _, T, E, l, b, pend_all (gr_ch hg a.xrb) (by omega) c'⟩
/-- two marks are appended to the row of marks -/
theorem pk_app5 (h : Pk w0 V W ps p r D i G) (hC : ∀ c ∈ D.CA, c.length = 2) (hn : D.mn = D.CA.length) (m1 m2 : Pl) :
    Rws W 46 2 (.slice D.ma D.mn D.mc) D.mn (fun k => D.CA.flatten.getD k undef) ∧ ∀ v W', Rws W' 46 2 v (D.mn + 2) (fun k => if k < D.mn * 2 then D.CA.flatten.getD k undef else ([.int .i64 m1.1, .string (bs m1.2), .int .i64 m2.1, .string (bs m2.2)] : List Value).getD (k - D.mn * 2) undef) → Gr 46 (D.mn * 2) 4 W W' (.slice D.ma D.mn D.mc) v → ∃ a' c', v = .slice a' (D.mn + 2) c' ∧ Pk w0 V W' ps p r { D with ma := a', mn := D.mn + 2, mc := c', CA := D.CA ++ [[.int .i64 m1.1, .string (bs m1.2)], [.int .i64 m2.1, .string (bs m2.2)]] } i G := by
  obtain ⟨X, T, E, a, b, c'⟩ := h
  refine ⟨a.rm, fun v W' hr hg => ?_⟩
  obtain ⟨a', c2, rfl, l⟩ := LS.row5 a hC (c1 := [.int .i64 m1.1, .string (bs m1.2)]) (c2 := [.int .i64 m2.1, .string (bs m2.2)]) rfl rfl hn hr hg
  exact ⟨a', c2, rfl, _, T, E, l, b, pend_all (gr_ch hg a.xrm) (by omega) c'⟩
theorem pk_app7 (h : Pk w0 V W ps p r D i G) (hC : ∀ c ∈ D.CB, c.length = 1) (hn : D.nn = D.CB.length) (k1 k2 : Int) :
    Rws W 3 1 (.slice D.ca D.nn D.nc) D.nn (fun k => D.CB.flatten.getD k undef) ∧ ∀ v W', Rws W' 3 1 v (D.nn + 2) (fun k => if k < D.nn * 1 then D.CB.flatten.getD k undef else ([.int .i64 k1, .int .i64 k2] : List Value).getD (k - D.nn * 1) undef) → Gr 3 (D.nn * 1) 2 W W' (.slice D.ca D.nn D.nc) v → ∃ a' c', v = .slice a' (D.nn + 2) c' ∧ Pk w0 V W' ps p r { D with ca := a', nn := D.nn + 2, nc := c', CB := D.CB ++ [[.int .i64 k1], [.int .i64 k2]] } i G := by
  obtain ⟨X, T, E, a, b, c'⟩ := h
  refine ⟨a.rn, fun v W' hr hg => ?_⟩
  obtain ⟨a', c2, rfl, l⟩ := LS.row7 a hC (c1 := [.int .i64 k1]) (c2 := [.int .i64 k2]) rfl rfl hn hr hg
  exact ⟨a', c2, rfl, _, T, E, l, b, pend_all (gr_ch hg a.xrn) (by omega) c'⟩
/-- the round's end -/
theorem Pk.hd (h : Pk w0 V W ps p r D i G) (k : LI D i) : Hd w0 W ps p r D i := by
  obtain ⟨X, T, E, a, b, c⟩ := h
  exact ⟨X, T, E, a, k, b⟩
end
end Go.Proofs.Ytfebiemfmiahhab
