/- Opening what came in: lists of three numbers each, inside a struct. -/
import Derived.Test.YtdgdnpgjbphgaaaLists
import Derived.Lib.SmallJoins
import Derived.SizedLaws
namespace Go.Proofs.Ytdgdnpgjbphgaaa
open Go.ChangeShapes Go.WideShapes Go.ChangeAt Go.RowKit Go.Joins Go.Deep
set_option linter.unusedVariables false

theorem own : ownKnob Try.prog.godebug = none := by kernel_rfl
theorem laidOut : laidOutB Try.prog = true := by kernel_rfl

theorem mapM_some {α β : Type} (f : α → Option β) (l : List α) (cs : List β) (h : l.mapM f = some cs) : l.map f = cs.map some := by
  induction l generalizing cs with
  | nil => simp at h; subst h; rfl
  | cons x l ih =>
    rw [List.mapM_cons] at h
    cases hx : f x with
    | none => rw [hx] at h; simp at h
    | some y =>
      rw [hx] at h
      cases hl : l.mapM f with
      | none => rw [hl] at h; simp at h
      | some ys =>
        rw [hl] at h
        simp at h
        subst h
        simp [hx, ih ys hl]
theorem cells_each {W : World} {a : Addr} {n : Nat} {cs : List Value} (h : W.cells? 0 a n = some cs) : cs.length = n ∧ ∀ i, i < n → W.cell? (a.add i) = cs[i]? := by
  unfold World.cells? at h
  rw [if_pos (Nat.zero_le _)] at h
  have hm := mapM_some _ _ _ h
  have hlen : cs.length = n := by have := congrArg List.length hm; simpa using this.symm
  refine ⟨hlen, fun i hi => ?_⟩
  have := congrArg (fun l => l[i]?) hm
  simp only [List.getElem?_map, List.getElem?_range hi, Option.map_some] at this
  rw [List.getElem?_eq_getElem (by omega : i < cs.length)] at this ⊢
  simpa using this

theorem open_list3 {H : Type} {enc : TypeId × Value → H} {P : Program} {w : World} {base : Nat} {spare : Nat → Bool} {held : Bool} {fuel : Nat} {t : TypeId} {f0 f1 f2 : Go.Field} {cs : List Value} {y : DataW H × List MemPlace} (hs : P.underlying t = some (.struct #[f0, f1, f2])) (hone : oneCellFields P #[f0, f1, f2] = true) (hl : cs.length = 3)
    (h : DataW.trod enc P w base spare held fuel t cs = some y) :
    ∃ (c0 c1 c2 : Value) (y0 y1 y2 : DataW H × List MemPlace) (q : Nat), cs = [c0, c1, c2] ∧ y.1 = .agg [y0.1, y1.1, y2.1] ∧ DataW.trod enc P w base spare held q f0.type [c0] = some y0 ∧ DataW.trod enc P w base spare held q f1.type [c1] = some y1 ∧ DataW.trod enc P w base spare held q f2.type [c2] = some y2 := by
  match cs, hl with
  | [c0, c1, c2], _ =>
    obtain ⟨xs, q, _, hx, _, hlen, hf⟩ := DataW.trod_struct hs h
    obtain ⟨o0, k0⟩ := hone_of hone 0 f0 rfl
    obtain ⟨o1, k1⟩ := hone_of hone 1 f1 rfl
    obtain ⟨o2, k2⟩ := hone_of hone 2 f2 rfl
    match xs, hlen with
    | [y0, y1, y2], _ => exact ⟨c0, c1, c2, y0, y1, y2, q, rfl, by rw [hx]; rfl, by simpa [o0, k0] using hf 0 f0 rfl, by simpa [o1, k1] using hf 1 f1 rfl, by simpa [o2, k2] using hf 2 f2 rfl⟩

/-- a list of structs of three numbers each, opened -/
theorem open_threes {H : Type} {enc : TypeId × Value → H} {W : World} {fuel : Nat} {v : Value} {y : DataW H × List MemPlace} {t e : TypeId} {f0 f1 f2 : Go.Field} {k0 k1 k2 : IntKind}
    (ht : Try.prog.underlying t = some (.slice e)) (he : Try.prog.underlying e = some (.struct #[f0, f1, f2])) (hone : oneCellFields Try.prog #[f0, f1, f2] = true) (hC : Try.prog.cellsOf e = 3)
    (u0 : Try.prog.underlying f0.type = some (.int k0)) (u1 : Try.prog.underlying f1.type = some (.int k1)) (u2 : Try.prog.underlying f2.type = some (.int k2))
    (hf : DataW.trod enc Try.prog W 0 (fun _ => true) true fuel t [v] = some y) :
    ∃ a cap, ∃ L : List (Int × Int × Int), v = .slice a L.length cap ∧ (L = [] ∨ ∃ elems spare, y.1 = .slice elems spare ∧ elems.length = L.length) ∧
      (L = [] ∨ ∃ b off, a = some ⟨b, off, none⟩ ∧ b < W.heap.size ∧
        ∀ i, i < L.length → W.cell? ⟨b, off + i * 3, none⟩ = some (.int k0 (L.getD i (0, 0, 0)).1) ∧ W.cell? ⟨b, off + i * 3 + 1, none⟩ = some (.int k1 (L.getD i (0, 0, 0)).2.1) ∧ W.cell? ⟨b, off + i * 3 + 2, none⟩ = some (.int k2 (L.getD i (0, 0, 0)).2.2) ∧ (Lit.int k2 (L.getD i (0, 0, 0)).2.2).wf = true) := by
  rcases open_slice ht hf with ⟨hcs, _⟩ | ⟨a, len, cap, m, q, D, Pl, hcs, _, hlc, _, hm, hy, heach⟩
  · cases hcs
    exact ⟨_, 0, [], rfl, .inl rfl, .inl rfl⟩
  · cases hcs
    simp only [if_true] at hm
    by_cases h0 : len = 0
    · subst h0; exact ⟨some a, cap, [], rfl, .inl rfl, .inl rfl⟩
    · rw [hC] at heach
      obtain ⟨b, off, spot⟩ := a
      have hplace : spot = none ∧ b < W.heap.size := by
        obtain ⟨cs', hc, _⟩ := heach 0 (by omega)
        obtain ⟨hl, he⟩ := cells_each hc
        have h00 := he 0 (by omega)
        rw [List.getElem?_eq_getElem (by omega : 0 < cs'.length)] at h00
        have e00 : ((⟨b, off, spot⟩ : Addr).add (0 * 3)).add 0 = ⟨b, off, spot⟩ := by simp [Addr.add]
        rw [e00] at h00
        exact ⟨World.cell?_spot h00, block_lt_of_cell h00⟩
      obtain ⟨rfl, hb⟩ := hplace
      have hx : ∀ i, ∃ s : Int × Int × Int, i < len → W.cell? ⟨b, off + i * 3, none⟩ = some (.int k0 s.1) ∧ W.cell? ⟨b, off + i * 3 + 1, none⟩ = some (.int k1 s.2.1) ∧ W.cell? ⟨b, off + i * 3 + 2, none⟩ = some (.int k2 s.2.2) ∧ (Lit.int k2 s.2.2).wf = true := by
        intro i
        by_cases hi : i < len
        · obtain ⟨cs', hc, ht'⟩ := heach i (by omega)
          obtain ⟨hl, hcell⟩ := cells_each hc
          obtain ⟨c0, c1, c2, y0, y1, y2, q', rfl, _, t0, t1, t2⟩ := open_list3 he hone hl ht'
          obtain ⟨x0, e0, _, w0⟩ := DataW.trod_int u0 t0
          obtain ⟨x1, e1, _, w1⟩ := DataW.trod_int u1 t1
          obtain ⟨x2, e2, _, w2⟩ := DataW.trod_int u2 t2
          cases e0
          cases e1
          cases e2
          have hj : ∀ j, j < 3 → W.cell? ⟨b, off + i * 3 + j, none⟩ = ([.int k0 x0, .int k1 x1, .int k2 x2] : List Value)[j]? := fun j hj => by
            have := hcell j hj
            rw [add_plain, add_plain] at this
            exact this
          exact ⟨(x0, x1, x2), fun _ => ⟨hj 0 (by omega), hj 1 (by omega), hj 2 (by omega), w2⟩⟩
        · exact ⟨(0, 0, 0), fun h => absurd h hi⟩
      obtain ⟨f, hfx⟩ := Classical.axiomOfChoice hx
      have hL : ((List.range len).map f).length = len := by simp
      refine ⟨some ⟨b, off, none⟩, cap, (List.range len).map f, by rw [hL], .inr ⟨_, _, by rw [hy], by simp⟩, .inr ⟨b, off, rfl, hb, fun i hi => ?_⟩⟩
      rw [hL] at hi
      have hg : ((List.range len).map f).getD i (0, 0, 0) = f i := by
        rw [List.getD_eq_getElem?_getD, List.getElem?_map, List.getElem?_range hi]; rfl
      rw [hg]
      exact hfx i hi

theorem held_sized {H : Type} {P : Program} {t : TypeId} {ts : List TypeId} {d : DataW H} {ds : List (DataW H)} {m : Nat} (hsz : (DataW.weightsEach P (t :: ts) (d :: ds)).all (· ≤ reachBytes) = true) (hm : m ∈ DataW.weights P t d) : m ≤ 140737488351232 := by
  have h := List.all_eq_true.1 hsz _ (DataW.weights_mem_each (j := 0) (t := t) (d := d) rfl rfl _ hm)
  exact of_decide_eq_true h
theorem Try.bytes28 : Try.prog.bytesOf 28 = 24 := by kernel_rfl
theorem Try.bytes38 : Try.prog.bytesOf 38 = 24 := by kernel_rfl
/-- the row's own bound on a list of structs of 24 bytes -/
theorem threes_sized {H : Type} {α : Type} {l : List α} {t e : TypeId} {y : DataW H} (ht : Try.prog.underlying t = some (.slice e)) (hb : Try.prog.bytesOf e = 24) (hlen : l = [] ∨ ∃ elems spare, y = .slice elems spare ∧ elems.length = l.length) (h : ∀ m, m ∈ DataW.weights Try.prog t y → m ≤ 140737488351232) : l.length ≤ 140737488355328 := by
  rcases hlen with rfl | ⟨el, sp, he, hn⟩
  · simp
  · have := h ((el.length + sp.length) * Try.prog.bytesOf e) (by rw [he]; simp [DataW.weights, ht])
    rw [hb] at this
    omega
end Go.Proofs.Ytdgdnpgjbphgaaa
