/- A script that came in. -/
import Derived.Test.YtfebiemfmiahhabLc
import Derived.Lib.SmallJoins
import Derived.SizedLaws
namespace Go.Proofs.Ytfebiemfmiahhab
open Go.ChangeShapes Go.WideShapes Go.ChangeAt Go.RowKit Go.Joins Go.Deep
set_option linter.unusedVariables false
set_option maxRecDepth 20000
theorem own : ownKnob Try.prog.godebug = none := by kernel_rfl
theorem laidOut : laidOutB Try.prog = true := by kernel_rfl
theorem held_sized {H : Type} {P : Program} {t : TypeId} {ts : List TypeId} {d : DataW H} {ds : List (DataW H)} {m : Nat} (hsz : (DataW.weightsEach P (t :: ts) (d :: ds)).all (· ≤ reachBytes) = true) (hm : m ∈ DataW.weights P t d) : m ≤ 140737488351232 := by
  have h := List.all_eq_true.1 hsz _ (DataW.weights_mem_each (j := 0) (t := t) (d := d) rfl rfl _ hm)
  exact of_decide_eq_true h
theorem mapM_some {α β : Type} (f : α → Option β) (l : List α) (cs : List β) (h : l.mapM f = some cs) : l.map f = cs.map some := by
  induction l generalizing cs with
  | nil => simp at h; subst h; rfl
  | cons x l ih =>
    rw [List.mapM_cons] at h
    cases hx : f x with
    | none => rw [hx] at h; simp at h
    | some y =>
      rw [hx] at h
      cases hl : l.mapM f with
      | none => rw [hl] at h; simp at h
      | some ys =>
        rw [hl] at h
        simp at h
        subst h
        simp [hx, ih ys hl]
theorem cells_each {W : World} {a : Addr} {n : Nat} {cs : List Value} (h : W.cells? 0 a n = some cs) : cs.length = n ∧ ∀ i, i < n → W.cell? (a.add i) = cs[i]? := by
  unfold World.cells? at h
  rw [if_pos (Nat.zero_le _)] at h
  have hm := mapM_some _ _ _ h
  have hlen : cs.length = n := by have := congrArg List.length hm; simpa using this.symm
  refine ⟨hlen, fun i hi => ?_⟩
  have := congrArg (fun l => l[i]?) hm
  simp only [List.getElem?_map, List.getElem?_range hi, Option.map_some] at this
  rw [List.getElem?_eq_getElem (by omega : i < cs.length)] at this ⊢
  simpa using this
theorem open_list2 {H : Type} {enc : TypeId × Value → H} {P : Program} {w : World} {base : Nat} {spare : Nat → Bool} {held : Bool} {fuel : Nat} {t : TypeId} {f0 f1 : Go.Field} {cs : List Value} {y : DataW H × List MemPlace} (hs : P.underlying t = some (.struct #[f0, f1])) (hone : oneCellFields P #[f0, f1] = true) (hl : cs.length = 2)
    (h : DataW.trod enc P w base spare held fuel t cs = some y) :
    ∃ (c0 c1 : Value) (y0 y1 : DataW H × List MemPlace) (q : Nat), cs = [c0, c1] ∧ y.1 = .agg [y0.1, y1.1] ∧ DataW.trod enc P w base spare held q f0.type [c0] = some y0 ∧ DataW.trod enc P w base spare held q f1.type [c1] = some y1 := by
  match cs, hl with
  | [c0, c1], _ =>
    obtain ⟨xs, q, _, hx, _, hlen, hf⟩ := DataW.trod_struct hs h
    obtain ⟨o0, k0⟩ := hone_of hone 0 f0 rfl
    obtain ⟨o1, k1⟩ := hone_of hone 1 f1 rfl
    match xs, hlen with
    | [y0, y1], _ => exact ⟨c0, c1, y0, y1, q, rfl, by rw [hx]; rfl, by simpa [o0, k0] using hf 0 f0 rfl, by simpa [o1, k1] using hf 1 f1 rfl⟩
theorem open_list6 {H : Type} {enc : TypeId × Value → H} {P : Program} {w : World} {base : Nat} {spare : Nat → Bool} {held : Bool} {fuel : Nat} {t : TypeId} {f0 f1 f2 f3 f4 f5 : Go.Field} {cs : List Value} {y : DataW H × List MemPlace} (hs : P.underlying t = some (.struct #[f0, f1, f2, f3, f4, f5])) (hone : oneCellFields P #[f0, f1, f2, f3, f4, f5] = true) (hl : cs.length = 6)
    (h : DataW.trod enc P w base spare held fuel t cs = some y) :
    ∃ (c0 c1 c2 c3 c4 c5 : Value) (y0 y1 y2 y3 y4 y5 : DataW H × List MemPlace) (q : Nat), cs = [c0, c1, c2, c3, c4, c5] ∧ y.1 = .agg [y0.1, y1.1, y2.1, y3.1, y4.1, y5.1] ∧ DataW.trod enc P w base spare held q f0.type [c0] = some y0 ∧ DataW.trod enc P w base spare held q f1.type [c1] = some y1 ∧ DataW.trod enc P w base spare held q f2.type [c2] = some y2 ∧ DataW.trod enc P w base spare held q f3.type [c3] = some y3 ∧ DataW.trod enc P w base spare held q f4.type [c4] = some y4 ∧ DataW.trod enc P w base spare held q f5.type [c5] = some y5 := by
  match cs, hl with
  | [c0, c1, c2, c3, c4, c5], _ =>
    obtain ⟨xs, q, _, hx, _, hlen, hf⟩ := DataW.trod_struct hs h
    obtain ⟨o0, k0⟩ := hone_of hone 0 f0 rfl
    obtain ⟨o1, k1⟩ := hone_of hone 1 f1 rfl
    obtain ⟨o2, k2⟩ := hone_of hone 2 f2 rfl
    obtain ⟨o3, k3⟩ := hone_of hone 3 f3 rfl
    obtain ⟨o4, k4⟩ := hone_of hone 4 f4 rfl
    obtain ⟨o5, k5⟩ := hone_of hone 5 f5 rfl
    match xs, hlen with
    | [y0, y1, y2, y3, y4, y5], _ => exact ⟨c0, c1, c2, c3, c4, c5, y0, y1, y2, y3, y4, y5, q, rfl, by rw [hx]; rfl, by simpa [o0, k0] using hf 0 f0 rfl, by simpa [o1, k1] using hf 1 f1 rfl, by simpa [o2, k2] using hf 2 f2 rfl, by simpa [o3, k3] using hf 3 f3 rfl, by simpa [o4, k4] using hf 4 f4 rfl, by simpa [o5, k5] using hf 5 f5 rfl⟩
theorem cells31 : Try.prog.cellsOf 41 = 6 := by kernel_rfl
/-- a list of places, opened -/
theorem open_places {H : Type} {enc : TypeId × Value → H} {W : World} {n : Nat} {v : Value} {y : DataW H × List MemPlace} (hf : DataW.trod enc Try.prog W 0 (fun _ => true) true n 38 [v] = some y) (hw : ∀ m ∈ DataW.weights Try.prog 38 y.1, m ≤ 140737488351232) :
    ∃ (a : Option Addr) (cap : Nat) (l : List Pl), v = .slice a l.length cap ∧ PlsAt W a l ∧ (∀ x ∈ l, POk x) ∧ (a = none → cap = 0 ∧ l = []) ∧ l.length ≤ 5864062014805 := by
  rcases open_slice Try.underlying38 hf with ⟨hcs, _⟩ | ⟨a, len, cap, m, q, D, P', hcs, _, hlc, _, hm, hy, heach⟩
  · cases hcs
    exact ⟨none, 0, [], rfl, .inl rfl, by simp, fun _ => ⟨rfl, rfl⟩, Nat.zero_le _⟩
  · cases hcs
    simp only [if_true] at hm
    by_cases h0 : len = 0
    · subst h0; exact ⟨some a, cap, [], rfl, .inl rfl, by simp, by simp, Nat.zero_le _⟩
    · rw [cells40] at heach
      obtain ⟨b, off, spot⟩ := a
      have hplace : spot = none ∧ b < W.heap.size := by
        obtain ⟨cs', hc, _⟩ := heach 0 (by omega)
        obtain ⟨hl, he⟩ := cells_each hc
        have h00 := he 0 (by omega)
        rw [List.getElem?_eq_getElem (by omega : 0 < cs'.length)] at h00
        have e00 : ((⟨b, off, spot⟩ : Addr).add (0 * 2)).add 0 = ⟨b, off, spot⟩ := by simp [Addr.add]
        rw [e00] at h00
        exact ⟨World.cell?_spot h00, block_lt_of_cell h00⟩
      obtain ⟨rfl, hb⟩ := hplace
      have hx : ∀ i, ∃ z : Pl, i < len → (W.cell? ⟨b, off + i * 2, none⟩ = some (.int .i64 z.1) ∧ W.cell? ⟨b, off + i * 2 + 1, none⟩ = some (.string (bs z.2))) ∧ POk z := by
        intro i
        by_cases hi : i < len
        · obtain ⟨cs', hc, ht'⟩ := heach i (by omega)
          obtain ⟨hl, hcell⟩ := cells_each hc
          obtain ⟨c0, c1, y0, y1, q', rfl, _, t0, t1⟩ := open_list2 Try.underlying46 (by kernel_rfl) hl ht'
          obtain ⟨x0, e0, _, w0⟩ := DataW.trod_int Try.underlying3 t0
          obtain ⟨s1, e1, _, hs1⟩ := DataW.trod_string Try.underlying9 t1
          cases e0
          cases e1
          have hj : ∀ j, j < 2 → W.cell? ⟨b, off + i * 2 + j, none⟩ = ([.int .i64 x0, .string s1] : List Value)[j]? := fun j hj => by
            have := hcell j hj
            rw [add_plain, add_plain] at this
            exact this
          refine ⟨(x0, s1.data.toList), fun _ => ⟨⟨hj 0 (by omega), ?_⟩, w0, ?_⟩⟩
          · have := hj 1 (by omega)
            rw [this]
            rfl
          · exact hs1
        · exact ⟨(0, []), fun h => absurd h hi⟩
      obtain ⟨f, hfx⟩ := Classical.axiomOfChoice hx
      have hL : ((List.range len).map f).length = len := by simp
      refine ⟨some ⟨b, off, none⟩, cap, (List.range len).map f, by rw [hL], .inr ⟨b, off, rfl, hb, fun i x hx => ?_⟩, fun x hx => ?_, by simp, ?_⟩
      · have hi : i < len := by
          have := (List.getElem?_eq_some_iff.1 hx).1
          rw [hL] at this
          exact this
        rw [List.getElem?_map, List.getElem?_range hi] at hx
        obtain rfl : f i = x := by simpa using hx
        exact (hfx i hi).1
      · obtain ⟨i, hi, rfl⟩ := List.mem_map.1 hx
        exact (hfx i (List.mem_range.1 hi)).2
      · have hin : (((List.range len).map D).length + ((List.range (m - len)).map fun j => D (len + j)).length) * Try.prog.bytesOf 46 ∈ DataW.weights Try.prog 38 y.1 := by
          rw [hy]
          simp only [DataW.weights, Try.underlying38]
          exact List.mem_cons_self ..
        have hle := hw _ hin
        have h24 : Try.prog.bytesOf 46 = 24 := by kernel_rfl
        rw [h24] at hle
        simp only [List.length_map, List.length_range] at hle ⊢
        omega
theorem weightsAll_mem {H : Type} {P : Program} {e : TypeId} : ∀ {l : List (DataW H)} {d : DataW H}, d ∈ l → ∀ n ∈ d.weights P e, n ∈ DataW.weightsAll P e l
  | d' :: r, d, hd, n, hn => by
    simp only [DataW.weightsAll, List.mem_append]
    rcases List.mem_cons.1 hd with rfl | h
    · exact Or.inl hn
    · exact Or.inr (weightsAll_mem h n hn)
/-- a list of steps, opened -/
theorem open_ops {H : Type} {enc : TypeId × Value → H} {W : World} {n : Nat} {v : Value} {y : DataW H × List MemPlace} (hf : DataW.trod enc Try.prog W 0 (fun _ => true) true n 22 [v] = some y) (hw : ∀ m ∈ DataW.weights Try.prog 22 y.1, m ≤ 140737488351232) :
    ∃ (a : Option Addr) (cap : Nat) (l : List Ol), v = .slice a l.length cap ∧ OpsAt W a l ∧ l.length ≤ 9223372036854775807 := by
  rcases open_slice Try.underlying22 hf with ⟨hcs, _⟩ | ⟨a, len, cap, m, q, D, P', hcs, _, hlc, hcm, hm, hy, heach⟩
  · cases hcs
    exact ⟨none, 0, [], rfl, ⟨.inl rfl, by simp⟩, Nat.zero_le _⟩
  · cases hcs
    simp only [if_true] at hm
    by_cases h0 : len = 0
    · subst h0; exact ⟨some a, cap, [], rfl, ⟨.inl rfl, by simp⟩, Nat.zero_le _⟩
    · rw [cells31] at heach
      obtain ⟨b, off, spot⟩ := a
      have hplace : spot = none ∧ b < W.heap.size := by
        obtain ⟨cs', hc, _⟩ := heach 0 (by omega)
        obtain ⟨hl, he⟩ := cells_each hc
        have h00 := he 0 (by omega)
        rw [List.getElem?_eq_getElem (by omega : 0 < cs'.length)] at h00
        have e00 : ((⟨b, off, spot⟩ : Addr).add (0 * 6)).add 0 = ⟨b, off, spot⟩ := by simp [Addr.add]
        rw [e00] at h00
        exact ⟨World.cell?_spot h00, block_lt_of_cell h00⟩
      obtain ⟨rfl, hb⟩ := hplace
      have hx : ∀ i, ∃ z : Ol, i < len → (∀ j, j < 6 → W.cell? ⟨b, off + i * 6 + j, none⟩ = (opC z)[j]?) ∧ OlOk W z := by
        intro i
        by_cases hi : i < len
        · obtain ⟨cs', hc, ht'⟩ := heach i (by omega)
          obtain ⟨hl, hcell⟩ := cells_each hc
          obtain ⟨c0, c1, c2, c3, c4, c5, y0, y1, y2, y3, y4, y5, q', rfl, hyi, t0, t1, t2, t3, t4, t5⟩ := open_list6 Try.underlying41 (by kernel_rfl) hl ht'
          obtain ⟨x0, e0, _, w0⟩ := DataW.trod_int Try.underlying3 t0
          obtain ⟨x1, e1, _, w1⟩ := DataW.trod_int Try.underlying3 t1
          obtain ⟨x2, e2, _, w2⟩ := DataW.trod_int Try.underlying3 t2
          obtain ⟨x3, e3, _, w3⟩ := DataW.trod_int Try.underlying3 t3
          obtain ⟨x5, e5, _, w5⟩ := DataW.trod_int Try.underlying39 t5
          have hsub : ∀ m ∈ DataW.weights Try.prog 38 y4.1, m ≤ 140737488351232 := fun k hk => by
            refine hw k ?_
            rw [hy]
            simp only [DataW.weights, Try.underlying22, List.mem_cons, List.mem_append]
            refine .inr (.inl (weightsAll_mem (d := D i) (List.mem_map.2 ⟨i, List.mem_range.2 hi, rfl⟩) k ?_))
            have hyi' : D i = .agg [y0.1, y1.1, y2.1, y3.1, y4.1, y5.1] := hyi
            rw [hyi']
            simp only [DataW.weights, Try.underlying41]
            exact DataW.weights_mem_each (j := 4) (t := 38) (d := y4.1) rfl rfl _ hk
          obtain ⟨pa, pc, pl, e4, p1, p2, p3, p4⟩ := open_places t4 hsub
          cases e0
          cases e1
          cases e2
          cases e3
          cases e5
          subst e4
          have h5 : 0 ≤ x5 := by
            have := bounds_u64 w5
            omega
          refine ⟨⟨x0, x1, x2, x3, pa, pc, pl, x5.toNat⟩, fun _ => ⟨fun j hj => ?_, p1, p3, p4, w2, p2⟩⟩
          have := hcell j hj
          rw [add_plain, add_plain] at this
          rw [this]
          unfold opC
          rw [Int.toNat_of_nonneg h5]
        · exact ⟨⟨0, 0, 0, 0, none, 0, [], 0⟩, fun h => absurd h hi⟩
      obtain ⟨f, hfx⟩ := Classical.axiomOfChoice hx
      have hL : ((List.range len).map f).length = len := by simp
      refine ⟨some ⟨b, off, none⟩, cap, (List.range len).map f, by rw [hL], ⟨.inr ⟨b, off, rfl, hb, fun i x hx => ?_⟩, fun x hx => ?_⟩, by rw [hL]; simp only [maxLen] at hcm; omega⟩
      · have hi : i < len := by
          have := (List.getElem?_eq_some_iff.1 hx).1
          rw [hL] at this
          exact this
        rw [List.getElem?_map, List.getElem?_range hi] at hx
        obtain rfl : f i = x := by simpa using hx
        exact (hfx i hi).1
      · obtain ⟨i, hi, rfl⟩ := List.mem_map.1 hx
        exact (hfx i (List.mem_range.1 hi)).2
theorem open_two {H : Type} {enc : TypeId × Value → H} {P : Program} {w : World} {base : Nat} {spare : Nat → Bool} {held : Bool} {fuel : Nat} {t : TypeId} {f0 f1 : Field} {cs : List Value} {y : DataW H × List MemPlace} (hs : P.underlying t = some (.struct #[f0, f1])) (hC : P.cellsOf t = 2) (o0 : f0.offset = 0) (k0 : P.cellsOf f0.type = 1) (o1 : f1.offset = 1) (k1 : P.cellsOf f1.type = 1)
    (h : DataW.trod enc P w base spare held fuel t cs = some y) :
    ∃ (v0 v1 : Value) (y0 y1 : DataW H × List MemPlace) (n : Nat), cs = [v0, v1] ∧ y.1 = .agg [y0.1, y1.1] ∧ DataW.trod enc P w base spare held n f0.type [v0] = some y0 ∧ DataW.trod enc P w base spare held n f1.type [v1] = some y1 := by
  obtain ⟨xs, n, _, hx, hl, hlen, hf⟩ := DataW.trod_struct hs h
  match cs, hl.trans hC with
  | [v0, v1], _ =>
    match xs, hlen with
    | [y0, y1], _ =>
      exact ⟨v0, v1, y0, y1, n, rfl, by rw [hx]; rfl, by simpa [o0, k0] using hf 0 f0 rfl, by simpa [o1, k1] using hf 1 f1 rfl⟩
end Go.Proofs.Ytfebiemfmiahhab
