/- Opening what came in: a script of moves. -/
import Derived.Test.YtidfllgaeiopjaaGreatCpP
import Derived.Test.YtidfllgaeiopjaaGreatRows
import Derived.Lib.SmallJoins
import Derived.SizedLaws
namespace Go.Proofs.YtidfllgaeiopjaaGreat
open Go.ChangeShapes Go.WideShapes Go.ChangeAt Go.RowKit Go.Joins Go.Deep
set_option linter.unusedVariables false
set_option maxRecDepth 100000

theorem own : ownKnob Tryz.prog.godebug = none := by kernel_rfl
theorem laidOut : laidOutB Tryz.prog = true := by kernel_rfl

theorem mapM_some {α β : Type} (f : α → Option β) (l : List α) (cs : List β) (h : l.mapM f = some cs) : l.map f = cs.map some := by
  induction l generalizing cs with
  | nil => simp at h; subst h; rfl
  | cons x l ih =>
    rw [List.mapM_cons] at h
    cases hx : f x with
    | none => rw [hx] at h; simp at h
    | some y =>
      rw [hx] at h
      cases hl : l.mapM f with
      | none => rw [hl] at h; simp at h
      | some ys =>
        rw [hl] at h
        simp at h
        subst h
        simp [hx, ih ys hl]
theorem cells_each {W : World} {a : Addr} {n : Nat} {cs : List Value} (h : W.cells? 0 a n = some cs) : cs.length = n ∧ ∀ i, i < n → W.cell? (a.add i) = cs[i]? := by
  unfold World.cells? at h
  rw [if_pos (Nat.zero_le _)] at h
  have hm := mapM_some _ _ _ h
  have hlen : cs.length = n := by have := congrArg List.length hm; simpa using this.symm
  refine ⟨hlen, fun i hi => ?_⟩
  have := congrArg (fun l => l[i]?) hm
  simp only [List.getElem?_map, List.getElem?_range hi, Option.map_some] at this
  rw [List.getElem?_eq_getElem (by omega : i < cs.length)] at this ⊢
  simpa using this

theorem u8_wf {x : Int} (h : (Lit.int .u8 x).wf = true) : 0 ≤ x ∧ x < 256 := by
  have := bounds_u8 h
  omega
theorem Tryz.bytes5 : Tryz.prog.bytesOf 5 = 1 := by kernel_rfl
theorem weights_all {H : Type} {P : Program} {e : TypeId} {d : DataW H} {m : Nat} : ∀ {l : List (DataW H)}, d ∈ l → m ∈ DataW.weights P e d → m ∈ DataW.weightsAll P e l
  | x :: l, hd, hm => by
    simp only [DataW.weightsAll, List.mem_append]
    rcases List.mem_cons.1 hd with rfl | h
    · exact .inl hm
    · exact .inr (weights_all h hm)
/-- a list of bytes, opened -/
theorem open_bytes {H : Type} {enc : TypeId × Value → H} {W : World} {n : Nat} {v : Value} {y : DataW H × List MemPlace}
    (hf : DataW.trod enc Tryz.prog W 0 (fun _ => true) true n 31 [v] = some y) (hb : ∀ m, m ∈ DataW.weights Tryz.prog 31 y.1 → m ≤ 140737488351232) :
    ∃ a cap l, v = .slice a l.length cap ∧ Bytes W a l ∧ Small l ∧ l.length ≤ cap ∧ cap ≤ 9223372036854775807 ∧ l.length ≤ 140737488351232 ∧ (a = none → cap = 0) := by
  rcases open_ints Tryz.underlying31 Tryz.underlying5 (by kernel_rfl) hf with ⟨hcs, _⟩ | ⟨x, len, cap, zs, hcs, _, hl, hm, hz, hy, hcell, hwz⟩
  · cases hcs
    exact ⟨none, 0, [], rfl, .inl rfl, (fun i hi => by simp at hi), by simp, by decide, by simp, fun _ => rfl⟩
  · cases hcs
    simp only [if_true] at hz
    have hlz : len ≤ zs.length := by omega
    have hlen : ((zs.take len).map Int.toNat).length = len := by simp; omega
    have hget : ∀ i, i < len → ((((zs.take len).map Int.toNat).getD i 0 : Nat) : Int) = zs.getD i 0 ∧ ((zs.take len).map Int.toNat).getD i 0 < 256 := by
      intro i hi
      have hiz : i < zs.length := by omega
      have hb := u8_wf (hwz (zs[i]) (List.getElem_mem hiz))
      have e1 : ((zs.take len).map Int.toNat).getD i 0 = (zs[i]).toNat := by
        rw [List.getD_eq_getElem?_getD, List.getElem?_map, List.getElem?_take, if_pos hi, List.getElem?_eq_getElem hiz]; rfl
      have e2 : zs.getD i 0 = zs[i] := by rw [List.getD_eq_getElem?_getD, List.getElem?_eq_getElem hiz]; rfl
      rw [e1, e2]
      omega
    refine ⟨some x, cap, (zs.take len).map Int.toNat, by rw [hlen], ?_, ?_, by omega, by unfold maxLen at hm; omega, ?_, fun h => by cases h⟩
    · by_cases h0 : len = 0
      · left; subst h0; simp
      · right
        obtain ⟨b, off, spot⟩ := x
        have hc := hcell 0 (by omega)
        have hspot : spot = none := by simpa [Addr.add] using World.cell?_spot hc
        subst hspot
        refine ⟨b, off, rfl, ?_, ?_⟩
        · have := block_lt_of_cell hc
          simpa [add_plain] using this
        · intro i hi
          rw [hlen] at hi
          have := hcell i (by omega)
          rw [add_plain] at this
          rw [this, (hget i hi).1]
    · intro i hi
      rw [hlen] at hi
      exact (hget i hi).2
    · have h1 := hb (((lits .u8 (zs.take len) : List (DataW H)).length + (lits .u8 (zs.drop len) : List (DataW H)).length) * Tryz.prog.bytesOf 5) (by rw [hy]; simp [DataW.weights, Tryz.underlying31])
      rw [Tryz.bytes5] at h1
      have h2 : (lits .u8 (zs.take len) : List (DataW H)).length = len := by simp [lits]; omega
      omega
theorem Tryz.cells33 : Tryz.prog.cellsOf 33 = 8 := by kernel_rfl
theorem list_8 {α : Type} {cs : List α} (h : cs.length = 8) : ∃ c0 c1 c2 c3 c4 c5 c6 c7, cs = [c0, c1, c2, c3, c4, c5, c6, c7] := by
  match cs, h with
  | [c0, c1, c2, c3, c4, c5, c6, c7], _ => exact ⟨c0, c1, c2, c3, c4, c5, c6, c7, rfl⟩
theorem open_list8 {H : Type} {enc : TypeId × Value → H} {P : Program} {w : World} {base : Nat} {spare : Nat → Bool} {held : Bool} {fuel : Nat} {t : TypeId} {f0 f1 f2 f3 f4 f5 f6 f7 : Go.Field} {cs : List Value} {y : DataW H × List MemPlace} (hs : P.underlying t = some (.struct #[f0, f1, f2, f3, f4, f5, f6, f7])) (hone : oneCellFields P #[f0, f1, f2, f3, f4, f5, f6, f7] = true) (hl : cs.length = 8)
    (h : DataW.trod enc P w base spare held fuel t cs = some y) :
    ∃ (c0 c1 c2 c3 c4 c5 c6 c7 : Value) (y0 y1 y2 y3 y4 y5 y6 y7 : DataW H × List MemPlace) (q : Nat), cs = [c0, c1, c2, c3, c4, c5, c6, c7] ∧ y.1 = .agg [y0.1, y1.1, y2.1, y3.1, y4.1, y5.1, y6.1, y7.1] ∧ DataW.trod enc P w base spare held q f0.type [c0] = some y0 ∧ DataW.trod enc P w base spare held q f1.type [c1] = some y1 ∧ DataW.trod enc P w base spare held q f2.type [c2] = some y2 ∧ DataW.trod enc P w base spare held q f3.type [c3] = some y3 ∧ DataW.trod enc P w base spare held q f4.type [c4] = some y4 ∧ DataW.trod enc P w base spare held q f5.type [c5] = some y5 ∧ DataW.trod enc P w base spare held q f6.type [c6] = some y6 ∧ DataW.trod enc P w base spare held q f7.type [c7] = some y7 := by
  obtain ⟨c0, c1, c2, c3, c4, c5, c6, c7, rfl⟩ := list_8 hl
  obtain ⟨xs, q, _, hx, _, hlen, hf⟩ := DataW.trod_struct hs h
  obtain ⟨o0, k0⟩ := hone_of hone 0 f0 rfl
  obtain ⟨o1, k1⟩ := hone_of hone 1 f1 rfl
  obtain ⟨o2, k2⟩ := hone_of hone 2 f2 rfl
  obtain ⟨o3, k3⟩ := hone_of hone 3 f3 rfl
  obtain ⟨o4, k4⟩ := hone_of hone 4 f4 rfl
  obtain ⟨o5, k5⟩ := hone_of hone 5 f5 rfl
  obtain ⟨o6, k6⟩ := hone_of hone 6 f6 rfl
  obtain ⟨o7, k7⟩ := hone_of hone 7 f7 rfl
  match xs, hlen with
  | [y0, y1, y2, y3, y4, y5, y6, y7], _ => exact ⟨c0, c1, c2, c3, c4, c5, c6, c7, y0, y1, y2, y3, y4, y5, y6, y7, q, rfl, by rw [hx]; rfl, by simpa [o0, k0] using hf 0 f0 rfl, by simpa [o1, k1] using hf 1 f1 rfl, by simpa [o2, k2] using hf 2 f2 rfl, by simpa [o3, k3] using hf 3 f3 rfl, by simpa [o4, k4] using hf 4 f4 rfl, by simpa [o5, k5] using hf 5 f5 rfl, by simpa [o6, k6] using hf 6 f6 rfl, by simpa [o7, k7] using hf 7 f7 rfl⟩
/-- a script, opened -/
theorem open_script {H : Type} {enc : TypeId × Value → H} {W : World} {fuel : Nat} {v : Value} {y : DataW H × List MemPlace}
    (hf : DataW.trod enc Tryz.prog W 0 (fun _ => true) true fuel 22 [v] = some y) (hb : ∀ m, m ∈ DataW.weights Tryz.prog 22 y.1 → m ≤ 140737488351232) :
    ∃ a n cap, v = .slice a n cap ∧ Moves3 W a n := by
  rcases open_slice Tryz.underlying22 hf with ⟨hcs, _⟩ | ⟨a, len, cap, m, q, D, Pl, hcs, _, hlc, _, hm, hy, heach⟩
  · cases hcs
    exact ⟨_, 0, 0, rfl, .inl rfl⟩
  · cases hcs
    simp only [if_true] at hm
    refine ⟨_, len, cap, rfl, ?_⟩
    by_cases h0 : len = 0
    · exact .inl h0
    · right
      rw [Tryz.cells33] at heach
      obtain ⟨b, off, spot⟩ := a
      have hplace : spot = none ∧ b < W.heap.size := by
        obtain ⟨cs', hc, _⟩ := heach 0 (by omega)
        obtain ⟨hl, he⟩ := cells_each hc
        have h00 := he 0 (by omega)
        rw [List.getElem?_eq_getElem (by omega : 0 < cs'.length)] at h00
        have e00 : ((⟨b, off, spot⟩ : Addr).add (0 * 8)).add 0 = ⟨b, off, spot⟩ := by simp [Addr.add]
        rw [e00] at h00
        exact ⟨World.cell?_spot h00, block_lt_of_cell h00⟩
      obtain ⟨rfl, hbl⟩ := hplace
      refine ⟨b, off, rfl, hbl, fun k hk => ?_⟩
      obtain ⟨cs', hc, ht⟩ := heach k (by omega)
      obtain ⟨hl, he⟩ := cells_each hc
      obtain ⟨c0, c1, c2, c3, c4, c5, c6, c7, y0, y1, y2, y3, y4, y5, y6, y7, q', rfl, hyk, h0', h1', h2', h3', h4', h5', h6', h7'⟩ := open_list8 Tryz.underlying33 (by kernel_rfl) hl ht
      obtain ⟨K, e0, _, w0⟩ := DataW.trod_int Tryz.underlying3 h0'
      obtain ⟨X, e1, _, w1⟩ := DataW.trod_int Tryz.underlying3 h1'
      obtain ⟨Y, e2, _, w2⟩ := DataW.trod_int Tryz.underlying3 h2'
      obtain ⟨A, e3, _, w3⟩ := DataW.trod_int Tryz.underlying3 h3'
      obtain ⟨B, e4, _, w4⟩ := DataW.trod_int Tryz.underlying3 h4'
      obtain ⟨C, e5, _, w5⟩ := DataW.trod_int Tryz.underlying3 h5'
      obtain ⟨V, e6, _, w6⟩ := DataW.trod_int Tryz.underlying30 h6'
      cases e0
      cases e1
      cases e2
      cases e3
      cases e4
      cases e5
      cases e6
      have hup : ∀ m, m ∈ DataW.weights Tryz.prog 31 y7.1 → m ≤ 140737488351232 := fun m hm => hb m (by
        rw [hy]
        simp only [DataW.weights, Tryz.underlying22]
        refine List.mem_cons_of_mem _ (List.mem_append_left _ (weights_all (List.mem_map.2 ⟨k, List.mem_range.2 hk, rfl⟩) ?_))
        have hy3 : D k = .agg [y0.1, y1.1, y2.1, y3.1, y4.1, y5.1, y6.1, y7.1] := hyk
        rw [hy3]
        simp only [DataW.weights, Tryz.underlying33]
        exact DataW.weights_mem_each (j := 7) (t := 31) (d := y7.1) rfl rfl _ hm)
      obtain ⟨a, cp, l, rfl, hB, hs, _, _, hlb, hnil⟩ := open_bytes h7' hup
      have hV := bounds_u64 w6
      have hBB := bounds_i64 w1
      obtain ⟨V, rfl⟩ := Int.eq_ofNat_of_zero_le (show 0 ≤ V by omega)
      have hj : ∀ j, j < 8 → W.cell? ⟨b, off + k * 8 + j, none⟩ = ([.int .i64 K, .int .i64 X, .int .i64 Y, .int .i64 A, .int .i64 B, .int .i64 C, .int .u64 (V : Int), .slice a l.length cp] : List Value)[j]? := fun j hj => by
        have := he j hj
        rw [add_plain, add_plain] at this
        exact this
      exact ⟨⟨K, X, Y, A, B, C, V, a, l, cp⟩, ⟨hj 0 (by omega), hj 1 (by omega), hj 2 (by omega), hj 3 (by omega), hj 4 (by omega), hj 5 (by omega), hj 6 (by omega), hj 7 (by omega)⟩, ⟨by dsimp only; omega, by dsimp only; omega, by dsimp only; omega, by dsimp only; omega, hs, hB, hnil⟩⟩
theorem held_sized {H : Type} {P : Program} {t : TypeId} {ts : List TypeId} {d : DataW H} {ds : List (DataW H)} {m : Nat} (hsz : (DataW.weightsEach P (t :: ts) (d :: ds)).all (· ≤ reachBytes) = true) (hm : m ∈ DataW.weights P t d) : m ≤ 140737488351232 := by
  have h := List.all_eq_true.1 hsz _ (DataW.weights_mem_each (j := 0) (t := t) (d := d) rfl rfl _ hm)
  exact of_decide_eq_true h
end Go.Proofs.YtidfllgaeiopjaaGreat
