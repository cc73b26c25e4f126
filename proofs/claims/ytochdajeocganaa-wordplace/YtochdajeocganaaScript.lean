/- A script opened: each call's nine cells, and its lists. -/
import Derived.Test.YtochdajeocganaaOpen
import Derived.Test.YtochdajeocganaaPack
import Derived.SizedLaws
namespace Go.Proofs.Ytochdajeocganaa
open Go.ChangeShapes Go.WideShapes Go.ChangeAt Go.RowKit Go.Joins Go.Deep
set_option linter.unusedVariables false

/-- one call of a script lies at b, o -/
def OpAt (w : World) (b o : Nat) (K A B C N M : Int) (x : Nat) (aT : Option Addr) (nT cT : Nat) (aW : Option Addr) (nW cW : Nat) : Prop :=
  w.cell? ⟨b, o, none⟩ = some (.int .i64 K) ∧ w.cell? ⟨b, o + 1, none⟩ = some (.int .i64 A) ∧ w.cell? ⟨b, o + 2, none⟩ = some (.int .i64 B) ∧ w.cell? ⟨b, o + 3, none⟩ = some (.int .i64 C) ∧
  w.cell? ⟨b, o + 4, none⟩ = some (.int .i64 N) ∧ w.cell? ⟨b, o + 5, none⟩ = some (.int .i64 M) ∧ w.cell? ⟨b, o + 6, none⟩ = some (.int .u64 x) ∧ w.cell? ⟨b, o + 7, none⟩ = some (.slice aT nT cT) ∧ w.cell? ⟨b, o + 8, none⟩ = some (.slice aW nW cW)

theorem OpAt.below {w w' : World} {b o : Nat} {K A B C N M : Int} {x : Nat} {aT : Option Addr} {nT cT : Nat} {aW : Option Addr} {nW cW : Nat} (h : OpAt w b o K A B C N M x aT nT cT aW nW cW) (hb : b < w.heap.size) (hbl : Below w.heap.size w w') : OpAt w' b o K A B C N M x aT nT cT aW nW cW := by
  have cc : ∀ j v, w.cell? ⟨b, j, none⟩ = some v → w'.cell? ⟨b, j, none⟩ = some v := fun j v h => (hbl.cell (p := ⟨b, j, none⟩) hb).trans h
  obtain ⟨h0, h1, h2, h3, h4, h5, h6, h7, h8⟩ := h
  exact ⟨cc _ _ h0, cc _ _ h1, cc _ _ h2, cc _ _ h3, cc _ _ h4, cc _ _ h5, cc _ _ h6, cc _ _ h7, cc _ _ h8⟩


theorem Try.bytes54 : Try.prog.bytesOf 54 = 104 := by kernel_rfl
theorem Try.cells54 : Try.prog.cellsOf 54 = 9 := by kernel_rfl

theorem add_plain0 (b off j : Nat) : (⟨b, off, none⟩ : Addr).add j = ⟨b, off + j, none⟩ := by unfold Addr.add; split <;> simp_all

theorem mapM_some {α β : Type} (f : α → Option β) (l : List α) (cs : List β) (h : l.mapM f = some cs) : l.map f = cs.map some := by
  induction l generalizing cs with
  | nil => simp at h; subst h; rfl
  | cons x l ih =>
    rw [List.mapM_cons] at h
    cases hx : f x with
    | none => rw [hx] at h; simp at h
    | some y =>
      rw [hx] at h
      cases hl : l.mapM f with
      | none => rw [hl] at h; simp at h
      | some ys =>
        rw [hl] at h
        simp at h
        subst h
        simp [hx, ih ys hl]

theorem cells_each {W : World} {a : Addr} {n : Nat} {cs : List Value} (h : W.cells? 0 a n = some cs) : cs.length = n ∧ ∀ i, i < n → W.cell? (a.add i) = cs[i]? := by
  unfold World.cells? at h
  rw [if_pos (Nat.zero_le _)] at h
  have hm := mapM_some _ _ _ h
  have hlen : cs.length = n := by have := congrArg List.length hm; simpa using this.symm
  refine ⟨hlen, fun i hi => ?_⟩
  have := congrArg (fun l => l[i]?) hm
  simp only [List.getElem?_map, List.getElem?_range hi, Option.map_some] at this
  rw [List.getElem?_eq_getElem (by omega : i < cs.length)] at this ⊢
  simpa using this

theorem list_9 {α : Type} {cs : List α} (h : cs.length = 9) : ∃ c0 c1 c2 c3 c4 c5 c6 c7 c8, cs = [c0, c1, c2, c3, c4, c5, c6, c7, c8] := by
  match cs, h with
  | [c0, c1, c2, c3, c4, c5, c6, c7, c8], _ => exact ⟨c0, c1, c2, c3, c4, c5, c6, c7, c8, rfl⟩
theorem open_list9 {H : Type} {enc : TypeId × Value → H} {P : Program} {w : World} {base : Nat} {spare : Nat → Bool} {held : Bool} {fuel : Nat} {t : TypeId} {f0 f1 f2 f3 f4 f5 f6 f7 f8 : Field} {cs : List Value} {y : DataW H × List MemPlace} (hs : P.underlying t = some (.struct #[f0, f1, f2, f3, f4, f5, f6, f7, f8])) (hone : oneCellFields P #[f0, f1, f2, f3, f4, f5, f6, f7, f8] = true) (hl : cs.length = 9)
    (h : DataW.trod enc P w base spare held fuel t cs = some y) :
    ∃ (c0 c1 c2 c3 c4 c5 c6 c7 c8 : Value) (y0 y1 y2 y3 y4 y5 y6 y7 y8 : DataW H × List MemPlace) (q : Nat), cs = [c0, c1, c2, c3, c4, c5, c6, c7, c8] ∧ y.1 = .agg [y0.1, y1.1, y2.1, y3.1, y4.1, y5.1, y6.1, y7.1, y8.1] ∧ DataW.trod enc P w base spare held q f0.type [c0] = some y0 ∧ DataW.trod enc P w base spare held q f1.type [c1] = some y1 ∧ DataW.trod enc P w base spare held q f2.type [c2] = some y2 ∧ DataW.trod enc P w base spare held q f3.type [c3] = some y3 ∧ DataW.trod enc P w base spare held q f4.type [c4] = some y4 ∧ DataW.trod enc P w base spare held q f5.type [c5] = some y5 ∧ DataW.trod enc P w base spare held q f6.type [c6] = some y6 ∧ DataW.trod enc P w base spare held q f7.type [c7] = some y7 ∧ DataW.trod enc P w base spare held q f8.type [c8] = some y8 := by
  obtain ⟨c0, c1, c2, c3, c4, c5, c6, c7, c8, rfl⟩ := list_9 hl
  obtain ⟨xs, q, _, hx, _, hlen, hf⟩ := DataW.trod_struct hs h
  obtain ⟨o0, k0⟩ := hone_of hone 0 f0 rfl
  obtain ⟨o1, k1⟩ := hone_of hone 1 f1 rfl
  obtain ⟨o2, k2⟩ := hone_of hone 2 f2 rfl
  obtain ⟨o3, k3⟩ := hone_of hone 3 f3 rfl
  obtain ⟨o4, k4⟩ := hone_of hone 4 f4 rfl
  obtain ⟨o5, k5⟩ := hone_of hone 5 f5 rfl
  obtain ⟨o6, k6⟩ := hone_of hone 6 f6 rfl
  obtain ⟨o7, k7⟩ := hone_of hone 7 f7 rfl
  obtain ⟨o8, k8⟩ := hone_of hone 8 f8 rfl
  match xs, hlen with
  | [y0, y1, y2, y3, y4, y5, y6, y7, y8], _ => exact ⟨c0, c1, c2, c3, c4, c5, c6, c7, c8, y0, y1, y2, y3, y4, y5, y6, y7, y8, q, rfl, by rw [hx]; rfl, by simpa [o0, k0] using hf 0 f0 rfl, by simpa [o1, k1] using hf 1 f1 rfl, by simpa [o2, k2] using hf 2 f2 rfl, by simpa [o3, k3] using hf 3 f3 rfl, by simpa [o4, k4] using hf 4 f4 rfl, by simpa [o5, k5] using hf 5 f5 rfl, by simpa [o6, k6] using hf 6 f6 rfl, by simpa [o7, k7] using hf 7 f7 rfl, by simpa [o8, k8] using hf 8 f8 rfl⟩

theorem open_op {H : Type} {enc : TypeId × Value → H} {W : World} {n : Nat} {cs : List Value} {y : DataW H × List MemPlace} (hl : cs.length = 9)
    (hf : DataW.trod enc Try.prog W 0 (fun _ => true) true n 54 cs = some y) :
    ∃ (K A B C N M x : Int) (c7 c8 : Value) (y7 y8 : DataW H × List MemPlace) (q : Nat), cs = [.int .i64 K, .int .i64 A, .int .i64 B, .int .i64 C, .int .i64 N, .int .i64 M, .int .u64 x, c7, c8] ∧ (Lit.int .u64 x).wf = true ∧
      (Lit.int .i64 A).wf = true ∧ (Lit.int .i64 N).wf = true ∧ (Lit.int .i64 M).wf = true ∧
      DataW.trod enc Try.prog W 0 (fun _ => true) true q 26 [c7] = some y7 ∧ DataW.trod enc Try.prog W 0 (fun _ => true) true q 42 [c8] = some y8 ∧
      (∀ m, m ∈ DataW.weights Try.prog 26 y7.1 → m ∈ DataW.weights Try.prog 54 y.1) ∧ (∀ m, m ∈ DataW.weights Try.prog 42 y8.1 → m ∈ DataW.weights Try.prog 54 y.1) := by
  obtain ⟨c0, c1, c2, c3, c4, c5, c6, c7, c8, y0, y1, y2, y3, y4, y5, y6, y7, y8, q, rfl, hy, h0, h1, h2, h3, h4, h5, h6, h7, h8⟩ := open_list9 Try.underlying54 (by kernel_rfl) hl hf
  obtain ⟨K, e0, _, w0⟩ := DataW.trod_int Try.underlying3 h0
  obtain ⟨A, e1, _, w1⟩ := DataW.trod_int Try.underlying3 h1
  obtain ⟨B, e2, _, w2⟩ := DataW.trod_int Try.underlying3 h2
  obtain ⟨C, e3, _, w3⟩ := DataW.trod_int Try.underlying3 h3
  obtain ⟨N, e4, _, w4⟩ := DataW.trod_int Try.underlying2 h4
  obtain ⟨M, e5, _, w5⟩ := DataW.trod_int Try.underlying2 h5
  obtain ⟨x, e6, _, w6⟩ := DataW.trod_int Try.underlying27 h6
  cases e0
  cases e1
  cases e2
  cases e3
  cases e4
  cases e5
  cases e6
  refine ⟨K, A, B, C, N, M, x, c7, c8, y7, y8, q, rfl, w6, w1, w4, w5, h7, h8, fun m hm => ?_, fun m hm => ?_⟩
  · rw [hy]
    simp only [DataW.weights, Try.underlying54]
    exact DataW.weights_mem_each (j := 7) (t := 26) (d := y7.1) rfl rfl _ hm
  · rw [hy]
    simp only [DataW.weights, Try.underlying54]
    exact DataW.weights_mem_each (j := 8) (t := 42) (d := y8.1) rfl rfl _ hm

theorem weights_all {H : Type} {P : Program} {e : TypeId} {d : DataW H} {m : Nat} : ∀ {l : List (DataW H)}, d ∈ l → m ∈ DataW.weights P e d → m ∈ DataW.weightsAll P e l
  | x :: l, hd, hm => by
    simp only [DataW.weightsAll, List.mem_append]
    rcases List.mem_cons.1 hd with rfl | h
    · exact .inl hm
    · exact .inr (weights_all h hm)

/-- A SCRIPT, OPENED: nil or empty; or each of its calls lies there (G: what is asked of each call's lists). -/
theorem open_script {H : Type} {enc : TypeId × Value → H} {W : World} {fuel : Nat} {v : Value} {y : DataW H × List MemPlace}
    (G : World → Int → Int → Int → Int → Int → Int → Nat → Option Addr → Nat → Nat → Option Addr → Nat → Nat → Prop)
    (hG : ∀ (K A B C N M : Int) (x : Nat) (c7 c8 : Value) (y7 y8 : DataW H × List MemPlace) (q : Nat), (Lit.int .i64 A).wf = true → (Lit.int .i64 N).wf = true → (Lit.int .i64 M).wf = true →
      DataW.trod enc Try.prog W 0 (fun _ => true) true q 26 [c7] = some y7 → DataW.trod enc Try.prog W 0 (fun _ => true) true q 42 [c8] = some y8 →
      (∀ m, m ∈ DataW.weights Try.prog 26 y7.1 → m ∈ DataW.weights Try.prog 52 y.1) → (∀ m, m ∈ DataW.weights Try.prog 42 y8.1 → m ∈ DataW.weights Try.prog 52 y.1) →
      ∃ aT nT cT aW nW cW, c7 = .slice aT nT cT ∧ c8 = .slice aW nW cW ∧ G W K A B C N M x aT nT cT aW nW cW)
    (hf : DataW.trod enc Try.prog W 0 (fun _ => true) true fuel 52 [v] = some y) :
    ∃ a n cap, v = .slice a n cap ∧ (n = 0 ∨ ∃ elems spare, y.1 = .slice elems spare ∧ elems.length = n) ∧
      (n = 0 ∨ ∃ b off, a = some ⟨b, off, none⟩ ∧ b < W.heap.size ∧
        ∀ k, k < n → ∃ (K A B C N M : Int) (x : Nat) (aT : Option Addr) (nT cT : Nat) (aW : Option Addr) (nW cW : Nat), x < 18446744073709551616 ∧ OpAt W b (off + k * 9) K A B C N M x aT nT cT aW nW cW ∧ G W K A B C N M x aT nT cT aW nW cW) := by
  rcases open_slice Try.underlying52 hf with ⟨hcs, _⟩ | ⟨a, len, cap, m, q, D, Pl, hcs, _, hlc, _, hm, hy, heach⟩
  · cases hcs
    exact ⟨_, 0, 0, rfl, .inl rfl, .inl rfl⟩
  · cases hcs
    simp only [if_true] at hm
    refine ⟨_, len, cap, rfl, .inr ⟨_, _, by rw [hy], by simp⟩, ?_⟩
    by_cases h0 : len = 0
    · exact .inl h0
    · right
      rw [Try.cells54] at heach
      obtain ⟨b, off, spot⟩ := a
      have hplace : spot = none ∧ b < W.heap.size := by
        obtain ⟨cs', hc, _⟩ := heach 0 (by omega)
        obtain ⟨hl, he⟩ := cells_each hc
        have h00 := he 0 (by omega)
        rw [List.getElem?_eq_getElem (by omega : 0 < cs'.length)] at h00
        have e00 : ((⟨b, off, spot⟩ : Addr).add (0 * 9)).add 0 = ⟨b, off, spot⟩ := by simp [Addr.add]
        rw [e00] at h00
        exact ⟨World.cell?_spot h00, block_lt_of_cell h00⟩
      obtain ⟨rfl, hb⟩ := hplace
      refine ⟨b, off, rfl, hb, fun k hk => ?_⟩
      obtain ⟨cs', hc, ht⟩ := heach k (by omega)
      obtain ⟨hl, he⟩ := cells_each hc
      obtain ⟨K, A, B, C, N, M, x, c7, c8, y7, y8, q', rfl, hx, hA, hN, hM, h7, h8, g7, g8⟩ := open_op hl ht
      have hup : ∀ m, m ∈ DataW.weights Try.prog 54 (D k) → m ∈ DataW.weights Try.prog 52 y.1 := fun m hm => by
        rw [hy]
        simp only [DataW.weights, Try.underlying52]
        exact List.mem_cons_of_mem _ (List.mem_append_left _ (weights_all (List.mem_map.2 ⟨k, List.mem_range.2 hk, rfl⟩) hm))
      obtain ⟨hx0, hx1⟩ := bounds_u64 hx
      obtain ⟨x, rfl⟩ := Int.eq_ofNat_of_zero_le hx0
      obtain ⟨aT, nT, cT, aW, nW, cW, rfl, rfl, hg⟩ := hG K A B C N M x c7 c8 y7 y8 q' hA hN hM h7 h8 (fun m hm => hup m (g7 m hm)) (fun m hm => hup m (g8 m hm))
      refine ⟨K, A, B, C, N, M, x, aT, nT, cT, aW, nW, cW, by omega, ?_, hg⟩
      have hj : ∀ j, j < 9 → W.cell? ⟨b, off + k * 9 + j, none⟩ = ([.int .i64 K, .int .i64 A, .int .i64 B, .int .i64 C, .int .i64 N, .int .i64 M, .int .u64 (x : Int), .slice aT nT cT, .slice aW nW cW] : List Value)[j]? := fun j hj => by
        have := he j hj
        rw [add_plain0, add_plain0] at this
        exact this
      exact ⟨hj 0 (by omega), hj 1 (by omega), hj 2 (by omega), hj 3 (by omega), hj 4 (by omega), hj 5 (by omega), hj 6 (by omega), hj 7 (by omega), hj 8 (by omega)⟩


theorem Try.bytes27 : Try.prog.bytesOf 27 = 8 := by kernel_rfl

theorem open_words {H : Type} {enc : TypeId × Value → H} {W : World} {n : Nat} {v : Value} {y : DataW H × List MemPlace}
    (hf : DataW.trod enc Try.prog W 0 (fun _ => true) true n 42 [v] = some y) :
    ∃ a cap l, v = .slice a l.length cap ∧ Words W a l ∧ (a = none → cap = 0) ∧ WSmall l ∧ (l = [] ∨ ∃ elems spare, y.1 = .slice elems spare ∧ elems.length = l.length) := by
  rcases open_ints Try.underlying42 Try.underlying27 (by kernel_rfl) hf with ⟨hcs, _⟩ | ⟨x, len, cap, zs, hcs, _, hl, hm, hz, hy, hcell, hwz⟩
  · cases hcs
    exact ⟨none, 0, [], rfl, .inl rfl, fun _ => rfl, (fun i hi => by simp at hi), .inl rfl⟩
  · cases hcs
    simp only [if_true] at hz
    have hlz : len ≤ zs.length := by omega
    have hlen : ((zs.take len).map Int.toNat).length = len := by simp; omega
    have hget : ∀ i, i < len → ((((zs.take len).map Int.toNat).getD i 0 : Nat) : Int) = zs.getD i 0 ∧ ((zs.take len).map Int.toNat).getD i 0 < 18446744073709551616 := by
      intro i hi
      have hiz : i < zs.length := by omega
      have hb := bounds_u64 (hwz (zs[i]) (List.getElem_mem hiz))
      have e1 : ((zs.take len).map Int.toNat).getD i 0 = (zs[i]).toNat := by
        rw [List.getD_eq_getElem?_getD, List.getElem?_map, List.getElem?_take, if_pos hi, List.getElem?_eq_getElem hiz]; rfl
      have e2 : zs.getD i 0 = zs[i] := by rw [List.getD_eq_getElem?_getD, List.getElem?_eq_getElem hiz]; rfl
      rw [e1, e2]
      omega
    refine ⟨some x, cap, (zs.take len).map Int.toNat, by rw [hlen], ?_, (fun h => by cases h), ?_, ?_⟩
    · by_cases h0 : len = 0
      · left; subst h0; simp
      · right
        obtain ⟨b, off, spot⟩ := x
        have hc := hcell 0 (by omega)
        have hspot : spot = none := by simpa [Addr.add] using World.cell?_spot hc
        subst hspot
        refine ⟨b, off, rfl, ?_, ?_⟩
        · have := block_lt_of_cell hc
          simpa [add_plain] using this
        · intro i hi
          rw [hlen] at hi
          have := hcell i (by omega)
          rw [add_plain] at this
          rw [this, (hget i hi).1]
    · intro i hi
      rw [hlen] at hi
      exact (hget i hi).2
    · right
      exact ⟨_, _, by rw [hy], by rw [hlen]; simp [lits]; omega⟩

/-- the row's own bound, of what a script's call holds -/
theorem held_sized {H : Type} {P : Program} {t : TypeId} {ts : List TypeId} {d : DataW H} {ds : List (DataW H)} {m : Nat} (hsz : (DataW.weightsEach P (t :: ts) (d :: ds)).all (· ≤ reachBytes) = true) (hm : m ∈ DataW.weights P t d) : m ≤ 140737488351232 := by
  have h := List.all_eq_true.1 hsz _ (DataW.weights_mem_each (j := 0) (t := t) (d := d) rfl rfl _ hm)
  exact of_decide_eq_true h
theorem bytes_sized {H : Type} {l : List Nat} {y : DataW H} (hlen : l = [] ∨ ∃ elems spare, y = .slice elems spare ∧ elems.length = l.length) (h : ∀ m, m ∈ DataW.weights Try.prog 26 y → m ≤ 140737488351232) : l.length ≤ 140737488351232 := by
  rcases hlen with rfl | ⟨el, sp, he, hn⟩
  · simp
  · have := h ((el.length + sp.length) * Try.prog.bytesOf 5) (by rw [he]; simp [DataW.weights, Try.underlying26])
    rw [Try.bytes5] at this
    omega
theorem words_sized {H : Type} {l : List Nat} {y : DataW H} (hlen : l = [] ∨ ∃ elems spare, y = .slice elems spare ∧ elems.length = l.length) (h : ∀ m, m ∈ DataW.weights Try.prog 42 y → m ≤ 140737488351232) : 8 * l.length ≤ 140737488351232 := by
  rcases hlen with rfl | ⟨el, sp, he, hn⟩
  · simp
  · have := h ((el.length + sp.length) * Try.prog.bytesOf 27) (by rw [he]; simp [DataW.weights, Try.underlying42])
    rw [Try.bytes27] at this
    omega
end Go.Proofs.Ytochdajeocganaa
