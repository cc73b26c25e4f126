/- record: what comes in, opened. -/
import Derived.Test.YtljeedgnjgeopaaZe
import Derived.Test.YtljeedgnjgeopaaRows
import Derived.Lib.SmallJoins
import Derived.SizedLaws
namespace Go.Proofs.Ytljeedgnjgeopaa
open Go.ChangeShapes Go.WideShapes Go.ChangeAt Go.RowKit Go.Joins Go.Deep
set_option linter.unusedVariables false
set_option maxRecDepth 20000
theorem own : ownKnob Try.prog.godebug = none := by kernel_rfl
theorem laidOut : laidOutB Try.prog = true := by kernel_rfl
theorem held_sized {H : Type} {P : Program} {t : TypeId} {ts : List TypeId} {d : DataW H} {ds : List (DataW H)} {m : Nat} (hsz : (DataW.weightsEach P (t :: ts) (d :: ds)).all (· ≤ reachBytes) = true) (hm : m ∈ DataW.weights P t d) : m ≤ 140737488351232 := by
  have h := List.all_eq_true.1 hsz _ (DataW.weights_mem_each (j := 0) (t := t) (d := d) rfl rfl _ hm)
  exact of_decide_eq_true h
theorem mapM_some {α β : Type} (f : α → Option β) (l : List α) (cs : List β) (h : l.mapM f = some cs) : l.map f = cs.map some := by
  induction l generalizing cs with
  | nil => simp at h; subst h; rfl
  | cons x l ih =>
    rw [List.mapM_cons] at h
    cases hx : f x with
    | none => rw [hx] at h; simp at h
    | some y =>
      rw [hx] at h
      cases hl : l.mapM f with
      | none => rw [hl] at h; simp at h
      | some ys =>
        rw [hl] at h
        simp at h
        subst h
        simp [hx, ih ys hl]
theorem cells_each {W : World} {a : Addr} {n : Nat} {cs : List Value} (h : W.cells? 0 a n = some cs) : cs.length = n ∧ ∀ i, i < n → W.cell? (a.add i) = cs[i]? := by
  unfold World.cells? at h
  rw [if_pos (Nat.zero_le _)] at h
  have hm := mapM_some _ _ _ h
  have hlen : cs.length = n := by have := congrArg List.length hm; simpa using this.symm
  refine ⟨hlen, fun i hi => ?_⟩
  have := congrArg (fun l => l[i]?) hm
  simp only [List.getElem?_map, List.getElem?_range hi, Option.map_some] at this
  rw [List.getElem?_eq_getElem (by omega : i < cs.length)] at this ⊢
  simpa using this
theorem weightsAll_mem {H : Type} {P : Program} {e : TypeId} : ∀ {l : List (DataW H)} {d : DataW H}, d ∈ l → ∀ n ∈ d.weights P e, n ∈ DataW.weightsAll P e l
  | d' :: r, d, hd, n, hn => by
    simp only [DataW.weightsAll, List.mem_append]
    rcases List.mem_cons.1 hd with rfl | h
    · exact Or.inl hn
    · exact Or.inr (weightsAll_mem h n hn)
theorem open_list2 {H : Type} {enc : TypeId × Value → H} {P : Program} {w : World} {base : Nat} {spare : Nat → Bool} {held : Bool} {fuel : Nat} {t : TypeId} {f0 f1 : Go.Field} {cs : List Value} {y : DataW H × List MemPlace} (hs : P.underlying t = some (.struct #[f0, f1])) (hone : oneCellFields P #[f0, f1] = true) (hl : cs.length = 2)
    (h : DataW.trod enc P w base spare held fuel t cs = some y) :
    ∃ (c0 c1 : Value) (y0 y1 : DataW H × List MemPlace) (q : Nat), cs = [c0, c1] ∧ y.1 = .agg [y0.1, y1.1] ∧ DataW.trod enc P w base spare held q f0.type [c0] = some y0 ∧ DataW.trod enc P w base spare held q f1.type [c1] = some y1 := by
  match cs, hl with
  | [c0, c1], _ =>
    obtain ⟨xs, q, _, hx, _, hlen, hf⟩ := DataW.trod_struct hs h
    obtain ⟨o0, k0⟩ := hone_of hone 0 f0 rfl
    obtain ⟨o1, k1⟩ := hone_of hone 1 f1 rfl
    match xs, hlen with
    | [y0, y1], _ => exact ⟨c0, c1, y0, y1, q, rfl, by rw [hx]; rfl, by simpa [o0, k0] using hf 0 f0 rfl, by simpa [o1, k1] using hf 1 f1 rfl⟩
/-- a list of anything, opened -/
theorem open_gen {H : Type} {enc : TypeId × Value → H} {W : World} {n : Nat} {t e : TypeId} {s B : Nat} {v : Value} {y : DataW H × List MemPlace} {X : Type} (x0 : X) (Q : X → Prop) (G : X → Nat → Nat → Prop) (hu : Try.prog.underlying t = some (.slice e)) (hc : Try.prog.cellsOf e = s) (hs : 0 < s) (hB : Try.prog.bytesOf e = B)
    (hel : ∀ (cs : List Value) (d : DataW H × List MemPlace) (q : Nat), DataW.trod enc Try.prog W 0 (fun _ => true) true q e cs = some d → cs.length = s → (∀ m ∈ DataW.weights Try.prog e d.1, m ≤ 140737488351232) → ∃ x, Q x ∧ ∀ b off, (∀ j, j < s → W.cell? ⟨b, off + j, none⟩ = cs[j]?) → G x b off)
    (hf : DataW.trod enc Try.prog W 0 (fun _ => true) true n t [v] = some y) (hw : ∀ m ∈ DataW.weights Try.prog t y.1, m ≤ 140737488351232) :
    ∃ (a : Option Addr) (cap : Nat) (l : List X), v = .slice a l.length cap ∧ (l = [] ∨ ∃ b off, a = some ⟨b, off, none⟩ ∧ b < W.heap.size ∧ ∀ i x, l[i]? = some x → G x b (off + i * s)) ∧ (∀ x ∈ l, Q x) ∧ l.length * B ≤ 140737488351232 ∧ l.length ≤ 9223372036854775807 := by
  rcases open_slice hu hf with ⟨hcs, _⟩ | ⟨a, len, cap, m, q, D, P', hcs, _, hlc, hcm, hm, hy, heach⟩
  · cases hcs
    exact ⟨none, 0, [], rfl, .inl rfl, by simp, by simp, by simp⟩
  · cases hcs
    simp only [if_true] at hm
    by_cases h0 : len = 0
    · subst h0; exact ⟨some a, cap, [], rfl, .inl rfl, by simp, by simp, by simp⟩
    · rw [hc] at heach
      obtain ⟨b, off, spot⟩ := a
      have hplace : spot = none ∧ b < W.heap.size := by
        obtain ⟨cs', hc', _⟩ := heach 0 (by omega)
        obtain ⟨hl, he⟩ := cells_each hc'
        have h00 := he 0 (by omega)
        rw [List.getElem?_eq_getElem (by omega : 0 < cs'.length)] at h00
        have e00 : ((⟨b, off, spot⟩ : Addr).add (0 * s)).add 0 = ⟨b, off, spot⟩ := by simp [Addr.add]
        rw [e00] at h00
        exact ⟨World.cell?_spot h00, block_lt_of_cell h00⟩
      obtain ⟨rfl, hb⟩ := hplace
      have hx : ∀ i, ∃ z : X, i < len → Q z ∧ G z b (off + i * s) := by
        intro i
        by_cases hi : i < len
        · obtain ⟨cs', hc', ht'⟩ := heach i (by omega)
          obtain ⟨hl, hcell⟩ := cells_each hc'
          obtain ⟨x, hq, hg⟩ := hel cs' _ _ ht' hl (fun k hk => by
            refine hw k ?_
            rw [hy]
            simp only [DataW.weights, hu, List.mem_cons, List.mem_append]
            exact .inr (.inl (weightsAll_mem (d := D i) (List.mem_map.2 ⟨i, List.mem_range.2 hi, rfl⟩) k hk)))
          refine ⟨x, fun _ => ⟨hq, hg b (off + i * s) (fun j hj => ?_)⟩⟩
          have := hcell j hj
          rw [add_plain, add_plain] at this
          exact this
        · exact ⟨x0, fun h => absurd h hi⟩
      obtain ⟨f, hfx⟩ := Classical.axiomOfChoice hx
      have hL : ((List.range len).map f).length = len := by simp
      refine ⟨some ⟨b, off, none⟩, cap, (List.range len).map f, by rw [hL], .inr ⟨b, off, rfl, hb, fun i x hx => ?_⟩, fun x hx => ?_, ?_, by rw [hL]; simp only [maxLen] at hcm; omega⟩
      · have hi : i < len := by
          have := (List.getElem?_eq_some_iff.1 hx).1
          rw [hL] at this
          exact this
        rw [List.getElem?_map, List.getElem?_range hi] at hx
        obtain rfl : f i = x := by simpa using hx
        exact (hfx i hi).2
      · obtain ⟨i, hi, rfl⟩ := List.mem_map.1 hx
        exact (hfx i (List.mem_range.1 hi)).1
      · have hin : (((List.range len).map D).length + ((List.range (m - len)).map fun j => D (len + j)).length) * Try.prog.bytesOf e ∈ DataW.weights Try.prog t y.1 := by
          rw [hy]
          simp only [DataW.weights, hu]
          exact List.mem_cons_self ..
        have hle := hw _ hin
        rw [hB] at hle
        simp only [List.length_map, List.length_range] at hle
        rw [hL]
        refine Nat.le_trans (Nat.mul_le_mul_right B ?_) hle
        omega
theorem one_of {cs : List Value} (h : cs.length = 1) : ∃ v, cs = [v] := by
  match cs, h with
  | [v], _ => exact ⟨v, rfl⟩
/-- bytes that came in -/
def QT (l : List Nat) : Prop := (∀ c ∈ l, c < 256) ∧ l.length ≤ 140737488355328
theorem open_bytes {H : Type} {enc : TypeId × Value → H} {W : World} {n : Nat} {v : Value} {y : DataW H × List MemPlace} (hf : DataW.trod enc Try.prog W 0 (fun _ => true) true n 27 [v] = some y) (hw : ∀ m ∈ DataW.weights Try.prog 27 y.1, m ≤ 140737488351232) :
    ∃ (a : Option Addr) (cap : Nat) (l : List Nat), v = .slice a l.length cap ∧ Bytes W a l ∧ QT l := by
  obtain ⟨a, cap, l, h1, h2, h3, h4, -⟩ := open_gen (e := 5) (s := 1) (B := 1) 0 (fun c : Nat => c < 256) (fun c b off => W.cell? ⟨b, off, none⟩ = some (.int .u8 (c : Nat))) Try.underlying27 (by kernel_rfl) (by decide) (by kernel_rfl) (fun cs d q ht hl hwe => by
    obtain ⟨v, rfl⟩ := one_of hl
    obtain ⟨x, e, _, hx⟩ := DataW.trod_int Try.underlying5 ht
    cases e
    have hb := bounds_u8 hx
    refine ⟨x.toNat, by omega, fun b off hc => ?_⟩
    have := hc 0 (by omega)
    rw [Nat.add_zero] at this
    rw [this, Int.toNat_of_nonneg hb.1]
    rfl) hf hw
  refine ⟨a, cap, l, h1, ?_, h3, by omega⟩
  rcases h2 with h2 | ⟨b, off, e, hb, hc⟩
  · exact .inl h2
  · refine .inr ⟨b, off, e, hb, fun i hi => ?_⟩
    have := hc i _ (List.getElem?_eq_getElem hi)
    rw [Nat.mul_one] at this
    rw [this, List.getD_eq_getElem?_getD, List.getElem?_eq_getElem hi]
    rfl
theorem open_texts {H : Type} {enc : TypeId × Value → H} {W : World} {n : Nat} {v : Value} {y : DataW H × List MemPlace} (hf : DataW.trod enc Try.prog W 0 (fun _ => true) true n 42 [v] = some y) (hw : ∀ m ∈ DataW.weights Try.prog 42 y.1, m ≤ 140737488351232) :
    ∃ (a : Option Addr) (cap : Nat) (l : List (List Nat)), v = .slice a l.length cap ∧ BL W a l ∧ (∀ T ∈ l, QT T) ∧ l.length * 24 ≤ 140737488355328 := by
  obtain ⟨a, cap, l, h1, h2, h3, h4, -⟩ := open_gen (e := 27) (s := 1) (B := 24) [] QT (fun T b off => ∃ ai ci, W.cell? ⟨b, off, none⟩ = some (.slice ai T.length ci) ∧ Bytes W ai T) Try.underlying42 (by kernel_rfl) (by decide) (by kernel_rfl) (fun cs d q ht hl hwe => by
    obtain ⟨v, rfl⟩ := one_of hl
    obtain ⟨ai, ci, T, e, k1, k2⟩ := open_bytes ht hwe
    subst e
    refine ⟨T, k2, fun b off hc => ⟨ai, ci, ?_, k1⟩⟩
    have := hc 0 (by omega)
    rw [Nat.add_zero] at this
    rw [this]
    rfl) hf hw
  refine ⟨a, cap, l, h1, ?_, h3, by omega⟩
  rcases h2 with h2 | ⟨b, off, e, hb, hc⟩
  · exact .inl h2
  · refine .inr ⟨b, off, e, hb, fun i T hT => ?_⟩
    have := hc i T hT
    rw [Nat.mul_one] at this
    exact this
/-- a command that came in -/
def QA (x : Larder.ActI) : Prop := (∀ T ∈ x.2, QT T) ∧ x.2.length * 24 ≤ 140737488355328
theorem open_acts {H : Type} {enc : TypeId × Value → H} {W : World} {n : Nat} {v : Value} {y : DataW H × List MemPlace} (hf : DataW.trod enc Try.prog W 0 (fun _ => true) true n 39 [v] = some y) (hw : ∀ m ∈ DataW.weights Try.prog 39 y.1, m ≤ 140737488351232) :
    ∃ (a : Option Addr) (cap : Nat) (l : List Larder.ActI), v = .slice a l.length cap ∧ GrpI W a l ∧ Larder.SmallG l ∧ BdI l := by
  obtain ⟨a, cap, l, h1, h2, h3, h4, -⟩ := open_gen (e := 64) (s := 2) (B := 32) ((0, []) : Larder.ActI) QA (fun x b off => W.cell? ⟨b, off, none⟩ = some (.int .i64 x.1) ∧ ∃ xa xc, W.cell? ⟨b, off + 1, none⟩ = some (.slice xa x.2.length xc) ∧ BL W xa x.2) Try.underlying39 (by kernel_rfl) (by decide) (by kernel_rfl) (fun cs d q ht hl hwe => by
    obtain ⟨c0, c1, y0, y1, q', rfl, hd, t0, t1⟩ := open_list2 Try.underlying64 (by kernel_rfl) hl ht
    obtain ⟨x0, e0, _, w0⟩ := DataW.trod_int Try.underlying3 t0
    cases e0
    obtain ⟨xa, xc, T, e1, k1, k2, k3⟩ := open_texts t1 (fun k hk => by
      refine hwe k ?_
      rw [hd]
      simp only [DataW.weights, Try.underlying64]
      exact DataW.weights_mem_each (j := 1) (t := 42) (d := y1.1) rfl rfl _ hk)
    subst e1
    refine ⟨(x0, T), ⟨k2, k3⟩, fun b off hc => ⟨?_, xa, xc, ?_, k1⟩⟩
    · have := hc 0 (by omega)
      rw [Nat.add_zero] at this
      rw [this]
      rfl
    · have := hc 1 (by omega)
      rw [this]
      rfl) hf hw
  refine ⟨a, cap, l, h1, ?_, fun x hx t ht => ((h3 x hx).1 t ht).1, by omega, fun x hx => ⟨(h3 x hx).2, fun T hT => ((h3 x hx).1 T hT).2⟩⟩
  rcases h2 with h2 | ⟨b, off, e, hb, hc⟩
  · exact .inl h2
  · exact .inr ⟨b, off, e, hb, fun i x hx => hc i x hx⟩
theorem open_groups {H : Type} {enc : TypeId × Value → H} {W : World} {n : Nat} {v : Value} {y : DataW H × List MemPlace} (hf : DataW.trod enc Try.prog W 0 (fun _ => true) true n 23 [v] = some y) (hw : ∀ m ∈ DataW.weights Try.prog 23 y.1, m ≤ 140737488351232) :
    ∃ (a : Option Addr) (cap : Nat) (gs : List (List Larder.ActI)), v = .slice a gs.length cap ∧ GG W a gs ∧ (∀ g ∈ gs, Larder.SmallG g ∧ BdI g) ∧ gs.length ≤ 140737488355328 := by
  obtain ⟨a, cap, l, h1, h2, h3, h4, -⟩ := open_gen (e := 39) (s := 1) (B := 24) ([] : List Larder.ActI) (fun g => Larder.SmallG g ∧ BdI g) (fun g b off => ∃ xa xc, W.cell? ⟨b, off, none⟩ = some (.slice xa g.length xc) ∧ GrpI W xa g) Try.underlying23 (by kernel_rfl) (by decide) (by kernel_rfl) (fun cs d q ht hl hwe => by
    obtain ⟨v, rfl⟩ := one_of hl
    obtain ⟨xa, xc, g, e, k1, k2, k3⟩ := open_acts ht hwe
    subst e
    refine ⟨g, ⟨k2, k3⟩, fun b off hc => ⟨xa, xc, ?_, k1⟩⟩
    have := hc 0 (by omega)
    rw [Nat.add_zero] at this
    rw [this]
    rfl) hf hw
  refine ⟨a, cap, l, h1, ?_, h3, by omega⟩
  rcases h2 with h2 | ⟨b, off, e, hb, hc⟩
  · exact .inl h2
  · refine .inr ⟨b, off, e, hb, fun i x hx => ?_⟩
    have := hc i x hx
    rw [Nat.mul_one] at this
    exact this
theorem open_list7 {H : Type} {enc : TypeId × Value → H} {P : Program} {w : World} {base : Nat} {spare : Nat → Bool} {held : Bool} {fuel : Nat} {t : TypeId} {f0 f1 f2 f3 f4 f5 f6 : Go.Field} {cs : List Value} {y : DataW H × List MemPlace} (hs : P.underlying t = some (.struct #[f0, f1, f2, f3, f4, f5, f6])) (hone : oneCellFields P #[f0, f1, f2, f3, f4, f5, f6] = true) (hl : cs.length = 7)
    (h : DataW.trod enc P w base spare held fuel t cs = some y) :
    ∃ (c0 c1 c2 c3 c4 c5 c6 : Value) (y0 y1 y2 y3 y4 y5 y6 : DataW H × List MemPlace) (q : Nat), cs = [c0, c1, c2, c3, c4, c5, c6] ∧ y.1 = .agg [y0.1, y1.1, y2.1, y3.1, y4.1, y5.1, y6.1] ∧ DataW.trod enc P w base spare held q f0.type [c0] = some y0 ∧ DataW.trod enc P w base spare held q f1.type [c1] = some y1 ∧ DataW.trod enc P w base spare held q f2.type [c2] = some y2 ∧ DataW.trod enc P w base spare held q f3.type [c3] = some y3 ∧ DataW.trod enc P w base spare held q f4.type [c4] = some y4 ∧ DataW.trod enc P w base spare held q f5.type [c5] = some y5 ∧ DataW.trod enc P w base spare held q f6.type [c6] = some y6 := by
  match cs, hl with
  | [c0, c1, c2, c3, c4, c5, c6], _ =>
    obtain ⟨xs, q, _, hx, _, hlen, hf⟩ := DataW.trod_struct hs h
    obtain ⟨o0, k0⟩ := hone_of hone 0 f0 rfl
    obtain ⟨o1, k1⟩ := hone_of hone 1 f1 rfl
    obtain ⟨o2, k2⟩ := hone_of hone 2 f2 rfl
    obtain ⟨o3, k3⟩ := hone_of hone 3 f3 rfl
    obtain ⟨o4, k4⟩ := hone_of hone 4 f4 rfl
    obtain ⟨o5, k5⟩ := hone_of hone 5 f5 rfl
    obtain ⟨o6, k6⟩ := hone_of hone 6 f6 rfl
    match xs, hlen with
    | [y0, y1, y2, y3, y4, y5, y6], _ => exact ⟨c0, c1, c2, c3, c4, c5, c6, y0, y1, y2, y3, y4, y5, y6, q, rfl, by rw [hx]; rfl, by simpa [o0, k0] using hf 0 f0 rfl, by simpa [o1, k1] using hf 1 f1 rfl, by simpa [o2, k2] using hf 2 f2 rfl, by simpa [o3, k3] using hf 3 f3 rfl, by simpa [o4, k4] using hf 4 f4 rfl, by simpa [o5, k5] using hf 5 f5 rfl, by simpa [o6, k6] using hf 6 f6 rfl⟩
/-- a RecordCut that came in -/
theorem open_cut {H : Type} {enc : TypeId × Value → H} {W : World} {n : Nat} {cs : List Value} {y : DataW H × List MemPlace} (hf : DataW.trod enc Try.prog W 0 (fun _ => true) true n 25 cs = some y) (hw : ∀ m ∈ DataW.weights Try.prog 25 y.1, m ≤ 140737488351232) :
    ∃ (fi : Int) (st : Nat) (gra : Option Addr) (grc : Nat) (sy zs at_ : Int) (x : Nat) (gs : List (List Larder.ActI)), cs = [.int .i64 fi, .int .u64 (st : Nat), .slice gra gs.length grc, .int .i64 sy, .int .i64 zs, .int .i64 at_, .int .u64 (x : Nat)] ∧ st < 18446744073709551616 ∧ x < 18446744073709551616 ∧ GG W gra gs ∧ (∀ g ∈ gs, Larder.SmallG g ∧ BdI g) ∧ gs.length ≤ 140737488355328 := by
  have hl : cs.length = 7 := by
    obtain ⟨xs, n', _, hx, hl, hlen, hf'⟩ := DataW.trod_struct Try.underlying25 hf
    exact hl.trans (by kernel_rfl)
  obtain ⟨c0, c1, c2, c3, c4, c5, c6, y0, y1, y2, y3, y4, y5, y6, q, rfl, hd, t0, t1, t2, t3, t4, t5, t6⟩ := open_list7 Try.underlying25 (by kernel_rfl) hl hf
  obtain ⟨x0, e0, _, w0⟩ := DataW.trod_int Try.underlying2 t0
  obtain ⟨x1, e1, _, w1⟩ := DataW.trod_int Try.underlying22 t1
  obtain ⟨x3, e3, _, w3⟩ := DataW.trod_int Try.underlying3 t3
  obtain ⟨x4, e4, _, w4⟩ := DataW.trod_int Try.underlying3 t4
  obtain ⟨x5, e5, _, w5⟩ := DataW.trod_int Try.underlying3 t5
  obtain ⟨x6, e6, _, w6⟩ := DataW.trod_int Try.underlying22 t6
  obtain ⟨ga, gc, gs, e2, k1, k2, k3⟩ := open_groups t2 (fun k hk => by
    refine hw k ?_
    rw [hd]
    simp only [DataW.weights, Try.underlying25]
    exact DataW.weights_mem_each (j := 2) (t := 23) (d := y2.1) rfl rfl _ hk)
  cases e0
  cases e1
  cases e3
  cases e4
  cases e5
  cases e6
  subst e2
  have b1 := bounds_u64 w1
  have b6 := bounds_u64 w6
  refine ⟨x0, x1.toNat, ga, gc, x3, x4, x5, x6.toNat, gs, ?_, by omega, by omega, k1, k2, k3⟩
  rw [Int.toNat_of_nonneg b1.1, Int.toNat_of_nonneg b6.1]
end Go.Proofs.Ytljeedgnjgeopaa
