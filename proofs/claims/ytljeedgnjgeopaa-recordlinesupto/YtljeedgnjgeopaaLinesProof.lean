/- RecordLines, up to the bound: the row. -/
import Derived.Test.YtljeedgnjgeopaaLk
import Derived.Test.YtljeedgnjgeopaaZk
import Derived.JoinedCond
import Derived.HandedShaped
namespace Go.Proofs.Ytljeedgnjgeopaa
open Go.ChangeShapes Go.WideShapes Go.ChangeAt Go.RowKit Go.Joins Go.Deep
set_option linter.unusedVariables false
set_option maxRecDepth 20000
theorem bulk_one {H : Type} (d : DataW H) : 1 ≤ Rows.uptoBulk d := by
  cases d with
  | lit l => cases l <;> simp [Rows.uptoBulk]
  | _ => simp [Rows.uptoBulk]
theorem bulk_part {H : Type} {d : DataW H} {l : List (DataW H)} (h : d ∈ l) : Rows.uptoBulk d ≤ Rows.uptoBulkAll l := by
  induction l with
  | nil => cases h
  | cons x r ih =>
    simp only [Rows.uptoBulkAll]
    rcases List.mem_cons.1 h with e | e
    · subst e; omega
    · have := ih e; omega
theorem bulk_len {H : Type} (l : List (DataW H)) : l.length ≤ Rows.uptoBulkAll l := by
  induction l with
  | nil => simp
  | cons x r ih =>
    have := bulk_one x
    simp only [Rows.uptoBulkAll, List.length_cons]
    omega
theorem bulk_sum {H X : Type} (sz : X → Nat) (f : Nat → X) (D : Nat → DataW H) (L : List Nat) (h : ∀ i ∈ L, sz (f i) ≤ Rows.uptoBulk (D i)) : ((L.map f).map sz).sum ≤ Rows.uptoBulkAll (L.map D) := by
  induction L with
  | nil => simp [Rows.uptoBulkAll]
  | cons x r ih =>
    have h1 := h x List.mem_cons_self
    have h2 := ih (fun i hi => h i (List.mem_cons_of_mem _ hi))
    simp only [List.map_cons, List.sum_cons, Rows.uptoBulkAll]
    omega
/-- a list of anything, opened -/
theorem open_genB {H : Type} {enc : TypeId × Value → H} {W : World} {n : Nat} {t e : TypeId} {s : Nat} {v : Value} {y : DataW H × List MemPlace} {X : Type} (x0 : X) (Q : X → Prop) (sz : X → Nat) (G : X → Nat → Nat → Prop) (N : Nat) (hu : Try.prog.underlying t = some (.slice e)) (hc : Try.prog.cellsOf e = s) (hs : 0 < s)
    (hel : ∀ (cs : List Value) (d : DataW H × List MemPlace) (q : Nat), DataW.trod enc Try.prog W 0 (fun _ => true) true q e cs = some d → cs.length = s → Rows.uptoBulk d.1 ≤ N → ∃ x, Q x ∧ sz x ≤ Rows.uptoBulk d.1 ∧ ∀ b off, (∀ j, j < s → W.cell? ⟨b, off + j, none⟩ = cs[j]?) → G x b off)
    (hf : DataW.trod enc Try.prog W 0 (fun _ => true) true n t [v] = some y) (hN : Rows.uptoBulk y.1 ≤ N) :
    ∃ (a : Option Addr) (cap : Nat) (l : List X), v = .slice a l.length cap ∧ (l = [] ∨ ∃ b off, a = some ⟨b, off, none⟩ ∧ b < W.heap.size ∧ ∀ i x, l[i]? = some x → G x b (off + i * s)) ∧ (∀ x ∈ l, Q x) ∧ (l.map sz).sum ≤ Rows.uptoBulk y.1 ∧ l.length ≤ Rows.uptoBulk y.1 := by
  rcases open_slice hu hf with ⟨hcs, _⟩ | ⟨a, len, cap, m, q, D, P', hcs, _, hlc, hcm, hm, hy, heach⟩
  · cases hcs
    exact ⟨none, 0, [], rfl, .inl rfl, by simp, by simp, by simp⟩
  · cases hcs
    simp only [if_true] at hm
    by_cases h0 : len = 0
    · subst h0; exact ⟨some a, cap, [], rfl, .inl rfl, by simp, by simp, by simp⟩
    · rw [hc] at heach
      have hbD : Rows.uptoBulkAll ((List.range len).map D) ≤ Rows.uptoBulk y.1 := by
        rw [hy]
        simp only [Rows.uptoBulk]
        omega
      obtain ⟨b, off, spot⟩ := a
      have hplace : spot = none ∧ b < W.heap.size := by
        obtain ⟨cs', hc', _⟩ := heach 0 (by omega)
        obtain ⟨hl, he⟩ := cells_each hc'
        have h00 := he 0 (by omega)
        rw [List.getElem?_eq_getElem (by omega : 0 < cs'.length)] at h00
        have e00 : ((⟨b, off, spot⟩ : Addr).add (0 * s)).add 0 = ⟨b, off, spot⟩ := by simp [Addr.add]
        rw [e00] at h00
        exact ⟨World.cell?_spot h00, block_lt_of_cell h00⟩
      obtain ⟨rfl, hb⟩ := hplace
      have hx : ∀ i, ∃ z : X, i < len → Q z ∧ sz z ≤ Rows.uptoBulk (D i) ∧ G z b (off + i * s) := by
        intro i
        by_cases hi : i < len
        · obtain ⟨cs', hc', ht'⟩ := heach i (by omega)
          obtain ⟨hl, hcell⟩ := cells_each hc'
          obtain ⟨x, hq, hz, hg⟩ := hel cs' _ _ ht' hl (by
            have h1 : D i ∈ (List.range len).map D := List.mem_map_of_mem (List.mem_range.2 hi)
            have h2 := bulk_part h1
            show Rows.uptoBulk (D i) ≤ N
            omega)
          refine ⟨x, fun _ => ⟨hq, hz, hg b (off + i * s) (fun j hj => ?_)⟩⟩
          have := hcell j hj
          rw [add_plain, add_plain] at this
          exact this
        · exact ⟨x0, fun h => absurd h hi⟩
      obtain ⟨f, hfx⟩ := Classical.axiomOfChoice hx
      have hL : ((List.range len).map f).length = len := by simp
      refine ⟨some ⟨b, off, none⟩, cap, (List.range len).map f, by rw [hL], .inr ⟨b, off, rfl, hb, fun i x hx => ?_⟩, fun x hx => ?_, ?_, ?_⟩
      · have hi : i < len := by
          have := (List.getElem?_eq_some_iff.1 hx).1
          rw [hL] at this
          exact this
        rw [List.getElem?_map, List.getElem?_range hi] at hx
        obtain rfl : f i = x := by simpa using hx
        exact (hfx i hi).2.2
      · obtain ⟨i, hi, rfl⟩ := List.mem_map.1 hx
        exact (hfx i (List.mem_range.1 hi)).1
      · exact Nat.le_trans (bulk_sum sz f D _ (fun i hi => (hfx i (List.mem_range.1 hi)).2.1)) hbD
      · rw [hL]
        have h1 := bulk_len ((List.range len).map D)
        rw [List.length_map, List.length_range] at h1
        omega
theorem open_bytesB {H : Type} {enc : TypeId × Value → H} {W : World} {n N : Nat} {v : Value} {y : DataW H × List MemPlace} (hf : DataW.trod enc Try.prog W 0 (fun _ => true) true n 27 [v] = some y) (hN : Rows.uptoBulk y.1 ≤ N) :
    ∃ (a : Option Addr) (cap : Nat) (l : List Nat), v = .slice a l.length cap ∧ Bytes W a l ∧ (∀ c ∈ l, c < 256) ∧ l.length ≤ Rows.uptoBulk y.1 := by
  obtain ⟨a, cap, l, h1, h2, h3, h4, h5⟩ := open_genB (e := 5) (s := 1) 0 (fun c : Nat => c < 256) (fun _ => 0) (fun c b off => W.cell? ⟨b, off, none⟩ = some (.int .u8 (c : Nat))) N Try.underlying27 (by kernel_rfl) (by decide) (fun cs d q ht hl hwe => by
    obtain ⟨v, rfl⟩ := one_of hl
    obtain ⟨x, e, _, hx⟩ := DataW.trod_int Try.underlying5 ht
    cases e
    have hb := bounds_u8 hx
    refine ⟨x.toNat, by omega, Nat.zero_le _, fun b off hc => ?_⟩
    have := hc 0 (by omega)
    rw [Nat.add_zero] at this
    rw [this, Int.toNat_of_nonneg hb.1]
    rfl) hf hN
  refine ⟨a, cap, l, h1, ?_, h3, h5⟩
  rcases h2 with h2 | ⟨b, off, e, hb, hc⟩
  · exact .inl h2
  · refine .inr ⟨b, off, e, hb, fun i hi => ?_⟩
    have := hc i _ (List.getElem?_eq_getElem hi)
    rw [Nat.mul_one] at this
    rw [this, List.getD_eq_getElem?_getD, List.getElem?_eq_getElem hi]
    rfl
theorem open_textsB {H : Type} {enc : TypeId × Value → H} {W : World} {n N : Nat} {v : Value} {y : DataW H × List MemPlace} (hf : DataW.trod enc Try.prog W 0 (fun _ => true) true n 42 [v] = some y) (hN : Rows.uptoBulk y.1 ≤ N) :
    ∃ (a : Option Addr) (cap : Nat) (l : List (List Nat)), v = .slice a l.length cap ∧ BL W a l ∧ (∀ T ∈ l, (∀ c ∈ T, c < 256) ∧ T.length ≤ N) ∧ l.length ≤ Rows.uptoBulk y.1 := by
  obtain ⟨a, cap, l, h1, h2, h3, h4, h5⟩ := open_genB (e := 27) (s := 1) [] (fun T : List Nat => (∀ c ∈ T, c < 256) ∧ T.length ≤ N) (fun _ => 0) (fun T b off => ∃ ai ci, W.cell? ⟨b, off, none⟩ = some (.slice ai T.length ci) ∧ Bytes W ai T) N Try.underlying42 (by kernel_rfl) (by decide) (fun cs d q ht hl hwe => by
    obtain ⟨v, rfl⟩ := one_of hl
    obtain ⟨ai, ci, T, e, k1, k2, k3⟩ := open_bytesB ht hwe
    subst e
    refine ⟨T, ⟨k2, by omega⟩, Nat.zero_le _, fun b off hc => ⟨ai, ci, ?_, k1⟩⟩
    have := hc 0 (by omega)
    rw [Nat.add_zero] at this
    rw [this]
    rfl) hf hN
  refine ⟨a, cap, l, h1, ?_, h3, h5⟩
  rcases h2 with h2 | ⟨b, off, e, hb, hc⟩
  · exact .inl h2
  · refine .inr ⟨b, off, e, hb, fun i T hT => ?_⟩
    have := hc i T hT
    rw [Nat.mul_one] at this
    exact this
theorem open_actsB {H : Type} {enc : TypeId × Value → H} {W : World} {n N : Nat} {v : Value} {y : DataW H × List MemPlace} (hf : DataW.trod enc Try.prog W 0 (fun _ => true) true n 39 [v] = some y) (hN : Rows.uptoBulk y.1 ≤ N) (hN2 : N ≤ 1048576) :
    ∃ (a : Option Addr) (cap : Nat) (l : List Larder.ActI), v = .slice a l.length cap ∧ GrpI W a l ∧ Larder.SmallG l ∧ BdL l ∧ BdB l := by
  obtain ⟨a, cap, l, h1, h2, h3, h4, h5⟩ := open_genB (e := 64) (s := 2) ((0, []) : Larder.ActI) (fun x : Larder.ActI => (∀ T ∈ x.2, (∀ c ∈ T, c < 256) ∧ T.length ≤ N) ∧ x.2.length ≤ N) (fun x => x.2.length) (fun x b off => W.cell? ⟨b, off, none⟩ = some (.int .i64 x.1) ∧ ∃ xa xc, W.cell? ⟨b, off + 1, none⟩ = some (.slice xa x.2.length xc) ∧ BL W xa x.2) N Try.underlying39 (by kernel_rfl) (by decide) (fun cs d q ht hl hwe => by
    obtain ⟨c0, c1, y0, y1, q', rfl, hd, t0, t1⟩ := open_list2 Try.underlying64 (by kernel_rfl) hl ht
    obtain ⟨x0, e0, _, w0⟩ := DataW.trod_int Try.underlying3 t0
    cases e0
    have hb1 : Rows.uptoBulk y1.1 ≤ Rows.uptoBulk d.1 := by
      rw [hd]
      simp only [Rows.uptoBulk, Rows.uptoBulkAll]
      omega
    obtain ⟨xa, xc, T, e1, k1, k2, k3⟩ := open_textsB (N := N) t1 (by omega)
    subst e1
    refine ⟨(x0, T), ⟨k2, by show T.length ≤ N; omega⟩, by show T.length ≤ _; omega, fun b off hc => ⟨?_, xa, xc, ?_, k1⟩⟩
    · have := hc 0 (by omega)
      rw [Nat.add_zero] at this
      rw [this]
      rfl
    · have := hc 1 (by omega)
      rw [this]
      rfl) hf hN
  have hfl : (l.flatMap (·.2)).length ≤ N := by
    have e : (l.flatMap (·.2)).length = (l.map (fun x : Larder.ActI => x.2.length)).sum := by
      rw [List.length_flatMap]
    exact Nat.le_trans (Nat.le_of_eq e) (Nat.le_trans h4 hN)
  have hf24 : (l.flatMap (·.2)).length * 24 ≤ 140737488355328 := Nat.le_trans (Nat.mul_le_mul_right 24 hfl) (by omega)
  refine ⟨a, cap, l, h1, ?_, fun x hx t ht => ((h3 x hx).1 t ht).1, ⟨by omega, hf24, fun x hx T hT => ?_⟩, ⟨by omega, fun x hx => ⟨?_, fun T hT => ?_⟩⟩⟩
  · rcases h2 with h2 | ⟨b, off, e, hb, hc⟩
    · exact .inl h2
    · exact .inr ⟨b, off, e, hb, fun i x hx => hc i x hx⟩
  · have := ((h3 x hx).1 T hT).2
    omega
  · have := (h3 x hx).2
    omega
  · have := ((h3 x hx).1 T hT).2
    omega
theorem open_list3 {H : Type} {enc : TypeId × Value → H} {P : Program} {w : World} {base : Nat} {spare : Nat → Bool} {held : Bool} {fuel : Nat} {t : TypeId} {f0 f1 f2 : Go.Field} {cs : List Value} {y : DataW H × List MemPlace} (hs : P.underlying t = some (.struct #[f0, f1, f2])) (hone : oneCellFields P #[f0, f1, f2] = true) (hl : cs.length = 3)
    (h : DataW.trod enc P w base spare held fuel t cs = some y) :
    ∃ (c0 c1 c2 : Value) (y0 y1 y2 : DataW H × List MemPlace) (q : Nat), cs = [c0, c1, c2] ∧ y.1 = .agg [y0.1, y1.1, y2.1] ∧ DataW.trod enc P w base spare held q f0.type [c0] = some y0 ∧ DataW.trod enc P w base spare held q f1.type [c1] = some y1 ∧ DataW.trod enc P w base spare held q f2.type [c2] = some y2 := by
  match cs, hl with
  | [c0, c1, c2], _ =>
    obtain ⟨xs, q, _, hx, _, hlen, hf⟩ := DataW.trod_struct hs h
    obtain ⟨o0, k0⟩ := hone_of hone 0 f0 rfl
    obtain ⟨o1, k1⟩ := hone_of hone 1 f1 rfl
    obtain ⟨o2, k2⟩ := hone_of hone 2 f2 rfl
    match xs, hlen with
    | [y0, y1, y2], _ => exact ⟨c0, c1, c2, y0, y1, y2, q, rfl, by rw [hx]; rfl, by simpa [o0, k0] using hf 0 f0 rfl, by simpa [o1, k1] using hf 1 f1 rfl, by simpa [o2, k2] using hf 2 f2 rfl⟩
theorem open_entries {H : Type} {enc : TypeId × Value → H} {W : World} {n : Nat} {v : Value} {y : DataW H × List MemPlace} (hf : DataW.trod enc Try.prog W 0 (fun _ => true) true n 26 [v] = some y) (hN : Rows.uptoBulk y.1 ≤ 1048576) :
    ∃ (a : Option Addr) (cap : Nat) (l : List Larder.EntI), v = .slice a l.length cap ∧ EI W a l ∧ (∀ x ∈ l, QE x) := by
  obtain ⟨a, cap, l, h1, h2, h3, h4, h5⟩ := open_genB (e := 41) (s := 3) (⟨0, 0, []⟩ : Larder.EntI) QE (fun _ => 0) (fun x b off => W.cell? ⟨b, off, none⟩ = some (.int .i64 x.seq) ∧ W.cell? ⟨b, off + 1, none⟩ = some (.int .u64 (x.now : Nat)) ∧ ∃ xa xc, W.cell? ⟨b, off + 2, none⟩ = some (.slice xa x.group.length xc) ∧ GrpI W xa x.group) 1048576 Try.underlying26 (by kernel_rfl) (by decide) (fun cs d q ht hl hwe => by
    obtain ⟨c0, c1, c2, y0, y1, y2, q', rfl, hd, t0, t1, t2⟩ := open_list3 Try.underlying41 (by kernel_rfl) hl ht
    obtain ⟨x0, e0, _, w0⟩ := DataW.trod_int Try.underlying2 t0
    obtain ⟨x1, e1, _, w1⟩ := DataW.trod_int Try.underlying22 t1
    cases e0
    cases e1
    have b0 := bounds_i64 w0
    have b1 := bounds_u64 w1
    have hb1 : Rows.uptoBulk y2.1 ≤ Rows.uptoBulk d.1 := by
      rw [hd]
      simp only [Rows.uptoBulk, Rows.uptoBulkAll]
      omega
    obtain ⟨xa, xc, T, e2, k1, k2, k3, k4⟩ := open_actsB (N := 1048576) t2 (by omega) (by omega)
    subst e2
    refine ⟨⟨x0, x1.toNat, T⟩, ⟨by show x0 < _; omega, k3, k4, k2⟩, Nat.zero_le _, fun b off hc => ⟨?_, ?_, xa, xc, ?_, k1⟩⟩
    · have := hc 0 (by omega)
      rw [Nat.add_zero] at this
      rw [this]
      rfl
    · have := hc 1 (by omega)
      rw [this]
      show some (Value.int .u64 x1) = some (.int .u64 ((x1.toNat : Nat) : Int))
      rw [Int.toNat_of_nonneg b1.1]
    · have := hc 2 (by omega)
      rw [this]
      rfl) hf hN
  refine ⟨a, cap, l, h1, ?_, h3⟩
  rcases h2 with h2 | ⟨b, off, e, hb, hc⟩
  · exact .inl h2
  · exact .inr ⟨b, off, e, hb, fun i x hx => hc i x hx⟩
end Go.Proofs.Ytljeedgnjgeopaa
namespace Go.Proofs.Ytljeedgnjgeopaa.RecordLines
open Go.ChangeShapes Go.WideShapes Go.ChangeAt Go.RowKit Go.Joins Go.Deep
set_option linter.unusedVariables false
set_option maxRecDepth 100000
/-- a condition of the specification's own, and the world's shape, both handed on -/
theorem wrap_cond_shaped {H : Type} {enc : TypeId × Value → H} {a : Assume} {C : Checked} {os : Os} {f : FuncId} {fn : Func} {s : OpenSpec} {k : (H : Type) → List (DataW H) → Bool} (hk : s.cond = some k) {F : Stop.Interp} {conds : List PathCond} {apart fresh handsOn again : Bool}
    (own : ownKnob C.prog.godebug = none) (started : os.Started) (noInit : C.prog.inits.idxOf? f = none) (hfn : C.prog.funcs[f]? = some fn)
    (witness : ∃ (w : World) (tape : Tape) (i : Input), w.os = os ∧ (w.forCall tape i).Shaped C.prog ∧ i.vars = [] ∧ Input.okWide C.prog (w.forCall tape i) .any w.heap.size f i ∧
      s.pre6 enc C.prog fn conds apart (w.forCall tape i).memory i.args ∧ a.holds C.prog (lone (Frame.enter C.prog f i.args .normal) [] (w.forCall tape i)))
    (contract : ∀ (W : World) (base : Nat) (args : Array Value) (ds gs : List (DataW H)) (before : List MemPlace),
      (∀ (j : Nat) t v, fn.params[j]? = some t → args[j]? = some v → Value.okWide C.prog W .any base t v) →
      DataW.Whole enc C.prog fn.params.toList s.vars apart W args.toList ds gs before →
      k H (ds ++ gs) = true → W.ShapedOpen C.prog →
      Calls C.prog f args W fun e W' => ∃ v, e = .returned v ∧ (s.at F).post enc C.prog fn apart fresh handsOn again W args v W') :
    ReturnsInHanded a C os f .any (s.pre6 enc C.prog fn conds apart) ((s.at F).post enc C.prog fn apart fresh handsOn again) := by
  refine returnsInHanded_of_calls own started noInit witness ?_
  intro w tape i _ hsh _ hok hpre hholds
  obtain ⟨_, _, _, fn', hfn', _, _, _, _, hval⟩ := hok
  have e : fn' = fn := Option.some.inj (hfn'.symm.trans hfn)
  subst e
  obtain ⟨ds, gs, before, hw, hc, hkk⟩ := (OpenSpec.pre_some hk conds apart _ _).1 hpre.1
  have hw' := DataW.Whole.of_heap (w' := w.forCall tape i) (by rfl) hw
  refine (contract (w.forCall tape i) w.heap.size i.args ds gs before hval hw' hkk hsh).mono fun e W' ⟨v, he, hp⟩ => ?_
  subst he
  exact ChangeSpec.post_blind hp

theorem lifted (os : Os) (started : os.Started) (H : Type) (enc : TypeId × Value → H) (F : Stop.Interp) :
    ReturnsInHanded {} Try.checked os 5 .any ((Rows.OpenSpec.upto Rows.recordLinesSpec).pre6 enc Try.prog Try.f5 Rows.recordLinesUptoRow.domain false) (((Rows.OpenSpec.upto Rows.recordLinesSpec).at F).post enc Try.prog Try.f5 false true false false) := by
  refine wrap_cond_shaped (C := Try.checked) (s := Rows.OpenSpec.upto Rows.recordLinesSpec) (k := Rows.uptoSmall) rfl own started (by kernel_rfl) Try.func5
    (OpenSpec.witness (enc := enc) (C := Try.checked) (s := Rows.OpenSpec.upto Rows.recordLinesSpec) (k := Rows.uptoSmall) rfl false ⟨#[], #[.slice none 0 0], []⟩ 8 (by kernel_rfl) (by kernel_rfl) (by kernel_rfl)
      (x := ([.nil], [], [])) (by kernel_rfl) rfl (by kernel_rfl)) ?_
  intro W base args ds gs before hval0 hW hk hsh
  have hval : ∀ (j : Nat) t v, Try.f5.params[j]? = some t → args[j]? = some v → Value.okWide Try.prog W .any base t v := hval0
  have hW' := hW
  obtain ⟨p, q, hA0, hV, rfl, hfz, hnd⟩ := hW
  have hA : DataW.TrodAll enc Try.prog W 0 (fun _ => true) true Try.f5.params.toList args.toList ds p := hA0
  rw [Try.params5] at hA hval
  obtain ⟨v0, vs0, d0, ds0, p0, q0, hargs, rfl, rfl, h0, r0⟩ := trodAll_cons hA
  obtain ⟨rfl, rfl, rfl⟩ := trodAll_nil r0
  obtain rfl : args = #[v0] := by cases args; simp_all
  obtain ⟨rfl, rfl⟩ := trodVars_none hV
  have k0 := h0
  have lt0 : ∀ x ∈ p0, x.block < W.heap.size := by obtain ⟨m, hm⟩ := k0; exact DataW.trod_lt m _ _ _ hm
  obtain ⟨xa0, xl0, xc0, rfl⟩ : ∃ a l c, v0 = .slice a l c := okWide_slice Try.underlying26 (hval 0 26 v0 rfl rfl)
  obtain ⟨fuel, hf0⟩ := h0
  have hbulk : Rows.uptoBulk d0 ≤ 1048576 := by
    have h1 : Rows.uptoBulkAll ([d0] ++ []) ≤ 1048576 := of_decide_eq_true hk
    simp only [List.append_nil, Rows.uptoBulkAll] at h1
    omega
  obtain ⟨a, cap, l, he, hl, hok⟩ := open_entries hf0 hbulk
  cases he
  clear hA0 hval0
  have hlaw := lines_law W xa0 l.length xc0 l rfl hl hok
  refine hlaw.mono fun e W' ⟨he2, bel0⟩ => ?_
  have bel := unhide bel0
  subst he2
  exact ⟨_, rfl, _, _, _, [], _, [], hW', trodAll_mk1 (shut_bool Try.underlying4 _), (trodAll_cons_mk (Below.trod laidOut (by kernel_rfl) (of_decide_eq_true (by kernel_rfl)) k0 bel lt0) trodAll_mk0), rfl, bel.frame _, fun h => by cases h⟩

theorem over : Rows.RecordLinesUptoSaid :=
  OpenClaim.holds_of_cond 5 Try.f5 rfl rfl rfl rfl rfl rfl rfl ⟨rfl, rfl, rfl, rfl, rfl⟩ rfl rfl rfl rfl rfl (by kernel_rfl) Try.func5 (by kernel_rfl)
    (of_decide_eq_true (by kernel_rfl)) (by unfold Func.isWrapper; first | (rw [if_pos (by decide +kernel)]; kernel_rfl) | (rw [if_neg (by decide +kernel)]; exact ⟨rfl, rfl⟩))
    (fun os started H enc _ F => lifted os started H enc F)
end Go.Proofs.Ytljeedgnjgeopaa.RecordLines
namespace Go.Proofs.Ytljeedgnjgeopaa
theorem recordLines_upto : Rows.RecordLinesUptoSaid := RecordLines.over
end Go.Proofs.Ytljeedgnjgeopaa
