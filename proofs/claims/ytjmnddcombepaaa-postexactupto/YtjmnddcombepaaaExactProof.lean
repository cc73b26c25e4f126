/- PostExact, up to the bound: the row. -/
import Derived.Test.YtjmnddcombepaaaDz
import Derived.Test.YtjmnddcombepaaaPos
import Derived.JoinedCond
import Derived.HandedShaped
namespace Go.Proofs.Ytjmnddcombepaaa.PostExact
open Go.ChangeShapes Go.WideShapes Go.ChangeAt Go.RowKit Go.Joins Go.Deep
set_option linter.unusedVariables false
set_option maxRecDepth 100000
/-- a condition of the specification's own, and the world's shape, both handed on -/
theorem wrap_cond_shaped {H : Type} {enc : TypeId × Value → H} {a : Assume} {C : Checked} {os : Os} {f : FuncId} {fn : Func} {s : OpenSpec} {k : (H : Type) → List (DataW H) → Bool} (hk : s.cond = some k) {F : Stop.Interp} {conds : List PathCond} {apart fresh handsOn again : Bool}
    (own : ownKnob C.prog.godebug = none) (started : os.Started) (noInit : C.prog.inits.idxOf? f = none) (hfn : C.prog.funcs[f]? = some fn)
    (witness : ∃ (w : World) (tape : Tape) (i : Input), w.os = os ∧ (w.forCall tape i).Shaped C.prog ∧ i.vars = [] ∧ Input.okWide C.prog (w.forCall tape i) .any w.heap.size f i ∧
      s.pre6 enc C.prog fn conds apart (w.forCall tape i).memory i.args ∧ a.holds C.prog (lone (Frame.enter C.prog f i.args .normal) [] (w.forCall tape i)))
    (contract : ∀ (W : World) (base : Nat) (args : Array Value) (ds gs : List (DataW H)) (before : List MemPlace),
      (∀ (j : Nat) t v, fn.params[j]? = some t → args[j]? = some v → Value.okWide C.prog W .any base t v) →
      DataW.Whole enc C.prog fn.params.toList s.vars apart W args.toList ds gs before →
      k H (ds ++ gs) = true → W.ShapedOpen C.prog →
      Calls C.prog f args W fun e W' => ∃ v, e = .returned v ∧ (s.at F).post enc C.prog fn apart fresh handsOn again W args v W') :
    ReturnsInHanded a C os f .any (s.pre6 enc C.prog fn conds apart) ((s.at F).post enc C.prog fn apart fresh handsOn again) := by
  refine returnsInHanded_of_calls own started noInit witness ?_
  intro w tape i _ hsh _ hok hpre hholds
  obtain ⟨_, _, _, fn', hfn', _, _, _, _, hval⟩ := hok
  have e : fn' = fn := Option.some.inj (hfn'.symm.trans hfn)
  subst e
  obtain ⟨ds, gs, before, hw, hc, hkk⟩ := (OpenSpec.pre_some hk conds apart _ _).1 hpre.1
  have hw' := DataW.Whole.of_heap (w' := w.forCall tape i) (by rfl) hw
  refine (contract (w.forCall tape i) w.heap.size i.args ds gs before hval hw' hkk hsh).mono fun e W' ⟨v, he, hp⟩ => ?_
  subst he
  exact ChangeSpec.post_blind hp

theorem bulk_one {H : Type} (d : DataW H) : 1 ≤ Rows.uptoBulk d := by
  cases d with
  | lit l => cases l <;> simp [Rows.uptoBulk]
  | _ => simp [Rows.uptoBulk]
theorem bulk_part {H : Type} {d : DataW H} {l : List (DataW H)} (h : d ∈ l) : Rows.uptoBulk d ≤ Rows.uptoBulkAll l := by
  induction l with
  | nil => cases h
  | cons x r ih =>
    simp only [Rows.uptoBulkAll]
    rcases List.mem_cons.1 h with e | e
    · subst e; omega
    · have := ih e; omega
theorem bulk_len {H : Type} (l : List (DataW H)) : l.length ≤ Rows.uptoBulkAll l := by
  induction l with
  | nil => simp
  | cons x r ih =>
    have := bulk_one x
    simp only [Rows.uptoBulkAll, List.length_cons]
    omega
theorem bulk_slice {H : Type} (el sp : List (DataW H)) : el.length ≤ Rows.uptoBulk (.slice el sp) := by
  have := bulk_len el
  simp only [Rows.uptoBulk]
  omega
theorem open_list5 {H : Type} {enc : TypeId × Value → H} {P : Program} {w : World} {base : Nat} {spare : Nat → Bool} {held : Bool} {fuel : Nat} {t : TypeId} {f0 f1 f2 f3 f4 : Go.Field} {cs : List Value} {y : DataW H × List MemPlace} (hs : P.underlying t = some (.struct #[f0, f1, f2, f3, f4])) (hone : oneCellFields P #[f0, f1, f2, f3, f4] = true) (hl : cs.length = 5)
    (h : DataW.trod enc P w base spare held fuel t cs = some y) :
    ∃ (c0 c1 c2 c3 c4 : Value) (y0 y1 y2 y3 y4 : DataW H × List MemPlace) (q : Nat), cs = [c0, c1, c2, c3, c4] ∧ y.1 = .agg [y0.1, y1.1, y2.1, y3.1, y4.1] ∧ DataW.trod enc P w base spare held q f0.type [c0] = some y0 ∧ DataW.trod enc P w base spare held q f1.type [c1] = some y1 ∧ DataW.trod enc P w base spare held q f2.type [c2] = some y2 ∧ DataW.trod enc P w base spare held q f3.type [c3] = some y3 ∧ DataW.trod enc P w base spare held q f4.type [c4] = some y4 := by
  match cs, hl with
  | [c0, c1, c2, c3, c4], _ =>
    obtain ⟨xs, q, _, hx, _, hlen, hf⟩ := DataW.trod_struct hs h
    obtain ⟨o0, k0⟩ := hone_of hone 0 f0 rfl
    obtain ⟨o1, k1⟩ := hone_of hone 1 f1 rfl
    obtain ⟨o2, k2⟩ := hone_of hone 2 f2 rfl
    obtain ⟨o3, k3⟩ := hone_of hone 3 f3 rfl
    obtain ⟨o4, k4⟩ := hone_of hone 4 f4 rfl
    match xs, hlen with
    | [y0, y1, y2, y3, y4], _ => exact ⟨c0, c1, c2, c3, c4, y0, y1, y2, y3, y4, q, rfl, by rw [hx]; rfl, by simpa [o0, k0] using hf 0 f0 rfl, by simpa [o1, k1] using hf 1 f1 rfl, by simpa [o2, k2] using hf 2 f2 rfl, by simpa [o3, k3] using hf 3 f3 rfl, by simpa [o4, k4] using hf 4 f4 rfl⟩
theorem cells66 : Try.prog.cellsOf 66 = 5 := by kernel_rfl
/-- a script, opened, of bounded bulk -/
theorem open_ops {H : Type} {enc : TypeId × Value → H} {W : World} {n : Nat} {v : Value} {y : DataW H × List MemPlace} (hf : DataW.trod enc Try.prog W 0 (fun _ => true) true n 53 [v] = some y) (hbk : Rows.uptoBulk y.1 ≤ 1048576) :
    ∃ (a : Option Addr) (cap : Nat) (l : List OpE), v = .slice a l.length cap ∧ OpsAt W a l ∧ (∀ x ∈ l, OpOk W x) := by
  rcases open_slice Try.underlying53 hf with ⟨hcs, _⟩ | ⟨a, len, cap, m, q, D, Pl, hcs, _, hlc, _, hm, hy, heach⟩
  · cases hcs
    exact ⟨_, 0, [], rfl, .inl rfl, by simp⟩
  · cases hcs
    simp only [if_true] at hm
    by_cases h0 : len = 0
    · subst h0; exact ⟨some a, cap, [], rfl, .inl rfl, by simp⟩
    · rw [cells66] at heach
      have hbD : ∀ i, i < len → Rows.uptoBulk (D i) ≤ 1048576 := fun i hi => by
        have h1 : D i ∈ (List.range len).map D := List.mem_map_of_mem (List.mem_range.2 hi)
        have h2 := bulk_part h1
        rw [hy] at hbk
        simp only [Rows.uptoBulk] at hbk
        omega
      obtain ⟨b, off, spot⟩ := a
      have hplace : spot = none ∧ b < W.heap.size := by
        obtain ⟨cs', hc, _⟩ := heach 0 (by omega)
        obtain ⟨hl, he⟩ := cells_each hc
        have h00 := he 0 (by omega)
        rw [List.getElem?_eq_getElem (by omega : 0 < cs'.length)] at h00
        have e00 : ((⟨b, off, spot⟩ : Addr).add (0 * 5)).add 0 = ⟨b, off, spot⟩ := by simp [Addr.add]
        rw [e00] at h00
        exact ⟨World.cell?_spot h00, block_lt_of_cell h00⟩
      obtain ⟨rfl, hb⟩ := hplace
      have hx : ∀ i, ∃ x : OpE, i < len → (W.cell? ⟨b, off + i * 5, none⟩ = some (.int .i64 x.kd) ∧ W.cell? ⟨b, off + i * 5 + 1, none⟩ = some (.int .i64 x.on) ∧ W.cell? ⟨b, off + i * 5 + 2, none⟩ = some (.int .i64 x.cn) ∧ W.cell? ⟨b, off + i * 5 + 3, none⟩ = some (.slice x.na x.T.length x.nc) ∧ W.cell? ⟨b, off + i * 5 + 4, none⟩ = some (.bool x.pt)) ∧ OpOk W x := by
        intro i
        by_cases hi : i < len
        · obtain ⟨cs', hc, ht'⟩ := heach i (by omega)
          obtain ⟨hl, hcell⟩ := cells_each hc
          obtain ⟨c0, c1, c2, c3, c4, y0, y1, y2, y3, y4, q', rfl, hagg, t0, t1, t2, t3, t4⟩ := open_list5 Try.underlying66 (by kernel_rfl) hl ht'
          obtain ⟨x0, e0, _, w0⟩ := DataW.trod_int Try.underlying3 t0
          obtain ⟨x1, e1, _, w1⟩ := DataW.trod_int Try.underlying3 t1
          obtain ⟨x2, e2, _, w2⟩ := DataW.trod_int Try.underlying3 t2
          obtain ⟨na, nc, L, e3, hN, hcp, hS, hcy⟩ := open_bytes t3
          obtain ⟨x4, e4, _⟩ := DataW.trod_bool Try.underlying4 t4
          cases e0
          cases e1
          cases e2
          cases e4
          subst e3
          have hj : ∀ j, j < 5 → W.cell? ⟨b, off + i * 5 + j, none⟩ = ([.int .i64 x0, .int .i64 x1, .int .i64 x2, .slice na L.length nc, .bool x4] : List Value)[j]? := fun j hj => by
            have := hcell j hj
            rw [add_plain, add_plain] at this
            exact this
          have hLl : L.length ≤ 1048576 := by
            have h1 := hbD i hi
            dsimp only at hagg
            rw [hagg] at h1
            have h2 := bulk_part (d := y3.1) (l := [y0.1, y1.1, y2.1, y3.1, y4.1]) (by simp)
            simp only [Rows.uptoBulk] at h1
            rcases hcy with h | ⟨el, sp, he, hn⟩
            · rw [h]; exact Nat.zero_le _
            · have h3 := bulk_slice el sp
              rw [← he] at h3
              omega
          refine ⟨⟨x0, x1, x2, na, nc, x4, lettersOf L⟩, fun _ => ⟨⟨hj 0 (by omega), hj 1 (by omega), hj 2 (by omega), ?_, hj 4 (by omega)⟩, bounds_i64 w1, bounds_i64 w2, ?_, ?_⟩⟩
          · simp only [letters_len]
            exact hj 3 (by omega)
          · simp only [letters_len]
            omega
          · show Bytes W na (nb (lettersOf L))
            rw [letters_nb L hS]
            exact hN
        · exact ⟨⟨0, 0, 0, none, 0, false, []⟩, fun h => absurd h hi⟩
      obtain ⟨f, hfx⟩ := Classical.axiomOfChoice hx
      have hL : ((List.range len).map f).length = len := by simp
      refine ⟨some ⟨b, off, none⟩, cap, (List.range len).map f, by rw [hL], .inr ⟨b, off, rfl, hb, fun i x hx => ?_⟩, fun x hx => ?_⟩
      · have hi : i < len := by
          have := (List.getElem?_eq_some_iff.1 hx).1
          rw [hL] at this
          exact this
        rw [List.getElem?_map, List.getElem?_range hi] at hx
        obtain rfl : f i = x := by simpa using hx
        exact (hfx i hi).1
      · obtain ⟨i, hi, rfl⟩ := List.mem_map.1 hx
        exact (hfx i (List.mem_range.1 hi)).2
theorem lifted (os : Os) (started : os.Started) (H : Type) (enc : TypeId × Value → H) (F : Stop.Interp) :
    ReturnsInHanded {} Try.checked os 7 .any ((Rows.OpenSpec.upto Rows.postExactSpec).pre6 enc Try.prog Try.f7 Rows.postExactUptoRow.domain false) (((Rows.OpenSpec.upto Rows.postExactSpec).at F).post enc Try.prog Try.f7 false true false false) := by
  refine wrap_cond_shaped (C := Try.checked) (s := Rows.OpenSpec.upto Rows.postExactSpec) (k := Rows.uptoSmall) rfl own started (by kernel_rfl) Try.func7
    (OpenSpec.witness (enc := enc) (C := Try.checked) (s := Rows.OpenSpec.upto Rows.postExactSpec) (k := Rows.uptoSmall) rfl false ⟨#[], #[.slice none 0 0], []⟩ 8 (by kernel_rfl) (by kernel_rfl) (by kernel_rfl)
      (x := ([.nil], [], [])) (by kernel_rfl) rfl (by kernel_rfl)) ?_
  intro W base args ds gs before hval0 hW hk hsh
  have hval : ∀ (j : Nat) t v, Try.f7.params[j]? = some t → args[j]? = some v → Value.okWide Try.prog W .any base t v := hval0
  have hW' := hW
  obtain ⟨p, q, hA0, hV, rfl, hfz, hnd⟩ := hW
  have hA : DataW.TrodAll enc Try.prog W 0 (fun _ => true) true Try.f7.params.toList args.toList ds p := hA0
  rw [Try.params7] at hA hval
  obtain ⟨v0, vs0, d0, ds0, p0, q0, hargs, rfl, rfl, h0, r0⟩ := trodAll_cons hA
  obtain ⟨rfl, rfl, rfl⟩ := trodAll_nil r0
  obtain rfl : args = #[v0] := by cases args; simp_all
  obtain ⟨rfl, rfl⟩ := trodVars_none hV
  have k0 := h0
  have lt0 : ∀ x ∈ p0, x.block < W.heap.size := by obtain ⟨m, hm⟩ := k0; exact DataW.trod_lt m _ _ _ hm
  obtain ⟨xa0, xl0, xc0, rfl⟩ : ∃ a l c, v0 = .slice a l c := okWide_slice Try.underlying53 (hval 0 53 v0 rfl rfl)
  obtain ⟨fuel, hf0⟩ := h0
  have hbulk : Rows.uptoBulk d0 ≤ 1048576 := by
    have h1 : Rows.uptoBulkAll ([d0] ++ []) ≤ 1048576 := of_decide_eq_true hk
    simp only [List.append_nil, Rows.uptoBulkAll] at h1
    omega
  obtain ⟨a, cap, l, he, hl, hok⟩ := open_ops hf0 hbulk
  cases he
  clear hA0 hval0
  have hlaw := exact_law W xa0 l.length xc0 l rfl hl hok
  refine hlaw.mono fun e W' ⟨he2, bel0⟩ => ?_
  have bel := unhide bel0
  subst he2
  exact ⟨_, rfl, _, _, _, [], _, [], hW', trodAll_mk1 (shut_bool Try.underlying4 _), (trodAll_cons_mk (Below.trod laidOut (by kernel_rfl) (of_decide_eq_true (by kernel_rfl)) k0 bel lt0) trodAll_mk0), rfl, bel.frame _, fun h => by cases h⟩

theorem over : Rows.PostExactUptoSaid :=
  OpenClaim.holds_of_cond 7 Try.f7 rfl rfl rfl rfl rfl rfl rfl ⟨rfl, rfl, rfl, rfl, rfl⟩ rfl rfl rfl rfl rfl (by kernel_rfl) Try.func7 (by kernel_rfl)
    (of_decide_eq_true (by kernel_rfl)) (by unfold Func.isWrapper; first | (rw [if_pos (by decide +kernel)]; kernel_rfl) | (rw [if_neg (by decide +kernel)]; exact ⟨rfl, rfl⟩))
    (fun os started H enc _ F => lifted os started H enc F)
end Go.Proofs.Ytjmnddcombepaaa.PostExact
namespace Go.Proofs.Ytjmnddcombepaaa
theorem postExact_upto : Rows.PostExactUptoSaid := PostExact.over
end Go.Proofs.Ytjmnddcombepaaa
