/- PostLess: the row. -/
import Derived.Test.YtjmnddcombepaaaPlx
import Derived.Test.YtjmnddcombepaaaPop
namespace Go.Proofs.Ytjmnddcombepaaa.PostLess
open Go.ChangeShapes Go.WideShapes Go.ChangeAt Go.RowKit Go.Joins
set_option linter.unusedVariables false
set_option maxRecDepth 100000

theorem held_sized {H : Type} {P : Program} {t : TypeId} {ts : List TypeId} {d : DataW H} {ds : List (DataW H)} {m : Nat} (hsz : (DataW.weightsEach P (t :: ts) (d :: ds)).all (· ≤ reachBytes) = true) (hm : m ∈ DataW.weights P t d) : m ≤ 140737488351232 := by
  have h := List.all_eq_true.1 hsz _ (DataW.weights_mem_each (j := 0) (t := t) (d := d) rfl rfl _ hm)
  exact of_decide_eq_true h
theorem open_seats_size {H : Type} {enc : TypeId × Value → H} {W : World} {n : Nat} {a : Option Addr} {cap : Nat} {l : List Sv} {y : DataW H × List MemPlace} (hf : DataW.trod enc Try.prog W 0 (fun _ => true) true n 22 [.slice a l.length cap] = some y) :
    (a = none → cap = 0 ∧ l = []) ∧ (l.length = 0 ∨ ∃ elems spare, y.1 = .slice elems spare ∧ elems.length = l.length) := by
  rcases Go.Deep.open_slice Try.underlying22 hf with ⟨hcs, _⟩ | ⟨a', len, cap', m, q, D, Pl, hcs, _, hlc, _, hm, hy, heach⟩
  · injection hcs with h1 _
    injection h1 with h2 h3 h4
    exact ⟨fun _ => ⟨h4, List.eq_nil_of_length_eq_zero h3⟩, .inl h3⟩
  · injection hcs with h1 _
    injection h1 with h2 h3 h4
    refine ⟨fun h => absurd (h.symm.trans h2) (by simp), .inr ⟨_, _, by rw [hy], ?_⟩⟩
    rw [List.length_map, List.length_range, h3]
theorem lifted (os : Os) (started : os.Started) (H : Type) (enc : TypeId × Value → H) :
    ReturnsInHanded {} Try.checked os 6 .any (Rows.postLessSpec.pre6 enc Try.prog Try.f6 Rows.postLessRow.domain false) (Rows.postLessSpec.post enc Try.prog Try.f6 false true false false) := by
  refine returnsInHanded_of_change_sized (C := Try.checked) own started (by kernel_rfl) Try.func6
    (ChangeSpec.witness6 (enc := enc) (C := Try.checked) false ⟨#[], #[.agg #[.slice none 0 0, .slice none 0 0, .int .i64 0, .int .i64 0]], []⟩ 8 (by kernel_rfl) (by kernel_rfl) (by kernel_rfl) (by kernel_rfl)) ?_
  intro W base args ds gs before hval0 hW hcnd hsz0 _
  have hsz : (DataW.weightsEach Try.prog (Try.f6.params.toList ++ Rows.postLessSpec.plain.varTypes Try.prog) (ds ++ gs)).all (· ≤ reachBytes) = true := hsz0
  have hval : ∀ (j : Nat) t v, Try.f6.params[j]? = some t → args[j]? = some v → Value.okWide Try.prog W .any base t v := hval0
  have hW' := hW
  obtain ⟨p, q, hA0, hV, rfl, hfz, hnd⟩ := hW
  have hA : DataW.TrodAll enc Try.prog W 0 (fun _ => true) true Try.f6.params.toList args.toList ds p := hA0
  rw [Try.params6] at hA hval hsz
  obtain ⟨v0, vs0, d0, ds0, p0, q0, hargs, rfl, rfl, h0, r0⟩ := trodAll_cons hA
  obtain ⟨rfl, rfl, rfl⟩ := trodAll_nil r0
  obtain rfl : args = #[v0] := by cases args; simp_all
  obtain ⟨rfl, rfl⟩ := trodVars_none hV
  have k0 := h0
  have lt0 : ∀ x ∈ p0, x.block < W.heap.size := by obtain ⟨m, hm⟩ := k0; exact DataW.trod_lt m _ _ _ hm
  obtain ⟨cs, rfl, hcs⟩ := okWide_struct Try.underlying25 (hval 0 25 v0 rfl rfl)
  obtain ⟨fuel, hf0⟩ := h0
  obtain ⟨u0, u1, u2, u3, y0, y1, y2, y3, n, hcl, hd, t0, t1, t2, t3⟩ := open_four Try.underlying25 (by kernel_rfl) rfl (by kernel_rfl) rfl (by kernel_rfl) rfl (by kernel_rfl) rfl (by kernel_rfl) hf0
  have hcs2 : cs = #[u0, u1, u2, u3] := by
    have : cs.toList = [u0, u1, u2, u3] := by simpa [Value.cells] using hcl
    cases cs; simp_all
  subst hcs2
  obtain ⟨I, e2, _, w2⟩ := DataW.trod_int Try.underlying3 t2
  obtain ⟨N, e3, _, w3⟩ := DataW.trod_int Try.underlying3 t3
  cases e2
  cases e3
  obtain ⟨a2, b2⟩ := bounds_i64 w2
  obtain ⟨a3, b3⟩ := bounds_i64 w3
  obtain ⟨sa, scap, sl, rfl, hsl, hsN, hsB⟩ := open_seats t0
  obtain ⟨hsnil, hsy⟩ := open_seats_size t0
  obtain ⟨ca, ccap, cl, rfl, hcb, hccap, hcs0, hcy⟩ := open_bytes t1
  have hC2 : (lettersOf cl).length ≤ 140737488355328 := by
    rw [letters_len]
    rcases hcy with h | ⟨elems, sp, e1, e2⟩
    · rw [h]; exact Nat.zero_le _
    · refine Nat.le_trans (Nat.le_of_eq e2.symm) (Nat.le_trans ?_ (by decide : 140737488351232 ≤ 140737488355328))
      have hin : (elems.length + sp.length) * Try.prog.bytesOf 5 ∈ DataW.weights Try.prog 25 d0 := by
        dsimp only at hd
        rw [hd]
        simp only [DataW.weights, Try.underlying25]
        refine DataW.weights_mem_each (j := 1) (t := 23) (d := y1.1) rfl rfl _ ?_
        rw [e1]
        simp [DataW.weights, Try.underlying23]
      have h5 : Try.prog.bytesOf 5 = 1 := by kernel_rfl
      have hle := held_sized (t := 25) (ts := _) (d := d0) (ds := _) hsz hin
      rw [h5] at hle
      omega
  have hbig : sl.length * 40 ≤ 140737488351232 := by
    rcases hsy with h | ⟨elems, sp, e1, e2⟩
    · rw [h]; exact Nat.zero_le _
    · have hin : (elems.length + sp.length) * Try.prog.bytesOf 40 ∈ DataW.weights Try.prog 25 d0 := by
        dsimp only at hd
        rw [hd]
        simp only [DataW.weights, Try.underlying25]
        refine DataW.weights_mem_each (j := 0) (t := 22) (d := y0.1) rfl rfl _ ?_
        rw [e1]
        simp [DataW.weights, Try.underlying22]
      have h5 : Try.prog.bytesOf 40 = 40 := by kernel_rfl
      have hle := held_sized (t := 25) (ts := _) (d := d0) (ds := _) hsz hin
      rw [h5] at hle
      omega
  clear hA0 hval0 hsz0
  have hlaw := less_law W sa ca sl.length scap ccap I N (lettersOf cl) sl rfl hsl hsnil hbig hsN hsB (by rw [letters_nb cl hcs0]; exact hcb) hC2 ⟨a2, b2⟩ ⟨a3, b3⟩
  rw [letters_len] at hlaw
  refine hlaw.mono fun e W' ⟨he, bel0⟩ => ?_
  have bel := unhide bel0
  subst he
  exact ⟨_, rfl, _, _, _, [], _, [], hW', trodAll_mk1 (shut_bool Try.underlying4 _), (trodAll_cons_mk (Below.trod laidOut (by kernel_rfl) (of_decide_eq_true (by kernel_rfl)) k0 bel lt0) trodAll_mk0), rfl, bel.frame _, fun h => by cases h⟩

theorem over : Rows.postLessRow.holds Try.pinned (OpenSpec.ofChange Rows.postLessSpec) :=
  OpenClaim.holds_of_wide 6 Try.f6 rfl rfl rfl rfl rfl rfl rfl ⟨rfl, rfl, rfl, rfl, rfl⟩ rfl rfl rfl rfl rfl (by kernel_rfl) Try.func6 (by kernel_rfl)
    (of_decide_eq_true (by kernel_rfl)) (by unfold Func.isWrapper; first | (rw [if_pos (by decide +kernel)]; kernel_rfl) | (rw [if_neg (by decide +kernel)]; exact ⟨rfl, rfl⟩))
    (fun os started H enc _ => lifted os started H enc)
end Go.Proofs.Ytjmnddcombepaaa.PostLess
namespace Go.Proofs.Ytjmnddcombepaaa
theorem postLess_holds : Rows.PostLessSaid := PostLess.over
end Go.Proofs.Ytjmnddcombepaaa
