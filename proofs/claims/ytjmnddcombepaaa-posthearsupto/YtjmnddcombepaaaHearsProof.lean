/- PostHears, up to the bound: the row. -/
import Derived.Test.YtjmnddcombepaaaHpe
import Derived.Test.YtjmnddcombepaaaPop
import Derived.JoinedCond
import Derived.HandedShaped
namespace Go.Proofs.Ytjmnddcombepaaa.PostHears
open Go.ChangeShapes Go.WideShapes Go.ChangeAt Go.RowKit Go.Joins
set_option linter.unusedVariables false
set_option maxRecDepth 100000
/-- a condition of the specification's own, and the world's shape, both handed on -/
theorem wrap_cond_shaped {H : Type} {enc : TypeId × Value → H} {a : Assume} {C : Checked} {os : Os} {f : FuncId} {fn : Func} {s : OpenSpec} {k : (H : Type) → List (DataW H) → Bool} (hk : s.cond = some k) {F : Stop.Interp} {conds : List PathCond} {apart fresh handsOn again : Bool}
    (own : ownKnob C.prog.godebug = none) (started : os.Started) (noInit : C.prog.inits.idxOf? f = none) (hfn : C.prog.funcs[f]? = some fn)
    (witness : ∃ (w : World) (tape : Tape) (i : Input), w.os = os ∧ (w.forCall tape i).Shaped C.prog ∧ i.vars = [] ∧ Input.okWide C.prog (w.forCall tape i) .any w.heap.size f i ∧
      s.pre6 enc C.prog fn conds apart (w.forCall tape i).memory i.args ∧ a.holds C.prog (lone (Frame.enter C.prog f i.args .normal) [] (w.forCall tape i)))
    (contract : ∀ (W : World) (base : Nat) (args : Array Value) (ds gs : List (DataW H)) (before : List MemPlace),
      (∀ (j : Nat) t v, fn.params[j]? = some t → args[j]? = some v → Value.okWide C.prog W .any base t v) →
      DataW.Whole enc C.prog fn.params.toList s.vars apart W args.toList ds gs before →
      k H (ds ++ gs) = true → W.ShapedOpen C.prog →
      Calls C.prog f args W fun e W' => ∃ v, e = .returned v ∧ (s.at F).post enc C.prog fn apart fresh handsOn again W args v W') :
    ReturnsInHanded a C os f .any (s.pre6 enc C.prog fn conds apart) ((s.at F).post enc C.prog fn apart fresh handsOn again) := by
  refine returnsInHanded_of_calls own started noInit witness ?_
  intro w tape i _ hsh _ hok hpre hholds
  obtain ⟨_, _, _, fn', hfn', _, _, _, _, hval⟩ := hok
  have e : fn' = fn := Option.some.inj (hfn'.symm.trans hfn)
  subst e
  obtain ⟨ds, gs, before, hw, hc, hkk⟩ := (OpenSpec.pre_some hk conds apart _ _).1 hpre.1
  have hw' := DataW.Whole.of_heap (w' := w.forCall tape i) (by rfl) hw
  refine (contract (w.forCall tape i) w.heap.size i.args ds gs before hval hw' hkk hsh).mono fun e W' ⟨v, he, hp⟩ => ?_
  subst he
  exact ChangeSpec.post_blind hp

theorem bulk_one {H : Type} (d : DataW H) : 1 ≤ Rows.uptoBulk d := by
  cases d with
  | lit l => cases l <;> simp [Rows.uptoBulk]
  | _ => simp [Rows.uptoBulk]
theorem bulk_part {H : Type} {d : DataW H} {l : List (DataW H)} (h : d ∈ l) : Rows.uptoBulk d ≤ Rows.uptoBulkAll l := by
  induction l with
  | nil => cases h
  | cons x r ih =>
    simp only [Rows.uptoBulkAll]
    rcases List.mem_cons.1 h with e | e
    · subst e; omega
    · have := ih e; omega
theorem bulk_len {H : Type} (l : List (DataW H)) : l.length ≤ Rows.uptoBulkAll l := by
  induction l with
  | nil => simp
  | cons x r ih =>
    have := bulk_one x
    simp only [Rows.uptoBulkAll, List.length_cons]
    omega
theorem bulk_slice {H : Type} (el sp : List (DataW H)) : el.length ≤ Rows.uptoBulk (.slice el sp) := by
  have := bulk_len el
  simp only [Rows.uptoBulk]
  omega
theorem open_seats_size {H : Type} {enc : TypeId × Value → H} {W : World} {n : Nat} {a : Option Addr} {cap : Nat} {l : List Sv} {y : DataW H × List MemPlace} (hf : DataW.trod enc Try.prog W 0 (fun _ => true) true n 22 [.slice a l.length cap] = some y) :
    (a = none → cap = 0 ∧ l = []) ∧ (l.length = 0 ∨ ∃ elems spare, y.1 = .slice elems spare ∧ elems.length = l.length) := by
  rcases Go.Deep.open_slice Try.underlying22 hf with ⟨hcs, _⟩ | ⟨a', len, cap', m, q, D, Pl, hcs, _, hlc, _, hm, hy, heach⟩
  · injection hcs with h1 _
    injection h1 with h2 h3 h4
    exact ⟨fun _ => ⟨h4, List.eq_nil_of_length_eq_zero h3⟩, .inl h3⟩
  · injection hcs with h1 _
    injection h1 with h2 h3 h4
    refine ⟨fun h => absurd (h.symm.trans h2) (by simp), .inr ⟨_, _, by rw [hy], ?_⟩⟩
    rw [List.length_map, List.length_range, h3]
theorem lifted (os : Os) (started : os.Started) (H : Type) (enc : TypeId × Value → H) (F : Stop.Interp) :
    ReturnsInHanded {} Try.checked os 4 .any ((Rows.OpenSpec.upto Rows.postHearsSpec).pre6 enc Try.prog Try.f4 Rows.postHearsUptoRow.domain false) (((Rows.OpenSpec.upto Rows.postHearsSpec).at F).post enc Try.prog Try.f4 false true false false) := by
  refine wrap_cond_shaped (C := Try.checked) (s := Rows.OpenSpec.upto Rows.postHearsSpec) (k := Rows.uptoSmall) rfl own started (by kernel_rfl) Try.func4
    (OpenSpec.witness (enc := enc) (C := Try.checked) (s := Rows.OpenSpec.upto Rows.postHearsSpec) (k := Rows.uptoSmall) rfl false ⟨#[], #[.agg #[.slice none 0 0, .slice none 0 0, .int .i64 0, .int .i64 0]], []⟩ 8 (by kernel_rfl) (by kernel_rfl) (by kernel_rfl)
      (x := ([.agg [.nil, .nil, .lit (.int .i64 0), .lit (.int .i64 0)]], [], [])) (by kernel_rfl) rfl (by kernel_rfl)) ?_
  intro W base args ds gs before hval0 hW hk hsh
  have hval : ∀ (j : Nat) t v, Try.f4.params[j]? = some t → args[j]? = some v → Value.okWide Try.prog W .any base t v := hval0
  have hW' := hW
  obtain ⟨p, q, hA0, hV, rfl, hfz, hnd⟩ := hW
  have hA : DataW.TrodAll enc Try.prog W 0 (fun _ => true) true Try.f4.params.toList args.toList ds p := hA0
  rw [Try.params4] at hA hval
  obtain ⟨v0, vs0, d0, ds0, p0, q0, hargs, rfl, rfl, h0, r0⟩ := trodAll_cons hA
  obtain ⟨rfl, rfl, rfl⟩ := trodAll_nil r0
  obtain rfl : args = #[v0] := by cases args; simp_all
  obtain ⟨rfl, rfl⟩ := trodVars_none hV
  have k0 := h0
  have lt0 : ∀ x ∈ p0, x.block < W.heap.size := by obtain ⟨m, hm⟩ := k0; exact DataW.trod_lt m _ _ _ hm
  obtain ⟨cs, rfl, hcs⟩ := okWide_struct Try.underlying25 (hval 0 25 v0 rfl rfl)
  obtain ⟨fuel, hf0⟩ := h0
  obtain ⟨u0, u1, u2, u3, y0, y1, y2, y3, n, hcl, hd, t0, t1, t2, t3⟩ := open_four Try.underlying25 (by kernel_rfl) rfl (by kernel_rfl) rfl (by kernel_rfl) rfl (by kernel_rfl) rfl (by kernel_rfl) hf0
  have hcs2 : cs = #[u0, u1, u2, u3] := by
    have : cs.toList = [u0, u1, u2, u3] := by simpa [Value.cells] using hcl
    cases cs; simp_all
  subst hcs2
  obtain ⟨I, e2, _, w2⟩ := DataW.trod_int Try.underlying3 t2
  obtain ⟨N, e3, _, w3⟩ := DataW.trod_int Try.underlying3 t3
  cases e2
  cases e3
  obtain ⟨a2, b2⟩ := bounds_i64 w2
  obtain ⟨a3, b3⟩ := bounds_i64 w3
  obtain ⟨sa, scap, sl, rfl, hsl, hsN, hsB⟩ := open_seats t0
  obtain ⟨ca, ccap, cl, rfl, hcb, hccap, hcs0, hcy⟩ := open_bytes t1
  have hbulk : Rows.uptoBulkAll [y0.1, y1.1, y2.1, y3.1] ≤ 1048576 := by
    have h1 : Rows.uptoBulkAll ([d0] ++ []) ≤ 1048576 := of_decide_eq_true hk
    dsimp only at hd
    rw [hd] at h1
    simp only [List.append_nil, Rows.uptoBulkAll, Rows.uptoBulk] at h1 ⊢
    omega
  have hb0 : Rows.uptoBulk y0.1 ≤ 1048576 := Nat.le_trans (bulk_part (List.mem_cons_self ..)) hbulk
  have hb1 : Rows.uptoBulk y1.1 ≤ 1048576 := Nat.le_trans (bulk_part (List.mem_cons_of_mem _ (List.mem_cons_self ..))) hbulk
  obtain ⟨hnil, hsz⟩ := open_seats_size t0
  have hsl2 : sl.length ≤ 2000000 := by
    rcases hsz with h | ⟨el, sp, he, hn⟩
    · omega
    · have h2 := bulk_slice el sp
      rw [← he] at h2
      omega
  have hC2 : (lettersOf cl).length ≤ 1048576 := by
    rw [letters_len]
    rcases hcy with h | ⟨el, sp, he, hn⟩
    · rw [h]; exact Nat.zero_le _
    · have h2 := bulk_slice el sp
      rw [← he] at h2
      omega
  clear hA0 hval0
  have hlaw := hears_law W sa ca sl.length scap ccap I N (lettersOf cl) sl rfl hnil hsl2 hsl hsN hsB (by rw [letters_nb cl hcs0]; exact hcb) (by rw [letters_len]; exact hccap.1) hC2
  rw [letters_len] at hlaw
  refine hlaw.mono fun e W' ⟨he, bel0⟩ => ?_
  have bel := unhide bel0
  subst he
  exact ⟨_, rfl, _, _, _, [], _, [], hW', trodAll_mk1 (shut_bool Try.underlying4 _), (trodAll_cons_mk (Below.trod laidOut (by kernel_rfl) (of_decide_eq_true (by kernel_rfl)) k0 bel lt0) trodAll_mk0), rfl, bel.frame _, fun h => by cases h⟩

theorem over : Rows.PostHearsUptoSaid :=
  OpenClaim.holds_of_cond 4 Try.f4 rfl rfl rfl rfl rfl rfl rfl ⟨rfl, rfl, rfl, rfl, rfl⟩ rfl rfl rfl rfl rfl (by kernel_rfl) Try.func4 (by kernel_rfl)
    (of_decide_eq_true (by kernel_rfl)) (by unfold Func.isWrapper; first | (rw [if_pos (by decide +kernel)]; kernel_rfl) | (rw [if_neg (by decide +kernel)]; exact ⟨rfl, rfl⟩))
    (fun os started H enc _ F => lifted os started H enc F)
end Go.Proofs.Ytjmnddcombepaaa.PostHears
namespace Go.Proofs.Ytjmnddcombepaaa
theorem postHears_upto : Rows.PostHearsUptoSaid := PostHears.over
end Go.Proofs.Ytjmnddcombepaaa
