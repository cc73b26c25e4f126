/- WordSpells: the row and its card. -/
import Derived.Test.YtochdajeocganaaDoorSpellsOpen
import Derived.Test.YtochdajeocganaaDoorSpellsPos
import Derived.Test.YtochdajeocganaaDoorSpellsNeg
import Derived.Test.YtochdajeocganaaDoorSpellsA
import Derived.Test.YtochdajeocganaaDoorSpellsB
import Derived.Test.YtochdajeocganaaDoorSpellsC
import Derived.Test.YtochdajeocganaaDoorSpellsD
namespace Go.Proofs.YtochdajeocganaaDoor.WordSpells
open Go.ChangeShapes Go.WideShapes Go.ChangeAt Go.RowKit Go.Joins
set_option linter.unusedVariables false

theorem int_cases (l : List Nat) : (∃ m, Larder.intRes l = (m, 0)) ∨ Larder.intRes l = (0, 12) ∨ Larder.intRes l = (0, 13) := by
  unfold Larder.intRes
  repeat' split
  all_goals first | exact .inl ⟨_, rfl⟩ | exact .inr (.inl rfl) | exact .inr (.inr rfl)
theorem uint_cases (l : List Nat) : (∃ y, Larder.uintRes l = (y, 0)) ∨ Larder.uintRes l = (0, 12) := by
  unfold Larder.uintRes
  split
  · exact .inl ⟨_, rfl⟩
  · exact .inr rfl

theorem law (N M : Int) (hN1 : -9223372036854775808 ≤ N) (hN2 : N ≤ 9223372036854775807) (hM1 : -9223372036854775808 ≤ M) (hM2 : M ≤ 9223372036854775807) (x : Nat) (hx : x < 18446744073709551616)
    (a : Option Addr) (cap : Nat) (l : List Nat) (hl : l.length ≤ 140737488355328) (hs : Small l) (hcap : l.length ≤ cap) (hcap2 : cap ≤ 9223372036854775807) (w : World) (hB : Bytes w a l) (ht : Tab w) :
    Calls Tryd.prog 3 #[.agg #[.int .i64 N, .int .i64 M, .int .u64 x, .slice a l.length cap]] w fun e w' => e = .returned (.bool true) ∧ Below w.heap.size w w' := by
  have hI : ∀ (m : Int) (f : Nat), Larder.intRes l = (m, f) → ∀ w', Bytes w' a l → Calls Tryd.prog 4 #[.slice a l.length cap] w' fun e w'' => e = .returned (.tuple #[.int .i64 m, .int .i64 f]) ∧ w'' = w' := by
    intro m f h w' hb
    have k := int_any a cap w' l hl hs hcap hcap2 hb
    rw [h] at k
    exact k
  have hU : ∀ (y i : Nat), Larder.uintRes l = (y, i) → ∀ w', Bytes w' a l → Calls Tryd.prog 8 #[.slice a l.length cap] w' fun e w'' => e = .returned (.tuple #[.int .u64 y, .int .i64 i]) ∧ w'' = w' := by
    intro y i h w' hb
    have k := uint_any a cap w' l hl hs hb
    rw [h] at k
    exact k
  have hT : ∀ m : Int, Larder.intRes l = (m, 0) → ∀ w', Tab w' → Calls Tryd.prog 5 #[.int .i64 m] w' fun e w'' => ∃ a c, e = .returned (.slice a l.length c) ∧ Bytes w'' a l ∧ Below w'.heap.size w' w'' := by
    intro m h w' t
    obtain ⟨k1, k2, k3, -⟩ := Larder.int_back l (by rw [h])
    rw [h] at k1 k2 k3
    refine (text_out m k2 k3 w' t).mono ?_
    rintro e w'' ⟨a, c, he, hB, -, hb⟩
    rw [k1] at he hB
    exact ⟨a, c, he, hB, hb⟩
  have hD : ∀ y : Nat, Larder.uintRes l = (y, 0) → ∀ w', Tab w' → Calls Tryd.prog 9 #[.int .u64 y] w' fun e w'' => ∃ a c, e = .returned (.slice a l.length c) ∧ Bytes w'' a l ∧ Below w'.heap.size w' w'' := by
    intro y h w' t
    obtain ⟨k1, k2⟩ := Larder.uint_back l (by rw [h])
    rw [h] at k1 k2
    refine (digits_out y k2 w' t).mono ?_
    rintro e w'' ⟨a, c, he, hB, hb⟩
    rw [k1] at he hB
    exact ⟨a, c, he, hB, hb⟩
  rcases int_cases l with ⟨m, hi⟩ | hi | hi
  · obtain ⟨k1, k2, k3, k4⟩ := Larder.int_back l (by rw [hi])
    rw [hi] at k1 k2 k3 k4
    by_cases hm : 0 ≤ m
    · have hu := k4 hm
      obtain ⟨k, rfl⟩ := Int.eq_ofNat_of_zero_le hm
      have hu' : Larder.uintRes l = (k, 0) := hu
      have k3' : (k : Int) ≤ 9223372036854775807 := k3
      exact lawPos N M hN1 hN2 hM1 hM2 x hx a cap l hs w hB ht k (by omega) (hide (hT _ hi)) (hide (hD _ hu')) (hide (hI _ _ hi)) (hide (hU _ _ hu'))
    · have hu : Larder.uintRes l = (0, 12) := by
        rcases uint_cases l with ⟨y, hu⟩ | hu
        · exfalso
          obtain ⟨q1, -⟩ := Larder.uint_back l (by rw [hu])
          have q2 : (Larder.spellI m).getD 0 0 = 45 := by rw [Larder.spellI_neg m (by omega)]; rfl
          have q3 := Larder.spell_head (Larder.uintRes l).1
          have k1' : Larder.spellI m = l := k1
          rw [k1', ← q1] at q2
          exact q3 q2
        · exact hu
      exact lawNeg N M hN1 hN2 hM1 hM2 x hx a cap l hs w hB ht m (by omega) (hide (hT _ hi)) (hide (hI _ _ hi)) (hide (hU _ _ hu))
  · rcases uint_cases l with ⟨y, hu⟩ | hu
    · exact lawA N M hN1 hN2 hM1 hM2 x hx a cap l hs w hB ht y (hide (hD _ hu)) (hide (hI _ _ hi)) (hide (hU _ _ hu))
    · exact lawB N M hN1 hN2 hM1 hM2 x hx a cap l hs w hB ht (hide (hI _ _ hi)) (hide (hU _ _ hu))
  · rcases uint_cases l with ⟨y, hu⟩ | hu
    · exact lawC N M hN1 hN2 hM1 hM2 x hx a cap l hs w hB ht y (hide (hD _ hu)) (hide (hI _ _ hi)) (hide (hU _ _ hu))
    · exact lawD N M hN1 hN2 hM1 hM2 x hx a cap l hs w hB ht (hide (hI _ _ hi)) (hide (hU _ _ hu))

set_option maxRecDepth 100000 in
theorem contract (H : Type) (enc : TypeId × Value → H) (W : World) (base : Nat) (args : Array Value) (ds gs : List (DataW H)) (before : List MemPlace)
    (hval : ∀ (j : Nat) t v, Tryd.f3.params[j]? = some t → args[j]? = some v → Value.okWide Tryd.prog W .any base t v)
    (hW : DataW.Whole enc Tryd.prog Tryd.f3.params.toList Rows.wordSpellsSpec.vars false W args.toList ds gs before)
    (hsz : (DataW.weightsEach Tryd.prog (Tryd.f3.params.toList ++ (OpenSpec.ofChange Rows.wordSpellsSpec).bare.plain.varTypes Tryd.prog) (ds ++ gs)).all (· ≤ reachBytes) = true) (hL : laidMet Tryd.prog Rows.wordSpellsRow.laid W) :
    Calls Tryd.prog 3 args W fun e W' => ∃ v, e = .returned v ∧ Rows.wordSpellsSpec.post enc Tryd.prog Tryd.f3 false true false false W args v W' := by
  have hW' := hW
  obtain ⟨p, q, hA0, hV, rfl, hfz, hnd⟩ := hW
  have hA : DataW.TrodAll enc Tryd.prog W 0 (fun _ => true) true Tryd.f3.params.toList args.toList ds p := hA0
  rw [Tryd.params3] at hA hval hsz
  obtain ⟨v0, vs0, d0, ds0, p0, q0, hargs, rfl, rfl, h0, r0⟩ := trodAll_cons hA
  obtain ⟨rfl, rfl, rfl⟩ := trodAll_nil r0
  obtain rfl : args = #[v0] := by cases args; simp_all
  obtain ⟨rfl, rfl⟩ := trodVars_none hV
  have k0 := h0
  have lt0 : ∀ x ∈ p0, x.block < W.heap.size := by obtain ⟨m, hm⟩ := k0; exact DataW.trod_lt m _ _ _ hm
  obtain ⟨c0, c1, c2, c3, y0, y1, y2, y3, m, rfl, hd, hy0, hy1, hy2, hy3⟩ := open_agg4 Tryd.underlying25 (by kernel_rfl) (by kernel_rfl) (hval 0 25 v0 rfl rfl) h0
  subst hd
  obtain ⟨a, cap, l, rfl, hB, hcap, hs, hlen⟩ := open_bytes hy3
  obtain ⟨N, e0, _, hw0⟩ := DataW.trod_int Tryd.underlying2 hy0
  obtain ⟨M, e1, _, hw1⟩ := DataW.trod_int Tryd.underlying2 hy1
  obtain ⟨x, e2, _, hw2⟩ := DataW.trod_int Tryd.underlying22 hy2
  cases e0
  cases e1
  cases e2
  have hl : l.length ≤ 140737488351232 := by
    rcases hlen with rfl | ⟨el, sp, he, hn⟩
    · simp
    · rw [← hn]; exact field_sized (j := 3) (spare := sp) hsz Tryd.underlying25 rfl (by rw [he]; rfl)
  clear hA0
  obtain ⟨a0, b0⟩ := bounds_i64 hw0
  obtain ⟨a1, b1⟩ := bounds_i64 hw1
  obtain ⟨a2, b2⟩ := bounds_u64 hw2
  obtain ⟨x, rfl⟩ := Int.eq_ofNat_of_zero_le a2
  refine (law N M a0 b0 a1 b1 x (by omega) a cap l (by omega) hs hcap.1 hcap.2 W hB (tab_of_laid hL)).mono fun e W' ⟨he, bel⟩ => ?_
  subst he
  exact ⟨_, rfl, _, _, _, [], _, [], hW', trodAll_mk1 (shut_bool Tryd.underlying4 _), (trodAll_cons_mk (Below.trod laidOut (by kernel_rfl) (of_decide_eq_true (by kernel_rfl)) k0 bel lt0) trodAll_mk0), rfl, bel.frame _, fun h => by cases h⟩

theorem laid_met (os : Os) : laidMet Tryd.prog Rows.wordSpellsRow.laid (({ World.holding Tryd.prog os ⟨#[], #[], []⟩ with heap := laidHeap (World.holding Tryd.prog os ⟨#[], #[], []⟩).heap } : World).forCall (fun _ _ => 0) ⟨#[], #[.agg #[.int .i64 0, .int .i64 0, .int .u64 0, .slice none 0 0]], []⟩).memory :=
  laidMet_of_run' 8 (by kernel_rfl) (by kernel_rfl)
theorem reads (os : Os) {H : Type} (enc : TypeId × Value → H) : ∃ places, DataW.whole enc Tryd.prog (({ World.holding Tryd.prog os ⟨#[], #[], []⟩ with heap := laidHeap (World.holding Tryd.prog os ⟨#[], #[], []⟩).heap } : World).forCall (fun _ _ => 0) ⟨#[], #[.agg #[.int .i64 0, .int .i64 0, .int .u64 0, .slice none 0 0]], []⟩).memory Tryd.f3.params.toList Rows.wordSpellsSpec.vars false #[Value.agg #[.int .i64 0, .int .i64 0, .int .u64 0, .slice none 0 0]].toList 8 = some ([.agg [.lit (.int .i64 0), .lit (.int .i64 0), .lit (.int .u64 0), .nil]], [], places) :=
  ⟨[], by kernel_rfl⟩

set_option maxRecDepth 100000 in
theorem lifted (os : Os) (started : os.Started) (H : Type) (enc : TypeId × Value → H) (F : Stop.Interp) :
    ReturnsInHanded {} Tryd.checked os 3 .any ((OpenSpec.ofChange Rows.wordSpellsSpec).preRow enc Tryd.prog Tryd.f3 Rows.wordSpellsRow.domain false Rows.wordSpellsRow.laid) (((OpenSpec.ofChange Rows.wordSpellsSpec).at F).post enc Tryd.prog Tryd.f3 false true false false) := by
  obtain ⟨places, hx⟩ := reads os enc
  refine returnsInHanded_of_row (C := Tryd.checked) (s := OpenSpec.ofChange Rows.wordSpellsSpec) own started (by kernel_rfl) Tryd.func3
    (witness_row_at (enc := enc) (C := Tryd.checked) false ({ World.holding Tryd.prog os ⟨#[], #[], []⟩ with heap := laidHeap (World.holding Tryd.prog os ⟨#[], #[], []⟩).heap } : World) #[.agg #[.int .i64 0, .int .i64 0, .int .u64 0, .slice none 0 0]] rfl (by kernel_rfl) (by kernel_rfl) (by kernel_rfl)
      (OpenSpec.preRow_of_cond 8 hx (by kernel_rfl) (fun k hk => by cases hk) (by kernel_rfl) (laid_met os))) ?_
  intro W base args ds gs before hval hW _ _ hsz hL _ _
  exact contract H enc W base args ds gs before hval hW hsz hL

theorem said : Rows.WordSpellsSaid :=
  OpenClaim.holds_of_cond 3 Tryd.f3 rfl rfl rfl rfl rfl rfl rfl ⟨rfl, rfl, rfl, rfl, rfl⟩ rfl rfl rfl rfl rfl (by kernel_rfl) Tryd.func3 (by kernel_rfl)
    (of_decide_eq_true (by kernel_rfl)) (by unfold Func.isWrapper; first | (rw [if_pos (by decide +kernel)]; kernel_rfl) | (rw [if_neg (by decide +kernel)]; exact ⟨rfl, rfl⟩))
    (fun os started H enc _ F => by rw [OpenClaim.pre_eq_preRow]; exact lifted os started H enc F)

theorem plain (f : FuncId) (fn : Func) (hf : Tryd.pinned.checked.prog.funcNamed Rows.wordSpellsRow.func = some f) (hfn : Tryd.pinned.checked.prog.funcs[f]? = some fn) :
    false = Tryd.pinned.checked.prog.looks [] ∧ ∀ (j : Nat) t, fn.params[j]? = some t → Tryd.pinned.checked.prog.wantsStandIn t = false := by
  obtain rfl : f = 3 := Option.some.inj ((show Tryd.prog.funcNamed Rows.wordSpellsRow.func = some 3 by kernel_rfl).symm.trans hf) |>.symm
  obtain rfl : fn = Tryd.f3 := (Option.some.inj (Tryd.func3.symm.trans hfn)).symm
  refine ⟨by kernel_rfl, fun j t ht => ?_⟩
  rw [Tryd.params3] at ht
  obtain rfl : t = 25 := by simpa using Array.mem_of_getElem? ht
  exact (show Tryd.prog.wantsStandIn 25 = false by kernel_rfl)

theorem card : Rows.WordSpellsCardSaid :=
  Claim7.holds_tied_plain_at .later [] _ _ _ _ said (fun _ h => by cases h) (by kernel_rfl) (fun _ h => by cases h) wordSpells_row_tie rfl ⟨rfl, rfl⟩ (by kernel_rfl) rfl plain (by kernel_rfl)
end Go.Proofs.YtochdajeocganaaDoor.WordSpells
namespace Go.Proofs.YtochdajeocganaaDoor
theorem wordSpells_holds : Rows.WordSpellsCardSaid := WordSpells.card
end Go.Proofs.YtochdajeocganaaDoor
