/- WordNumbers: the row and its card. -/
import Derived.Test.YtochdajeocganabDoorOpen
import Derived.Test.YtochdajeocganabDoorLists
import Derived.Test.YtochdajeocganabDoorPlayTexts
namespace Go.Proofs.YtochdajeocganabDoor.WordNumbers
open Go.ChangeShapes Go.WideShapes Go.ChangeAt Go.RowKit Go.Joins
set_option linter.unusedVariables false

/-- what is known of a call: its numbers, its lists, the table -/
def Known (w : World) (_ A _ _ N M : Int) (_ : Nat) (aT : Option Addr) (nT cT : Nat) (aW : Option Addr) (nW cW : Nat) : Prop :=
  Tab w ∧ (-9223372036854775808 ≤ A ∧ A ≤ 9223372036854775807) ∧ (-9223372036854775808 ≤ N ∧ N ≤ 9223372036854775807) ∧ (-9223372036854775808 ≤ M ∧ M ≤ 9223372036854775807) ∧
  (∃ l : List Nat, nT = l.length ∧ Bytes w aT l ∧ Small l ∧ (aT = none → cT = 0) ∧ l.length ≤ 140737488351232) ∧
  ∃ l : List Nat, nW = l.length ∧ Words w aW l ∧ WSmall l ∧ (aW = none → cW = 0) ∧ 8 * l.length ≤ 140737488351232

theorem law (a : Option Addr) (n cap : Nat) (W : World) (hn : n ≤ 140737488355328)
    (h : n = 0 ∨ ∃ b off, a = some ⟨b, off, none⟩ ∧ b < W.heap.size ∧
        ∀ k, k < n → ∃ (K A B C N M : Int) (x : Nat) (aT : Option Addr) (nT cT : Nat) (aW : Option Addr) (nW cW : Nat), x < 18446744073709551616 ∧ OpAt W b (off + k * 9) K A B C N M x aT nT cT aW nW cW ∧ Known W K A B C N M x aT nT cT aW nW cW) :
    Calls Tryd.prog 5 #[.slice a n cap] W fun e w' => e = .returned (.bool true) ∧ Below W.heap.size W w' := by
  have hcall : Calls Tryd.prog 9 #[.slice a n cap, .int .i64 6, .int .i64 10] W fun e w' => e = .returned (.bool true) ∧ Below W.heap.size W w' := by
    rcases h with rfl | ⟨b, off, rfl, hb, hE⟩
    · exact upto_none 6 10 a cap W
    · refine upto_some 6 10 Known (fun _ _ _ _ _ _ _ _ _ _ _ _ _ _ _ hb ⟨ht, hA, hN, hM, ⟨l, h1, h2, h3, h4, h5⟩, ⟨m, k1, k2, k3, k4, k5⟩⟩ => ⟨ht.below hb, hA, hN, hM, ⟨l, h1, h2.below hb, h3, h4, h5⟩, ⟨m, k1, k2.below hb, k3, k4, k5⟩⟩) ?_ b off cap n W hn hb hE
      intro K A B C N M x aT nT cT aW nW cW w h1 h2 hx hg
      obtain ⟨ht, ⟨hA1, hA2⟩, ⟨hN1, hN2⟩, ⟨hM1, hM2⟩, ⟨l, rfl, hB, hs, hnil, hl⟩, ⟨m, rfl, hW, hws, hwnil, hm⟩⟩ := hg
      by_cases hlow : K ≤ 8
      · refine plays_numbers K A B C N M (by omega) x _ _ w fun wx hb => ?_
        by_cases hK6 : K = 6
        · subst hK6
          exact numbers_int A B C N M x aT cT _ wx l hl (hB.below hb) hs hnil
        · by_cases hK7 : K = 7
          · subst hK7
            exact numbers_text A B C N M hN1 hN2 x _ _ wx (ht.below hb)
          · have hK8 : K = 8 := by omega
            subst hK8
            exact numbers_add A B C N M hN1 hN2 hM1 hM2 x _ _ wx
      · refine plays_unsigned K A B C N M (by omega) x _ _ w fun wx hb => ?_
        by_cases hK9 : K = 9
        · subst hK9
          exact unsigned_uint A B C N M x aT cT _ wx l hl (hB.below hb) hs hnil
        · have hK10 : K = 10 := by omega
          subst hK10
          exact unsigned_digits A B C N M x hx _ _ wx (ht.below hb)
  have HC := hide hcall
  clear hcall h
  go_enter Tryd.func5, Tryd.ntmps5
  go_wp2_with fail
  refine (unhide HC).mono ?_
  rintro e w1 ⟨rfl, hb1⟩
  go_wp2
  go_ret
  exact ⟨rfl, hb1⟩

set_option maxRecDepth 100000 in
theorem contract (H : Type) (enc : TypeId × Value → H) (W : World) (base : Nat) (args : Array Value) (ds gs : List (DataW H)) (before : List MemPlace)
    (hval : ∀ (j : Nat) t v, Tryd.f5.params[j]? = some t → args[j]? = some v → Value.okWide Tryd.prog W .any base t v)
    (hW : DataW.Whole enc Tryd.prog Tryd.f5.params.toList Rows.wordNumbersSpec.vars false W args.toList ds gs before)
    (hsz : (DataW.weightsEach Tryd.prog (Tryd.f5.params.toList ++ (OpenSpec.ofChange Rows.wordNumbersSpec).bare.plain.varTypes Tryd.prog) (ds ++ gs)).all (· ≤ reachBytes) = true) (hL : laidMet Tryd.prog Rows.wordNumbersRow.laid W) :
    Calls Tryd.prog 5 args W fun e W' => ∃ v, e = .returned v ∧ Rows.wordNumbersSpec.post enc Tryd.prog Tryd.f5 false true false false W args v W' := by
  have hW' := hW
  obtain ⟨p, q, hA0, hV, rfl, hfz, hnd⟩ := hW
  have hA : DataW.TrodAll enc Tryd.prog W 0 (fun _ => true) true Tryd.f5.params.toList args.toList ds p := hA0
  rw [Tryd.params5] at hA hval hsz
  obtain ⟨v0, vs0, d0, ds0, p0, q0, hargs, rfl, rfl, h0, r0⟩ := trodAll_cons hA
  obtain ⟨rfl, rfl, rfl⟩ := trodAll_nil r0
  obtain rfl : args = #[v0] := by cases args; simp_all
  obtain ⟨rfl, rfl⟩ := trodVars_none hV
  have k0 := h0
  have lt0 : ∀ x ∈ p0, x.block < W.heap.size := by obtain ⟨m, hm⟩ := k0; exact DataW.trod_lt m _ _ _ hm
  obtain ⟨a0, len0, cap0, rfl⟩ := okWide_slice Tryd.underlying22 (hval 0 22 v0 rfl rfl)
  obtain ⟨fuel, hf⟩ := h0
  obtain ⟨a, n, cap, hv, hlen, hE⟩ := open_script Known (fun K A B C N M x c7 c8 y7 y8 q hA hN hM h7 h8 g7 g8 => by
    obtain ⟨aT, cT, l, e7, hB, hnil, hs, hlen⟩ := open_bytes h7
    obtain ⟨aW, cW, m, e8, hW, hwnil, hws, hwlen⟩ := open_words h8
    exact ⟨aT, l.length, cT, aW, m.length, cW, e7, e8, tab_of_laid hL, bounds_i64 hA, bounds_i64 hN, bounds_i64 hM, ⟨l, rfl, hB, hs, hnil, bytes_sized hlen (fun m hm => held_sized hsz (g7 m hm))⟩, ⟨m, rfl, hW, hws, hwnil, words_sized hwlen (fun m hm => held_sized hsz (g8 m hm))⟩⟩) hf
  cases hv
  have hn : len0 ≤ 140737488355328 := by
    rcases hlen with rfl | ⟨el, sp, he, hl⟩
    · exact Nat.zero_le _
    · have hd : d0 = .slice el sp := he
      subst hd
      have := sized_slice hsz (j := 0) (t := 22) (e := 49) rfl rfl Tryd.underlying22
      rw [Tryd.bytes49] at this
      simp only [reachBytes] at this
      omega
  clear hA0
  refine (law a0 len0 cap0 W hn hE).mono fun e W' ⟨he, bel⟩ => ?_
  subst he
  exact ⟨_, rfl, _, _, _, [], _, [], hW', trodAll_mk1 (shut_bool Tryd.underlying4 _), (trodAll_cons_mk (Below.trod laidOut (by kernel_rfl) (of_decide_eq_true (by kernel_rfl)) k0 bel lt0) trodAll_mk0), rfl, bel.frame _, fun h => by cases h⟩

theorem laid_met (os : Os) : laidMet Tryd.prog Rows.wordNumbersRow.laid (({ World.holding Tryd.prog os ⟨#[], #[], []⟩ with heap := laidHeap (World.holding Tryd.prog os ⟨#[], #[], []⟩).heap } : World).forCall (fun _ _ => 0) ⟨#[], #[.slice none 0 0], []⟩).memory :=
  laidMet_of_run' 8 (by kernel_rfl) (by kernel_rfl)
theorem reads (os : Os) {H : Type} (enc : TypeId × Value → H) : ∃ places, DataW.whole enc Tryd.prog (({ World.holding Tryd.prog os ⟨#[], #[], []⟩ with heap := laidHeap (World.holding Tryd.prog os ⟨#[], #[], []⟩).heap } : World).forCall (fun _ _ => 0) ⟨#[], #[.slice none 0 0], []⟩).memory Tryd.f5.params.toList Rows.wordNumbersSpec.vars false #[Value.slice none 0 0].toList 8 = some ([.nil], [], places) :=
  ⟨[], by kernel_rfl⟩

set_option maxRecDepth 100000 in
theorem lifted (os : Os) (started : os.Started) (H : Type) (enc : TypeId × Value → H) (F : Stop.Interp) :
    ReturnsInHanded {} Tryd.checked os 5 .any ((OpenSpec.ofChange Rows.wordNumbersSpec).preRow enc Tryd.prog Tryd.f5 Rows.wordNumbersRow.domain false Rows.wordNumbersRow.laid) (((OpenSpec.ofChange Rows.wordNumbersSpec).at F).post enc Tryd.prog Tryd.f5 false true false false) := by
  obtain ⟨places, hx⟩ := reads os enc
  refine returnsInHanded_of_row (C := Tryd.checked) (s := OpenSpec.ofChange Rows.wordNumbersSpec) own started (by kernel_rfl) Tryd.func5
    (witness_row_at (enc := enc) (C := Tryd.checked) false ({ World.holding Tryd.prog os ⟨#[], #[], []⟩ with heap := laidHeap (World.holding Tryd.prog os ⟨#[], #[], []⟩).heap } : World) #[.slice none 0 0] rfl (by kernel_rfl) (by kernel_rfl) (by kernel_rfl)
      (OpenSpec.preRow_of_cond 8 hx (by kernel_rfl) (fun k hk => by cases hk) (by kernel_rfl) (laid_met os))) ?_
  intro W base args ds gs before hval hW _ _ hsz hL _ _
  exact contract H enc W base args ds gs before hval hW hsz hL

theorem said : Rows.WordNumbersSaid :=
  OpenClaim.holds_of_cond 5 Tryd.f5 rfl rfl rfl rfl rfl rfl rfl ⟨rfl, rfl, rfl, rfl, rfl⟩ rfl rfl rfl rfl rfl (by kernel_rfl) Tryd.func5 (by kernel_rfl)
    (of_decide_eq_true (by kernel_rfl)) (by unfold Func.isWrapper; first | (rw [if_pos (by decide +kernel)]; kernel_rfl) | (rw [if_neg (by decide +kernel)]; exact ⟨rfl, rfl⟩))
    (fun os started H enc _ F => by rw [OpenClaim.pre_eq_preRow]; exact lifted os started H enc F)

theorem plain (f : FuncId) (fn : Func) (hf : Tryd.pinned.checked.prog.funcNamed Rows.wordNumbersRow.func = some f) (hfn : Tryd.pinned.checked.prog.funcs[f]? = some fn) :
    false = Tryd.pinned.checked.prog.looks [] ∧ ∀ (j : Nat) t, fn.params[j]? = some t → Tryd.pinned.checked.prog.wantsStandIn t = false := by
  obtain rfl : f = 5 := Option.some.inj ((show Tryd.prog.funcNamed Rows.wordNumbersRow.func = some 5 by kernel_rfl).symm.trans hf) |>.symm
  obtain rfl : fn = Tryd.f5 := (Option.some.inj (Tryd.func5.symm.trans hfn)).symm
  refine ⟨by kernel_rfl, fun j t ht => ?_⟩
  rw [Tryd.params5] at ht
  obtain rfl : t = 22 := by simpa using Array.mem_of_getElem? ht
  exact (show Tryd.prog.wantsStandIn 22 = false by kernel_rfl)

theorem card : Rows.WordNumbersCardSaid :=
  Claim7.holds_tied_plain_at .later [] _ _ _ _ said (fun _ h => by cases h) (by kernel_rfl) (fun _ h => by cases h) wordNumbers_row_tie rfl ⟨rfl, rfl⟩ (by kernel_rfl) rfl plain (by kernel_rfl)
end Go.Proofs.YtochdajeocganabDoor.WordNumbers
namespace Go.Proofs.YtochdajeocganabDoor
theorem wordNumbers_holds : Rows.WordNumbersCardSaid := WordNumbers.card
end Go.Proofs.YtochdajeocganabDoor
