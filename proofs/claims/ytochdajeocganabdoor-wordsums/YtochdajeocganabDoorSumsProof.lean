/- WordSums: the row and its card. -/
import Derived.Test.YtochdajeocganabDoorOpen
import Derived.Test.YtochdajeocganabDoorLists
import Derived.Test.YtochdajeocganabDoorPlaySums
namespace Go.Proofs.YtochdajeocganabDoor.WordSums
open Go.ChangeShapes Go.WideShapes Go.ChangeAt Go.RowKit Go.Joins
set_option linter.unusedVariables false

/-- the text of a call -/
def Texts (w : World) (_ _ _ _ _ _ : Int) (_ : Nat) (aT : Option Addr) (nT cT : Nat) (_ : Option Addr) (_ _ : Nat) : Prop :=
  ∃ l : List Nat, nT = l.length ∧ Bytes w aT l ∧ Small l ∧ (aT = none → cT = 0) ∧ l.length ≤ 140737488351232

theorem law (a : Option Addr) (n cap : Nat) (W : World) (hn : n ≤ 140737488355328)
    (h : n = 0 ∨ ∃ b off, a = some ⟨b, off, none⟩ ∧ b < W.heap.size ∧
        ∀ k, k < n → ∃ (K A B C N M : Int) (x : Nat) (aT : Option Addr) (nT cT : Nat) (aW : Option Addr) (nW cW : Nat), x < 18446744073709551616 ∧ OpAt W b (off + k * 9) K A B C N M x aT nT cT aW nW cW ∧ Texts W K A B C N M x aT nT cT aW nW cW) :
    Calls Tryd.prog 6 #[.slice a n cap] W fun e w' => e = .returned (.bool true) ∧ Below W.heap.size W w' := by
  have hcall : Calls Tryd.prog 9 #[.slice a n cap, .int .i64 11, .int .i64 12] W fun e w' => e = .returned (.bool true) ∧ Below W.heap.size W w' := by
    rcases h with rfl | ⟨b, off, rfl, hb, hE⟩
    · exact upto_none 11 12 a cap W
    · refine upto_some 11 12 Texts (fun _ _ _ _ _ _ _ _ _ _ _ _ _ _ _ hb ⟨l, h1, h2, h3, h4, h5⟩ => ⟨l, h1, h2.below hb, h3, h4, h5⟩) ?_ b off cap n W hn hb hE
      intro K A B C N M x aT nT cT aW nW cW w h1 h2 hx hg
      obtain ⟨l, rfl, hB, hs, hnil, hl⟩ := hg
      by_cases hK : K = 11
      · subst hK
        exact plays_hash Larder.hashN (fun sd a' cap' w' m q1 q2 q3 q4 => hash_any sd a' cap' w' m q1 (by omega) q3 q4) (fun sd a' cap' w' m q1 q2 q3 q4 => rhash_any sd a' cap' w' m q1 q2 q3 q4) A B C N M x hx aT cT _ w l hl hB hs hnil
      · have hK2 : K = 12 := by omega
        subst hK2
        exact plays_sum A B C N M x aT cT _ w l hl hB hs hnil
  have HC := hide hcall
  clear hcall h
  go_enter Tryd.func6, Tryd.ntmps6
  go_wp2_with fail
  refine (unhide HC).mono ?_
  rintro e w1 ⟨rfl, hb1⟩
  go_wp2
  go_ret
  exact ⟨rfl, hb1⟩

set_option maxRecDepth 100000 in
theorem contract (H : Type) (enc : TypeId × Value → H) (W : World) (base : Nat) (args : Array Value) (ds gs : List (DataW H)) (before : List MemPlace)
    (hval : ∀ (j : Nat) t v, Tryd.f6.params[j]? = some t → args[j]? = some v → Value.okWide Tryd.prog W .any base t v)
    (hW : DataW.Whole enc Tryd.prog Tryd.f6.params.toList Rows.wordSumsSpec.vars false W args.toList ds gs before)
    (hsz : (DataW.weightsEach Tryd.prog (Tryd.f6.params.toList ++ (OpenSpec.ofChange Rows.wordSumsSpec).bare.plain.varTypes Tryd.prog) (ds ++ gs)).all (· ≤ reachBytes) = true) :
    Calls Tryd.prog 6 args W fun e W' => ∃ v, e = .returned v ∧ Rows.wordSumsSpec.post enc Tryd.prog Tryd.f6 false true false false W args v W' := by
  have hW' := hW
  obtain ⟨p, q, hA0, hV, rfl, hfz, hnd⟩ := hW
  have hA : DataW.TrodAll enc Tryd.prog W 0 (fun _ => true) true Tryd.f6.params.toList args.toList ds p := hA0
  rw [Tryd.params6] at hA hval hsz
  obtain ⟨v0, vs0, d0, ds0, p0, q0, hargs, rfl, rfl, h0, r0⟩ := trodAll_cons hA
  obtain ⟨rfl, rfl, rfl⟩ := trodAll_nil r0
  obtain rfl : args = #[v0] := by cases args; simp_all
  obtain ⟨rfl, rfl⟩ := trodVars_none hV
  have k0 := h0
  have lt0 : ∀ x ∈ p0, x.block < W.heap.size := by obtain ⟨m, hm⟩ := k0; exact DataW.trod_lt m _ _ _ hm
  obtain ⟨a0, len0, cap0, rfl⟩ := okWide_slice Tryd.underlying22 (hval 0 22 v0 rfl rfl)
  obtain ⟨fuel, hf⟩ := h0
  obtain ⟨a, n, cap, hv, hlen, hE⟩ := open_script Texts (fun K A B C N M x c7 c8 y7 y8 q _ _ _ h7 h8 g7 _ => by
    obtain ⟨aT, cT, l, e7, hB, hnil, hs, hlen⟩ := open_bytes h7
    obtain ⟨aW, nW, cW, e8⟩ := slice_form Tryd.underlying47 h8
    cases e8
    exact ⟨aT, l.length, cT, _, _, _, e7, rfl, l, rfl, hB, hs, hnil, bytes_sized hlen (fun m hm => held_sized hsz (g7 m hm))⟩) hf
  cases hv
  have hn : len0 ≤ 140737488355328 := by
    rcases hlen with rfl | ⟨el, sp, he, hl⟩
    · exact Nat.zero_le _
    · have hd : d0 = .slice el sp := he
      subst hd
      have := sized_slice hsz (j := 0) (t := 22) (e := 49) rfl rfl Tryd.underlying22
      rw [Tryd.bytes49] at this
      simp only [reachBytes] at this
      omega
  clear hA0
  refine (law a0 len0 cap0 W hn hE).mono fun e W' ⟨he, bel⟩ => ?_
  subst he
  exact ⟨_, rfl, _, _, _, [], _, [], hW', trodAll_mk1 (shut_bool Tryd.underlying4 _), (trodAll_cons_mk (Below.trod laidOut (by kernel_rfl) (of_decide_eq_true (by kernel_rfl)) k0 bel lt0) trodAll_mk0), rfl, bel.frame _, fun h => by cases h⟩

theorem laid_met (os : Os) : laidMet Tryd.prog Rows.wordSumsRow.laid (({ World.holding Tryd.prog os ⟨#[], #[], []⟩ with heap := laidHeap (World.holding Tryd.prog os ⟨#[], #[], []⟩).heap } : World).forCall (fun _ _ => 0) ⟨#[], #[.slice none 0 0], []⟩).memory :=
  laidMet_of_run' 8 (by kernel_rfl) (by kernel_rfl)
theorem reads (os : Os) {H : Type} (enc : TypeId × Value → H) : ∃ places, DataW.whole enc Tryd.prog (({ World.holding Tryd.prog os ⟨#[], #[], []⟩ with heap := laidHeap (World.holding Tryd.prog os ⟨#[], #[], []⟩).heap } : World).forCall (fun _ _ => 0) ⟨#[], #[.slice none 0 0], []⟩).memory Tryd.f6.params.toList Rows.wordSumsSpec.vars false #[Value.slice none 0 0].toList 8 = some ([.nil], [], places) :=
  ⟨[], by kernel_rfl⟩

set_option maxRecDepth 100000 in
theorem lifted (os : Os) (started : os.Started) (H : Type) (enc : TypeId × Value → H) (F : Stop.Interp) :
    ReturnsInHanded {} Tryd.checked os 6 .any ((OpenSpec.ofChange Rows.wordSumsSpec).preRow enc Tryd.prog Tryd.f6 Rows.wordSumsRow.domain false Rows.wordSumsRow.laid) (((OpenSpec.ofChange Rows.wordSumsSpec).at F).post enc Tryd.prog Tryd.f6 false true false false) := by
  obtain ⟨places, hx⟩ := reads os enc
  refine returnsInHanded_of_row (C := Tryd.checked) (s := OpenSpec.ofChange Rows.wordSumsSpec) own started (by kernel_rfl) Tryd.func6
    (witness_row_at (enc := enc) (C := Tryd.checked) false ({ World.holding Tryd.prog os ⟨#[], #[], []⟩ with heap := laidHeap (World.holding Tryd.prog os ⟨#[], #[], []⟩).heap } : World) #[.slice none 0 0] rfl (by kernel_rfl) (by kernel_rfl) (by kernel_rfl)
      (OpenSpec.preRow_of_cond 8 hx (by kernel_rfl) (fun k hk => by cases hk) (by kernel_rfl) (laid_met os))) ?_
  intro W base args ds gs before hval hW _ _ hsz hL _ _
  exact contract H enc W base args ds gs before hval hW hsz

theorem said : Rows.WordSumsSaid :=
  OpenClaim.holds_of_cond 6 Tryd.f6 rfl rfl rfl rfl rfl rfl rfl ⟨rfl, rfl, rfl, rfl, rfl⟩ rfl rfl rfl rfl rfl (by kernel_rfl) Tryd.func6 (by kernel_rfl)
    (of_decide_eq_true (by kernel_rfl)) (by unfold Func.isWrapper; first | (rw [if_pos (by decide +kernel)]; kernel_rfl) | (rw [if_neg (by decide +kernel)]; exact ⟨rfl, rfl⟩))
    (fun os started H enc _ F => by rw [OpenClaim.pre_eq_preRow]; exact lifted os started H enc F)

theorem plain (f : FuncId) (fn : Func) (hf : Tryd.pinned.checked.prog.funcNamed Rows.wordSumsRow.func = some f) (hfn : Tryd.pinned.checked.prog.funcs[f]? = some fn) :
    false = Tryd.pinned.checked.prog.looks [] ∧ ∀ (j : Nat) t, fn.params[j]? = some t → Tryd.pinned.checked.prog.wantsStandIn t = false := by
  obtain rfl : f = 6 := Option.some.inj ((show Tryd.prog.funcNamed Rows.wordSumsRow.func = some 6 by kernel_rfl).symm.trans hf) |>.symm
  obtain rfl : fn = Tryd.f6 := (Option.some.inj (Tryd.func6.symm.trans hfn)).symm
  refine ⟨by kernel_rfl, fun j t ht => ?_⟩
  rw [Tryd.params6] at ht
  obtain rfl : t = 22 := by simpa using Array.mem_of_getElem? ht
  exact (show Tryd.prog.wantsStandIn 22 = false by kernel_rfl)

theorem card : Rows.WordSumsCardSaid :=
  Claim7.holds_tied_plain_at .later [] _ _ _ _ said (fun _ h => by cases h) (by kernel_rfl) (fun _ h => by cases h) wordSums_row_tie rfl ⟨rfl, rfl⟩ (by kernel_rfl) rfl plain (by kernel_rfl)
end Go.Proofs.YtochdajeocganabDoor.WordSums
namespace Go.Proofs.YtochdajeocganabDoor
theorem wordSums_holds : Rows.WordSumsCardSaid := WordSums.card
end Go.Proofs.YtochdajeocganabDoor
