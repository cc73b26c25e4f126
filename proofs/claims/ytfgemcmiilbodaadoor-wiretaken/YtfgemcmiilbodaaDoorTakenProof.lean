/- WireTaken: the row and its card (the bounded form). -/
import Derived.Test.YtfgemcmiilbodaaDoorTke
import Derived.Shelf.Vars
import Derived.Lib.LaidU8T
import Derived.Test.YtfgemcmiilbodaaDoorCards
import Derived.Test.YtfgemcmiilbodaaDoorTie
import Derived.Lib.SmallJoins
import Derived.SizedLaws
import Derived.Deep.DeepHandedRow
import Derived.Lib.LaidTab
namespace Go.Proofs.YtfgemcmiilbodaaDoor
open Go.ChangeShapes Go.WideShapes Go.ChangeAt Go.RowKit Go.Joins Go.Deep
set_option linter.unusedVariables false
set_option maxRecDepth 100000

theorem own : ownKnob Tryd.prog.godebug = none := by kernel_rfl
theorem laidOut : laidOutB Tryd.prog = true := by kernel_rfl
theorem Tryd.bytes5 : Tryd.prog.bytesOf 5 = 1 := by kernel_rfl

theorem open_bytes {H : Type} {enc : TypeId × Value → H} {W : World} {n : Nat} {v : Value} {y : DataW H × List MemPlace}
    (hf : DataW.trod enc Tryd.prog W 0 (fun _ => true) true n 22 [v] = some y) :
    ∃ a cap l, v = .slice a l.length cap ∧ Bytes W a l ∧ (a = none → cap = 0) ∧ (l.length ≤ cap ∧ cap ≤ 9223372036854775807) ∧ Small l ∧ (l = [] ∨ ∃ elems spare, y.1 = .slice elems spare ∧ elems.length = l.length) := by
  rcases open_ints Tryd.underlying22 Tryd.underlying5 (by kernel_rfl) hf with ⟨hcs, _⟩ | ⟨x, len, cap, zs, hcs, _, hl, hm, hz, hy, hcell, hwz⟩
  · cases hcs
    exact ⟨none, 0, [], rfl, .inl rfl, fun _ => rfl, ⟨Nat.le_refl _, by omega⟩, (fun i hi => by simp at hi), .inl rfl⟩
  · cases hcs
    simp only [if_true] at hz
    have hlz : len ≤ zs.length := by omega
    have hlen : ((zs.take len).map Int.toNat).length = len := by simp; omega
    have hget : ∀ i, i < len → ((((zs.take len).map Int.toNat).getD i 0 : Nat) : Int) = zs.getD i 0 ∧ ((zs.take len).map Int.toNat).getD i 0 < 256 := by
      intro i hi
      have hiz : i < zs.length := by omega
      have hb := bounds_u8 (hwz (zs[i]) (List.getElem_mem hiz))
      have e1 : ((zs.take len).map Int.toNat).getD i 0 = (zs[i]).toNat := by
        rw [List.getD_eq_getElem?_getD, List.getElem?_map, List.getElem?_take, if_pos hi, List.getElem?_eq_getElem hiz]; rfl
      have e2 : zs.getD i 0 = zs[i] := by rw [List.getD_eq_getElem?_getD, List.getElem?_eq_getElem hiz]; rfl
      rw [e1, e2]
      omega
    refine ⟨some x, cap, (zs.take len).map Int.toNat, by rw [hlen], ?_, (fun h => by cases h), ⟨by rw [hlen]; exact hl, by simp only [maxLen] at hm; omega⟩, ?_, ?_⟩
    · by_cases h0 : len = 0
      · left; subst h0; simp
      · right
        obtain ⟨b, off, spot⟩ := x
        have hc := hcell 0 (by omega)
        have hspot : spot = none := by simpa [Addr.add] using World.cell?_spot hc
        subst hspot
        refine ⟨b, off, rfl, ?_, ?_⟩
        · have := block_lt_of_cell hc
          simpa [add_plain] using this
        · intro i hi
          rw [hlen] at hi
          have := hcell i (by omega)
          rw [add_plain] at this
          rw [this, (hget i hi).1]
    · intro i hi
      rw [hlen] at hi
      exact (hget i hi).2
    · right
      exact ⟨_, _, by rw [hy], by rw [hlen]; simp [lits]; omega⟩

/-- a table's block, holding these values -/
def put (C : Array Value) : Obj → Obj
  | .cells _ t frozen => .cells C t frozen
  | o => o
/-- the heap of a world for the witness: the tables as their initialisers lay them -/
def laidHeap (h : Array Obj) : Array Obj := ((((h.modify 1 (put (Go.Pinned.utf8FirstZ.map (fun z => Value.int .u8 (z : Nat))).toArray)).modify 2 (put #[.int .u8 128, .int .u8 191, .int .u8 160, .int .u8 191, .int .u8 128, .int .u8 159, .int .u8 144, .int .u8 191, .int .u8 128, .int .u8 143, .int .u8 0, .int .u8 0, .int .u8 0, .int .u8 0, .int .u8 0, .int .u8 0, .int .u8 0, .int .u8 0, .int .u8 0, .int .u8 0, .int .u8 0, .int .u8 0, .int .u8 0, .int .u8 0, .int .u8 0, .int .u8 0, .int .u8 0, .int .u8 0, .int .u8 0, .int .u8 0, .int .u8 0, .int .u8 0])).modify 3 (put #[.int .u64 1, .int .u64 10, .int .u64 100, .int .u64 1000, .int .u64 10000, .int .u64 100000, .int .u64 1000000, .int .u64 10000000, .int .u64 100000000, .int .u64 1000000000, .int .u64 10000000000, .int .u64 100000000000, .int .u64 1000000000000, .int .u64 10000000000000, .int .u64 100000000000000, .int .u64 1000000000000000, .int .u64 10000000000000000, .int .u64 100000000000000000, .int .u64 1000000000000000000, .int .u64 10000000000000000000])).modify 4 (put #[.int .u8 0, .int .u8 1, .int .u8 28, .int .u8 2, .int .u8 29, .int .u8 14, .int .u8 24, .int .u8 3, .int .u8 30, .int .u8 22, .int .u8 20, .int .u8 15, .int .u8 25, .int .u8 17, .int .u8 4, .int .u8 8, .int .u8 31, .int .u8 27, .int .u8 13, .int .u8 23, .int .u8 21, .int .u8 19, .int .u8 16, .int .u8 7, .int .u8 26, .int .u8 12, .int .u8 18, .int .u8 6, .int .u8 11, .int .u8 5, .int .u8 10, .int .u8 9])).modify 5 (put #[.int .u8 0, .int .u8 1, .int .u8 56, .int .u8 2, .int .u8 57, .int .u8 49, .int .u8 28, .int .u8 3, .int .u8 61, .int .u8 58, .int .u8 42, .int .u8 50, .int .u8 38, .int .u8 29, .int .u8 17, .int .u8 4, .int .u8 62, .int .u8 47, .int .u8 59, .int .u8 36, .int .u8 45, .int .u8 43, .int .u8 51, .int .u8 22, .int .u8 53, .int .u8 39, .int .u8 33, .int .u8 30, .int .u8 24, .int .u8 18, .int .u8 12, .int .u8 5, .int .u8 63, .int .u8 55, .int .u8 48, .int .u8 27, .int .u8 60, .int .u8 41, .int .u8 37, .int .u8 16, .int .u8 46, .int .u8 35, .int .u8 44, .int .u8 21, .int .u8 52, .int .u8 32, .int .u8 23, .int .u8 11, .int .u8 54, .int .u8 26, .int .u8 40, .int .u8 15, .int .u8 34, .int .u8 20, .int .u8 31, .int .u8 10, .int .u8 25, .int .u8 14, .int .u8 19, .int .u8 9, .int .u8 13, .int .u8 8, .int .u8 7, .int .u8 6])
theorem tab_of_laid {W : World} (h : laidMet Tryd.prog Rows.wireTakenUptoRow.laid W) : Tab W := by
  obtain ⟨ps, ⟨_, _, _, _, _, _, _, _, _, _, ⟨_, _, _, _, _, _, _, _, _, _, h3, _⟩, _⟩, _, _⟩ := h
  obtain ⟨g', t', cs, fuel, p, q, hg', ht', hvar, hd, hr, hp⟩ := h3
  have hg : Tryd.prog.globalNamed tabName = some 3 := by kernel_rfl
  have e1 : (3 : Nat) = g' := Option.some.inj (hg.symm.trans hg')
  subst e1
  have hty : (Tryd.prog.globals[3]?).map (fun g => g.type) = some 102 := by kernel_rfl
  have e2 : 102 = t' := Option.some.inj (hty.symm.trans ht')
  subst e2
  show W.var? Tryd.prog tabName = _
  have hv : W.var? Tryd.prog tabName = some cs := hvar
  rw [hv, ← Lib.cells_of_tab (zs := Lib.pow10Tab) (k := .u64) Tryd.underlying102 Tryd.underlying86 (by kernel_rfl) (by kernel_rfl) hd]
def u8ren : Go.Shelf.Ren := ⟨fun n => n, fun | 119 => 90 | 138 => 92 | 139 => 93 | n => n, fun | 3 => 1 | 4 => 2 | n => n⟩
theorem u8types : U8Types Tryd.prog u8ren := ⟨by kernel_rfl, by kernel_rfl, by kernel_rfl, by kernel_rfl⟩
theorem u8extra : U8Extra Tryd.prog u8ren := ⟨by kernel_rfl, by kernel_rfl, by kernel_rfl, by kernel_rfl, by kernel_rfl, by kernel_rfl, by kernel_rfl⟩
theorem uok_of_laid {W : World} (h : laidMet Tryd.prog Rows.wireTakenUptoRow.laid W) (hsh : W.ShapedOpen Tryd.prog) : UOk W := by
  have ht : Lib.Utf8Tabs 1 2 W := utf8Tabs_of_readsT u8types u8extra (Lib.laidMet.reads h (List.mem_of_getElem? (i := 4) (by kernel_rfl))) (Lib.laidMet.reads h (List.mem_of_getElem? (i := 3) (by kernel_rfl)))
  refine ⟨ht, cell_of_shapedOpen_int (zero := #[.int .i64 0]) (t := 3) hsh (of_decide_eq_true (by kernel_rfl)) (by kernel_rfl) rfl (by kernel_rfl) (by kernel_rfl) Tryd.underlying3, ?_⟩
  have := (ht.2 0 (by decide)).1
  exact block_lt_of_cell (a := ⟨2, 2 * 0, none⟩) this
theorem taken_any (W : World) (a : Option Addr) (cp : Nat) (D : List Nat) (ma : Option Addr) (mp : Nat) (M : List Nat) (hU : UOk W) (hT : Tab W) (hD : DecIn W a D.length cp D) (hM : DecIn W ma M.length mp M) (hn : D.length ≤ 1048576) (hm : M.length ≤ 1048576) :
    Calls Tryd.prog 3 #[.agg #[.slice a D.length cp, .slice ma M.length mp]] W (TkEnd W) := by
  cases hl : D with
  | nil =>
    subst hl
    exact taken_none W a cp ma M.length mp hU hD
  | cons c D' =>
    rw [← hl]
    have hpos : 0 < D.length := by rw [hl]; simp
    rcases hD.by' with e | ⟨b, off, rfl, h1, h2⟩
    · rw [e] at hl; cases hl
    clear hl
    cases hP : repP 9 D with
    | short =>
      obtain ⟨p, hp⟩ : ∃ p, D.length = p + 1 := ⟨D.length - 1, by omega⟩
      rw [hp] at hD ⊢
      exact taken_short W b off p cp D ma M.length mp hU hD hP
    | wrong => exact taken_wrong W b off D.length cp D M ma mp hU hD hM hn hm hP hpos
    | ok x r =>
      have h3 := repP_text 9 D x r hP
      have h4 := congrArg List.length h3.1
      have h5 : 0 < (encL 9 x).length := List.length_pos_iff.2 h3.2.1
      rw [List.length_append] at h4
      exact taken_ok W b off D.length (D.length - r.length - 1) cp D r x ma M.length mp hU hT hD hn hP (by omega)
theorem bulk_one {H : Type} (d : DataW H) : 1 ≤ Rows.uptoBulk d := by
  cases d with
  | lit l => cases l <;> simp [Rows.uptoBulk]
  | _ => simp [Rows.uptoBulk]
theorem bulk_len {H : Type} (l : List (DataW H)) : l.length ≤ Rows.uptoBulkAll l := by
  induction l with
  | nil => simp
  | cons x r ih =>
    have := bulk_one x
    simp only [Rows.uptoBulkAll, List.length_cons]
    omega
theorem bulk_slice {H : Type} (el sp : List (DataW H)) : el.length ≤ Rows.uptoBulk (.slice el sp) := by
  have := bulk_len el
  simp only [Rows.uptoBulk]
  omega
theorem open_in {H : Type} {enc : TypeId × Value → H} {W : World} {n : Nat} {v : Value} {y : DataW H × List MemPlace}
    (hf : DataW.trod enc Tryd.prog W 0 (fun _ => true) true n 22 [v] = some y) (h : Rows.uptoBulk y.1 ≤ 1048576) :
    ∃ a cap l, v = .slice a l.length cap ∧ DecIn W a l.length cap l ∧ l.length ≤ 1048576 := by
  obtain ⟨a, cap, l, rfl, hB, hnil, hcap, hs, hlen⟩ := open_bytes hf
  have hl : l.length ≤ 1048576 := by
    rcases hlen with rfl | ⟨el, sp, he, hn⟩
    · simp
    · have h2 := bulk_slice el sp
      rw [← he] at h2
      omega
  by_cases h0 : l = []
  · subst h0
    exact ⟨a, cap, [], rfl, ⟨.inl rfl, hs, rfl, hcap.1, hcap.2, by simp, fun b off e h0 => absurd h0 (by simp)⟩, by simp⟩
  · refine ⟨a, cap, l, rfl, ⟨hB, hs, rfl, hcap.1, hcap.2, by omega, fun b off e _ => ?_⟩, hl⟩
    rcases hB with e0 | ⟨b', off', e1, h1, _⟩
    · exact absurd e0 h0
    · rw [e] at e1
      cases e1
      exact h1
end Go.Proofs.YtfgemcmiilbodaaDoor
namespace Go.Proofs.YtfgemcmiilbodaaDoor.WireTaken
open Go.ChangeShapes Go.WideShapes Go.ChangeAt Go.RowKit Go.Joins Go.Deep
set_option linter.unusedVariables false
set_option maxRecDepth 100000

theorem contract (H : Type) (enc : TypeId × Value → H) (W : World) (base : Nat) (args : Array Value) (ds gs : List (DataW H)) (before : List MemPlace)
    (hval : ∀ (j : Nat) t v, Tryd.f3.params[j]? = some t → args[j]? = some v → Value.okWide Tryd.prog W .any base t v)
    (hW : DataW.Whole enc Tryd.prog Tryd.f3.params.toList Rows.wireTakenSpec.vars false W args.toList ds gs before)
    (hk : ∀ k, (Rows.OpenSpec.upto Rows.wireTakenSpec).cond = some k → k H (ds ++ gs) = true) (hL : laidMet Tryd.prog Rows.wireTakenUptoRow.laid W) (hsh : W.ShapedOpen Tryd.prog) :
    Calls Tryd.prog 3 args W fun e W' => ∃ v, e = .returned v ∧ Rows.wireTakenSpec.post enc Tryd.prog Tryd.f3 false true false false W args v W' := by
  have hW' := hW
  obtain ⟨p, q, hA0, hV, rfl, hfz, hnd⟩ := hW
  have hA : DataW.TrodAll enc Tryd.prog W 0 (fun _ => true) true Tryd.f3.params.toList args.toList ds p := hA0
  rw [Tryd.params3] at hA hval
  obtain ⟨v0, vs0, d0, ds0, p0, q0, hargs, rfl, rfl, h0, r0⟩ := trodAll_cons hA
  obtain ⟨rfl, rfl, rfl⟩ := trodAll_nil r0
  obtain rfl : args = #[v0] := by cases args; simp_all
  obtain ⟨rfl, rfl⟩ := trodVars_none hV
  have k0 := h0
  have lt0 : ∀ x ∈ p0, x.block < W.heap.size := by obtain ⟨m, hm⟩ := k0; exact DataW.trod_lt m _ _ _ hm
  obtain ⟨c0, c1, y0, y1, m, rfl, hd, _, hy0, hy1⟩ := open_agg2 Tryd.underlying24 (by kernel_rfl) (by kernel_rfl) (hval 0 24 v0 rfl rfl) h0
  subst hd
  have hsm : Rows.uptoBulk y0.1 ≤ 1048576 ∧ Rows.uptoBulk y1.1 ≤ 1048576 := by
    have h := hk Rows.uptoSmall rfl
    simp only [Rows.uptoSmall, List.append_nil, decide_eq_true_eq, Rows.uptoBulkAll, Rows.uptoBulk] at h
    omega
  obtain ⟨a, cp, D, rfl, hD, hDn⟩ := open_in hy0 hsm.1
  obtain ⟨ma, mp, M, rfl, hM, hMn⟩ := open_in hy1 hsm.2
  clear hA0
  refine (taken_any W a cp D ma mp M (uok_of_laid hL hsh) (tab_of_laid hL) hD hM hDn hMn).mono fun e W' ⟨he, hb⟩ => ?_
  have bel := unhide hb
  subst he
  exact ⟨_, rfl, _, _, _, [], _, [], hW', trodAll_mk1 (shut_bool Tryd.underlying4 _), (trodAll_cons_mk (Below.trod laidOut (by kernel_rfl) (of_decide_eq_true (by kernel_rfl)) k0 bel lt0) trodAll_mk0), rfl, bel.frame _, fun h => by cases h⟩

theorem laid_met (os : Os) : laidMet Tryd.prog Rows.wireTakenUptoRow.laid (({ World.holding Tryd.prog os ⟨#[], #[], []⟩ with heap := laidHeap (World.holding Tryd.prog os ⟨#[], #[], []⟩).heap } : World).forCall (fun _ _ => 0) ⟨#[], #[.agg #[.slice none 0 0, .slice none 0 0]], []⟩).memory :=
  laidMet_of_run' 8 (by kernel_rfl) (by kernel_rfl)
theorem reads (os : Os) {H : Type} (enc : TypeId × Value → H) : ∃ places, DataW.whole enc Tryd.prog (({ World.holding Tryd.prog os ⟨#[], #[], []⟩ with heap := laidHeap (World.holding Tryd.prog os ⟨#[], #[], []⟩).heap } : World).forCall (fun _ _ => 0) ⟨#[], #[.agg #[.slice none 0 0, .slice none 0 0]], []⟩).memory Tryd.f3.params.toList Rows.wireTakenSpec.vars false (#[.agg #[.slice none 0 0, .slice none 0 0]] : Array Value).toList 8 = some ([.agg [.nil, .nil]], [], places) :=
  ⟨[], by kernel_rfl⟩

theorem lifted (os : Os) (started : os.Started) (H : Type) (enc : TypeId × Value → H) (F : Stop.Interp) :
    ReturnsInHanded {} Tryd.checked os 3 .any ((Rows.OpenSpec.upto Rows.wireTakenSpec).preRow enc Tryd.prog Tryd.f3 Rows.wireTakenUptoRow.domain false Rows.wireTakenUptoRow.laid) (((Rows.OpenSpec.upto Rows.wireTakenSpec).at F).post enc Tryd.prog Tryd.f3 false true false false) := by
  obtain ⟨places, hx⟩ := reads os enc
  refine returnsInHanded_of_row (C := Tryd.checked) (s := Rows.OpenSpec.upto Rows.wireTakenSpec) own started (by kernel_rfl) Tryd.func3
    (witness_row_at (enc := enc) (C := Tryd.checked) false ({ World.holding Tryd.prog os ⟨#[], #[], []⟩ with heap := laidHeap (World.holding Tryd.prog os ⟨#[], #[], []⟩).heap } : World) #[.agg #[.slice none 0 0, .slice none 0 0]] rfl (by kernel_rfl) (by kernel_rfl) (by kernel_rfl)
      (OpenSpec.preRow_of_cond 8 hx (by kernel_rfl) (fun k hk => by cases hk; kernel_rfl) (by kernel_rfl) (laid_met os))) ?_
  intro W base args ds gs before hval hW _ hk hsz hL hsh _
  exact contract H enc W base args ds gs before hval hW hk hL hsh

theorem said : Rows.WireTakenUptoSaid :=
  OpenClaim.holds_of_cond 3 Tryd.f3 rfl rfl rfl rfl rfl rfl rfl ⟨rfl, rfl, rfl, rfl, rfl⟩ rfl rfl rfl rfl rfl (by kernel_rfl) Tryd.func3 (by kernel_rfl)
    (of_decide_eq_true (by kernel_rfl)) (by unfold Func.isWrapper; first | (rw [if_pos (by decide +kernel)]; kernel_rfl) | (rw [if_neg (by decide +kernel)]; exact ⟨rfl, rfl⟩))
    (fun os started H enc _ F => by rw [OpenClaim.pre_eq_preRow]; exact lifted os started H enc F)

theorem plain (f : FuncId) (fn : Func) (hf : Tryd.pinned.checked.prog.funcNamed Rows.wireTakenUptoRow.func = some f) (hfn : Tryd.pinned.checked.prog.funcs[f]? = some fn) :
    false = Tryd.pinned.checked.prog.looks [] ∧ ∀ (j : Nat) t, fn.params[j]? = some t → Tryd.pinned.checked.prog.wantsStandIn t = false := by
  obtain rfl : f = 3 := Option.some.inj ((show Tryd.prog.funcNamed Rows.wireTakenUptoRow.func = some 3 by kernel_rfl).symm.trans hf) |>.symm
  obtain rfl : fn = Tryd.f3 := (Option.some.inj (Tryd.func3.symm.trans hfn)).symm
  refine ⟨by kernel_rfl, fun j t ht => ?_⟩
  rw [Tryd.params3] at ht
  obtain rfl : t = 24 := by simpa using Array.mem_of_getElem? ht
  exact (show Tryd.prog.wantsStandIn 24 = false by kernel_rfl)

theorem card : Rows.WireTakenUptoCardSaid :=
  Claim7.holds_tied_plain_at .later [] _ _ _ _ said (fun _ h => by cases h) (by kernel_rfl) (fun _ h => by cases h) wireTakenUpto_row_tie rfl ⟨rfl, rfl⟩ (by kernel_rfl) rfl plain (by kernel_rfl)
end Go.Proofs.YtfgemcmiilbodaaDoor.WireTaken
namespace Go.Proofs.YtfgemcmiilbodaaDoor
theorem wireTaken_upto : Rows.WireTakenUptoCardSaid := WireTaken.card
end Go.Proofs.YtfgemcmiilbodaaDoor
