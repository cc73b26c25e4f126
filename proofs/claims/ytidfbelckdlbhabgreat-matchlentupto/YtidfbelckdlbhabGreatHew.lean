/- lentHeld: the walk. -/
import Derived.Test.YtidfbelckdlbhabGreatHsa
import Derived.Test.YtidfbelckdlbhabGreatHld
import Derived.Test.YtidfbelckdlbhabGreatInp
import Derived.Test.YtidfbelckdlbhabGreatRfl
import Derived.Test.YtidfbelckdlbhabGreatRpf
import Derived.Test.YtidfbelckdlbhabGreatGrt
import Derived.Test.YtidfbelckdlbhabGreatPla
import Derived.Test.YtidfbelckdlbhabGreatSta
import Derived.Deep.Cut
import Derived.Deep.MidRow
namespace Go.Proofs.YtidfbelckdlbhabGreat
open Go.ChangeShapes Go.WideShapes Go.ChangeAt Go.RowKit
set_option linter.unusedVariables false
set_option linter.unusedSimpArgs false
set_option maxRecDepth 20000
set_option maxHeartbeats 4000000
/-- its texts are short -/
def AskFew (x : AskD) : Prop := x.P.length ≤ 1048576 ∧ x.T.length ≤ 1048576 ∧ x.F.length ≤ 1048576 ∧ x.U.length ≤ 1048576
theorem size_alloc' (w : World) (o : Obj) : (w.alloc o).heap.size = w.heap.size + 1 := by simp
theorem Kept.low {N : Nat} {w w' : World} (h : Kept (fun b => N < b) w w') (hN : N ≤ w.heap.size) : Below N w w' := ⟨h.os, h.tape, h.output, h.size, fun b hb => h.blk b (by omega) (by omega)⟩
theorem rfill_any (a b : Option Addr) (c d : Nat) (w : World) (P T : List Nat) (hP : P.length ≤ 1048576) (hT : T.length ≤ 1048576) (hs : Small P) (hB : Bytes w a P) (hB2 : Bytes w b T) (hc : P.length ≤ c) (hc2 : c ≤ 9223372036854775807) (hz2 : b = none → d = 0) :
    Calls Tryz.prog 19 #[.slice a P.length c, .slice b T.length d] w (FillEnd P T w) := by
  rcases Nat.eq_zero_or_pos P.length with h0 | h0
  · have : P = [] := List.eq_nil_of_length_eq_zero h0
    subst this
    exact rfill_nil a b c T.length d w T
  · obtain ⟨g0, off, rfl, _, _⟩ := hB.at h0
    exact rfill_some g0 off b P.length T.length c d w P T rfl rfl hP hT hs hB hB2 hc hc2 hz2
theorem lex_in (p : List Nat) : Larder.lexRes (91 :: p) = ((0, p, false), 0) := by
  unfold Larder.lexRes
  rw [if_neg (by intro h; cases h), if_neg (by intro h; cases h), if_pos ⟨by simp, rfl⟩]
  rfl
theorem small_cons' {c : Nat} {l : List Nat} (hc : c < 256) (h : Small l) : Small (c :: l) := fun i hi => by
  match i, hi with
  | 0, _ => exact hc
  | i + 1, hi => exact h i (by simpa using hi)
theorem lex_of (P : List Nat) (a : Option Addr) (c : Nat) (W : World) (hl : P.length ≤ 1048576) (hs : Small P) (hB : Bytes W a (91 :: P)) (hc : (91 :: P).length ≤ c) :
    Calls Tryz.prog 9 #[.slice a (P.length + 1) c] W fun e w' => ∃ a' c', e = .returned (.tuple #[.agg #[.int .i64 0, .slice a' P.length c', .bool false], .int .i64 0]) ∧ Hid (OwnB w' W.heap.size (.slice a' P.length c') P ∧ Below W.heap.size W w') := by
  have := lex_any a c W (91 :: P) (by rw [List.length_cons]; omega) (small_cons' (by decide) hs) hc hB
  rw [lex_in P] at this
  refine this.mono ?_
  rintro e w' ⟨v, rfl, h1, h2⟩
  obtain ⟨a', c', rfl, hb, _⟩ := h1.shape
  exact ⟨a', c', rfl, hide ⟨h1, h2⟩⟩
theorem Larder.FillIs.len {P T K F : List Nat} {s : Bool} (h : Larder.FillIs P T K F s) : K.length ≤ P.length + T.length ∧ F.length ≤ P.length := by
  rcases h with ⟨_, rfl, rfl, _⟩ | ⟨p, h1, _, _, _, ⟨i, h2, h3, _, _, rfl, rfl⟩ | ⟨_, rfl, rfl⟩⟩
  · simp
  · simp only [List.length_append, List.length_take, List.length_drop]; omega
  · simp only [List.length_append, List.length_take, List.length_drop, List.length_nil]; omega
theorem bool_iff {r M : Bool} {p : Prop} (h1 : r = true ↔ p) (h2 : M = true ↔ p) : r = M := by
  have := h1.trans h2.symm
  cases r <;> cases M <;> simp_all
theorem Rws.inb {W : World} {a : Option Addr} {c : Nat} {l : List Nat} (h : Rws W 5 1 (.slice a l.length c) l.length (byV l)) : Bytes W a l ∧ (l.length ≤ c ∧ c ≤ 9223372036854775807) := by
  obtain ⟨a', c', e, hb, _⟩ := h.bytes
  cases e
  refine ⟨hb, ?_⟩
  rcases h with ⟨e, h0⟩ | ⟨b, cap, cur, e, hg, hn, hm, hs, hh⟩
  · simp only [Value.slice.injEq] at e
    omega
  · cases e
    exact ⟨hn, hm⟩
theorem Rws.inb' {W : World} {a : Option Addr} {n c : Nat} {l : List Nat} (h : Rws W 5 1 (.slice a n c) l.length (byV l)) : Bytes W a l ∧ l.length ≤ c ∧ c ≤ 9223372036854775807 ∧ (a = none → c = 0) := by
  rcases h with ⟨e, h0⟩ | ⟨b, cap, cur, e, hg, hn, hm, hs, hh⟩
  · simp only [Value.slice.injEq] at e
    obtain ⟨rfl, h1, rfl⟩ := e
    exact ⟨.inl (List.eq_nil_of_length_eq_zero h0), by omega, by omega, fun _ => rfl⟩
  · simp only [Value.slice.injEq] at e
    obtain ⟨rfl, h1, rfl⟩ := e
    refine ⟨.inr ⟨b, 0, rfl, block_lt hg, fun i hi => ?_⟩, hn, hm, fun h => by cases h⟩
    rw [Nat.zero_add, cell_of_row _ _ _ _ _ _ hg, hh i (by omega)]
    rfl
theorem held_walk (w : World) (b off n cap : Nat) (m : Int) (hn0 : 0 < n) (hn : n ≤ 95325) (hb : b < w.heap.size) (hm : w.cell? ⟨0, 0, none⟩ = some (.int .i64 m))
    (hE : ∀ k, k < n → ∃ x : AskD, AskAt w b (off + k * 18) x ∧ AskOk w x ∧ AskFew x) :
    Calls Tryz.prog 6 #[.agg #[.slice (some ⟨b, off, none⟩) n cap]] w fun e w' => e = .returned (.bool true) ∧ Below w.heap.size w w' := by
  have HE := hide hE
  have HM := hide hm
  have HB := hide hb
  have H00 : Hid (0 < w.heap.size) := hide (by omega)
  obtain ⟨w1, hw1⟩ : ∃ w1, w1 = ((((w.alloc (.cells #[.slice (some ⟨b, off, none⟩) n cap] 24)).alloc (.cells #[.slice none 0 0, .slice none 0 0, .slice none 0 0, .slice none 0 0, .slice none 0 0, .slice none 0 0, .slice none 0 0, .slice none 0 0, .int .i64 0] 73)).alloc (.cells #[.slice none 0 0, .slice none 0 0] 76)).alloc (.cells #[.slice none 0 0, .slice none 0 0] 76)).alloc (.cells #[.slice none 0 0, .slice none 0 0] 76) := ⟨_, rfl⟩
  have HW1 := hide hw1
  have B1 : Hid (Below w.heap.size w w1) := hide (by
    rw [hw1]
    exact (((((Below.refl _ _).alloc (Nat.le_refl _) _).alloc (by simp) _).alloc (by simp; omega) _).alloc (by simp; omega) _).alloc (by simp; omega) _)
  have HS1 : Hid (Hs w1 w1 w.heap.size 0 [] [] []) := hide (by
    rw [hw1]
    have z1 := heap_alloc_new (w.alloc (.cells #[.slice (some ⟨b, off, none⟩) n cap] 24)) (.cells #[.slice none 0 0, .slice none 0 0, .slice none 0 0, .slice none 0 0, .slice none 0 0, .slice none 0 0, .slice none 0 0, .slice none 0 0, .int .i64 0] 73)
    have z2 := heap_alloc_new ((w.alloc (.cells #[.slice (some ⟨b, off, none⟩) n cap] 24)).alloc (.cells #[.slice none 0 0, .slice none 0 0, .slice none 0 0, .slice none 0 0, .slice none 0 0, .slice none 0 0, .slice none 0 0, .slice none 0 0, .int .i64 0] 73)) (.cells #[.slice none 0 0, .slice none 0 0] 76)
    have z3 := heap_alloc_new (((w.alloc (.cells #[.slice (some ⟨b, off, none⟩) n cap] 24)).alloc (.cells #[.slice none 0 0, .slice none 0 0, .slice none 0 0, .slice none 0 0, .slice none 0 0, .slice none 0 0, .slice none 0 0, .slice none 0 0, .int .i64 0] 73)).alloc (.cells #[.slice none 0 0, .slice none 0 0] 76)) (.cells #[.slice none 0 0, .slice none 0 0] 76)
    have z4 := heap_alloc_new ((((w.alloc (.cells #[.slice (some ⟨b, off, none⟩) n cap] 24)).alloc (.cells #[.slice none 0 0, .slice none 0 0, .slice none 0 0, .slice none 0 0, .slice none 0 0, .slice none 0 0, .slice none 0 0, .slice none 0 0, .int .i64 0] 73)).alloc (.cells #[.slice none 0 0, .slice none 0 0] 76)).alloc (.cells #[.slice none 0 0, .slice none 0 0] 76)) (.cells #[.slice none 0 0, .slice none 0 0] 76)
    simp only [size_alloc'] at z1 z2 z3 z4
    refine Hs.start w.heap.size ?_ ?_ ?_ ?_
    · exact (Below.heap_alloc _ _ _ (by simp)).trans ((Below.heap_alloc _ _ _ (by simp)).trans ((Below.heap_alloc _ _ _ (by simp)).trans z1))
    · exact (Below.heap_alloc _ _ _ (by simp)).trans ((Below.heap_alloc _ _ _ (by simp)).trans z2)
    · exact (Below.heap_alloc _ _ _ (by simp)).trans z3
    · exact z4)
  have S1 : Hid (w1.cell? ⟨w.heap.size, 0, none⟩ = some (.slice (some ⟨b, off, none⟩) n cap)) := hide (by
    rw [hw1]
    have z0 := (Below.heap_alloc _ (.cells #[.slice none 0 0, .slice none 0 0] 76) _ (by simp; omega)).trans ((Below.heap_alloc _ (.cells #[.slice none 0 0, .slice none 0 0] 76) _ (by simp; omega)).trans ((Below.heap_alloc _ (.cells #[.slice none 0 0, .slice none 0 0] 76) _ (by simp; omega)).trans ((Below.heap_alloc _ (.cells #[.slice none 0 0, .slice none 0 0, .slice none 0 0, .slice none 0 0, .slice none 0 0, .slice none 0 0, .slice none 0 0, .slice none 0 0, .int .i64 0] 73) _ (by simp)).trans (heap_alloc_new w (.cells #[.slice (some ⟨b, off, none⟩) n cap] 24)))))
    rw [cell_of_row _ _ _ _ _ _ z0]
    rfl)
  clear hE hm hb hw1
  go_enter Tryz.func6, Tryz.ntmps6
  go_wp2
  go_loopw [7] (fun iv wr => ∃ (i sz : Nat), iv = .int .i64 (i : Nat) ∧ i ≤ n ∧ sz ≤ i * 8400000 ∧ Hid (Hs w1 wr w.heap.size sz [] [] [])) (fun iv _ => n - (intOf iv).toNat)
  case atStart => exact ⟨0, 0, rfl, by omega, by omega, by rw [← unhide HW1]; exact HS1⟩
  case round =>
    obtain ⟨i, sz, rfl, hi, hsz, H0⟩ := hrel
    have c0 : wr.cell? ⟨w.heap.size, 0, none⟩ = some (.slice (some ⟨b, off, none⟩) n cap) := by rw [(unhide H0).cell (Nat.le_refl _)]; exact unhide S1
    rcases Nat.lt_or_ge i n with hin | hin
    · obtain ⟨x, hx0, hok, hfew⟩ := unhide HE i hin
      have hx : AskAt wr b (off + i * 18) x := fun j v hj => by
        rw [(unhide H0).cell (Nat.le_of_lt (unhide HB)), (unhide B1).cell (p := ⟨b, off + i * 18 + j, none⟩) (unhide HB)]
        exact hx0 j v hj
      obtain ⟨D, P, aP, cP, T, aT, cT, I, J, N, lf, ls, lo, hf', hs, ho, ff, F, aF, cF, fo, uf, U, aU, cU, uo⟩ := x
      obtain ⟨-, iP, iT, -⟩ := hok
      obtain ⟨fP, fT, -⟩ := hfew
      have hAP : AskD.arr ⟨D, P, aP, cP, T, aT, cT, I, J, N, lf, ls, lo, hf', hs, ho, ff, F, aF, cF, fo, uf, U, aU, cU, uo⟩ = #[.int .i64 D, .slice aP P.length cP, .slice aT T.length cT, .int .i64 I, .int .i64 J, .int .i64 N, .int .i64 lf, .int .i64 ls, .bool lo, .int .i64 hf', .int .i64 hs, .bool ho, .int .i64 ff, .slice aF F.length cF, .bool fo, .int .i64 uf, .slice aU U.length cU, .bool uo] := rfl
      have IP : Hid (InB w aP cP P) := hide iP
      have IT : Hid (InB w aT cT T) := hide iT
      have FP : Hid (P.length ≤ 1048576) := hide fP
      have FT : Hid (T.length ≤ 1048576) := hide fT
      rw [hAP] at *
      have HRA : Hid (wr.rangeAt b (off + i * 18) [.int .i64 D, .slice aP P.length cP, .slice aT T.length cT, .int .i64 I, .int .i64 J, .int .i64 N, .int .i64 lf, .int .i64 ls, .bool lo, .int .i64 hf', .int .i64 hs, .bool ho, .int .i64 ff, .slice aF F.length cF, .bool fo, .int .i64 uf, .slice aU U.length cU, .bool uo]) := hide (fun j v hv => hx j v hv)
      clear hx hx0 hAP iP iT fP fT
      have H58 : Hid ((Tryz.prog.info? 58).map (·.size) = some (#[.int .i64 D, .slice aP P.length cP, .slice aT T.length cT, .int .i64 I, .int .i64 J, .int .i64 N, .int .i64 lf, .int .i64 ls, .bool lo, .int .i64 hf', .int .i64 hs, .bool ho, .int .i64 ff, .slice aF F.length cF, .bool fo, .int .i64 uf, .slice aU U.length cU, .bool uo] : Array Value).size) := hide (by kernel_rfl)
      have HONE : Hid ((#[.int .i64 D, .slice aP P.length cP, .slice aT T.length cT, .int .i64 I, .int .i64 J, .int .i64 N, .int .i64 lf, .int .i64 ls, .bool lo, .int .i64 hf', .int .i64 hs, .bool ho, .int .i64 ff, .slice aF F.length cF, .bool fo, .int .i64 uf, .slice aU U.length cU, .bool uo] : Array Value).all (·.oneCell') = true) := hide (by simp [Value.oneCell'])
      have KP : Hid (∀ W sz Y Z X, Hs w1 W w.heap.size sz Y Z X → Bytes W aP P) := hide (fun W sz Y Z X h => h.bytes ((unhide IP).1.below (unhide B1)) (fun b off hp e => by
        rcases (unhide IP).1 with q | ⟨b', off', q, hb', _⟩
        · rw [q] at hp; simp at hp
        · rw [e] at q; cases q; omega))
      have KT : Hid (∀ W sz Y Z X, Hs w1 W w.heap.size sz Y Z X → Bytes W aT T) := hide (fun W sz Y Z X h => h.bytes ((unhide IT).1.below (unhide B1)) (fun b off hp e => by
        rcases (unhide IT).1 with q | ⟨b', off', q, hb', _⟩
        · rw [q] at hp; simp at hp
        · rw [e] at q; cases q; omega))
      have BN : Hid (∀ a l, Bytes w a l → ∀ b off, 0 < l.length → a = some ⟨b, off, none⟩ → b ≤ w.heap.size ∨ False) := hide (fun a l h b off hp e => by
        rcases h with q | ⟨b', off', q, hb', _⟩
        · rw [q] at hp; simp at hp
        · rw [e] at q; cases q; exact .inl (by omega))
      have H1 : Hid (Hs w1 (wr.alloc (.cells #[.int .i64 D, .slice aP P.length cP, .slice aT T.length cT, .int .i64 I, .int .i64 J, .int .i64 N, .int .i64 lf, .int .i64 ls, .bool lo, .int .i64 hf', .int .i64 hs, .bool ho, .int .i64 ff, .slice aF F.length cF, .bool fo, .int .i64 uf, .slice aU U.length cU, .bool uo] 58)) w.heap.size sz [] [] [(wr.heap.size, .cells #[.int .i64 D, .slice aP P.length cP, .slice aT T.length cT, .int .i64 I, .int .i64 J, .int .i64 N, .int .i64 lf, .int .i64 ls, .bool lo, .int .i64 hf', .int .i64 hs, .bool ho, .int .i64 ff, .slice aF F.length cF, .bool fo, .int .i64 uf, .slice aU U.length cU, .bool uo] 58 (0, 0))]) := hide ((unhide H0).block ((Below.refl _ _).alloc (Nat.le_refl _) _) _ _ (Nat.le_refl _) (heap_alloc_new _ _))
      go_wp2_with (first
        | (refine wpList_load_mid rfl 58 _ rfl b (off + i * 18) rfl [.int .i64 D, .slice aP P.length cP, .slice aT T.length cT, .int .i64 I, .int .i64 J, .int .i64 N, .int .i64 lf, .int .i64 ls, .bool lo, .int .i64 hf', .int .i64 hs, .bool ho, .int .i64 ff, .slice aF F.length cF, .bool fo, .int .i64 uf, .slice aU U.length cU, .bool uo] _ (unhide HRA) Tryz.underlying58 rfl (unhide H58) ?_)
        | (refine wpList_store_fresh rfl 58 (.tmp 8) _ rfl _ #[.int .i64 D, .slice aP P.length cP, .slice aT T.length cT, .int .i64 I, .int .i64 J, .int .i64 N, .int .i64 lf, .int .i64 ls, .bool lo, .int .i64 hf', .int .i64 hs, .bool ho, .int .i64 ff, .slice aF F.length cF, .bool fo, .int .i64 uf, .slice aU U.length cU, .bool uo] rfl rfl (unhide H58) rfl (unhide HONE) ?_))
      refine ((unhide H1).place (Below.refl _ _) 1 (by decide) (by decide) (fun y hy => by cases hy) aP cP P (unhide KP _ _ _ _ _ (unhide H1)) (fun b off hp e => .inl ((unhide BN _ _ (unhide IP).1 b off hp e).elim id False.elim)) (by have := unhide FP; omega)).mono ?_
      rintro e w2 ⟨a2, c2, rfl, H2⟩
      clear H1 c0
      have x2 : w2.cell? ⟨wr.heap.size, 2, none⟩ = some (.slice aT T.length cT) := by rw [cell_of_row _ _ _ _ _ _ ((unhide H2).at _ _ (List.mem_cons_self ..))]; rfl
      go_wp2_with fail
      refine ((unhide H2).place (Below.refl _ _) 2 (by decide) (by decide) (fun y hy => by simp at hy; subst hy; show (1 : Nat) ≠ 2; decide) aT cT T (unhide KT _ _ _ _ _ (unhide H2)) (fun b off hp e => .inl ((unhide BN _ _ (unhide IT).1 b off hp e).elim id False.elim)) (by have := unhide FT; omega)).mono ?_
      rintro e w3 ⟨a3, c3, rfl, H3⟩
      clear x2 H2
      have kc3 := Lib.run_convert_bytes_const (P := Tryz.prog) w3 34 5 #[.int .u8 91] 1 1 Tryz.underlying34 Tryz.underlying5
      have H3' := hide ((unhide H3).below ((Below.refl _ _).alloc (Nat.le_refl _) (.cells #[.int .u8 91] 5 (1, 2))))
      have x1 : (w3.alloc (.cells #[.int .u8 91] 5 (1, 2))).cell? ⟨wr.heap.size, 1, none⟩ = some (.slice aP P.length cP) := by rw [cell_of_row _ _ _ _ _ _ ((unhide H3').at _ _ (List.mem_cons_self ..))]; rfl
      have g3 : Hid ((w3.alloc (.cells #[.int .u8 91] 5 (1, 2))).cell? ⟨w3.heap.size, 0, none⟩ = some (.int .u8 (91 : Nat))) := hide (by
        have := heap_alloc_new w3 (.cells #[.int .u8 91] 5 (1, 2))
        rw [cell_of_row _ _ _ _ _ _ this]; rfl)
      go_wp2_with (at_builtin; refine wpList_app1 rfl _ _ rfl rfl w3.heap.size 91 P aP P.length cP rfl rfl (unhide g3) rfl (unhide KP _ _ _ _ _ (unhide H3')) (unhide IP).2.2.2.2.2 (by have := unhide FP; omega) ?_; intro a4 c4 w4 y4 z4 q4 r4)
      have b4 : Below w3.heap.size w3 w4 := ((Below.refl _ _).alloc (Nat.le_refl _) _).trans (z4.mono (by simp))
      refine ((unhide H3).place b4 3 (by decide) (by decide) (fun y hy => by
        simp at hy
        rcases hy with rfl | rfl
        · show (2 : Nat) ≠ 3; decide
        · show (1 : Nat) ≠ 3; decide) a4 c4 (91 :: P) y4 (fun b off hp e => .inr (by rcases r4 b off e with q | q <;> simp at * <;> omega)) (by have := unhide FP; simp; omega)).mono ?_
      rintro e w5 ⟨a5, c5, rfl, H5⟩
      clear kc3 H3 H3' x1 g3 y4 z4 q4 r4 b4
      simp only [List.length_cons] at H5
      go_upto_region 10 with fail
      go_cut [84] from 29 to 158 (fun c wx => c = .bool false ∧ Hid (Below w5.heap.size w5 wx))
      case first =>
        have y5 := (unhide H5).at _ _ (List.mem_cons_self ..)
        have l5 := block_lt y5
        have SS : Hid (∀ w', Below w5.heap.size w5 w' → w'.rangeAt wr.heap.size 0 [.int .i64 D, .slice aP P.length cP, .slice aT T.length cT, .int .i64 I, .int .i64 J, .int .i64 N, .int .i64 lf, .int .i64 ls, .bool lo, .int .i64 hf', .int .i64 hs, .bool ho, .int .i64 ff, .slice aF F.length cF, .bool fo, .int .i64 uf, .slice aU U.length cU, .bool uo] ∧ w'.cell? ⟨wr.heap.size, 1, none⟩ = some (.slice aP P.length cP) ∧ w'.cell? ⟨wr.heap.size, 2, none⟩ = some (.slice aT T.length cT)) := hide (fun w' hb => by
          have g0 := (hb.block _ l5).trans y5
          refine ⟨fun j v hv => ?_, ?_, ?_⟩
          · rw [cell_of_row _ _ _ _ _ _ g0, Nat.zero_add, List.getElem?_toArray]; exact hv
          all_goals (rw [cell_of_row _ _ _ _ _ _ g0]; rfl))
        have TT : ∀ {f : Nat} {args : Array Value} {r : Value}, (∀ W, Below w5.heap.size w5 W → Calls Tryz.prog f args W fun e w' => e = .returned r ∧ Below W.heap.size W w') → Hid (∀ W, Hid (Below w5.heap.size w5 W) → Calls Tryz.prog f args W fun e w' => e = .returned r ∧ Hid (Below w5.heap.size w5 w') ∧ w'.rangeAt wr.heap.size 0 [.int .i64 D, .slice aP P.length cP, .slice aT T.length cT, .int .i64 I, .int .i64 J, .int .i64 N, .int .i64 lf, .int .i64 ls, .bool lo, .int .i64 hf', .int .i64 hs, .bool ho, .int .i64 ff, .slice aF F.length cF, .bool fo, .int .i64 uf, .slice aU U.length cU, .bool uo] ∧ w'.cell? ⟨wr.heap.size, 1, none⟩ = some (.slice aP P.length cP) ∧ w'.cell? ⟨wr.heap.size, 2, none⟩ = some (.slice aT T.length cT)) := fun h => hide (fun W hW => by
          refine (h W (unhide hW)).mono ?_
          rintro e w' ⟨h1, h2⟩
          have b : Below w5.heap.size w5 w' := (unhide hW).trans (h2.mono (unhide hW).size)
          exact ⟨h1, hide b, unhide SS w' b⟩)
        obtain ⟨M, hM⟩ : ∃ M : Bool, M = true ↔ Larder.Meets (Larder.parse P) T := ⟨@decide _ (Classical.propDecidable _), @decide_eq_true_iff _ (Classical.propDecidable _)⟩
        have EM : ∀ r : Bool, (r = true ↔ Larder.Meets (Larder.parse P) T) → r = M := fun r hr => bool_iff hr hM
        have rp : Bytes w5 a2 P ∧ (P.length ≤ c2 ∧ c2 ≤ 9223372036854775807) := ((unhide H5).rowY 1 _ _ (by simp)).inb
        have rt : Bytes w5 a3 T ∧ (T.length ≤ c3 ∧ c3 ≤ 9223372036854775807) := ((unhide H5).rowY 2 _ _ (by simp)).inb
        have bP := unhide KP _ _ _ _ _ (unhide H5)
        have bT := unhide KT _ _ _ _ _ (unhide H5)
        have fP := unhide FP
        have fT := unhide FT
        have D1 := TT (fun W _ => great_any aP aT P.length T.length cP cT (.int .i64 D) (.int .i64 I) (.int .i64 J) (.int .i64 N) (.int .i64 lf) (.int .i64 ls) (.bool lo) (.int .i64 hf') (.int .i64 hs) (.bool ho) (.int .i64 ff) (.slice aF F.length cF) (.bool fo) (.int .i64 uf) (.slice aU U.length cU) (.bool uo) W fP fT)
        have D2 := TT (r := .bool M) (fun W hW => (glob_any a2 a3 c2 c3 W P T (by omega) (by omega) (unhide IP).2.1 (unhide IT).2.1 (rp.1.below hW) (rt.1.below hW)).mono (fun e w' ⟨r, h1, h2, h3⟩ => ⟨by rw [h1, EM r h2], h3⟩))
        have D3 := TT (r := .bool M) (fun W hW => (rglob_any aP aT cP cT W P T (by omega) (by omega) (unhide IP).2.1 (unhide IT).2.1 (bP.below hW) (bT.below hW)).mono (fun e w' ⟨r, h1, h2, h3⟩ => ⟨by rw [h1, EM r h2], h3⟩))
        have D4 := TT (fun W hW => fold_any a2 c2 W P (by omega) (unhide IP).2.1 (rp.1.below hW))
        have D5 := TT (fun W hW => upper_any aP cP W P (by omega) (unhide IP).2.1 (bP.below hW))
        have D6 := TT (fun W hW => inplace_any W D I J N lf ls hf' hs ff uf lo ho fo uo aP aT aF aU a2 a3 cP cT cF cU F.length U.length c2 c3 P T (bP.below hW) (bT.below hW) (rp.1.below hW) (rt.1.below hW) (unhide IP).2.1 (unhide IT).2.1 (by omega) (by omega) (unhide IP).2.2.1 rp.2.1 rp.2.2)
        have s0 := unhide SS w5 (Below.refl _ _)
        have kd2 : Hid (Below w5.heap.size w5 w5.drew) := hide (Below.refl _ _).drew
        clear TT SS hM EM rp rt bP bT fP fT y5
        generalize greatB P.length T.length = G at *
        generalize str (P.map Larder.up) = R at *
        cases G with
        | false =>
          refine wp_region_held_drew (S := fun w' => w'.rangeAt wr.heap.size 0 [.int .i64 D, .slice aP P.length cP, .slice aT T.length cT, .int .i64 I, .int .i64 J, .int .i64 N, .int .i64 lf, .int .i64 ls, .bool lo, .int .i64 hf', .int .i64 hs, .bool ho, .int .i64 ff, .slice aF F.length cF, .bool fo, .int .i64 uf, .slice aU U.length cU, .bool uo] ∧ w'.cell? ⟨wr.heap.size, 1, none⟩ = some (.slice aP P.length cP) ∧ w'.cell? ⟨wr.heap.size, 2, none⟩ = some (.slice aT T.length cT)) (by kernel_rfl) s0 (fun hHeld => ?_)
          refine wpAnyH_take (i := 0) (oi := ⟨_, _, _, _, _, _⟩) (v := .agg #[.int .i64 D, .slice aP P.length cP, .slice aT T.length cT, .int .i64 I, .int .i64 J, .int .i64 N, .int .i64 lf, .int .i64 ls, .bool lo, .int .i64 hf', .int .i64 hs, .bool ho, .int .i64 ff, .slice aF F.length cF, .bool fo, .int .i64 uf, .slice aU U.length cU, .bool uo]) rfl (by kernel_rfl) (by kernel_rfl) (by kernel_rfl) (fun _ _ _ h => h) (yieldsIf_load_mid (by kernel_rfl) 58 (.tmp 8) rfl (wr.heap.size) 0 rfl [.int .i64 D, .slice aP P.length cP, .slice aT T.length cT, .int .i64 I, .int .i64 J, .int .i64 N, .int .i64 lf, .int .i64 ls, .bool lo, .int .i64 hf', .int .i64 hs, .bool ho, .int .i64 ff, .slice aF F.length cF, .bool fo, .int .i64 uf, .slice aU U.length cU, .bool uo] _ (fun w h => h.1) Tryz.underlying58 rfl (unhide H58)) (by assumption) ?_
          try simp only [Act.put, List.setIfInBounds_toArray, List.set_cons_zero, List.set_cons_succ]
          refine wpAnyH_ready (rs := [1]) (by kernel_rfl) (by simp) ?_
          refine AllReadyH.cons (o := ⟨_, _, _, _, _, _⟩) rfl (fun K hK => ?_) AllReadyH.nil
          go_simp
          go_at_call 11; with_reducible refine (unhide D1 _ (by assumption)).mono ?_; rintro e w6 ⟨rfl, k6, s6⟩
          go_wp2_with fail
          refine hK.out _ _ ?_ (fun hHeld => ?_)
          · (try dsimp only); first | assumption | go_keep
          clear hK K
          try simp only [Act.put, List.setIfInBounds_toArray, List.set_cons_zero, List.set_cons_succ]
          refine wpAnyH_take (i := 2) (oi := ⟨_, _, _, _, _, _⟩) (v := ?vf2) rfl (by kernel_rfl) (by kernel_rfl) (by kernel_rfl) (fun _ _ _ h => h) (Or.inl ⟨by kernel_rfl, ?hyf2⟩) (by assumption) ?_
          case hyf2 =>
            intro w hSw
            try dsimp only at hSw
            go_simp
            all_goals with_reducible rfl
          try simp only [Act.put, List.setIfInBounds_toArray, List.set_cons_zero, List.set_cons_succ]
          refine wpAnyH_take (i := 3) (oi := ⟨_, _, _, _, _, _⟩) (v := ?vf3) rfl (by kernel_rfl) (by kernel_rfl) (by kernel_rfl) (fun _ _ _ h => h) (Or.inl ⟨by kernel_rfl, ?hyf3⟩) (by assumption) ?_
          case hyf3 =>
            intro w hSw
            try dsimp only at hSw
            go_simp
            all_goals with_reducible rfl
          try simp only [Act.put, List.setIfInBounds_toArray, List.set_cons_zero, List.set_cons_succ]
          refine wpAnyH_take (i := 4) (oi := ⟨_, _, _, _, _, _⟩) (v := ?vf4) rfl (by kernel_rfl) (by kernel_rfl) (by kernel_rfl) (fun _ _ _ h => h) (Or.inl ⟨by kernel_rfl, ?hyf4⟩) (by assumption) ?_
          case hyf4 =>
            intro w hSw
            try dsimp only at hSw
            go_simp
            all_goals with_reducible rfl
          try simp only [Act.put, List.setIfInBounds_toArray, List.set_cons_zero, List.set_cons_succ]
          refine wpAnyH_take (i := 5) (oi := ⟨_, _, _, _, _, _⟩) (v := ?vf5) rfl (by kernel_rfl) (by kernel_rfl) (by kernel_rfl) (fun _ _ _ h => h) (Or.inl ⟨by kernel_rfl, ?hyf5⟩) (by assumption) ?_
          case hyf5 =>
            intro w hSw
            try dsimp only at hSw
            go_simp
            all_goals with_reducible rfl
          try simp only [Act.put, List.setIfInBounds_toArray, List.set_cons_zero, List.set_cons_succ]
          refine wpAnyH_take (i := 7) (oi := ⟨_, _, _, _, _, _⟩) (v := ?vf7) rfl (by kernel_rfl) (by kernel_rfl) (by kernel_rfl) (fun _ _ _ h => h) (Or.inl ⟨by kernel_rfl, ?hyf7⟩) (by assumption) ?_
          case hyf7 =>
            intro w hSw
            try dsimp only at hSw
            go_simp
            all_goals with_reducible rfl
          try simp only [Act.put, List.setIfInBounds_toArray, List.set_cons_zero, List.set_cons_succ]
          refine wpAnyH_take (i := 8) (oi := ⟨_, _, _, _, _, _⟩) (v := ?vf8) rfl (by kernel_rfl) (by kernel_rfl) (by kernel_rfl) (fun _ _ _ h => h) (Or.inl ⟨by kernel_rfl, ?hyf8⟩) (by assumption) ?_
          case hyf8 =>
            intro w hSw
            try dsimp only at hSw
            go_simp
            all_goals with_reducible rfl
          try simp only [Act.put, List.setIfInBounds_toArray, List.set_cons_zero, List.set_cons_succ]
          refine wpAnyH_take (i := 9) (oi := ⟨_, _, _, _, _, _⟩) (v := ?vf9) rfl (by kernel_rfl) (by kernel_rfl) (by kernel_rfl) (fun _ _ _ h => h) (Or.inl ⟨by kernel_rfl, ?hyf9⟩) (by assumption) ?_
          case hyf9 =>
            intro w hSw
            try dsimp only at hSw
            go_simp
            all_goals with_reducible rfl
          try simp only [Act.put, List.setIfInBounds_toArray, List.set_cons_zero, List.set_cons_succ]
          refine wpAnyH_take (i := 10) (oi := ⟨_, _, _, _, _, _⟩) (v := ?vf10) rfl (by kernel_rfl) (by kernel_rfl) (by kernel_rfl) (fun _ _ _ h => h) (Or.inl ⟨by kernel_rfl, ?hyf10⟩) (by assumption) ?_
          case hyf10 =>
            intro w hSw
            try dsimp only at hSw
            go_simp
            all_goals with_reducible rfl
          try simp only [Act.put, List.setIfInBounds_toArray, List.set_cons_zero, List.set_cons_succ]
          refine wpAnyH_ready (rs := [6]) (by kernel_rfl) (by simp) ?_
          refine AllReadyH.cons (o := ⟨_, _, _, _, _, _⟩) rfl (fun K hK => ?_) AllReadyH.nil
          go_simp
          go_at_call 10; with_reducible refine (unhide D2 _ (by assumption)).mono ?_; rintro e w6 ⟨rfl, k6, s6⟩
          go_wp2_with fail
          refine hK.out _ _ ?_ (fun hHeld => ?_)
          · (try dsimp only); first | assumption | go_keep
          clear hK K
          try simp only [Act.put, List.setIfInBounds_toArray, List.set_cons_zero, List.set_cons_succ]
          refine wpAnyH_ready (rs := [11]) (by kernel_rfl) (by simp) ?_
          refine AllReadyH.cons (o := ⟨_, _, _, _, _, _⟩) rfl (fun K hK => ?_) AllReadyH.nil
          go_simp
          go_at_call 23; with_reducible refine (unhide D3 _ (by assumption)).mono ?_; rintro e w6 ⟨rfl, k6, s6⟩
          go_wp2_with fail
          refine hK.out _ _ ?_ (fun hHeld => ?_)
          · (try dsimp only); first | assumption | go_keep
          clear hK K
          try simp only [Act.put, List.setIfInBounds_toArray, List.set_cons_zero, List.set_cons_succ]
          refine wpAnyH_take (i := 12) (oi := ⟨_, _, _, _, _, _⟩) (v := ?vf12) rfl (by kernel_rfl) (by kernel_rfl) (by kernel_rfl) (fun _ _ _ h => h) (Or.inl ⟨by kernel_rfl, ?hyf12⟩) (by assumption) ?_
          case hyf12 =>
            intro w hSw
            try dsimp only at hSw
            go_simp
            all_goals with_reducible rfl
          try simp only [Act.put, List.setIfInBounds_toArray, List.set_cons_zero, List.set_cons_succ]
          refine wpAnyH_take (i := 13) (oi := ⟨_, _, _, _, _, _⟩) (v := ?vf13) rfl (by kernel_rfl) (by kernel_rfl) (by kernel_rfl) (fun _ _ _ h => h) (Or.inl ⟨by kernel_rfl, ?hyf13⟩) (by assumption) ?_
          case hyf13 =>
            intro w hSw
            try dsimp only at hSw
            go_simp
            all_goals with_reducible rfl
          try simp only [Act.put, List.setIfInBounds_toArray, List.set_cons_zero, List.set_cons_succ]
          refine wpAnyH_take (i := 14) (oi := ⟨_, _, _, _, _, _⟩) (v := ?vf14) rfl (by kernel_rfl) (by kernel_rfl) (by kernel_rfl) (fun _ _ _ h => h) (Or.inl ⟨by kernel_rfl, ?hyf14⟩) (by assumption) ?_
          case hyf14 =>
            intro w hSw
            try dsimp only at hSw
            go_simp
            all_goals with_reducible rfl
          try simp only [Act.put, List.setIfInBounds_toArray, List.set_cons_zero, List.set_cons_succ]
          refine wpAnyH_take (i := 15) (oi := ⟨_, _, _, _, _, _⟩) (v := ?vf15) rfl (by kernel_rfl) (by kernel_rfl) (by kernel_rfl) (fun _ _ _ h => h) (Or.inl ⟨by kernel_rfl, ?hyf15⟩) (by assumption) ?_
          case hyf15 =>
            intro w hSw
            try dsimp only at hSw
            go_simp
            all_goals with_reducible rfl
          try simp only [Act.put, List.setIfInBounds_toArray, List.set_cons_zero, List.set_cons_succ]
          refine wpAnyH_take (i := 17) (oi := ⟨_, _, _, _, _, _⟩) (v := ?vf17) rfl (by kernel_rfl) (by kernel_rfl) (by kernel_rfl) (fun _ _ _ h => h) (Or.inl ⟨by kernel_rfl, ?hyf17⟩) (by assumption) ?_
          case hyf17 =>
            intro w hSw
            try dsimp only at hSw
            go_simp
            all_goals with_reducible rfl
          try simp only [Act.put, List.setIfInBounds_toArray, List.set_cons_zero, List.set_cons_succ]
          refine wpAnyH_take (i := 18) (oi := ⟨_, _, _, _, _, _⟩) (v := ?vf18) rfl (by kernel_rfl) (by kernel_rfl) (by kernel_rfl) (fun _ _ _ h => h) (Or.inl ⟨by kernel_rfl, ?hyf18⟩) (by assumption) ?_
          case hyf18 =>
            intro w hSw
            try dsimp only at hSw
            go_simp
            all_goals with_reducible rfl
          try simp only [Act.put, List.setIfInBounds_toArray, List.set_cons_zero, List.set_cons_succ]
          refine wpAnyH_ready (rs := [16]) (by kernel_rfl) (by simp) ?_
          refine AllReadyH.cons (o := ⟨_, _, _, _, _, _⟩) rfl (fun K hK => ?_) AllReadyH.nil
          go_simp
          go_at_call 14; with_reducible refine (unhide D4 _ (by assumption)).mono ?_; rintro e w6 ⟨rfl, k6, s6⟩
          go_wp2_with fail
          refine hK.out _ _ ?_ (fun hHeld => ?_)
          · (try dsimp only); first | assumption | go_keep
          clear hK K
          try simp only [Act.put, List.setIfInBounds_toArray, List.set_cons_zero, List.set_cons_succ]
          refine wpAnyH_ready (rs := [19]) (by kernel_rfl) (by simp) ?_
          refine AllReadyH.cons (o := ⟨_, _, _, _, _, _⟩) rfl (fun K hK => ?_) AllReadyH.nil
          go_simp
          go_at_call 24; with_reducible refine (unhide D5 _ (by assumption)).mono ?_; rintro e w6 ⟨rfl, k6, s6⟩
          go_wp2_with fail
          refine hK.out _ _ ?_ (fun hHeld => ?_)
          · (try dsimp only); first | assumption | go_keep
          clear hK K
          try simp only [Act.put, List.setIfInBounds_toArray, List.set_cons_zero, List.set_cons_succ]
          refine wpAnyH_take (i := 20) (oi := ⟨_, _, _, _, _, _⟩) (v := ?vf20) rfl (by kernel_rfl) (by kernel_rfl) (by kernel_rfl) (fun _ _ _ h => h) (Or.inl ⟨by kernel_rfl, ?hyf20⟩) (by assumption) ?_
          case hyf20 =>
            intro w hSw
            try dsimp only at hSw
            go_simp
            all_goals with_reducible rfl
          try simp only [Act.put, List.setIfInBounds_toArray, List.set_cons_zero, List.set_cons_succ]
          refine wpAnyH_take (i := 21) (oi := ⟨_, _, _, _, _, _⟩) (v := ?vf21) rfl (by kernel_rfl) (by kernel_rfl) (by kernel_rfl) (fun _ _ _ h => h) (Or.inl ⟨by kernel_rfl, ?hyf21⟩) (by assumption) ?_
          case hyf21 =>
            intro w hSw
            try dsimp only at hSw
            go_simp
            all_goals with_reducible rfl
          try simp only [Act.put, List.setIfInBounds_toArray, List.set_cons_zero, List.set_cons_succ]
          refine wpAnyH_take (i := 22) (oi := ⟨_, _, _, _, _, _⟩) (v := ?vf22) rfl (by kernel_rfl) (by kernel_rfl) (by kernel_rfl) (fun _ _ _ h => h) (Or.inl ⟨by kernel_rfl, ?hyf22⟩) (by assumption) ?_
          case hyf22 =>
            intro w hSw
            try dsimp only at hSw
            go_simp
            all_goals with_reducible rfl
          try simp only [Act.put, List.setIfInBounds_toArray, List.set_cons_zero, List.set_cons_succ]
          refine wpAnyH_take (i := 23) (oi := ⟨_, _, _, _, _, _⟩) (v := .agg #[.int .i64 D, .slice aP P.length cP, .slice aT T.length cT, .int .i64 I, .int .i64 J, .int .i64 N, .int .i64 lf, .int .i64 ls, .bool lo, .int .i64 hf', .int .i64 hs, .bool ho, .int .i64 ff, .slice aF F.length cF, .bool fo, .int .i64 uf, .slice aU U.length cU, .bool uo]) rfl (by kernel_rfl) (by kernel_rfl) (by kernel_rfl) (fun _ _ _ h => h) (yieldsIf_load_mid (by kernel_rfl) 58 (.tmp 8) rfl (wr.heap.size) 0 rfl [.int .i64 D, .slice aP P.length cP, .slice aT T.length cT, .int .i64 I, .int .i64 J, .int .i64 N, .int .i64 lf, .int .i64 ls, .bool lo, .int .i64 hf', .int .i64 hs, .bool ho, .int .i64 ff, .slice aF F.length cF, .bool fo, .int .i64 uf, .slice aU U.length cU, .bool uo] _ (fun w h => h.1) Tryz.underlying58 rfl (unhide H58)) (by assumption) ?_
          try simp only [Act.put, List.setIfInBounds_toArray, List.set_cons_zero, List.set_cons_succ]
          refine wpAnyH_take (i := 24) (oi := ⟨_, _, _, _, _, _⟩) (v := ?vf24) rfl (by kernel_rfl) (by kernel_rfl) (by kernel_rfl) (fun _ _ _ h => h) (Or.inl ⟨by kernel_rfl, ?hyf24⟩) (by assumption) ?_
          case hyf24 =>
            intro w hSw
            try dsimp only at hSw
            go_simp
            all_goals with_reducible rfl
          try simp only [Act.put, List.setIfInBounds_toArray, List.set_cons_zero, List.set_cons_succ]
          refine wpAnyH_take (i := 25) (oi := ⟨_, _, _, _, _, _⟩) (v := ?vf25) rfl (by kernel_rfl) (by kernel_rfl) (by kernel_rfl) (fun _ _ _ h => h) (Or.inl ⟨by kernel_rfl, ?hyf25⟩) (by assumption) ?_
          case hyf25 =>
            intro w hSw
            try dsimp only at hSw
            go_simp
            all_goals with_reducible rfl
          try simp only [Act.put, List.setIfInBounds_toArray, List.set_cons_zero, List.set_cons_succ]
          refine wpAnyH_ready (rs := [26]) (by kernel_rfl) (by simp) ?_
          refine AllReadyH.cons (o := ⟨_, _, _, _, _, _⟩) rfl (fun K hK => ?_) AllReadyH.nil
          go_simp
          go_at_call 25; with_reducible refine (unhide D6 _ (by assumption)).mono ?_; rintro e w6 ⟨rfl, k6, s6⟩
          go_wp2_with fail
          refine hK.out _ _ ?_ (fun hHeld => ?_)
          · (try dsimp only); first | assumption | go_keep
          clear hK K
          try simp only [Act.put, List.setIfInBounds_toArray, List.set_cons_zero, List.set_cons_succ]
          refine wpAnyH_take (i := 27) (oi := ⟨_, _, _, _, _, _⟩) (v := ?vf27) rfl (by kernel_rfl) (by kernel_rfl) (by kernel_rfl) (fun _ _ _ h => h) (Or.inl ⟨by kernel_rfl, ?hyf27⟩) (by assumption) ?_
          case hyf27 =>
            intro w hSw
            try dsimp only at hSw
            go_simp
            all_goals with_reducible rfl
          try simp only [Act.put, List.setIfInBounds_toArray, List.set_cons_zero, List.set_cons_succ]
          refine wpAnyH_take (i := 28) (oi := ⟨_, _, _, _, _, _⟩) (v := ?vf28) rfl (by kernel_rfl) (by kernel_rfl) (by kernel_rfl) (fun _ _ _ h => h) (Or.inl ⟨by kernel_rfl, ?hyf28⟩) (by assumption) ?_
          case hyf28 =>
            intro w hSw
            try dsimp only at hSw
            go_simp
            all_goals with_reducible rfl
          try simp only [Act.put, List.setIfInBounds_toArray, List.set_cons_zero, List.set_cons_succ]
          refine wpAnyH_done (by kernel_rfl) ?_ _
          go_wp2_with fail
          go_meet
          exact ⟨rfl, k6⟩
        | true =>
          refine wp_region_held_drew (S := fun w' => w'.rangeAt wr.heap.size 0 [.int .i64 D, .slice aP P.length cP, .slice aT T.length cT, .int .i64 I, .int .i64 J, .int .i64 N, .int .i64 lf, .int .i64 ls, .bool lo, .int .i64 hf', .int .i64 hs, .bool ho, .int .i64 ff, .slice aF F.length cF, .bool fo, .int .i64 uf, .slice aU U.length cU, .bool uo] ∧ w'.cell? ⟨wr.heap.size, 1, none⟩ = some (.slice aP P.length cP) ∧ w'.cell? ⟨wr.heap.size, 2, none⟩ = some (.slice aT T.length cT)) (by kernel_rfl) s0 (fun hHeld => ?_)
          refine wpAnyH_take (i := 0) (oi := ⟨_, _, _, _, _, _⟩) (v := .agg #[.int .i64 D, .slice aP P.length cP, .slice aT T.length cT, .int .i64 I, .int .i64 J, .int .i64 N, .int .i64 lf, .int .i64 ls, .bool lo, .int .i64 hf', .int .i64 hs, .bool ho, .int .i64 ff, .slice aF F.length cF, .bool fo, .int .i64 uf, .slice aU U.length cU, .bool uo]) rfl (by kernel_rfl) (by kernel_rfl) (by kernel_rfl) (fun _ _ _ h => h) (yieldsIf_load_mid (by kernel_rfl) 58 (.tmp 8) rfl (wr.heap.size) 0 rfl [.int .i64 D, .slice aP P.length cP, .slice aT T.length cT, .int .i64 I, .int .i64 J, .int .i64 N, .int .i64 lf, .int .i64 ls, .bool lo, .int .i64 hf', .int .i64 hs, .bool ho, .int .i64 ff, .slice aF F.length cF, .bool fo, .int .i64 uf, .slice aU U.length cU, .bool uo] _ (fun w h => h.1) Tryz.underlying58 rfl (unhide H58)) (by assumption) ?_
          try simp only [Act.put, List.setIfInBounds_toArray, List.set_cons_zero, List.set_cons_succ]
          refine wpAnyH_ready (rs := [1]) (by kernel_rfl) (by simp) ?_
          refine AllReadyH.cons (o := ⟨_, _, _, _, _, _⟩) rfl (fun K hK => ?_) AllReadyH.nil
          go_simp
          go_at_call 11; with_reducible refine (unhide D1 _ (by assumption)).mono ?_; rintro e w6 ⟨rfl, k6, s6⟩
          go_wp2_with fail
          refine hK.out _ _ ?_ (fun hHeld => ?_)
          · (try dsimp only); first | assumption | go_keep
          clear hK K
          try simp only [Act.put, List.setIfInBounds_toArray, List.set_cons_zero, List.set_cons_succ]
          refine wpAnyH_take (i := 2) (oi := ⟨_, _, _, _, _, _⟩) (v := ?vt2) rfl (by kernel_rfl) (by kernel_rfl) (by kernel_rfl) (fun _ _ _ h => h) (Or.inl ⟨by kernel_rfl, ?hyt2⟩) (by assumption) ?_
          case hyt2 =>
            intro w hSw
            try dsimp only at hSw
            go_simp
            all_goals with_reducible rfl
          try simp only [Act.put, List.setIfInBounds_toArray, List.set_cons_zero, List.set_cons_succ]
          refine wpAnyH_take (i := 3) (oi := ⟨_, _, _, _, _, _⟩) (v := ?vt3) rfl (by kernel_rfl) (by kernel_rfl) (by kernel_rfl) (fun _ _ _ h => h) (Or.inl ⟨by kernel_rfl, ?hyt3⟩) (by assumption) ?_
          case hyt3 =>
            intro w hSw
            try dsimp only at hSw
            go_simp
            all_goals with_reducible rfl
          try simp only [Act.put, List.setIfInBounds_toArray, List.set_cons_zero, List.set_cons_succ]
          refine wpAnyH_take (i := 4) (oi := ⟨_, _, _, _, _, _⟩) (v := undef) rfl (by kernel_rfl) (by kernel_rfl) (by kernel_rfl) (fun _ _ _ h => h) (Or.inr ⟨by kernel_rfl, rfl⟩) (by assumption) ?_
          try simp only [Act.put, List.setIfInBounds_toArray, List.set_cons_zero, List.set_cons_succ]
          refine wpAnyH_take (i := 5) (oi := ⟨_, _, _, _, _, _⟩) (v := undef) rfl (by kernel_rfl) (by kernel_rfl) (by kernel_rfl) (fun _ _ _ h => h) (Or.inr ⟨by kernel_rfl, rfl⟩) (by assumption) ?_
          try simp only [Act.put, List.setIfInBounds_toArray, List.set_cons_zero, List.set_cons_succ]
          refine wpAnyH_take (i := 6) (oi := ⟨_, _, _, _, _, _⟩) (v := undef) rfl (by kernel_rfl) (by kernel_rfl) (by kernel_rfl) (fun _ _ _ h => h) (Or.inr ⟨by kernel_rfl, rfl⟩) (by assumption) ?_
          try simp only [Act.put, List.setIfInBounds_toArray, List.set_cons_zero, List.set_cons_succ]
          refine wpAnyH_take (i := 7) (oi := ⟨_, _, _, _, _, _⟩) (v := undef) rfl (by kernel_rfl) (by kernel_rfl) (by kernel_rfl) (fun _ _ _ h => h) (Or.inr ⟨by kernel_rfl, rfl⟩) (by assumption) ?_
          try simp only [Act.put, List.setIfInBounds_toArray, List.set_cons_zero, List.set_cons_succ]
          refine wpAnyH_take (i := 8) (oi := ⟨_, _, _, _, _, _⟩) (v := undef) rfl (by kernel_rfl) (by kernel_rfl) (by kernel_rfl) (fun _ _ _ h => h) (Or.inr ⟨by kernel_rfl, rfl⟩) (by assumption) ?_
          try simp only [Act.put, List.setIfInBounds_toArray, List.set_cons_zero, List.set_cons_succ]
          refine wpAnyH_take (i := 9) (oi := ⟨_, _, _, _, _, _⟩) (v := undef) rfl (by kernel_rfl) (by kernel_rfl) (by kernel_rfl) (fun _ _ _ h => h) (Or.inr ⟨by kernel_rfl, rfl⟩) (by assumption) ?_
          try simp only [Act.put, List.setIfInBounds_toArray, List.set_cons_zero, List.set_cons_succ]
          refine wpAnyH_take (i := 10) (oi := ⟨_, _, _, _, _, _⟩) (v := undef) rfl (by kernel_rfl) (by kernel_rfl) (by kernel_rfl) (fun _ _ _ h => h) (Or.inr ⟨by kernel_rfl, rfl⟩) (by assumption) ?_
          try simp only [Act.put, List.setIfInBounds_toArray, List.set_cons_zero, List.set_cons_succ]
          refine wpAnyH_take (i := 11) (oi := ⟨_, _, _, _, _, _⟩) (v := undef) rfl (by kernel_rfl) (by kernel_rfl) (by kernel_rfl) (fun _ _ _ h => h) (Or.inr ⟨by kernel_rfl, rfl⟩) (by assumption) ?_
          try simp only [Act.put, List.setIfInBounds_toArray, List.set_cons_zero, List.set_cons_succ]
          refine wpAnyH_take (i := 12) (oi := ⟨_, _, _, _, _, _⟩) (v := undef) rfl (by kernel_rfl) (by kernel_rfl) (by kernel_rfl) (fun _ _ _ h => h) (Or.inr ⟨by kernel_rfl, rfl⟩) (by assumption) ?_
          try simp only [Act.put, List.setIfInBounds_toArray, List.set_cons_zero, List.set_cons_succ]
          refine wpAnyH_take (i := 13) (oi := ⟨_, _, _, _, _, _⟩) (v := ?vt13) rfl (by kernel_rfl) (by kernel_rfl) (by kernel_rfl) (fun _ _ _ h => h) (Or.inl ⟨by kernel_rfl, ?hyt13⟩) (by assumption) ?_
          case hyt13 =>
            intro w hSw
            try dsimp only at hSw
            go_simp
            all_goals with_reducible rfl
          try simp only [Act.put, List.setIfInBounds_toArray, List.set_cons_zero, List.set_cons_succ]
          refine wpAnyH_take (i := 14) (oi := ⟨_, _, _, _, _, _⟩) (v := ?vt14) rfl (by kernel_rfl) (by kernel_rfl) (by kernel_rfl) (fun _ _ _ h => h) (Or.inl ⟨by kernel_rfl, ?hyt14⟩) (by assumption) ?_
          case hyt14 =>
            intro w hSw
            try dsimp only at hSw
            go_simp
            all_goals with_reducible rfl
          try simp only [Act.put, List.setIfInBounds_toArray, List.set_cons_zero, List.set_cons_succ]
          refine wpAnyH_take (i := 15) (oi := ⟨_, _, _, _, _, _⟩) (v := ?vt15) rfl (by kernel_rfl) (by kernel_rfl) (by kernel_rfl) (fun _ _ _ h => h) (Or.inl ⟨by kernel_rfl, ?hyt15⟩) (by assumption) ?_
          case hyt15 =>
            intro w hSw
            try dsimp only at hSw
            go_simp
            all_goals with_reducible rfl
          try simp only [Act.put, List.setIfInBounds_toArray, List.set_cons_zero, List.set_cons_succ]
          refine wpAnyH_take (i := 17) (oi := ⟨_, _, _, _, _, _⟩) (v := ?vt17) rfl (by kernel_rfl) (by kernel_rfl) (by kernel_rfl) (fun _ _ _ h => h) (Or.inl ⟨by kernel_rfl, ?hyt17⟩) (by assumption) ?_
          case hyt17 =>
            intro w hSw
            try dsimp only at hSw
            go_simp
            all_goals with_reducible rfl
          try simp only [Act.put, List.setIfInBounds_toArray, List.set_cons_zero, List.set_cons_succ]
          refine wpAnyH_take (i := 18) (oi := ⟨_, _, _, _, _, _⟩) (v := ?vt18) rfl (by kernel_rfl) (by kernel_rfl) (by kernel_rfl) (fun _ _ _ h => h) (Or.inl ⟨by kernel_rfl, ?hyt18⟩) (by assumption) ?_
          case hyt18 =>
            intro w hSw
            try dsimp only at hSw
            go_simp
            all_goals with_reducible rfl
          try simp only [Act.put, List.setIfInBounds_toArray, List.set_cons_zero, List.set_cons_succ]
          refine wpAnyH_ready (rs := [16]) (by kernel_rfl) (by simp) ?_
          refine AllReadyH.cons (o := ⟨_, _, _, _, _, _⟩) rfl (fun K hK => ?_) AllReadyH.nil
          go_simp
          go_at_call 14; with_reducible refine (unhide D4 _ (by assumption)).mono ?_; rintro e w6 ⟨rfl, k6, s6⟩
          go_wp2_with fail
          refine hK.out _ _ ?_ (fun hHeld => ?_)
          · (try dsimp only); first | assumption | go_keep
          clear hK K
          try simp only [Act.put, List.setIfInBounds_toArray, List.set_cons_zero, List.set_cons_succ]
          refine wpAnyH_ready (rs := [19]) (by kernel_rfl) (by simp) ?_
          refine AllReadyH.cons (o := ⟨_, _, _, _, _, _⟩) rfl (fun K hK => ?_) AllReadyH.nil
          go_simp
          go_at_call 24; with_reducible refine (unhide D5 _ (by assumption)).mono ?_; rintro e w6 ⟨rfl, k6, s6⟩
          go_wp2_with fail
          refine hK.out _ _ ?_ (fun hHeld => ?_)
          · (try dsimp only); first | assumption | go_keep
          clear hK K
          try simp only [Act.put, List.setIfInBounds_toArray, List.set_cons_zero, List.set_cons_succ]
          refine wpAnyH_take (i := 20) (oi := ⟨_, _, _, _, _, _⟩) (v := ?vt20) rfl (by kernel_rfl) (by kernel_rfl) (by kernel_rfl) (fun _ _ _ h => h) (Or.inl ⟨by kernel_rfl, ?hyt20⟩) (by assumption) ?_
          case hyt20 =>
            intro w hSw
            try dsimp only at hSw
            go_simp
            all_goals with_reducible rfl
          try simp only [Act.put, List.setIfInBounds_toArray, List.set_cons_zero, List.set_cons_succ]
          refine wpAnyH_take (i := 21) (oi := ⟨_, _, _, _, _, _⟩) (v := ?vt21) rfl (by kernel_rfl) (by kernel_rfl) (by kernel_rfl) (fun _ _ _ h => h) (Or.inl ⟨by kernel_rfl, ?hyt21⟩) (by assumption) ?_
          case hyt21 =>
            intro w hSw
            try dsimp only at hSw
            go_simp
            all_goals with_reducible rfl
          try simp only [Act.put, List.setIfInBounds_toArray, List.set_cons_zero, List.set_cons_succ]
          refine wpAnyH_take (i := 22) (oi := ⟨_, _, _, _, _, _⟩) (v := ?vt22) rfl (by kernel_rfl) (by kernel_rfl) (by kernel_rfl) (fun _ _ _ h => h) (Or.inl ⟨by kernel_rfl, ?hyt22⟩) (by assumption) ?_
          case hyt22 =>
            intro w hSw
            try dsimp only at hSw
            go_simp
            all_goals with_reducible rfl
          try simp only [Act.put, List.setIfInBounds_toArray, List.set_cons_zero, List.set_cons_succ]
          refine wpAnyH_take (i := 23) (oi := ⟨_, _, _, _, _, _⟩) (v := .agg #[.int .i64 D, .slice aP P.length cP, .slice aT T.length cT, .int .i64 I, .int .i64 J, .int .i64 N, .int .i64 lf, .int .i64 ls, .bool lo, .int .i64 hf', .int .i64 hs, .bool ho, .int .i64 ff, .slice aF F.length cF, .bool fo, .int .i64 uf, .slice aU U.length cU, .bool uo]) rfl (by kernel_rfl) (by kernel_rfl) (by kernel_rfl) (fun _ _ _ h => h) (yieldsIf_load_mid (by kernel_rfl) 58 (.tmp 8) rfl (wr.heap.size) 0 rfl [.int .i64 D, .slice aP P.length cP, .slice aT T.length cT, .int .i64 I, .int .i64 J, .int .i64 N, .int .i64 lf, .int .i64 ls, .bool lo, .int .i64 hf', .int .i64 hs, .bool ho, .int .i64 ff, .slice aF F.length cF, .bool fo, .int .i64 uf, .slice aU U.length cU, .bool uo] _ (fun w h => h.1) Tryz.underlying58 rfl (unhide H58)) (by assumption) ?_
          try simp only [Act.put, List.setIfInBounds_toArray, List.set_cons_zero, List.set_cons_succ]
          refine wpAnyH_take (i := 24) (oi := ⟨_, _, _, _, _, _⟩) (v := ?vt24) rfl (by kernel_rfl) (by kernel_rfl) (by kernel_rfl) (fun _ _ _ h => h) (Or.inl ⟨by kernel_rfl, ?hyt24⟩) (by assumption) ?_
          case hyt24 =>
            intro w hSw
            try dsimp only at hSw
            go_simp
            all_goals with_reducible rfl
          try simp only [Act.put, List.setIfInBounds_toArray, List.set_cons_zero, List.set_cons_succ]
          refine wpAnyH_take (i := 25) (oi := ⟨_, _, _, _, _, _⟩) (v := ?vt25) rfl (by kernel_rfl) (by kernel_rfl) (by kernel_rfl) (fun _ _ _ h => h) (Or.inl ⟨by kernel_rfl, ?hyt25⟩) (by assumption) ?_
          case hyt25 =>
            intro w hSw
            try dsimp only at hSw
            go_simp
            all_goals with_reducible rfl
          try simp only [Act.put, List.setIfInBounds_toArray, List.set_cons_zero, List.set_cons_succ]
          refine wpAnyH_ready (rs := [26]) (by kernel_rfl) (by simp) ?_
          refine AllReadyH.cons (o := ⟨_, _, _, _, _, _⟩) rfl (fun K hK => ?_) AllReadyH.nil
          go_simp
          go_at_call 25; with_reducible refine (unhide D6 _ (by assumption)).mono ?_; rintro e w6 ⟨rfl, k6, s6⟩
          go_wp2_with fail
          refine hK.out _ _ ?_ (fun hHeld => ?_)
          · (try dsimp only); first | assumption | go_keep
          clear hK K
          try simp only [Act.put, List.setIfInBounds_toArray, List.set_cons_zero, List.set_cons_succ]
          refine wpAnyH_take (i := 27) (oi := ⟨_, _, _, _, _, _⟩) (v := ?vt27) rfl (by kernel_rfl) (by kernel_rfl) (by kernel_rfl) (fun _ _ _ h => h) (Or.inl ⟨by kernel_rfl, ?hyt27⟩) (by assumption) ?_
          case hyt27 =>
            intro w hSw
            try dsimp only at hSw
            go_simp
            all_goals with_reducible rfl
          try simp only [Act.put, List.setIfInBounds_toArray, List.set_cons_zero, List.set_cons_succ]
          refine wpAnyH_take (i := 28) (oi := ⟨_, _, _, _, _, _⟩) (v := ?vt28) rfl (by kernel_rfl) (by kernel_rfl) (by kernel_rfl) (fun _ _ _ h => h) (Or.inl ⟨by kernel_rfl, ?hyt28⟩) (by assumption) ?_
          case hyt28 =>
            intro w hSw
            try dsimp only at hSw
            go_simp
            all_goals with_reducible rfl
          try simp only [Act.put, List.setIfInBounds_toArray, List.set_cons_zero, List.set_cons_succ]
          refine wpAnyH_done (by kernel_rfl) ?_ _
          go_wp2_with fail
          go_meet
          exact ⟨rfl, k6⟩
      case rest =>
        obtain ⟨rfl, kc⟩ := hcut
        have H6 := hide ((unhide H5).below (unhide kc))
        clear kc H5 H0 HRA
        generalize wr.heap.size = A at *
        go_wp2_with fail
        go_loopw [12] (fun kv wi => ∃ (k sz' : Nat), kv = .int .i64 (k : Nat) ∧ k ≤ 2 ∧ sz' ≤ sz + k * 4200000 ∧ Hid (Hs w1 wi w.heap.size sz' [(3, Value.slice a5 (P.length + 1) c5, 91 :: P), (2, .slice a3 T.length c3, T), (1, .slice a2 P.length c2, P)] [] [(A, Obj.cells #[.int .i64 D, .slice aP P.length cP, .slice aT T.length cT, .int .i64 I, .int .i64 J, .int .i64 N, .int .i64 lf, .int .i64 ls, .bool lo, .int .i64 hf', .int .i64 hs, .bool ho, .int .i64 ff, .slice aF F.length cF, .bool fo, .int .i64 uf, .slice aU U.length cU, .bool uo] 58 (0, 0))])) (fun kv _ => 2 - (intOf kv).toNat)
        case atStart => exact ⟨0, sz, rfl, by omega, by omega, H6⟩
        case round =>
          clear H6
          obtain ⟨k, sz', rfl, hk, hsz', H6⟩ := hrel
          have fP := unhide FP
          have fT := unhide FT
          rcases Nat.lt_or_ge k 2 with hk2 | hk2
          · have f2 : decide ((k : Int) < 2) = true := decide_eq_true (by omega)
            have rl := ((unhide H6).rowY 3 _ _ (List.mem_cons_self ..)).inb'
            go_wp2_with fail
            refine (lex_of P a5 c5 _ (by omega) (unhide IP).2.1 rl.1 rl.2.1).mono ?_
            rintro e w7 ⟨a7, c7, rfl, k7⟩
            have H7 := hide (((unhide H6).answer (unhide k7).2 _ _ (unhide k7).1).block ((Below.refl _ _).alloc (Nat.le_refl _) (.cells #[.int .i64 0, .slice a7 P.length c7, .bool false] 36)) _ _ (Nat.le_refl _) (heap_alloc_new _ _))
            have rp := ((unhide H7).rowY 1 (.slice a2 P.length c2) P (by simp)).inb'
            have rt := ((unhide H7).rowY 2 (.slice a3 T.length c3) T (by simp)).inb'
            have m7 : Hid ((w7.alloc (.cells #[.int .i64 0, .slice a7 P.length c7, .bool false] 36)).cell? ⟨0, 0, none⟩ = some (.int .i64 m)) := hide (((unhide H7).cell (Nat.zero_le _)).trans (((unhide B1).cell (p := ⟨0, 0, none⟩) (unhide H00)).trans (unhide HM)))
            have z7 : Hid (0 < (w7.alloc (.cells #[.int .i64 0, .slice a7 P.length c7, .bool false] 36)).heap.size) := hide (by simp)
            clear rl k7
            go_wp2_with fail
            refine (fill_any a2 a3 c2 c3 _ P T m fP fT (unhide IP).2.1 rp.1 rt.1 rp.2.1 rp.2.2.1 rp.2.2.2 rt.2.2.2 (unhide m7) (unhide z7)).mono ?_
            rintro e w8 ⟨a8, c8, b8, d8, K8, F8, s8, rfl, i8, -, -, bel8, o8, q8, ap8⟩
            have H8 := hide ((unhide H7).answers bel8 _ _ _ _ o8 q8 ap8)
            have I8 := hide i8
            clear bel8 o8 q8 ap8 m7 z7 rp rt H7 i8
            have xA := (unhide H8).at _ _ (List.mem_cons_of_mem _ (List.mem_cons_self ..))
            have x1 : w8.cell? ⟨A, 1, none⟩ = some (.slice aP P.length cP) := by rw [cell_of_row _ _ _ _ _ _ xA]; rfl
            have x2 : w8.cell? ⟨A, 2, none⟩ = some (.slice aT T.length cT) := by rw [cell_of_row _ _ _ _ _ _ xA]; rfl
            have pP := unhide KP _ _ _ _ _ (unhide H8)
            have pT := unhide KT _ _ _ _ _ (unhide H8)
            go_wp2_with fail
            refine (rfill_any aP aT cP cT _ P T fP fT (unhide IP).2.1 pP pT (unhide IP).2.2.1 (unhide IP).2.2.2.1 (unhide IT).2.2.2.2.2).mono ?_
            rintro e w9 ⟨a9, c9, b9, d9, K9, F9, s9, rfl, i9, bk9, bf9, bel9⟩
            obtain ⟨rfl, rfl, rfl⟩ := (unhide I8).one i9
            have H9 := hide ((unhide H8).below bel9)
            have BK9 := hide bk9
            have BF9 := hide bf9
            have LEN : Hid (K8.length ≤ P.length + T.length ∧ F8.length ≤ P.length) := hide (Larder.FillIs.len (s := s8) (unhide I8))
            clear bel9 i9 bk9 bf9 xA x1 x2 pP pT H8 I8
            have xA := (unhide H9).at _ _ (List.mem_cons_of_mem _ (List.mem_cons_self ..))
            have xY := (unhide H9).at _ _ (List.mem_cons_self ..)
            have SS : Hid (∀ w', Below w9.heap.size w9 w' → w'.cell? ⟨w7.heap.size, 1, none⟩ = some (.slice a7 P.length c7) ∧ w'.cell? ⟨A, 1, none⟩ = some (.slice aP P.length cP)) := hide (fun w' hb => by
              have g0 := (hb.block _ (block_lt xA)).trans xA
              have g1 := (hb.block _ (block_lt xY)).trans xY
              exact ⟨by rw [cell_of_row _ _ _ _ _ _ g1]; rfl, by rw [cell_of_row _ _ _ _ _ _ g0]; rfl⟩)
            have TT : ∀ {f : Nat} {args : Array Value} {r : Value}, (∀ W, Below w9.heap.size w9 W → Calls Tryz.prog f args W fun e w' => e = .returned r ∧ Below W.heap.size W w') → Hid (∀ W, Hid (Below w9.heap.size w9 W) → Calls Tryz.prog f args W fun e w' => e = .returned r ∧ Hid (Below w9.heap.size w9 w') ∧ w'.cell? ⟨w7.heap.size, 1, none⟩ = some (.slice a7 P.length c7) ∧ w'.cell? ⟨A, 1, none⟩ = some (.slice aP P.length cP)) := fun h => hide (fun W hW => by
              refine (h W (unhide hW)).mono ?_
              rintro e w' ⟨h1, h2⟩
              have b : Below w9.heap.size w9 w' := (unhide hW).trans (h2.mono (unhide hW).size)
              exact ⟨h1, hide b, unhide SS w' b⟩)
            have r7 := ((unhide H9).rowZ _ _ (List.mem_cons_self ..)).inb'
            have r8 := ((unhide H9).rowZ (.slice a8 K8.length c8) K8 (by simp)).inb'
            have r9 := ((unhide H9).rowZ (.slice b8 F8.length d8) F8 (by simp)).inb'
            have lk := (unhide LEN).1
            have lf' := (unhide LEN).2
            have E1 := TT (r := .bool true) (fun W hW => (eq_any (c1 := c7) (c2 := cP) (la := P) (lb := P) (by omega) (by omega) (r7.1.below hW) ((unhide KP _ _ _ _ _ (unhide H9)).below hW)).mono (fun e w' h => ⟨by rw [h.1, decide_eq_true rfl], h.2.below⟩))
            have E2 := TT (r := .bool true) (fun W hW => (eq_any (c1 := c8) (c2 := c9) (la := K8) (lb := K8) (by omega) (by omega) (r8.1.below hW) ((unhide BK9).below hW)).mono (fun e w' h => ⟨by rw [h.1, decide_eq_true rfl], h.2.below⟩))
            have E3 := TT (r := .bool true) (fun W hW => (eq_any (c1 := d8) (c2 := d9) (la := F8) (lb := F8) (by omega) (by omega) (r9.1.below hW) ((unhide BF9).below hW)).mono (fun e w' h => ⟨by rw [h.1, decide_eq_true rfl], h.2.below⟩))
            obtain ⟨q0, q1⟩ := unhide SS w9 (Below.refl _ _)
            have kd2 : Hid (Below w9.heap.size w9 w9) := hide (Below.refl _ _)
            clear TT SS xA xY r7 r8 r9 BK9 BF9
            go_upto_region 18 with fail
            go_cut [136] from 85 to 146 (fun c wx => c = .bool false ∧ Hid (Below w9.heap.size w9 wx))
            case first =>
              go_wp2_with (first
                | (go_at_call 17; first | (with_reducible refine (unhide E1 _ (by assumption)).mono ?_; rintro e w6 ⟨rfl, k6, s6a, s6b⟩) | (with_reducible refine (unhide E2 _ (by assumption)).mono ?_; rintro e w6 ⟨rfl, k6, s6a, s6b⟩) | (with_reducible refine (unhide E3 _ (by assumption)).mono ?_; rintro e w6 ⟨rfl, k6, s6a, s6b⟩)))
              all_goals go_meet
              all_goals exact ⟨rfl, k6⟩
            case rest =>
              obtain ⟨rfl, k10⟩ := hcut
              have H10 := hide ((unhide H9).below (unhide k10))
              have xY := (unhide H10).at _ _ (List.mem_cons_self ..)
              have y1 : wc.cell? ⟨w7.heap.size, 1, none⟩ = some (.slice a7 P.length c7) := by rw [cell_of_row _ _ _ _ _ _ xY]; rfl
              clear k10 H9 E1 E2 E3 q0 q1 kd2 xY
              have s1 : sz' ≤ 1099511627776 := by omega
              have s2 : sz' + P.length + 50 ≤ 1099511627776 := by omega
              have s3 : sz' + P.length + 50 + K8.length + 50 ≤ 1099511627776 := by omega
              go_wp2_with fail
              refine ((unhide H10).shelf (Below.refl _ _) s1 (by omega)).mono ?_
              rintro e w11 ⟨rfl, H11⟩
              clear y1
              go_wp2_with fail
              refine ((unhide H11).shelf (Below.refl _ _) s2 (by omega)).mono ?_
              rintro e w12 ⟨rfl, H12⟩
              go_wp2_with fail
              refine ((unhide H12).shelf (Below.refl _ _) s3 (by omega)).mono ?_
              rintro e w13 ⟨rfl, H13⟩
              have H14 := hide ((unhide H13).forget (Y' := [(3, Value.slice a5 (P.length + 1) c5, 91 :: P), (2, .slice a3 T.length c3, T), (1, .slice a2 P.length c2, P)]) (X' := [(A, Obj.cells #[.int .i64 D, .slice aP P.length cP, .slice aT T.length cT, .int .i64 I, .int .i64 J, .int .i64 N, .int .i64 lf, .int .i64 ls, .bool lo, .int .i64 hf', .int .i64 hs, .bool ho, .int .i64 ff, .slice aF F.length cF, .bool fo, .int .i64 uf, .slice aU U.length cU, .bool uo] 58 (0, 0))]) (fun y hy => hy) (fun x hx => List.mem_cons_of_mem _ hx))
              go_wp2_with fail
              go_roundw
              case rel => exact ⟨k + 1, _, by go_num, by omega, by omega, H14⟩
              case measure => simp [intOf]; omega
          · obtain rfl : k = 2 := by omega
            have f2 : decide (((2 : Nat) : Int) < 2) = false := by decide
            have xA := (unhide H6).at _ _ (List.mem_cons_self ..)
            have SS : Hid (∀ w', Below wr.heap.size wr w' → w'.cell? ⟨A, 1, none⟩ = some (.slice aP P.length cP) ∧ w'.cell? ⟨A, 2, none⟩ = some (.slice aT T.length cT)) := hide (fun w' hb => by
              have g0 := (hb.block _ (block_lt xA)).trans xA
              exact ⟨by rw [cell_of_row _ _ _ _ _ _ g0]; rfl, by rw [cell_of_row _ _ _ _ _ _ g0]; rfl⟩)
            have TT : ∀ {f : Nat} {args : Array Value} {r : Value}, (∀ W, Below wr.heap.size wr W → Calls Tryz.prog f args W fun e w' => e = .returned r ∧ Below W.heap.size W w') → Hid (∀ W, Hid (Below wr.heap.size wr W) → Calls Tryz.prog f args W fun e w' => e = .returned r ∧ Hid (Below wr.heap.size wr w') ∧ w'.cell? ⟨A, 1, none⟩ = some (.slice aP P.length cP) ∧ w'.cell? ⟨A, 2, none⟩ = some (.slice aT T.length cT)) := fun h => hide (fun W hW => by
              refine (h W (unhide hW)).mono ?_
              rintro e w' ⟨h1, h2⟩
              have b : Below wr.heap.size wr w' := (unhide hW).trans (h2.mono (unhide hW).size)
              exact ⟨h1, hide b, unhide SS w' b⟩)
            have rp := ((unhide H6).rowY 1 (.slice a2 P.length c2) P (by simp)).inb'
            have rt := ((unhide H6).rowY 2 (.slice a3 T.length c3) T (by simp)).inb'
            have E1 := TT (r := .bool true) (fun W hW => (eq_any (c1 := c2) (c2 := cP) (la := P) (lb := P) (by omega) (by omega) (rp.1.below hW) ((unhide KP _ _ _ _ _ (unhide H6)).below hW)).mono (fun e w' h => ⟨by rw [h.1, decide_eq_true rfl], h.2.below⟩))
            have E2 := TT (r := .bool true) (fun W hW => (eq_any (c1 := c3) (c2 := cT) (la := T) (lb := T) (by omega) (by omega) (rt.1.below hW) ((unhide KT _ _ _ _ _ (unhide H6)).below hW)).mono (fun e w' h => ⟨by rw [h.1, decide_eq_true rfl], h.2.below⟩))
            obtain ⟨q0, q1⟩ := unhide SS wr (Below.refl _ _)
            have kd2 : Hid (Below wr.heap.size wr wr) := hide (Below.refl _ _)
            clear TT SS xA rp rt
            have nn : ((2 : Nat) : Int) = 2 := rfl
            rw [nn]
            go_upto_region 23 with fail
            go_cut [158] from 29 to 158 (fun c wx => c = .bool false ∧ Hid (Below wr.heap.size wr wx))
            case first =>
              go_wp2_with (first
                | (go_at_call 17; first | (with_reducible refine (unhide E1 _ (by assumption)).mono ?_; rintro e w6 ⟨rfl, k6, s6a, s6b⟩) | (with_reducible refine (unhide E2 _ (by assumption)).mono ?_; rintro e w6 ⟨rfl, k6, s6a, s6b⟩)))
              all_goals go_meet
              all_goals exact ⟨rfl, k6⟩
            case rest =>
              obtain ⟨rfl, k10⟩ := hcut
              have H10 := hide (((unhide H6).below (unhide k10)).forget (Y' := []) (X' := []) (fun y hy => by cases hy) (fun x hx => by cases hx))
              clear k10 H6 E1 E2 q0 q1 kd2
              go_wp2_with fail
              go_roundw
              case rel => exact ⟨i + 1, _, by go_num, by omega, by omega, H10⟩
              case measure => simp [intOf]; omega
    · obtain rfl : i = n := by omega
      have f1 : decide ((i : Int) < (i : Int)) = false := decide_eq_false (by omega)
      go_wp2_with fail
      refine ((unhide H0).given).mono ?_
      rintro e w5 ⟨rfl, k5⟩
      go_wp2
      go_ret
      exact ⟨rfl, (unhide B1).trans ((unhide k5).low (unhide B1).size)⟩
end Go.Proofs.YtidfbelckdlbhabGreat
