/- Asks, and the law's loop over them. -/
import Derived.Test.YtidfbelckdlbhabGreatNumber
import Derived.Deep.Light
import Derived.Test.YtidfbelckdlbhabGreatLxa
import Derived.Test.YtidfbelckdlbhabGreatGlc
import Derived.Lib.SlBytesConst
import Derived.Test.YtidfbelckdlbhabGreatSame
import Derived.Lib.SmallJoins
import Derived.SizedLaws
import Derived.Deep.MidRow
import Derived.Deep.WholeRow
namespace Larder
/-- which elements of n -/
def winI (s t n : Int) : Int × Int :=
  if n ≤ 0 then (0, 0)
  else if (if s < 0 then max (s + n) 0 else s) > min (if t < 0 then t + n else t) (n - 1) then (0, 0)
  else ((if s < 0 then max (s + n) 0 else s), min (if t < 0 then t + n else t) (n - 1) - (if s < 0 then max (s + n) 0 else s) + 1)
end Larder
namespace Go.Proofs.YtidfbelckdlbhabGreat
open Go.ChangeShapes Go.WideShapes Go.ChangeAt Go.RowKit
set_option linter.unusedVariables false

theorem window_any (s t n : Int) (w : World) (hs1 : -9223372036854775808 ≤ s) (hs2 : s ≤ 9223372036854775807) (ht1 : -9223372036854775808 ≤ t) (ht2 : t ≤ 9223372036854775807) (hn1 : -9223372036854775808 ≤ n) (hn2 : n ≤ 9223372036854775807) :
    Calls Tryz.prog 7 #[.int .i64 s, .int .i64 t, .int .i64 n] w fun e w' => e = .returned (.tuple #[.int .i64 (Larder.winI s t n).1, .int .i64 (Larder.winI s t n).2]) ∧ w' = w := by
  have HW : Hid (∃ W, W = Larder.winI s t n) := hide ⟨_, rfl⟩
  obtain ⟨W, hW⟩ := unhide HW
  clear HW
  rw [← hW]
  have HW := hide hW
  clear hW
  go_enter Tryz.func7, Tryz.ntmps7
  go_wp2
  all_goals (go_ret2; refine ⟨ret_two ?_ ?_, rfl⟩ <;> (go_light; rw [unhide HW]; unfold Larder.winI; (repeat' split) <;> dsimp only <;> omega))

end Go.Proofs.YtidfbelckdlbhabGreat
namespace Go.Proofs.YtidfbelckdlbhabGreat
open Go.ChangeShapes Go.WideShapes Go.ChangeAt Go.RowKit
set_option linter.unusedVariables false
set_option maxRecDepth 20000

theorem lit_bytes (W : World) (l : List Nat) (fr : Nat × Nat) : Bytes (W.alloc (.cells (cellsOf l).toArray 5 fr)) (some ⟨W.heap.size, 0, none⟩) l := by
  refine .inr ⟨W.heap.size, 0, rfl, by simp, fun i hi => ?_⟩
  rw [Nat.zero_add, cell_of_row _ _ i _ _ _ (heap_alloc_new W (.cells (cellsOf l).toArray 5 fr))]
  have := cellsOf_at l i hi
  simpa using this
theorem win_wakes : Larder.winI 0 (-1) 5 = (0, 5) := by decide
theorem score_wakes : Larder.scoreRes [40, 45, 55] = ((0, -7, true), 0) := by decide
theorem lex_wakes : Larder.lexRes [97] = ((0, [], false), 91) := by decide
theorem star_wakes (t : List Nat) : Larder.Meets (Larder.parse [42]) t := ⟨t, [], by simp, rfl⟩

set_option maxHeartbeats 1000000 in
theorem wakes_any (w : World) : Calls Tryz.prog 4 #[] w fun e w' => e = .returned (.bool true) ∧ Below w.heap.size w w' := by
  have kc := fun (w : World) (C : Array Value) (n c : Nat) => Lib.run_convert_bytes_const (P := Tryz.prog) w 34 5 C n c Tryz.underlying34 Tryz.underlying5
  have H1 : Hid (Calls Tryz.prog 7 #[.int .i64 0, .int .i64 (-1), .int .i64 5] w fun e w' => e = .returned (.tuple #[.int .i64 0, .int .i64 5]) ∧ w' = w) := hide (by
    have := window_any 0 (-1) 5 w (by omega) (by omega) (by omega) (by omega) (by omega) (by omega)
    rw [win_wakes] at this
    exact this)
  have hb1 : Below w.heap.size w (w.alloc (.cells #[.int .u8 40, .int .u8 45, .int .u8 55] 5 (3, 4))) := (Below.refl _ _).alloc (Nat.le_refl _) _
  have H2 : Hid (Calls Tryz.prog 8 #[.slice (some ⟨w.heap.size, 0, none⟩) 3 3] (w.alloc (.cells #[.int .u8 40, .int .u8 45, .int .u8 55] 5 (3, 4))) fun e w' => e = .returned (.tuple #[.agg #[.int .i64 0, .int .i64 (-7), .bool true], .int .i64 0]) ∧ Below w.heap.size w w') := hide (by
    have := score_any (some ⟨w.heap.size, 0, none⟩) 3 _ [40, 45, 55] (by simp) (small_lit _ rfl) (by simp) (by omega) (lit_bytes w [40, 45, 55] (3, 4))
    rw [score_wakes] at this
    exact this.mono (fun e w' ⟨h1, h2⟩ => ⟨h1, chain hb1 h2 (Nat.le_refl _)⟩))
  clear hb1
  go_enter Tryz.func4, Tryz.ntmps4
  go_wp2_with fail
  refine (unhide H1).mono ?_
  rintro e w1 ⟨rfl, hw1⟩
  obtain rfl := hw1.symm
  go_wp2_with fail
  refine (unhide H2).mono ?_
  rintro e w2 ⟨rfl, hb2⟩
  have hb3 : Below w.heap.size w (w2.alloc (.cells #[.int .i64 0, .int .i64 (-7), .bool true] 30)) := chain hb2 ((Below.refl _ _).alloc (Nat.le_refl _) _) (Nat.le_refl _)
  have hx : (w2.alloc (.cells #[.int .i64 0, .int .i64 (-7), .bool true] 30)).heap[w2.heap.size]? = some (.cells #[.int .i64 0, .int .i64 (-7), .bool true] 30 (0, 0)) := heap_alloc_new _ _
  have hs3 : (w2.alloc (.cells #[.int .i64 0, .int .i64 (-7), .bool true] 30)).heap.size = w2.heap.size + 1 := by simp
  have H3 := lex_any (some ⟨(w2.alloc (.cells #[.int .i64 0, .int .i64 (-7), .bool true] 30)).heap.size, 0, none⟩) 1 _ [97] (by simp) (small_lit _ rfl) (by simp) (lit_bytes (w2.alloc (.cells #[.int .i64 0, .int .i64 (-7), .bool true] 30)) [97] (1, 2))
  have kc2 := kc (w2.alloc (.cells #[.int .i64 0, .int .i64 (-7), .bool true] 30)) #[.int .u8 97] 1 1
  rw [lex_wakes] at H3
  rw [hs3] at H3 kc2
  have hb4 : Below (w2.heap.size + 1) (w2.alloc (.cells #[.int .i64 0, .int .i64 (-7), .bool true] 30)) ((w2.alloc (.cells #[.int .i64 0, .int .i64 (-7), .bool true] 30)).alloc (.cells (cellsOf [97]).toArray 5 (1, 2))) := (Below.refl _ _).alloc (by simp) _
  have HH3 : Hid (Calls Tryz.prog 9 #[.slice (some ⟨w2.heap.size + 1, 0, none⟩) 1 1] ((w2.alloc (.cells #[.int .i64 0, .int .i64 (-7), .bool true] 30)).alloc (.cells #[.int .u8 97] 5 (1, 2))) fun e w' => ∃ a2 c2, e = .returned (.tuple #[.agg #[.int .i64 0, .slice a2 0 c2, .bool false], .int .i64 91]) ∧ w2.heap.size < w'.heap.size ∧ Hid (w'.heap[w2.heap.size]? = some (.cells #[.int .i64 0, .int .i64 (-7), .bool true] 30 (0, 0)) ∧ Below w.heap.size w w')) := hide (H3.mono (by
    rintro e w' ⟨v, rfl, h2, h3⟩
    obtain ⟨a2, c2, rfl, _, _⟩ := h2.shape
    have hsz : ((w2.alloc (.cells #[.int .i64 0, .int .i64 (-7), .bool true] 30)).alloc (.cells (cellsOf [97]).toArray 5 (1, 2))).heap.size = w2.heap.size + 2 := by simp
    refine ⟨a2, c2, rfl, ?_, hide ⟨?_, ?_⟩⟩
    · have := h3.size
      rw [hsz] at this; omega
    · exact (h3.block w2.heap.size (by rw [hsz]; omega)).trans ((hb4.block w2.heap.size (by omega)).trans hx)
    · have hh : Below w.heap.size w ((w2.alloc (.cells #[.int .i64 0, .int .i64 (-7), .bool true] 30)).alloc (.cells (cellsOf [97]).toArray 5 (1, 2))) := hb3.trans (hb4.mono (by have := hb2.size; omega))
      exact chain hh h3 (Nat.le_refl _)))
  clear hb2 hb3 hx hs3 H3 hb4 H1 H2
  go_wp2_with fail
  refine (unhide HH3).mono ?_
  rintro e w4 ⟨a2, c2, rfl, hs4, hO4⟩
  clear kc2
  have kc3 := kc (w4.alloc (.cells #[.int .i64 0, .slice a2 0 c2, .bool false] 36)) #[.int .u8 42] 1 1
  have kc4 := kc ((w4.alloc (.cells #[.int .i64 0, .slice a2 0 c2, .bool false] 36)).alloc (.cells #[.int .u8 42] 5 (1, 2))) #[.int .u8 97, .int .u8 98, .int .u8 99] 3 3
  have hs5 : (w4.alloc (.cells #[.int .i64 0, .slice a2 0 c2, .bool false] 36)).heap.size = w4.heap.size + 1 := by simp
  have hs6 : ((w4.alloc (.cells #[.int .i64 0, .slice a2 0 c2, .bool false] 36)).alloc (.cells #[.int .u8 42] 5 (1, 2))).heap.size = w4.heap.size + 1 + 1 := by simp
  have hB42 := lit_bytes (w4.alloc (.cells #[.int .i64 0, .slice a2 0 c2, .bool false] 36)) [42] (1, 2)
  have hBabc := lit_bytes ((w4.alloc (.cells #[.int .i64 0, .slice a2 0 c2, .bool false] 36)).alloc (.cells #[.int .u8 42] 5 (1, 2))) [97, 98, 99] (3, 4)
  have hB42' := hB42.below ((Below.refl _ _).alloc (Nat.le_refl _) (.cells (cellsOf [97, 98, 99]).toArray 5 (3, 4)))
  have HG := glob_any _ _ 1 3 _ [42] [97, 98, 99] (by simp) (by simp) (small_lit _ rfl) (small_lit _ rfl) hB42' hBabc
  rw [hs5] at kc3 HG
  have hs6' : ((w4.alloc (.cells #[.int .i64 0, .slice a2 0 c2, .bool false] 36)).alloc (.cells (cellsOf [42]).toArray 5 (1, 2))).heap.size = w4.heap.size + 1 + 1 := by simp
  have hb6 : Below w4.heap.size w4 (((w4.alloc (.cells #[.int .i64 0, .slice a2 0 c2, .bool false] 36)).alloc (.cells #[.int .u8 42] 5 (1, 2))).alloc (.cells #[.int .u8 97, .int .u8 98, .int .u8 99] 5 (3, 4))) := (((Below.refl _ _).alloc (Nat.le_refl _) _).alloc (by simp) _).alloc (by simp; omega) _
  have hs7 : (((w4.alloc (.cells #[.int .i64 0, .slice a2 0 c2, .bool false] 36)).alloc (.cells #[.int .u8 42] 5 (1, 2))).alloc (.cells #[.int .u8 97, .int .u8 98, .int .u8 99] 5 (3, 4))).heap.size = w4.heap.size + 3 := by simp
  have HH5 : Hid (Calls Tryz.prog 10 #[.slice (some ⟨w4.heap.size + 1, 0, none⟩) 1 1, .slice (some ⟨w4.heap.size + 1 + 1, 0, none⟩) 3 3] (((w4.alloc (.cells #[.int .i64 0, .slice a2 0 c2, .bool false] 36)).alloc (.cells #[.int .u8 42] 5 (1, 2))).alloc (.cells #[.int .u8 97, .int .u8 98, .int .u8 99] 5 (3, 4))) fun e w' => e = .returned (.bool true) ∧ (w'.cell? ⟨w2.heap.size, 0, none⟩ = some (.int .i64 0) ∧ w'.cell? ⟨w2.heap.size, 1, none⟩ = some (.int .i64 (-7)) ∧ w'.cell? ⟨w2.heap.size, 2, none⟩ = some (.bool true) ∧ w'.frozen? ⟨w2.heap.size, 0, none⟩ = false ∧ w'.frozen? ⟨w2.heap.size, 1, none⟩ = false ∧ w'.frozen? ⟨w2.heap.size, 2, none⟩ = false) ∧ Hid (Below w.heap.size w w')) := hide (by
    rw [hs6] at HG
    refine HG.mono ?_
    rintro e w' ⟨r, rfl, h2, h3⟩
    have hr : r = true := h2.2 (star_wakes _)
    subst hr
    have h4 := (unhide hO4).1
    have h5 := (h3.block w2.heap.size (by have := hs7; show _ < (((w4.alloc (.cells #[.int .i64 0, .slice a2 0 c2, .bool false] 36)).alloc (.cells #[.int .u8 42] 5 (1, 2))).alloc (.cells #[.int .u8 97, .int .u8 98, .int .u8 99] 5 (3, 4))).heap.size; omega)).trans ((hb6.block w2.heap.size hs4).trans h4)
    exact ⟨rfl, cells3 h5, hide (chain ((unhide hO4).2.trans (hb6.mono (unhide hO4).2.size)) h3 (Nat.le_refl _))⟩)
  rw [hs6] at kc4
  have kc4 : (convert 34 34 (.slice (some ⟨w4.heap.size + 1 + 1, 0, none⟩) 3 3)).run Tryz.prog (((w4.alloc (.cells #[.int .i64 0, .slice a2 0 c2, .bool false] 36)).alloc (.cells #[.int .u8 42] 5 (1, 2))).alloc (.cells #[.int .u8 97, .int .u8 98, .int .u8 99] 5)) = .ok (.slice (some ⟨w4.heap.size + 1 + 1, 0, none⟩) 3 3) (((w4.alloc (.cells #[.int .i64 0, .slice a2 0 c2, .bool false] 36)).alloc (.cells #[.int .u8 42] 5 (1, 2))).alloc (.cells #[.int .u8 97, .int .u8 98, .int .u8 99] 5 (3, 4))) := kc4
  clear hB42 hBabc hB42' HG hs5 hs6 hs6' hb6 hs7 kc
  go_wp2_with fail
  refine (unhide HH5).mono ?_
  rintro e w7 ⟨rfl, ⟨k1, k2, k3, k4, k5, k6⟩, hB⟩
  go_wp2
  go_ret
  exact ⟨rfl, unhide hB⟩
end Go.Proofs.YtidfbelckdlbhabGreat
namespace Go.Proofs.YtidfbelckdlbhabGreat
open Go.ChangeShapes Go.WideShapes Go.ChangeAt Go.RowKit Go.Joins Go.Deep
set_option linter.unusedVariables false

theorem own : ownKnob Tryz.prog.godebug = none := by kernel_rfl
theorem laidOut : laidOutB Tryz.prog = true := by kernel_rfl
theorem Tryz.bytes5 : Tryz.prog.bytesOf 5 = 1 := by kernel_rfl

theorem open_bytes {H : Type} {enc : TypeId × Value → H} {W : World} {n : Nat} {v : Value} {y : DataW H × List MemPlace}
    (hf : DataW.trod enc Tryz.prog W 0 (fun _ => true) true n 34 [v] = some y) :
    ∃ a cap l, v = .slice a l.length cap ∧ Bytes W a l ∧ (a = none → cap = 0) ∧ (l.length ≤ cap ∧ cap ≤ 9223372036854775807) ∧ Small l ∧ (l = [] ∨ ∃ elems spare, y.1 = .slice elems spare ∧ elems.length = l.length) := by
  rcases open_ints Tryz.underlying34 Tryz.underlying5 (by kernel_rfl) hf with ⟨hcs, _⟩ | ⟨x, len, cap, zs, hcs, _, hl, hm, hz, hy, hcell, hwz⟩
  · cases hcs
    exact ⟨none, 0, [], rfl, .inl rfl, fun _ => rfl, ⟨Nat.le_refl _, by omega⟩, (fun i hi => by simp at hi), .inl rfl⟩
  · cases hcs
    simp only [if_true] at hz
    have hlz : len ≤ zs.length := by omega
    have hlen : ((zs.take len).map Int.toNat).length = len := by simp; omega
    have hget : ∀ i, i < len → ((((zs.take len).map Int.toNat).getD i 0 : Nat) : Int) = zs.getD i 0 ∧ ((zs.take len).map Int.toNat).getD i 0 < 256 := by
      intro i hi
      have hiz : i < zs.length := by omega
      have hb := bounds_u8 (hwz (zs[i]) (List.getElem_mem hiz))
      have e1 : ((zs.take len).map Int.toNat).getD i 0 = (zs[i]).toNat := by
        rw [List.getD_eq_getElem?_getD, List.getElem?_map, List.getElem?_take, if_pos hi, List.getElem?_eq_getElem hiz]; rfl
      have e2 : zs.getD i 0 = zs[i] := by rw [List.getD_eq_getElem?_getD, List.getElem?_eq_getElem hiz]; rfl
      rw [e1, e2]
      omega
    refine ⟨some x, cap, (zs.take len).map Int.toNat, by rw [hlen], ?_, (fun h => by cases h), ⟨by rw [hlen]; exact hl, by simp only [maxLen] at hm; omega⟩, ?_, ?_⟩
    · by_cases h0 : len = 0
      · left; subst h0; simp
      · right
        obtain ⟨b, off, spot⟩ := x
        have hc := hcell 0 (by omega)
        have hspot : spot = none := by simpa [Addr.add] using World.cell?_spot hc
        subst hspot
        refine ⟨b, off, rfl, ?_, ?_⟩
        · have := block_lt_of_cell hc
          simpa [add_plain] using this
        · intro i hi
          rw [hlen] at hi
          have := hcell i (by omega)
          rw [add_plain] at this
          rw [this, (hget i hi).1]
    · intro i hi
      rw [hlen] at hi
      exact (hget i hi).2
    · right
      exact ⟨_, _, by rw [hy], by rw [hlen]; simp [lits]; omega⟩

theorem open_three {H : Type} {enc : TypeId × Value → H} {P : Program} {w : World} {base : Nat} {spare : Nat → Bool} {held : Bool} {fuel : Nat} {t : TypeId} {f0 f1 f2 : Field} {c0 c1 c2 : Value} {y : DataW H × List MemPlace} (hs : P.underlying t = some (.struct #[f0, f1, f2])) (hone : oneCellFields P #[f0, f1, f2] = true)
    (h : DataW.trod enc P w base spare held fuel t [c0, c1, c2] = some y) :
    ∃ (y0 y1 y2 : DataW H × List MemPlace) (n : Nat), y.1 = .agg [y0.1, y1.1, y2.1] ∧ DataW.trod enc P w base spare held n f0.type [c0] = some y0 ∧ DataW.trod enc P w base spare held n f1.type [c1] = some y1 ∧ DataW.trod enc P w base spare held n f2.type [c2] = some y2 := by
  obtain ⟨xs, n, _, hx, hl, hlen, hf⟩ := DataW.trod_struct hs h
  obtain ⟨o0, k0⟩ := hone_of hone 0 f0 rfl
  obtain ⟨o1, k1⟩ := hone_of hone 1 f1 rfl
  obtain ⟨o2, k2⟩ := hone_of hone 2 f2 rfl
  match xs, hlen with
  | [y0, y1, y2], _ =>
    refine ⟨y0, y1, y2, n, by rw [hx]; rfl, by simpa [o0, k0] using hf 0 f0 rfl, by simpa [o1, k1] using hf 1 f1 rfl, by simpa [o2, k2] using hf 2 f2 rfl⟩
theorem list_18 {α : Type} {cs : List α} (h : cs.length = 18) : ∃ v0 v1 v2 v3 v4 v5 v6 v7 v8 v9 v10 v11 v12 v13 v14 v15 v16 v17, cs = [v0, v1, v2, v3, v4, v5, v6, v7, v8, v9, v10, v11, v12, v13, v14, v15, v16, v17] := by
  match cs, h with
  | [v0, v1, v2, v3, v4, v5, v6, v7, v8, v9, v10, v11, v12, v13, v14, v15, v16, v17], _ => exact ⟨v0, v1, v2, v3, v4, v5, v6, v7, v8, v9, v10, v11, v12, v13, v14, v15, v16, v17, rfl⟩
theorem open_ask0 {H : Type} {enc : TypeId × Value → H} {P : Program} {w : World} {base : Nat} {spare : Nat → Bool} {held : Bool} {fuel : Nat} {t : TypeId} {f0 f1 f2 f3 f4 f5 f6 f7 f8 f9 : Field} {cs : List Value} {y : DataW H × List MemPlace} (hs : P.underlying t = some (.struct #[f0, f1, f2, f3, f4, f5, f6, f7, f8, f9])) (hC : P.cellsOf t = 18) (o0 : f0.offset = 0) (k0 : P.cellsOf f0.type = 1) (o1 : f1.offset = 1) (k1 : P.cellsOf f1.type = 1) (o2 : f2.offset = 2) (k2 : P.cellsOf f2.type = 1) (o3 : f3.offset = 3) (k3 : P.cellsOf f3.type = 1) (o4 : f4.offset = 4) (k4 : P.cellsOf f4.type = 1) (o5 : f5.offset = 5) (k5 : P.cellsOf f5.type = 1) (o6 : f6.offset = 6) (k6 : P.cellsOf f6.type = 3) (o7 : f7.offset = 9) (k7 : P.cellsOf f7.type = 3) (o8 : f8.offset = 12) (k8 : P.cellsOf f8.type = 3) (o9 : f9.offset = 15) (k9 : P.cellsOf f9.type = 3)
    (h : DataW.trod enc P w base spare held fuel t cs = some y) :
    ∃ (v0 v1 v2 v3 v4 v5 v6 v7 v8 v9 v10 v11 v12 v13 v14 v15 v16 v17 : Value) (y0 y1 y2 y3 y4 y5 y6 y7 y8 y9 : DataW H × List MemPlace) (n : Nat), cs = [v0, v1, v2, v3, v4, v5, v6, v7, v8, v9, v10, v11, v12, v13, v14, v15, v16, v17] ∧ y.1 = .agg [y0.1, y1.1, y2.1, y3.1, y4.1, y5.1, y6.1, y7.1, y8.1, y9.1] ∧ DataW.trod enc P w base spare held n f0.type [v0] = some y0 ∧ DataW.trod enc P w base spare held n f1.type [v1] = some y1 ∧ DataW.trod enc P w base spare held n f2.type [v2] = some y2 ∧ DataW.trod enc P w base spare held n f3.type [v3] = some y3 ∧ DataW.trod enc P w base spare held n f4.type [v4] = some y4 ∧ DataW.trod enc P w base spare held n f5.type [v5] = some y5 ∧ DataW.trod enc P w base spare held n f6.type [v6, v7, v8] = some y6 ∧ DataW.trod enc P w base spare held n f7.type [v9, v10, v11] = some y7 ∧ DataW.trod enc P w base spare held n f8.type [v12, v13, v14] = some y8 ∧ DataW.trod enc P w base spare held n f9.type [v15, v16, v17] = some y9 := by
  obtain ⟨xs, n, _, hx, hl, hlen, hf⟩ := DataW.trod_struct hs h
  obtain ⟨v0, v1, v2, v3, v4, v5, v6, v7, v8, v9, v10, v11, v12, v13, v14, v15, v16, v17, rfl⟩ := list_18 (hl.trans hC)
  match xs, hlen with
  | [y0, y1, y2, y3, y4, y5, y6, y7, y8, y9], _ =>
    refine ⟨v0, v1, v2, v3, v4, v5, v6, v7, v8, v9, v10, v11, v12, v13, v14, v15, v16, v17, y0, y1, y2, y3, y4, y5, y6, y7, y8, y9, n, rfl, by rw [hx]; rfl, by simpa [o0, k0] using hf 0 f0 rfl, by simpa [o1, k1] using hf 1 f1 rfl, by simpa [o2, k2] using hf 2 f2 rfl, by simpa [o3, k3] using hf 3 f3 rfl, by simpa [o4, k4] using hf 4 f4 rfl, by simpa [o5, k5] using hf 5 f5 rfl, by simpa [o6, k6] using hf 6 f6 rfl, by simpa [o7, k7] using hf 7 f7 rfl, by simpa [o8, k8] using hf 8 f8 rfl, by simpa [o9, k9] using hf 9 f9 rfl⟩
end Go.Proofs.YtidfbelckdlbhabGreat
namespace Go.Proofs.YtidfbelckdlbhabGreat
open Go.ChangeShapes Go.WideShapes Go.ChangeAt Go.RowKit
set_option linter.unusedVariables false
theorem wpList_store_fresh {P : Program} {ops : Array Oper} {rest : List Oper} {op : Oper} {a : Act} {w : World} {Q : Exit → Act → World → Prop} (hgd : op.guard = none) (ty : TypeId) (x y : Operand) (ho : op.op = .store ty x y)
    (c c' : Array Value) (hx : a.eval x = .pointer (some ⟨w.heap.size, 0, none⟩)) (hy : a.eval y = .agg c')
    (hi : (P.info? ty).map (·.size) = some c'.size) (hs : c.size = c'.size) (h1 : c'.all (·.oneCell') = true)
    (h : wpList P ops Q rest (a.put op.dst undef) (w.alloc (.cells c' ty))) : wpList P ops Q (op :: rest) a (w.alloc (.cells c ty)) := by
  refine wpList_plain hgd fun _ hK => ?_
  unfold Oper.wp execOp
  simp only [ho, hx, hy, Sem.run_bind, run_storeAt_new w ty c c' hi hs h1, Result.andThen_ok, Sem.run_pure]
  exact hK _ _ h
end Go.Proofs.YtidfbelckdlbhabGreat
namespace Go.Proofs.YtidfbelckdlbhabGreat
open Go.ChangeShapes Go.WideShapes Go.ChangeAt Go.RowKit
set_option linter.unusedVariables false
set_option maxRecDepth 20000

/-- an Ask -/
structure AskD where
  D : Int
  P : List Nat
  aP : Option Addr
  cP : Nat
  T : List Nat
  aT : Option Addr
  cT : Nat
  I : Int
  J : Int
  N : Int
  lf : Int
  ls : Int
  lo : Bool
  hf : Int
  hs : Int
  ho : Bool
  ff : Int
  F : List Nat
  aF : Option Addr
  cF : Nat
  fo : Bool
  uf : Int
  U : List Nat
  aU : Option Addr
  cU : Nat
  uo : Bool
def AskD.arr (x : AskD) : Array Value := #[.int .i64 x.D, .slice x.aP x.P.length x.cP, .slice x.aT x.T.length x.cT, .int .i64 x.I, .int .i64 x.J, .int .i64 x.N, .int .i64 x.lf, .int .i64 x.ls, .bool x.lo, .int .i64 x.hf, .int .i64 x.hs, .bool x.ho, .int .i64 x.ff, .slice x.aF x.F.length x.cF, .bool x.fo, .int .i64 x.uf, .slice x.aU x.U.length x.cU, .bool x.uo]
/-- it lies at b, o -/
def AskAt (w : World) (b o : Nat) (x : AskD) : Prop := ∀ j v, x.arr.toList[j]? = some v → w.cell? ⟨b, o + j, none⟩ = some v
/-- a list of bytes that came in -/
def InB (w : World) (a : Option Addr) (cap : Nat) (l : List Nat) : Prop := Bytes w a l ∧ Small l ∧ l.length ≤ cap ∧ cap ≤ 9223372036854775807 ∧ l.length ≤ 140737488351232 ∧ (a = none → cap = 0)
theorem InB.below {w w' : World} {a : Option Addr} {cap : Nat} {l : List Nat} (h : InB w a cap l) (hb : Below w.heap.size w w') : InB w' a cap l := ⟨h.1.below hb, h.2⟩
def In64 (x : Int) : Prop := -9223372036854775808 ≤ x ∧ x ≤ 9223372036854775807
def AskOk (w : World) (x : AskD) : Prop := (In64 x.D ∧ In64 x.I ∧ In64 x.J ∧ In64 x.N ∧ In64 x.lf ∧ In64 x.ls ∧ In64 x.hf ∧ In64 x.hs ∧ In64 x.ff ∧ In64 x.uf) ∧ InB w x.aP x.cP x.P ∧ InB w x.aT x.cT x.T ∧ InB w x.aF x.cF x.F ∧ InB w x.aU x.cU x.U
theorem AskOk.below {w w' : World} {x : AskD} (h : AskOk w x) (hb : Below w.heap.size w w') : AskOk w' x := ⟨h.1, h.2.1.below hb, h.2.2.1.below hb, h.2.2.2.1.below hb, h.2.2.2.2.below hb⟩
theorem AskAt.below {w w' : World} {b o : Nat} {x : AskD} (h : AskAt w b o x) (hlt : b < w.heap.size) (hb : Below w.heap.size w w') : AskAt w' b o x := fun j v hj => (hb.cell (p := ⟨b, o + j, none⟩) hlt).trans (h j v hj)
end Go.Proofs.YtidfbelckdlbhabGreat
