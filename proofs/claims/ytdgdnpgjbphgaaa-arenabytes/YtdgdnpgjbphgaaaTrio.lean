/- ArenaBytes: three objects side by side. -/
import Derived.Test.YtdgdnpgjbphgaaaRowBytes
import Derived.Test.YtdgdnpgjbphgaaaAgree
import Derived.Deep.CutBlock
import Derived.Deep.DeepCutAuto
import Derived.Deep.Light
namespace Go.Proofs.Ytdgdnpgjbphgaaa
open Go.ChangeShapes Go.WideShapes Go.ChangeAt Go.RowKit
set_option linter.unusedVariables false
set_option maxRecDepth 100000
set_option maxHeartbeats 8000000

/-- the three objects -/
def trio (r s : Nat) : List (Nat × Nat × Nat) := [(2, 0, 3), (3, r, s), (4, 2, 1)]
theorem trio_place (r s : Nat) : place (trio r s) 0 = 1 ∧ place (trio r s) 1 = 5 ∧ place (trio r s) 2 = 6 + r + s ∧ place (trio r s) 3 = 10 + r + s := by
  refine ⟨rfl, rfl, ?_, ?_⟩
  · show 5 + (1 + r + s) = _; omega
  · show 5 + (1 + r + s) + 4 = _; omega
theorem trio_good (r s : Nat) (hr : r ≤ 24) (hs : s ≤ 24) : Good (trio r s) := by
  intro i hi
  match i, hi with
  | 0, _ => exact ⟨(by decide : 1 ≤ 2), (by decide : 2 ≤ 255), (by decide : 0 ≤ 24), (by decide : 3 ≤ 24)⟩
  | 1, _ => exact ⟨(by decide : 1 ≤ 3), (by decide : 3 ≤ 255), hr, hs⟩
  | 2, _ => exact ⟨(by decide : 1 ≤ 4), (by decide : 4 ≤ 255), (by decide : 2 ≤ 24), (by decide : 1 ≤ 24)⟩
/-- what stands in the words that tell of the objects -/
structure Told (r s : Nat) (ws : List Nat) (hs : List Bool) : Prop where
  one : objRes ws hs (10 + r + s) 1 = (2, 0, 3, 0)
  two : objRes ws hs (10 + r + s) 5 = (3, r, s, 0)
  three : objRes ws hs (10 + r + s) (6 + r + s : Nat) = (4, 2, 1, 0)
  all : Heads ws hs (10 + r + s)
theorem told_of {r s : Nat} {ws0 ws : List Nat} {hs : List Bool} (hr : r ≤ 24) (hs24 : s ≤ 24) (hL : LaidTo (trio r s) 3 ws0 hs) (h0 : ws.getD 0 0 = ws0.getD 0 0) (h1 : ws.getD 1 0 = ws0.getD 1 0) (h5 : ws.getD 5 0 = ws0.getD 5 0) (h6 : ws.getD (6 + r + s) 0 = ws0.getD (6 + r + s) 0) : Told r s ws hs := by
  obtain ⟨p0, p1, p2, p3⟩ := trio_place r s
  have hk : Kept (trio r s) ws hs := by
    refine ⟨hL.marks, fun j hj => ?_, h0.trans hL.zero⟩
    have := hL.heads j hj
    match j, hj with
    | 0, _ => rw [p0] at this ⊢; rw [h1]; exact this
    | 1, _ => rw [p1] at this ⊢; rw [h5]; exact this
    | 2, _ => rw [p2] at this ⊢; rw [h6]; exact this
  have hg := trio_good r s hr hs24
  have k0 := hk.obj hg 0 (by show 0 < 3; decide)
  have k1 := hk.obj hg 1 (by show 1 < 3; decide)
  have k2 := hk.obj hg 2 (by show 2 < 3; decide)
  have ka := hk.all hg
  rw [show (trio r s).length = 3 from rfl, p3] at k0 k1 k2 ka
  rw [p0] at k0
  rw [p1] at k1
  rw [p2] at k2
  exact ⟨k0, k1, k2, ka⟩
/-- i fields of the neighbours hold the greatest number -/
structure Edged (r s i : Nat) (ws0 ws : List Nat) : Prop where
  len : ws.length = ws0.length
  at' : ∀ j, ws.getD j 0 = if (2 ≤ j ∧ j < 2 + i) ∨ (7 + r + s ≤ j ∧ j < 7 + r + s + i) then 18446744073709551615 else ws0.getD j 0
theorem edged_told {r s i : Nat} {ws0 ws : List Nat} {hs : List Bool} (hr : r ≤ 24) (hs24 : s ≤ 24) (hi : i ≤ 3) (hL : LaidTo (trio r s) 3 ws0 hs) (h : Edged r s i ws0 ws) : Told r s ws hs :=
  told_of hr hs24 hL (by rw [h.at', if_neg (by omega)]) (by rw [h.at', if_neg (by omega)]) (by rw [h.at', if_neg (by omega)]) (by rw [h.at', if_neg (by omega)])
theorem edged_next {r s i : Nat} {ws0 ws : List Nat} (hi : i < 3) (hl : ws0.length = 10 + r + s) (h : Edged r s i ws0 ws) : Edged r s (i + 1) ws0 ((ws.set (2 + i) 18446744073709551615).set (7 + r + s + i) 18446744073709551615) := by
  have hl2 := h.len
  refine ⟨by rw [List.length_set, List.length_set]; exact h.len, fun j => ?_⟩
  rw [getD_set _ _ _ _ (by rw [List.length_set]; omega), getD_set _ _ _ _ (by omega), h.at']
  by_cases e1 : j = 7 + r + s + i
  · rw [if_pos e1, if_pos (by omega)]
  · rw [if_neg e1]
    by_cases e2 : j = 2 + i
    · rw [if_pos e2, if_pos (by omega)]
    · rw [if_neg e2]
      by_cases e3 : (2 ≤ j ∧ j < 2 + i) ∨ (7 + r + s ≤ j ∧ j < 7 + r + s + i)
      · rw [if_pos e3, if_pos (by omega)]
      · rw [if_neg e3, if_neg (by omega)]
/-- pieces: where each lies -/
def PieceAt (w : World) (b o : Nat) (A : Int) (l : List Nat) : Prop := ∃ a cap, w.cell? ⟨b, o, none⟩ = some (.int .i64 A) ∧ w.cell? ⟨b, o + 1, none⟩ = some (.slice a l.length cap) ∧ Bytes w a l ∧ Small l ∧ l.length ≤ cap ∧ cap ≤ 9223372036854775807 ∧ l.length ≤ 140737488355328
def Pieces (w : World) (a : Option Addr) (n : Nat) : Prop := n = 0 ∨ ∃ b off, a = some ⟨b, off, none⟩ ∧ b < w.heap.size ∧ ∀ i, i < n → ∃ A l, PieceAt w b (off + i * 2) A l
theorem PieceAt.below {w w' : World} {b o : Nat} {A : Int} {l : List Nat} (h : PieceAt w b o A l) (hb : b < w.heap.size) (hbl : Below w.heap.size w w') : PieceAt w' b o A l := by
  obtain ⟨a, cap, h0, h1, h2, h3⟩ := h
  exact ⟨a, cap, (hbl.cell (p := ⟨b, o, none⟩) hb).trans h0, (hbl.cell (p := ⟨b, o + 1, none⟩) hb).trans h1, h2.below hbl, h3⟩
theorem edged_half {r s i : Nat} {ws0 ws : List Nat} {hs : List Bool} (hr : r ≤ 24) (hs24 : s ≤ 24) (hi : i < 3) (hl : ws0.length = 10 + r + s) (hL : LaidTo (trio r s) 3 ws0 hs) (h : Edged r s i ws0 ws) : Told r s (ws.set (2 + i) 18446744073709551615) hs := by
  have hl2 := h.len
  refine told_of hr hs24 hL ?_ ?_ ?_ ?_
  all_goals rw [getD_set _ _ _ _ (by omega), if_neg (by omega), h.at', if_neg (by omega)]
theorem edged_start (r s : Nat) (ws0 : List Nat) : Edged r s 0 ws0 ws0 := ⟨rfl, fun j => by rw [if_neg (by omega)]⟩
/-- the row beside the object's bytes -/
structure RowInv (r s T : Nat) (ws1 : List Nat) (p bw bh : Nat) (hs : List Bool) (gr : Nat) (w0 wq : World) (ws ρ : List Nat) : Prop where
  ar : Ar wq p bw bh ws hs (10 + r + s)
  len : ws.length = 10 + r + s
  out : ∀ j, j < 6 + r ∨ 6 + r + s ≤ j → ws.getD j 0 = ws1.getD j 0
  rl : ρ.length = T
  row : ∀ i, i < T → wq.cell? ⟨gr, i, none⟩ = some (.int .u8 (ρ.getD i 0 : Nat)) ∧ wq.frozen? ⟨gr, i, none⟩ = false
  agree : ∀ q, q < T → rawByte ws (6 + r) q = ρ.getD q 0
  but : But [bw, gr] w0 wq
theorem RowInv.told {r s T : Nat} {ws0 ws1 : List Nat} {p bw bh : Nat} {hs : List Bool} {gr : Nat} {w0 wq : World} {ws ρ : List Nat} (h : RowInv r s T ws1 p bw bh hs gr w0 wq ws ρ) (hr : r ≤ 24) (hs24 : s ≤ 24) (hL : LaidTo (trio r s) 3 ws0 hs) (he : Edged r s 3 ws0 ws1) : Told r s ws hs := by
  refine told_of hr hs24 hL ?_ ?_ ?_ ?_
  all_goals rw [h.out _ (by omega), he.at', if_neg (by omega)]
theorem RowInv.next {r s T : Nat} {ws1 : List Nat} {p bw bh : Nat} {hs : List Bool} {gr : Nat} {w0 wq w7 : World} {ws ws' ρ l : List Nat} {from' : Nat} (h : RowInv r s T ws1 p bw bh hs gr w0 wq ws ρ) (hT : T = 8 * s) (hp : p ≠ gr) (hbw : bw ≠ gr) (hbh : bh ≠ gr) (hgl : gr < w0.heap.size) (hf : from' + l.length ≤ T)
    (hA : Ar w7 p bw bh ws' hs (10 + r + s)) (hB : But [bw] wq w7) (hW : Written ws ws' (6 + r) s from' l) : RowInv r s T ws1 p bw bh hs gr w0 (w7.setCells gr from' (cellsOf l)) ws' (patch ρ from' l) := by
  have hgq : gr < wq.heap.size := Nat.lt_of_lt_of_le hgl h.but.size
  have hgn : gr ∉ [bw] := by simp; exact Ne.symm hbw
  have hb8 : But [gr] w7 (w7.setCells gr from' (cellsOf l)) := But.sets gr (by simp) _ _ _ (But.refl _ _)
  have hrow : ∀ i, i < T → w7.cell? ⟨gr, i, none⟩ = some (.int .u8 (ρ.getD i 0 : Nat)) ∧ w7.frozen? ⟨gr, i, none⟩ = false := fun i hi =>
    ⟨(hB.cell (q := ⟨gr, i, none⟩) hgq hgn).trans (h.row i hi).1, (hB.frozen (q := ⟨gr, i, none⟩) hgq hgn).trans (h.row i hi).2⟩
  refine ⟨hA.but hb8 (by simp; exact hp) (by simp; exact hbw) (by simp; exact hbh), hW.len.trans h.len, fun j hj => (hW.out j hj).trans (h.out j hj), by rw [patch_length]; exact h.rl, fun i hi => ?_, fun q hq => ?_, ?_⟩
  · rw [World.frozen?_setCells]
    refine ⟨?_, (hrow i hi).2⟩
    rw [patch_at _ _ _ _ (by rw [h.rl]; exact hi)]
    by_cases hin : from' ≤ i ∧ i < from' + l.length
    · rw [if_pos hin]
      have h1 := World.cell?_setCells_in gr (cellsOf l) from' w7 (fun j hj => by rw [cellsOf_length] at hj; rw [(hrow _ (by omega)).1]; rfl) (i - from') (by rw [cellsOf_length]; omega)
      rw [show from' + (i - from') = i by omega] at h1
      rw [h1]
      have h2 := cellsOf_at l (i - from') (by omega)
      rw [List.getElem?_eq_getElem (by rw [cellsOf_length]; omega)] at h2
      exact h2
    · rw [if_neg hin, World.cell?_setCells_out gr (cellsOf l) from' w7 ⟨gr, i, none⟩ (fun _ _ => by show i < from' ∨ from' + (cellsOf l).length ≤ i; rw [cellsOf_length]; omega)]
      exact (hrow i hi).1
  · rw [hW.bytes q (by omega), patch_at _ _ _ _ (by rw [h.rl]; exact hq), h.agree q hq]
  · exact (h.but.trans (hB.wide (by simp))).trans (hb8.wide (by simp))
theorem row_copy {w7 : World} {gr T from' : Nat} {l ρ : List Nat} {a : Option Addr} {cap : Nat} (hB : Bytes w7 a l) (hf : from' + l.length ≤ T) (hrow : ∀ i, i < T → w7.cell? ⟨gr, i, none⟩ = some (.int .u8 (ρ.getD i 0 : Nat)) ∧ w7.frozen? ⟨gr, i, none⟩ = false) :
    (Builtin.copy_ #[53, 53] 3 #[.slice (some ⟨gr, from', none⟩) (T - from') (T - from'), .slice a l.length cap]).run Try.prog w7 = .ok (goInt l.length) (w7.setCells gr from' (cellsOf l)) := by
  by_cases hl0 : l.length = 0
  · have : l = [] := List.eq_nil_of_length_eq_zero hl0
    subst this
    exact run_copy_none w7 53 53 3 5 _ a _ _ 0 cap Try.underlying53 size5 (Nat.zero_min _)
  · rcases hB with h | ⟨b, o, rfl, hbl, hcl⟩
    · rw [h] at hl0; simp at hl0
    · have h1 := run_copy_cells (P := Try.prog) w7 53 53 3 5 gr from' (T - from') (T - from') ⟨b, o, none⟩ l.length cap (cellsOf l) Try.underlying53 size5 (by rw [cellsOf_length]; show _ = min _ _; omega)
        (fun j v hv => by
          obtain ⟨hj, rfl⟩ := cellsOf_get l j v hv
          rw [add_plain]
          exact hcl j hj)
        (fun j hj => by rw [cellsOf_length] at hj; rw [(hrow (from' + j) (by omega)).1]; rfl) (fun j hj => by rw [cellsOf_length] at hj; exact (hrow (from' + j) (by omega)).2) (cellsOf_one l)
      rw [cellsOf_length] at h1
      exact h1
theorem trio_shapes (w : World) (b r s : Nat) (h : w.heap[b]? = some (.cells #[.int .i64 2, .int .i64 0, .int .i64 3, .int .i64 3, .int .i64 r, .int .i64 s, .int .i64 4, .int .i64 2, .int .i64 1] 28 (0, 0))) : ShapesAt w b 0 (ints (trio r s)) := by
  intro i hi
  match i, hi with
  | 0, _ => exact ⟨by simp [World.cell?, h]; rfl, by simp [World.cell?, h]; rfl, by simp [World.cell?, h]; rfl⟩
  | 1, _ => exact ⟨by simp [World.cell?, h]; rfl, by simp [World.cell?, h]; rfl, by simp [World.cell?, h]; rfl⟩
  | 2, _ => exact ⟨by simp [World.cell?, h]; rfl, by simp [World.cell?, h]; rfl, by simp [World.cell?, h]; rfl⟩
end Go.Proofs.Ytdgdnpgjbphgaaa
