/- Asks, and the law's loop over them. -/
import Derived.Test.YtidfbelckdlbhaaWak
import Derived.Test.YtidfbelckdlbhaaFrs
namespace Go.Proofs.Ytidfbelckdlbhaa
open Go.ChangeShapes Go.WideShapes Go.ChangeAt Go.RowKit
set_option linter.unusedVariables false
set_option maxRecDepth 20000

/-- an Ask -/
structure AskD where
  D : Int
  P : List Nat
  aP : Option Addr
  cP : Nat
  T : List Nat
  aT : Option Addr
  cT : Nat
  I : Int
  J : Int
  N : Int
  lf : Int
  ls : Int
  lo : Bool
  hf : Int
  hs : Int
  ho : Bool
  ff : Int
  F : List Nat
  aF : Option Addr
  cF : Nat
  fo : Bool
  uf : Int
  U : List Nat
  aU : Option Addr
  cU : Nat
  uo : Bool
def AskD.arr (x : AskD) : Array Value := #[.int .i64 x.D, .slice x.aP x.P.length x.cP, .slice x.aT x.T.length x.cT, .int .i64 x.I, .int .i64 x.J, .int .i64 x.N, .int .i64 x.lf, .int .i64 x.ls, .bool x.lo, .int .i64 x.hf, .int .i64 x.hs, .bool x.ho, .int .i64 x.ff, .slice x.aF x.F.length x.cF, .bool x.fo, .int .i64 x.uf, .slice x.aU x.U.length x.cU, .bool x.uo]
/-- it lies at b, o -/
def AskAt (w : World) (b o : Nat) (x : AskD) : Prop := ∀ j v, x.arr.toList[j]? = some v → w.cell? ⟨b, o + j, none⟩ = some v
/-- a list of bytes that came in -/
def InB (w : World) (a : Option Addr) (cap : Nat) (l : List Nat) : Prop := Bytes w a l ∧ Small l ∧ l.length ≤ cap ∧ cap ≤ 9223372036854775807 ∧ l.length ≤ 140737488351232 ∧ (a = none → cap = 0)
theorem InB.below {w w' : World} {a : Option Addr} {cap : Nat} {l : List Nat} (h : InB w a cap l) (hb : Below w.heap.size w w') : InB w' a cap l := ⟨h.1.below hb, h.2⟩
def In64 (x : Int) : Prop := -9223372036854775808 ≤ x ∧ x ≤ 9223372036854775807
def AskOk (w : World) (x : AskD) : Prop := (In64 x.D ∧ In64 x.I ∧ In64 x.J ∧ In64 x.N ∧ In64 x.lf ∧ In64 x.ls ∧ In64 x.hf ∧ In64 x.hs ∧ In64 x.ff ∧ In64 x.uf) ∧ InB w x.aP x.cP x.P ∧ InB w x.aT x.cT x.T ∧ InB w x.aF x.cF x.F ∧ InB w x.aU x.cU x.U
theorem AskOk.below {w w' : World} {x : AskD} (h : AskOk w x) (hb : Below w.heap.size w w') : AskOk w' x := ⟨h.1, h.2.1.below hb, h.2.2.1.below hb, h.2.2.2.1.below hb, h.2.2.2.2.below hb⟩
theorem AskAt.below {w w' : World} {b o : Nat} {x : AskD} (h : AskAt w b o x) (hlt : b < w.heap.size) (hb : Below w.heap.size w w') : AskAt w' b o x := fun j v hj => (hb.cell (p := ⟨b, o + j, none⟩) hlt).trans (h j v hj)

set_option maxHeartbeats 2000000 in
theorem held_some (b off cap n : Nat) (L1 L2 : Int) (w : World) (hn : n ≤ 140737488355328) (hb : b < w.heap.size)
    (hE : ∀ k, k < n → ∃ x : AskD, AskAt w b (off + k * 18) x ∧ ∀ W, Below w.heap.size w W → L1 ≤ x.D → x.D ≤ L2 → Calls Try.prog 24 #[.agg x.arr] W fun e w' => e = .returned (.bool true) ∧ Below W.heap.size W w') :
    Calls Try.prog 17 #[.agg #[.slice (some ⟨b, off, none⟩) n cap], .int .i64 L1, .int .i64 L2] w fun e w' => e = .returned (.bool true) ∧ Below w.heap.size w w' := by
  have HE := hide hE
  have HW := hide (wakes_any (w.alloc (.cells #[.slice (some ⟨b, off, none⟩) n cap] 51)))
  clear hE
  go_enter Try.func17, Try.ntmps17
  go_wp2_with fail
  refine (unhide HW).mono ?_
  rintro e w1 ⟨rfl, hb1⟩
  have hs1 : w.heap.size < w1.heap.size := by have := hb1.size; simp at this; omega
  have hr1 : w1.heap[w.heap.size]? = some (.cells #[.slice (some ⟨b, off, none⟩) n cap] 51 (0, 0)) := (hb1.block w.heap.size (by simp)).trans (heap_alloc_new _ _)
  have HB1 : Hid (Below w.heap.size w w1) := hide (((Below.refl _ _).alloc (Nat.le_refl _) _).trans (hb1.mono (by simp)))
  have HR1 := hide hr1
  clear hb1 hr1 HW
  go_wp2_with fail
  go_loopw [7] (fun i wr => ∃ k : Nat, k ≤ n ∧ i = .int .i64 k ∧ Below w1.heap.size w1 wr) (fun i _ => n - (intOf i).toNat)
  case atStart => exact ⟨0, by omega, rfl, Below.refl _ _⟩
  case round =>
    obtain ⟨k, hk, rfl, hbl⟩ := hrel
    have hgr : w1.heap.size ≤ wr.heap.size := hbl.size
    have hrr : wr.heap[w.heap.size]? = some (.cells #[.slice (some ⟨b, off, none⟩) n cap] 51 (0, 0)) := (hbl.block w.heap.size hs1).trans (unhide HR1)
    have s0 : wr.cell? ⟨w.heap.size, 0, none⟩ = some (.slice (some ⟨b, off, none⟩) n cap) := by rw [cell_of_row _ _ _ _ _ _ hrr]; rfl
    have hbw : Below w.heap.size w wr := chain (unhide HB1) hbl (Nat.le_refl _)
    by_cases hlt : k < n ∧ k < 200
    · obtain ⟨hkn, hk2⟩ := hlt
      obtain ⟨x, hx0, hcall⟩ := unhide HE k hkn
      have hx := hx0.below hb hbw
      obtain ⟨D, v1, v2, v3, v4, v5, v6, v7, v8, v9, v10, v11, v12, v13, v14, v15, v16, v17, hA, hD, hA1⟩ : ∃ (D : Int) (v1 v2 v3 v4 v5 v6 v7 v8 v9 v10 v11 v12 v13 v14 v15 v16 v17 : Value), x.arr = #[.int .i64 D, v1, v2, v3, v4, v5, v6, v7, v8, v9, v10, v11, v12, v13, v14, v15, v16, v17] ∧ D = x.D ∧ ∀ v ∈ [v1, v2, v3, v4, v5, v6, v7, v8, v9, v10, v11, v12, v13, v14, v15, v16, v17], v.oneCell' = true := ⟨x.D, _, _, _, _, _, _, _, _, _, _, _, _, _, _, _, _, _, rfl, rfl, by simp [Value.oneCell']⟩
      have HX : Hid (L1 ≤ D → D ≤ L2 → Calls Try.prog 24 #[.agg #[.int .i64 D, v1, v2, v3, v4, v5, v6, v7, v8, v9, v10, v11, v12, v13, v14, v15, v16, v17]] (wr.alloc (.cells #[.int .i64 D, v1, v2, v3, v4, v5, v6, v7, v8, v9, v10, v11, v12, v13, v14, v15, v16, v17] 28)) fun e w' => e = .returned (.bool true) ∧ Below wr.heap.size wr w') := hide (fun h1 h2 => by
        have hq := hcall (wr.alloc (.cells #[.int .i64 D, v1, v2, v3, v4, v5, v6, v7, v8, v9, v10, v11, v12, v13, v14, v15, v16, v17] 28)) (hbw.alloc (by omega) _) (by rw [← hD]; exact h1) (by rw [← hD]; exact h2)
        rw [hA] at hq
        exact hq.mono (fun e w' ⟨q1, q2⟩ => ⟨q1, chain ((Below.refl _ wr).alloc (Nat.le_refl _) _) q2 (Nat.le_refl _)⟩))
      have HBL := hide hbl
      have h28 : (Try.prog.info? 28).map (·.size) = some (#[.int .i64 D, v1, v2, v3, v4, v5, v6, v7, v8, v9, v10, v11, v12, v13, v14, v15, v16, v17] : Array Value).size := by kernel_rfl
      have hone : (#[.int .i64 D, v1, v2, v3, v4, v5, v6, v7, v8, v9, v10, v11, v12, v13, v14, v15, v16, v17] : Array Value).all (·.oneCell') = true := by rw [← hA]; simp [AskD.arr, Value.oneCell']
      have HONE := hide hone
      have HRA : Hid (wr.rangeAt b (off + k * 18) [.int .i64 D, v1, v2, v3, v4, v5, v6, v7, v8, v9, v10, v11, v12, v13, v14, v15, v16, v17]) := hide (fun j v hv => hx j v (by rw [hA]; exact hv))
      have H28 := hide h28
      clear hx0 hcall hx hrr hbl hbw hA hD hA1 hone h28
      go_wp2_with (first | (refine wpList_load_mid rfl 28 (.tmp 25) rfl b (off + k * 18) rfl [.int .i64 D, v1, v2, v3, v4, v5, v6, v7, v8, v9, v10, v11, v12, v13, v14, v15, v16, v17] _ (unhide HRA) Try.underlying28 rfl (unhide H28) ?_) | (refine wpList_store_fresh rfl 28 (.tmp 8) (.tmp 26) rfl _ #[.int .i64 D, v1, v2, v3, v4, v5, v6, v7, v8, v9, v10, v11, v12, v13, v14, v15, v16, v17] rfl rfl (unhide H28) rfl (unhide HONE) ?_))
      all_goals first
        | (have HX' := unhide HX (by assumption) (by assumption)
           refine HX'.mono ?_
           rintro e w2 ⟨rfl, hb2⟩
           go_wp2
           go_roundw
           case rel => exact ⟨k + 1, by omega, by go_num, chain (unhide HBL) hb2 (Nat.le_refl _)⟩
           case measure => simp [intOf]; omega)
        | (go_roundw
           case rel => exact ⟨k + 1, by omega, by go_num, (unhide HBL).alloc hgr _⟩
           case measure => simp [intOf]; omega)
    · have HBL := hide hbw
      clear hbl hbw hrr
      by_cases hkn : k < n
      · have f2 : decide ((k : Int) < 200) = false := decide_eq_false (by omega)
        go_wp2
        go_ret
        exact ⟨rfl, unhide HBL⟩
      · have f1 : decide ((k : Int) < (n : Int)) = false := decide_eq_false (by omega)
        go_wp2
        go_ret
        exact ⟨rfl, unhide HBL⟩

theorem held_none (a : Option Addr) (cap : Nat) (L1 L2 : Int) (w : World) :
    Calls Try.prog 17 #[.agg #[.slice a 0 cap], .int .i64 L1, .int .i64 L2] w fun e w' => e = .returned (.bool true) ∧ Below w.heap.size w w' := by
  have HW := hide (wakes_any (w.alloc (.cells #[.slice a 0 cap] 51)))
  go_enter Try.func17, Try.ntmps17
  go_wp2_with fail
  refine (unhide HW).mono ?_
  rintro e w1 ⟨rfl, hb1⟩
  have hr1 : w1.heap[w.heap.size]? = some (.cells #[.slice a 0 cap] 51 (0, 0)) := (hb1.block w.heap.size (by simp)).trans (heap_alloc_new _ _)
  have s0 : w1.cell? ⟨w.heap.size, 0, none⟩ = some (.slice a 0 cap) := by rw [cell_of_row _ _ _ _ _ _ hr1]; rfl
  have HB1 : Hid (Below w.heap.size w w1) := hide (((Below.refl _ _).alloc (Nat.le_refl _) _).trans (hb1.mono (by simp)))
  clear hb1 hr1 HW
  go_wp2_with fail
  go_loopw [7] (fun i wr => i = .int .i64 0 ∧ wr = w1) (fun i _ => 0)
  case atStart => exact ⟨rfl, rfl⟩
  case round =>
    obtain ⟨rfl, rfl⟩ := hrel
    go_wp2
    go_ret
    exact ⟨rfl, unhide HB1⟩
end Go.Proofs.Ytidfbelckdlbhaa
