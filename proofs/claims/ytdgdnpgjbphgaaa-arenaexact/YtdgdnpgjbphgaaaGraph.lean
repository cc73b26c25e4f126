/- A graph: edge, rawOf. -/
import Derived.Test.YtdgdnpgjbphgaaaLists
import Derived.Deep.CutBlock
import Derived.Deep.DeepCutAuto
import Derived.Deep.Light
namespace Go.Proofs.Ytdgdnpgjbphgaaa
open Go.ChangeShapes Go.WideShapes Go.ChangeAt Go.RowKit
set_option linter.unusedVariables false
set_option maxRecDepth 100000
set_option maxHeartbeats 2000000

/-- a list of numbers -/
def Nums (w : World) (a : Option Addr) (l : List Int) : Prop := l = [] ∨ ∃ b off, a = some ⟨b, off, none⟩ ∧ b < w.heap.size ∧ ∀ i, i < l.length → w.cell? ⟨b, off + i, none⟩ = some (.int .i64 (l.getD i 0))
theorem Nums.below {w w' : World} {a : Option Addr} {l : List Int} (h : Nums w a l) (hb : Below w.heap.size w w') : Nums w' a l := by
  rcases h with h | ⟨b, off, e, hlt, hc⟩
  · exact .inl h
  · exact .inr ⟨b, off, e, Nat.lt_of_lt_of_le hlt hb.size, fun i hi => (hb.cell (p := ⟨b, off + i, none⟩) hlt).trans (hc i hi)⟩
/-- a list of lists of numbers -/
def NumRows (w : World) (a : Option Addr) (E : List (List Int)) : Prop := E = [] ∨ ∃ b off, a = some ⟨b, off, none⟩ ∧ b < w.heap.size ∧ ∀ i, i < E.length → ∃ ai ci, w.cell? ⟨b, off + i, none⟩ = some (.slice ai (E.getD i []).length ci) ∧ Nums w ai (E.getD i [])
theorem NumRows.below {w w' : World} {a : Option Addr} {E : List (List Int)} (h : NumRows w a E) (hb : Below w.heap.size w w') : NumRows w' a E := by
  rcases h with h | ⟨b, off, e, hlt, hc⟩
  · exact .inl h
  · refine .inr ⟨b, off, e, Nat.lt_of_lt_of_le hlt hb.size, fun i hi => ?_⟩
    obtain ⟨ai, ci, h1, h2⟩ := hc i hi
    exact ⟨ai, ci, (hb.cell (p := ⟨b, off + i, none⟩) hlt).trans h1, h2.below hb⟩
/-- where ref k of object i leads -/
def edgeN (E : List (List Int)) (n i k : Nat) : Option Nat :=
  if i < E.length ∧ k < (E.getD i []).length then
    (if ((E.getD i []).getD k 0 % ((n : Int) + 1)).toNat = n then none else some ((E.getD i []).getD k 0 % ((n : Int) + 1)).toNat)
  else none
theorem edgeN_lt {E : List (List Int)} {n i k t : Nat} (h : edgeN E n i k = some t) : t < n := by
  unfold edgeN at h
  by_cases hc : i < E.length ∧ k < (E.getD i []).length
  · rw [if_pos hc] at h
    have h1 := Int.emod_lt_of_pos ((E.getD i []).getD k 0) (show (0 : Int) < (n : Int) + 1 by omega)
    have h2 := Int.emod_nonneg ((E.getD i []).getD k 0) (show ((n : Int) + 1) ≠ 0 by omega)
    by_cases he : ((E.getD i []).getD k 0 % ((n : Int) + 1)).toNat = n
    · rw [if_pos he] at h; cases h
    · rw [if_neg he] at h
      cases h
      omega
  · rw [if_neg hc] at h; cases h
def edgeV : Option Nat → Int
  | none => -1
  | some t => t
theorem edge_any (v0 v2 : Value) (aE : Option Addr) (cE : Nat) (E : List (List Int)) (n i k : Nat) (w : World) (hn : n ≤ 1000000) (hE : NumRows w aE E) :
    Calls Try.prog 47 #[.agg #[v0, .slice aE E.length cE, v2], .int .i64 n, .int .i64 i, .int .i64 k] w fun e w' => e = .returned (.int .i64 (edgeV (edgeN E n i k))) ∧ Below w.heap.size w w' := by
  obtain ⟨W, hW⟩ : ∃ W, W = w.alloc (.cells #[v0, .slice aE E.length cE, v2] 78) := ⟨_, rfl⟩
  have hc1 : W.cell? ⟨w.heap.size, 1, none⟩ = some (.slice aE E.length cE) := by
    have := heap_alloc_new w (.cells #[v0, .slice aE E.length cE, v2] 78)
    rw [← hW] at this
    simp [World.cell?, this]
  have hb0 : Below w.heap.size w W := by rw [hW]; exact (Below.refl w.heap.size w).alloc (Nat.le_refl _) _
  have hE2 := hE.below hb0
  have HB0 := hide hb0
  have HWE := hide hW
  clear hW hb0 hE
  unfold edgeN
  by_cases hi : i < E.length
  · rcases hE2 with h | ⟨b, off, rfl, hbl, hc⟩
    · rw [h] at hi; simp at hi
    obtain ⟨ai, ci, hr, hN⟩ := hc i hi
    have f1 : decide ((E.length : Int) ≤ (i : Int)) = false := decide_eq_false (by omega)
    have f1' : decide (E.length ≤ i) = false := decide_eq_false (by omega)
    have y0 : (0 : Int) ≤ (i : Int) := by omega
    have y1 : (i : Int) < (E.length : Int) := by omega
    generalize E.getD i [] = l at *
    clear hc
    by_cases hk : k < l.length
    · rw [if_pos ⟨hi, hk⟩]
      rcases hN with h | ⟨b2, o2, rfl, hb2, hc2⟩
      · rw [h] at hk; simp at hk
      have ck := hc2 k hk
      generalize l.getD k 0 = z at *
      have f2 : decide ((l.length : Int) ≤ (k : Int)) = false := decide_eq_false (by omega)
      have f2' : decide (l.length ≤ k) = false := decide_eq_false (by omega)
      have y2 : (0 : Int) ≤ (k : Int) := by omega
      have y3 : (k : Int) < (l.length : Int) := by omega
      have HWI := hide (within_int z ((n : Int) + 1) (by omega) (by omega) W)
      have hm1 := Int.emod_lt_of_pos z (show (0 : Int) < (n : Int) + 1 by omega)
      have hm2 := Int.emod_nonneg z (show ((n : Int) + 1) ≠ 0 by omega)
      obtain ⟨t, ht⟩ : ∃ t : Nat, (t : Int) = z % ((n : Int) + 1) := ⟨(z % ((n : Int) + 1)).toNat, by omega⟩
      rw [← ht] at HWI ⊢
      rw [Int.toNat_natCast]
      clear ht hm1 hm2 hc2
      by_cases htn : t = n
      · subst htn
        rw [if_pos rfl]
        go_enter Try.func47, Try.ntmps47
        go_upto_region 1 with fail
        rw [← unhide HWE]
        go_wp2_with fail
        refine (unhide HWI).mono ?_
        rintro e w' ⟨rfl, hw'⟩
        obtain rfl := hw'.symm
        go_wp2
        go_ret
        exact ⟨rfl, unhide HB0⟩
      · rw [if_neg htn]
        have f3 : ((t : Int) == (n : Int)) = false := by rw [beq_eq_false_iff_ne]; omega
        have f3' : (t == n) = false := by rw [beq_eq_false_iff_ne]; exact htn
        go_enter Try.func47, Try.ntmps47
        go_upto_region 1 with fail
        rw [← unhide HWE]
        go_wp2_with fail
        refine (unhide HWI).mono ?_
        rintro e w' ⟨rfl, hw'⟩
        obtain rfl := hw'.symm
        go_wp2
        go_ret
        exact ⟨rfl, unhide HB0⟩
    · rw [if_neg (fun h => hk h.2)]
      have f2 : decide ((l.length : Int) ≤ (k : Int)) = true := decide_eq_true (by omega)
      have f2' : decide (l.length ≤ k) = true := decide_eq_true (by omega)
      clear hN
      go_enter Try.func47, Try.ntmps47
      go_upto_region 1 with fail
      rw [← unhide HWE]
      go_wp2
      go_ret
      exact ⟨rfl, unhide HB0⟩
  · rw [if_neg (fun h => hi h.1)]
    have f1 : decide ((E.length : Int) ≤ (i : Int)) = true := decide_eq_true (by omega)
    have f1' : decide (E.length ≤ i) = true := decide_eq_true (by omega)
    clear hE2
    go_enter Try.func47, Try.ntmps47
    go_upto_region 1 with fail
    rw [← unhide HWE]
    go_wp2
    go_ret
    exact ⟨rfl, unhide HB0⟩
/-- the number that raw k of object i holds -/
def rawN (i k : Nat) : Nat := i * 1000003 + k * 7919 + 5
theorem raw_any (i k : Nat) (w : World) (hi : i ≤ 1000000) (hk : k ≤ 1000000) : Calls Try.prog 48 #[.int .i64 i, .int .i64 k] w fun e w' => e = .returned (.int .u64 (rawN i k : Nat)) ∧ w' = w := by
  have e : ((rawN i k : Nat) : Int) = (i : Int) * 1000003 + (k : Int) * 7919 + 5 := by unfold rawN; omega
  rw [e]
  go_enter Try.func48, Try.ntmps48
  go_wp2
  go_ret
  exact ⟨rfl, rfl⟩
end Go.Proofs.Ytdgdnpgjbphgaaa
