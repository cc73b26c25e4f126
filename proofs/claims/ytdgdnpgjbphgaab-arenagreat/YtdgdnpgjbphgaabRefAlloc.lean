/- The document's block: Alloc. -/
import Derived.Test.YtdgdnpgjbphgaabRefNew
import Derived.Test.YtdgdnpgjbphgaabHead
namespace Go.Proofs.Ytdgdnpgjbphgaab
open Go.ChangeShapes Go.WideShapes Go.ChangeAt Go.RowKit
set_option linter.unusedVariables false
set_option maxRecDepth 100000
set_option maxHeartbeats 4000000

theorem rhead_yes (k r s : Int) (w : World) (h : Fits k r s) : Calls Try.prog 60 #[.int .i64 k, .int .i64 r, .int .i64 s] w fun e w' => e = .returned (.tuple #[.int .u64 (k + 256 * r + 4294967296 * s), .int .i64 0]) ∧ w' = w := by
  obtain ⟨h1, h2, h3, h4, h5, h6⟩ := h
  go_enter Try.func60, Try.ntmps60
  go_wp2
  go_ret2
  exact ⟨ret_two (by omega) rfl, rfl⟩
theorem rhead_no (k r s : Int) (w : World) (h : ¬ Fits k r s) : Calls Try.prog 60 #[.int .i64 k, .int .i64 r, .int .i64 s] w fun e w' => e = .returned (.tuple #[.int .u64 0, .int .i64 10]) ∧ w' = w := by
  by_cases h1 : k < 1
  · go_enter Try.func60, Try.ntmps60
    go_wp2
    go_ret2
    exact ⟨rfl, rfl⟩
  by_cases h2 : 255 < k
  · go_enter Try.func60, Try.ntmps60
    go_wp2
    go_ret2
    exact ⟨rfl, rfl⟩
  by_cases h3 : r < 0
  · go_enter Try.func60, Try.ntmps60
    go_wp2
    go_ret2
    exact ⟨rfl, rfl⟩
  by_cases h4 : 1048576 < r
  · go_enter Try.func60, Try.ntmps60
    go_wp2
    go_ret2
    exact ⟨rfl, rfl⟩
  by_cases h5 : s < 0
  · go_enter Try.func60, Try.ntmps60
    go_wp2
    go_ret2
    exact ⟨rfl, rfl⟩
  have h6 : 1048576 < s := by unfold Fits at h; omega
  clear h
  go_enter Try.func60, Try.ntmps60
  go_wp2
  go_ret2
  exact ⟨rfl, rfl⟩
theorem ralloc_shape {w : World} {pr r : Nat} {rt : Nat → Nat} {R : RefSt} (h : RefAt w pr r rt R) (k rf rw : Int) (hf : ¬ Fits k rf rw) :
    Calls Try.prog 20 #[.pointer (some ⟨pr, 0, none⟩), .int .i64 k, .int .i64 rf, .int .i64 rw] w fun e w' => e = .returned (.tuple #[.int .i64 0, .int .i64 21]) ∧ Still w w' := by
  have HF := hide (rhead_no k rf rw w hf)
  clear h hf
  go_enter Try.func20, Try.ntmps20
  go_wp2_with fail
  refine (unhide HF).mono ?_
  rintro e w1 ⟨rfl, hw⟩
  obtain rfl := hw.symm
  go_wp2
  go_ret2
  exact ⟨rfl, Still.refl _⟩
theorem ralloc_full {w : World} {pr r : Nat} {rt : Nat → Nat} {R : RefSt} (h : RefAt w pr r rt R) (k rf rw : Nat) (hf : Fits k rf rw) (hn : R.size < R.used + 1 + (rf + rw)) :
    Calls Try.prog 20 #[.pointer (some ⟨pr, 0, none⟩), .int .i64 k, .int .i64 rf, .int .i64 rw] w fun e w' => e = .returned (.tuple #[.int .i64 0, .int .i64 22]) ∧ Still w w' := by
  have HF := hide (rhead_yes k rf rw w hf)
  have c0 := h.c0
  have c1 := h.c1
  have hu := h.u2
  have hs := h.sz
  obtain ⟨h1, h2, h3, h4, h5, h6⟩ := hf
  clear h
  generalize R.used = us at *
  generalize R.size = sz at *
  have d1 : decide ((sz : Int) - (us : Int) < 1 + (rf : Int) + (rw : Int)) = true := decide_eq_true (by omega)
  go_enter Try.func20, Try.ntmps20
  go_wp2_with fail
  refine (unhide HF).mono ?_
  rintro e w1 ⟨rfl, hw⟩
  obtain rfl := hw.symm
  go_wp2_with fail
  go_quiet (fail)
  have HS0 := hide ((Still.refl w).drew nq)
  clear c0 c1 HF
  generalize w.drewN nq = w8 at *
  go_wp2
  go_ret2
  exact ⟨rfl, unhide HS0⟩
theorem getD_zeros (n i : Nat) : (List.replicate n 0).getD i 0 = 0 := by
  rw [List.getD_eq_getElem?_getD, List.getElem?_replicate]
  by_cases h : i < n <;> simp [h]
theorem ralloc_yes {w : World} {pr r : Nat} {rt : Nat → Nat} {R : RefSt} (h : RefAt w pr r rt R) (un : ∀ g, rt g ≠ 0 → g < w.heap.size) (k rf rw : Nat) (hf : Fits k rf rw) (hn : R.used + 1 + (rf + rw) ≤ R.size) :
    Calls Try.prog 20 #[.pointer (some ⟨pr, 0, none⟩), .int .i64 k, .int .i64 rf, .int .i64 rw] w fun e w' => e = .returned (.tuple #[.int .i64 (R.used : Nat), .int .i64 0]) ∧ ∃ rt' F v', RefAt w' pr r rt' (R.lay k rf rw (List.replicate (rf + rw) 0) F v') ∧ RChg (Mine r) rt rt' w w' := by
  have HF := hide (rhead_yes k rf rw w hf)
  have c0 := h.c0
  have c1 := h.c1
  have hu := h.u2
  have hs := h.sz
  obtain ⟨h1, h2, h3, h4, h5, h6⟩ := hf
  obtain ⟨us, hus⟩ : ∃ us, us = R.used := ⟨_, rfl⟩
  obtain ⟨sz, hsz⟩ : ∃ sz, sz = R.size := ⟨_, rfl⟩
  obtain ⟨n, hnn⟩ : ∃ n, n = rf + rw := ⟨_, rfl⟩
  have HLAY : Hid (∀ wq, Still w wq → Calls Try.prog 61 #[.pointer (some ⟨pr, 0, none⟩), .int .i64 (k : Nat), .int .i64 (rf : Nat), .slice (some ⟨wq.heap.size, 0, none⟩) n n] (wq.alloc (.cells (madeCells #[.int .u64 0] n) 24)) fun e w' => e = .returned (.tuple #[.int .i64 (us : Nat), .int .i64 0]) ∧ ∃ rt' v', RefAt w' pr r rt' (R.lay k rf rw (List.replicate n 0) (.slice (some ⟨wq.heap.size, 0, none⟩) n n) v') ∧ RChg (Mine r) rt rt' w w') := hide (fun wq kq => by
    have hwq : wq.heap.size = w.heap.size := by rw [kq.heap]
    have hold : ∀ g, g < w.heap.size → (wq.alloc (.cells (madeCells #[.int .u64 0] n) 24)).heap[g]? = w.heap[g]? := fun g hg => (heap_alloc_old wq _ (by omega)).trans (by rw [kq.heap])
    have htg : ∀ g, g < w.heap.size → tagPut rt wq.heap.size (40 + 3 * R.L.length + r) g = rt g := fun g hg => by unfold tagPut; rw [if_neg (by omega)]
    have hR : RefAt (wq.alloc (.cells (madeCells #[.int .u64 0] n) 24)) pr r (tagPut rt wq.heap.size (40 + 3 * R.L.length + r)) R := h.conf (by simp; omega) (fun g hg _ => hold g hg) (fun g hg _ => htg g hg)
    have hun : ∀ g, tagPut rt wq.heap.size (40 + 3 * R.L.length + r) g ≠ 0 → g < (wq.alloc (.cells (madeCells #[.int .u64 0] n) 24)).heap.size := fun g hg => by
      unfold tagPut at hg
      by_cases e : g = wq.heap.size
      · simp [e]
      · rw [if_neg e] at hg
        have := un g hg
        simp
        omega
    have hC : RChg (Mine r) rt (tagPut rt wq.heap.size (40 + 3 * R.L.length + r)) w (wq.alloc (.cells (madeCells #[.int .u64 0] n) 24)) := ⟨kq.os, kq.tape, kq.output, by simp; omega, htg, fun g hg _ => hold g hg, hun⟩
    have hL : Line (wq.alloc (.cells (madeCells #[.int .u64 0] n) 24)) 24 (.slice (some ⟨wq.heap.size, 0, none⟩) n n) n (fun i => w64 ((List.replicate n 0).getD i 0)) := .inr ⟨wq.heap.size, n, madeCells #[.int .u64 0] n, rfl, heap_alloc_new wq _, Nat.le_refl _, by unfold maxLen; omega, by simp [madeCells], fun j hj => by
      show _ = some (w64 ((List.replicate n 0).getD j 0))
      rw [getD_zeros]
      simp [madeCells, hj, w64, Nat.mod_one]⟩
    have := rlay_yes hR hun k rf rw (List.replicate n 0) (.slice (some ⟨wq.heap.size, 0, none⟩) n n) ⟨by omega, by omega⟩ (by simp [hnn]) (fun i => by rw [getD_zeros]; decide) (by rw [← hnn]; exact hL) (fun g hg => by
      have : wq.heap.size = g := by injection hg
      rw [← this]; unfold tagPut; rw [if_pos rfl]) hn
    rw [hus]
    refine this.mono ?_
    rintro e w' ⟨rfl, rt', v', a1, a2⟩
    exact ⟨rfl, rt', v', a1, hC.trans a2⟩)
  rw [← hus] at c1 hu hn
  rw [← hsz] at c0 hu hs hn
  rw [← hnn] at hn
  have HUS := hide hus
  have HNN := hide hnn
  have e2 : (rf : Int) + (rw : Int) = (n : Int) := by omega
  have d1 : decide ((sz : Int) - (us : Int) < 1 + (rf : Int) + (rw : Int)) = false := decide_eq_false (by omega)
  have m1 := fun w' => run_make_row' (P := Try.prog) 62 24 (.int .u64 0) 8 Try.underlying62 Try.info24 rfl .i64 .i64 n (by omega) (by omega) w'
  rw [← hus, ← hnn]
  clear h hus hsz hnn
  go_enter Try.func20, Try.ntmps20
  go_wp2_with fail
  refine (unhide HF).mono ?_
  rintro e w1 ⟨rfl, hw⟩
  obtain rfl := hw.symm
  go_wp2_with fail
  go_quiet (fail)
  have HS0 := hide ((Still.refl w).drew nq)
  clear c0 c1 HF
  generalize w.drewN nq = w8 at *
  go_wp2_with fail
  refine (unhide HLAY w8 (unhide HS0)).mono ?_
  rintro e w1 ⟨rfl, rt', v', a1, a2⟩
  have HA1 := hide a1
  have HA2 := hide a2
  clear a1 a2
  go_wp2
  go_ret2
  exact ⟨rfl, rt', _, v', unhide HA1, unhide HA2⟩
end Go.Proofs.Ytdgdnpgjbphgaab
