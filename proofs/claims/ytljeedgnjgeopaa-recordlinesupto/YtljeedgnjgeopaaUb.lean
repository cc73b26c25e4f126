/- record: the document's number, text. -/
import Derived.Test.YtljeedgnjgeopaaUa
import Derived.Test.YtljeedgnjgeopaaZa
namespace Larder
theorem bigN_at {k n q : Nat} (h : q < k) : (bigN k n).getD q 0 = n / 2 ^ (8 * (k - 1 - q)) % 256 := by
  unfold bigN
  rw [List.getD_eq_getElem?_getD, List.getElem?_map, List.getElem?_range h]
  rfl
end Larder
namespace Go.Proofs.Ytljeedgnjgeopaa
open Go.ChangeShapes Go.WideShapes Go.ChangeAt Go.RowKit Go.Shelf
set_option linter.unusedVariables false
set_option linter.unusedSimpArgs false
set_option maxRecDepth 100000
set_option maxHeartbeats 4000000
/-- a number half written: the places from i on stand -/
structure NuS (w : World) (k n i : Nat) (W : World) : Prop where
  bel : Below w.heap.size w W
  row : ∃ cur, W.heap[w.heap.size]? = some (.cells cur 5 (0, 0)) ∧ cur.size = k ∧ ∀ q, i ≤ q → q < k → cur[q]? = some (.int .u8 ((n / 2 ^ (8 * (k - 1 - q)) % 256 : Nat) : Int))
theorem NuS.put {w W : World} {k n i v : Nat} (h : NuS w k n (i + 1) W) (hi : i < k) (hv : v = n / 2 ^ (8 * (k - 1 - i)) % 256) : (∃ u, W.cell? ⟨w.heap.size, i, none⟩ = some u) ∧ W.frozen? ⟨w.heap.size, i, none⟩ = false ∧ NuS w k n i (W.setCell ⟨w.heap.size, i, none⟩ (.int .u8 (v : Int))) := by
  obtain ⟨cur, h1, h2, h3⟩ := h.row
  refine ⟨⟨cur[i]'(by omega), by rw [cell_blk h1]; exact Array.getElem?_eq_getElem (by omega)⟩, frz h1 _, h.bel.trans ⟨rfl, rfl, rfl, by simp, fun b hb => set_else _ _ _ _ _ (by omega)⟩, _, set_block W w.heap.size i _ cur 5 (0, 0) h1, by simpa using h2, fun q hq hqk => ?_⟩
  rw [Array.getElem?_setIfInBounds]
  by_cases e : i = q
  · subst e
    rw [if_pos rfl, if_pos (by omega), hv]
  · rw [if_neg e]
    exact h3 q (by omega) hqk
theorem pow_step (n j : Nat) : n / 2 ^ (8 * j) / 256 = n / 2 ^ (8 * (j + 1)) := by
  rw [Nat.div_div_eq_div_mul, show (256 : Nat) = 2 ^ 8 from rfl, ← Nat.pow_add, show 8 * j + 8 = 8 * (j + 1) by omega]
theorem dnumber_any (w : World) (n k : Nat) (hn : n < 18446744073709551616) (hk : k ≤ 8) :
    Calls Try.prog 33 #[.int .u64 (n : Nat), .int .i64 (k : Nat)] w fun e w' => e = .returned (.slice (some ⟨w.heap.size, 0, none⟩) k k) ∧ Hid (Below w.heap.size w w' ∧ RB w' (.slice (some ⟨w.heap.size, 0, none⟩) k k) (Larder.bigN k n)) := by
  have m1 := fun w' => run_make_row' (P := Try.prog) 27 5 (.int .u8 0) 1 Try.underlying27 dinfo5 rfl .i64 .i64 k (by omega) (by omega) w'
  have H0 : Hid (NuS w k n k (w.alloc (.cells (madeCells #[.int .u8 0] k) 5))) := hide ⟨(Below.refl _ _).alloc (Nat.le_refl _) _, _, heap_alloc_new _ _, by simp [madeCells], fun q h1 h2 => by omega⟩
  have d0 : IntKind.i64.wrap ((k : Int) - 1) = (k : Int) - 1 := by rw [IntKind.wrap_i64]; omega
  go_enter Try.func33, Try.ntmps33
  go_wp2_with fail
  go_loopw [0, 6] (fun nv iv wr => ∃ (i m : Nat), iv = .int .i64 ((i : Int) - 1) ∧ nv = .int .u64 (m : Nat) ∧ i ≤ k ∧ m < 18446744073709551616 ∧ Hid (m = n / 2 ^ (8 * (k - i)) ∧ NuS w k n i wr)) (fun _ iv _ => ((intOf iv) + 1).toNat)
  case atStart => exact ⟨k, n, rfl, rfl, Nat.le_refl _, hn, hide ⟨by rw [Nat.sub_self]; simp, unhide H0⟩⟩
  case round =>
    clear H0
    obtain ⟨i, m, rfl, rfl, hi, hm, HW⟩ := hrel
    obtain ⟨hmn, hS⟩ := unhide HW
    cases i with
    | zero =>
      have f1 : decide (((0 : Nat) : Int) - 1 ≥ 0) = false := by decide
      have f2 : decide ((0 : Int) ≤ ((0 : Nat) : Int) - 1) = false := by decide
      have HE : Hid (Below w.heap.size w wr ∧ RB wr (.slice (some ⟨w.heap.size, 0, none⟩) k k) (Larder.bigN k n)) := hide ⟨hS.bel, by
        obtain ⟨cur, h1, h2, h3⟩ := hS.row
        exact RB.of h1 (Larder.bigN_len k n).symm (by unfold maxLen; omega) h2 (fun j hj => by rw [h3 j (by omega) hj, Larder.bigN_at hj])⟩
      clear hS hmn HW
      go_wp2_with fail
      go_ret
      exact ⟨rfl, HE⟩
    | succ i =>
      have e0 : (((i + 1 : Nat) : Int) - 1) = (i : Int) := by omega
      rw [e0]
      clear e0
      have f1 : decide ((i : Int) ≥ 0) = true := decide_eq_true (by omega)
      have f2 : decide ((0 : Int) ≤ (i : Int)) = true := decide_eq_true (by omega)
      have g1 : (0 : Int) ≤ (i : Int) := by omega
      have g2 : (i : Int) < (k : Int) := by omega
      have g3 : i < k := by omega
      obtain ⟨v, hv⟩ : ∃ v, v = m % 256 := ⟨_, rfl⟩
      obtain ⟨⟨u, k1⟩, k2, k3⟩ := hS.put (v := v) g3 (by rw [hv, hmn, show k - (i + 1) = k - 1 - i by omega])
      have HN : Hid (m / 256 = n / 2 ^ (8 * (k - i))) := hide (by rw [hmn, pow_step, show k - (i + 1) + 1 = k - i by omega])
      have d1 : (m : Int).tmod 256 = (v : Int) := by rw [Int.tmod_eq_emod_of_nonneg (by omega), hv]; omega
      have d2 : IntKind.u8.wrap (v : Int) = (v : Int) := by rw [IntKind.wrap_u8]; omega
      obtain ⟨m2, hm2⟩ : ∃ m2, m2 = m / 256 := ⟨_, rfl⟩
      have d3 : (m : Int).tdiv 256 = (m2 : Int) := by rw [Int.tdiv_eq_ediv_of_nonneg (by omega), hm2]; omega
      have d4 : IntKind.i64.wrap ((i : Int) - 1) = (i : Int) - 1 := by rw [IntKind.wrap_i64]; omega
      have hml : m2 < 18446744073709551616 := by omega
      have HK := hide k3
      rw [← hm2] at HN
      clear hv hm2 hmn hS HW k3
      go_wp2_with fail
      exact ⟨⟨i, m2, rfl, rfl, by omega, hml, hide ⟨unhide HN, unhide HK⟩⟩, by simp [intOf]⟩
theorem dtext_any (w : World) (a : Option Addr) (n c : Nat) (l : List Nat) (hn : n = l.length) (hB : Bytes w a l) (hnil : a = none → n = 0) (hl : n ≤ 4294967295) :
    Calls Try.prog 34 #[.slice a n c] w fun e w' => ∃ a' c', e = .returned (.slice a' (4 + n) c') ∧ Hid (Nw w w' (.slice a' (4 + n) c') ∧ RB w' (.slice a' (4 + n) c') (Larder.encT l)) := by
  obtain ⟨i5, hi5, hz5, hs5, hb5⟩ := info_parts4 dinfo5
  have C33 := hide (dnumber_any w n 4 (by omega) (by omega))
  have HB := hide hB
  have HN := hide hn
  have HNIL := hide hnil
  have d1 : IntKind.u64.wrap (n : Int) = (n : Int) := by rw [IntKind.wrap_u64]; omega
  have HR : Hid (∀ w2, Hid (Below w.heap.size w w2 ∧ RB w2 (.slice (some ⟨w.heap.size, 0, none⟩) 4 4) (Larder.bigN 4 n)) → Rws w2 5 1 (.slice (some ⟨w.heap.size, 0, none⟩) 4 4) 4 (fun j => .int .u8 ((Larder.bigN 4 n).getD j 0 : Nat))) := hide (fun w2 h => (unhide h).2)
  clear hB hn hnil
  go_enter Try.func34, Try.ntmps34
  go_wp2_with (first
    | (go_at_call 33; refine (unhide C33).mono ?_; clear C33; rintro e w2 ⟨rfl, z2⟩)
    | (at_builtin; refine append_gen rfl _ _ 27 rfl 5 i5 _ 1 1 Try.underlying27 hi5 hz5 hs5 hb5 rfl (.slice (some ⟨w.heap.size, 0, none⟩) 4 4) 4 _ rfl ((unhide HR) w2 z2) a n c rfl (cellsB l) (by rw [cellsB_len, unhide HN]; omega) (unhide HNIL) (bytes_news ((unhide HB).below' (unhide z2).1)) (cellsB_one _) (by omega) (by unfold maxLen; omega) ?_; intro v5 w5 h5 k5; obtain ⟨a5, c5, rfl⟩ := h5.shape; have N5 : Hid (Nw w w5 (.slice a5 (4 + n) c5)) := hide ((show Nw w w2 (.slice (some ⟨w.heap.size, 0, none⟩) 4 4) from ⟨(unhide z2).1, fun g hg => by cases hg; exact Nat.le_refl _⟩).ga k5); have R5 : Hid (RB w5 (.slice a5 (4 + n) c5) (Larder.bigN 4 n ++ l)) := hide (RB.app (Larder.bigN_len 4 n).symm (by rw [← unhide HN]; exact h5)); clear h5 k5; go_frame))
  go_ret
  refine ⟨a5, c5, rfl, hide ⟨unhide N5, ?_⟩⟩
  have := unhide R5
  rw [unhide HN] at this ⊢
  exact this
end Go.Proofs.Ytljeedgnjgeopaa
