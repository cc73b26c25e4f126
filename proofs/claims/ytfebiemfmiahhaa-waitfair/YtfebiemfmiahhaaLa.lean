/- The statements' own functions: ints, twin, wakes. -/
import Derived.Test.YtfebiemfmiahhaaKo
import Derived.Laws.CopyOwn
namespace Go.Proofs.Ytfebiemfmiahhaa
open Go.ChangeShapes Go.WideShapes Go.ChangeAt Go.RowKit Go.Maps
set_option linter.unusedVariables false
set_option linter.unusedSimpArgs false
set_option maxRecDepth 100000
set_option maxHeartbeats 8000000
/-- numbers in memory -/
def IsI (W : World) (a : Option Addr) (l : List Nat) : Prop := l = [] ∨ ∃ b off, a = some ⟨b, off, none⟩ ∧ b < W.heap.size ∧ ∀ (i x : Nat), l[i]? = some x → W.cell? ⟨b, off + i, none⟩ = some (.int .i64 (x : Nat))
theorem IsI.below {W W' : World} {a : Option Addr} {l : List Nat} (h : IsI W a l) (hb : Below W.heap.size W W') : IsI W' a l := by
  rcases h with h | ⟨b, off, e, hlt, hc⟩
  · exact .inl h
  · exact .inr ⟨b, off, e, Nat.lt_of_lt_of_le hlt hb.size, fun i x hx => (hb.cell (p := ⟨b, off + i, none⟩) hlt).trans (hc i x hx)⟩
theorem RowI.is {W : World} {g : Nat} {l : List Nat} (h : RowI W g l) : IsI W (some ⟨g, 0, none⟩) l :=
  .inr ⟨g, 0, rfl, blk_lt h, fun i x hx => by rw [cell_blk h, Nat.zero_add]; simp [hx]⟩
theorem ints_same (W : World) (a a' : Option Addr) (n c c' : Nat) (l : List Nat) (h : IsI W a l) (h' : IsI W a' l) (hn : n = l.length) (hn2 : n ≤ 1000000) :
    Calls Try.prog 15 #[.slice a n c, .slice a' n c'] W fun e w' => e = .returned (.bool true) ∧ Hid (Below W.heap.size W w') := by
  have HN := hide hn
  clear hn
  go_enter Try.func15, Try.ntmps15
  go_wp2_with fail
  go_loopw [5] (fun iv wr => ∃ i : Nat, iv = .int .i64 ((i : Nat) : Int) ∧ i ≤ n ∧ Hid (Below W.heap.size W wr)) (fun iv _ => n - (intOf iv).toNat)
  case atStart => exact ⟨0, rfl, Nat.zero_le _, hide (Below.refl _ _)⟩
  case round =>
    obtain ⟨i, rfl, hi, HB⟩ := hrel
    by_cases hin : i < n
    · have f1 : decide ((i : Int) < (n : Int)) = true := decide_eq_true (by omega)
      have g1 : (0 : Int) ≤ (i : Int) := by omega
      have g2 : (i : Int) < (n : Int) := by omega
      obtain ⟨x, hx⟩ : ∃ x, l[i]? = some x := ⟨_, List.getElem?_eq_getElem (by have := unhide HN; omega)⟩
      obtain ⟨b, off, rfl, hbl, hc⟩ : ∃ b off, a = some ⟨b, off, none⟩ ∧ b < W.heap.size ∧ ∀ (i x : Nat), l[i]? = some x → W.cell? ⟨b, off + i, none⟩ = some (.int .i64 (x : Nat)) := by
        rcases h with h | h
        · rw [h] at hx; simp at hx
        · exact h
      obtain ⟨b', off', rfl, hbl', hc'⟩ : ∃ b off, a' = some ⟨b, off, none⟩ ∧ b < W.heap.size ∧ ∀ (i x : Nat), l[i]? = some x → W.cell? ⟨b, off + i, none⟩ = some (.int .i64 (x : Nat)) := by
        rcases h' with h | h
        · rw [h] at hx; simp at hx
        · exact h
      have c0 : wr.cell? ⟨b, off + i, none⟩ = some (.int .i64 (x : Nat)) := ((unhide HB).cell (p := ⟨b, off + i, none⟩) hbl).trans (hc i x hx)
      have c1 : wr.cell? ⟨b', off' + i, none⟩ = some (.int .i64 (x : Nat)) := ((unhide HB).cell (p := ⟨b', off' + i, none⟩) hbl').trans (hc' i x hx)
      have f2 : ((x : Int) != (x : Int)) = false := by simp
      have HB2 := hide (unhide HB).drew
      clear hx h h' hc hc'
      go_wp2_with fail
      go_region
      all_goals (go_wp2_with fail)
      all_goals go_roundw
      case rel => exact ⟨i + 1, by go_num, by omega, HB2⟩
      case measure => simp [intOf]; omega
    · obtain rfl : i = n := by omega
      have f1 : decide ((i : Int) < (i : Int)) = false := decide_eq_false (by omega)
      clear h h'
      go_wp2_with fail
      go_ret
      exact ⟨rfl, HB⟩
theorem plC_one (l : List Pl) : ∀ v ∈ l.flatMap plC, v.oneCell' = true := by
  intro v hv
  obtain ⟨x, hx, hv⟩ := List.mem_flatMap.1 hv
  simp only [plC, List.mem_cons, List.not_mem_nil, or_false] at hv
  rcases hv with rfl | rfl <;> rfl
theorem PlsAt.cells {W : World} {b off : Nat} {l : List Pl} (hc : ∀ (i : Nat) (x : Pl), l[i]? = some x → W.cell? ⟨b, off + i * 2, none⟩ = some (.int .i64 x.1) ∧ W.cell? ⟨b, off + i * 2 + 1, none⟩ = some (.string (bs x.2))) (j : Nat) (v : Value) (hv : (l.flatMap plC)[j]? = some v) : W.cell? ((⟨b, off, none⟩ : Addr).add j) = some v := by
  have hadd : (⟨b, off, none⟩ : Addr).add j = ⟨b, off + j, none⟩ := by unfold Addr.add; split <;> simp_all
  rw [hadd]
  have hj : j < (l.flatMap plC).length := (List.getElem?_eq_some_iff.1 hv).1
  rw [flatP_len] at hj
  obtain ⟨x, hx⟩ : ∃ x, l[j / 2]? = some x := ⟨_, List.getElem?_eq_getElem (by omega)⟩
  obtain ⟨h0, h1⟩ := hc _ _ hx
  have e := flatP_get l (j / 2) x hx (j % 2) (by omega)
  rw [show j / 2 * 2 + j % 2 = j by omega, hv] at e
  rcases (show j % 2 = 0 ∨ j % 2 = 1 by omega) with q | q
  · rw [q] at e
    rw [show off + j = off + j / 2 * 2 by omega, h0, e]; rfl
  · rw [q] at e
    rw [show off + j = off + j / 2 * 2 + 1 by omega, h1, e]; rfl
theorem run_copy_places (w : World) (n c : Nat) (a : Option Addr) (cap : Nat) (l : List Pl) (hn : n = l.length) (h : PlsAt w a l) (cs : Array Value) (hcs : cs.size = n * 2) (ty : TypeId) :
    (Builtin.copy_ #[28, 28] ty #[.slice (some ⟨w.heap.size, 0, none⟩) n c, .slice a n cap]).run Try.prog (w.alloc (.cells cs 40)) = .ok (goInt n) (w.alloc (.cells (l.flatMap plC).toArray 40)) := by
  obtain ⟨i, hi, hzz⟩ := Option.map_eq_some_iff.1 info40
  simp only [Prod.mk.injEq] at hzz
  obtain ⟨hz, hs, hb⟩ := hzz
  have hlast : (w.alloc (.cells cs 40)).heap[w.heap.size]? = some (.cells cs 40 (0, 0)) := heap_alloc_new _ _
  have hst := run_storeCells_at Try.prog w.heap.size 0 40 (l.flatMap plC) 0 cs (w.alloc (.cells cs 40)) hlast (by rw [flatP_len]; omega) (plC_one l)
  have hrow : (cs.toList.take (0 + 0) ++ l.flatMap plC ++ cs.toList.drop (0 + 0 + (l.flatMap plC).length)).toArray = (l.flatMap plC).toArray := by
    rw [flatP_len, List.drop_of_length_le (by simp; omega)]; simp
  rw [hrow] at hst
  have hal : (w.alloc (.cells cs 40)).setRow w.heap.size (l.flatMap plC).toArray = w.alloc (.cells (l.flatMap plC).toArray 40) := by
    show ({ w with heap := (w.heap.push (.cells cs 40)).modify w.heap.size _ } : World) = { w with heap := w.heap.push _ }
    congr 1
    refine Array.ext (by simp) fun k h1 h2 => ?_
    simp only [Array.getElem_modify, Array.getElem_push]
    simp only [Array.size_push] at h2
    by_cases e : w.heap.size = k
    · subst e; simp
    · have : k < w.heap.size := by omega
      simp [e, this]
  rw [hal] at hst
  have hld : (Builtin.firstCells 2 n (.slice a n cap)).run Try.prog (w.alloc (.cells cs 40)) = .ok (l.flatMap plC).toArray (w.alloc (.cells cs 40)) := by
    rcases h with rfl | ⟨b, off, rfl, hbl, hc⟩
    · cases a with
      | none => simp [Builtin.firstCells]
      | some ad =>
        have := run_firstCells_some (P := Try.prog) (w.alloc (.cells cs 40)) 2 n ad n cap [] (by simp [hn]) (by simp)
        simpa using this
    · refine run_firstCells_some (P := Try.prog) (w.alloc (.cells cs 40)) 2 n ⟨b, off, none⟩ n cap _ (by rw [flatP_len, hn]) (PlsAt.cells fun i x hx => ?_)
      obtain ⟨h0, h1⟩ := hc i x hx
      have bl := (Below.refl w.heap.size w).alloc (Nat.le_refl _) (.cells cs 40)
      exact ⟨(bl.cell (p := ⟨b, off + i * 2, none⟩) hbl).trans h0, (bl.cell (p := ⟨b, off + i * 2 + 1, none⟩) hbl).trans h1⟩
  simp [Builtin.copy_, run_underlying Try.underlying28, Builtin.lenOf, sizeOf, typeInfo, hi, hs, hld, hst]
theorem eql_nil_some (ad : Addr) (n cap : Nat) (W : World) : (binOp .eql 28 (.slice (some ad) n cap) (.slice none 0 0)).run Try.prog W = .ok (.bool false) W := by kernel_rfl
theorem eql_nil_none (W : World) : (binOp .eql 28 (.slice none 0 0) (.slice none 0 0)).run Try.prog W = .ok (.bool true) W := by kernel_rfl
theorem twin_any (W : World) (a : Option Addr) (cap : Nat) (l : List Pl) (h : PlsAt W a l) (hnil : a = none → cap = 0 ∧ l = []) (hn : l.length ≤ 5864062014805) :
    Calls Try.prog 17 #[.slice a l.length cap] W fun e w' => ∃ a' cap', e = .returned (.slice a' l.length cap') ∧ (a' = none → cap' = 0 ∧ l = []) ∧ Hid (PlsAt w' a' l ∧ Below W.heap.size W w') := by
  cases a with
  | none =>
    obtain ⟨rfl, rfl⟩ := hnil rfl
    clear h hnil
    have e1 := eql_nil_none
    go_enter Try.func17, Try.ntmps17
    go_wp2
    go_ret
    exact ⟨none, 0, rfl, by simp, hide ⟨.inl rfl, Below.refl _ _⟩⟩
  | some ad =>
    have m1 := makeP l.length hn
    have e1 := eql_nil_some ad l.length cap
    obtain ⟨n, hnl⟩ : ∃ n, n = l.length := ⟨_, rfl⟩
    have k1 := fun ty => run_copy_places W n n (some ad) cap l hnl h (madeCells #[.int .i64 0, .string (bs [])] (n * 2)) (by simp [madeCells]) ty
    rw [← hnl] at m1 e1 ⊢
    have HN := hide hnl
    have HP := hide h
    clear h hnil hnl hn
    go_enter Try.func17, Try.ntmps17
    go_wp2_with fail
    go_ret
    refine ⟨_, n, rfl, by simp, hide ⟨RowP.at (heap_alloc_new _ _), (Below.refl _ _).alloc (Nat.le_refl _) _⟩⟩
end Go.Proofs.Ytfebiemfmiahhaa
