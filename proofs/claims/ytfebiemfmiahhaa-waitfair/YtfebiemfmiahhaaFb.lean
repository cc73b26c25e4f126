/- WaitFair: the statement's own book: gone. -/
import Derived.Test.YtfebiemfmiahhaaFa
import Derived.Test.YtfebiemfmiahhaaMi
namespace Go.Proofs.Ytfebiemfmiahhaa
open Go.ChangeShapes Go.WideShapes Go.ChangeAt Go.RowKit Go.Maps
set_option linter.unusedVariables false
set_option linter.unusedSimpArgs false
set_option maxRecDepth 100000
set_option maxHeartbeats 8000000
/-- one of the book, and where its places lie -/
structure Ax where
  x : Wt
  a : Option Addr
  cap : Nat
def axC (d : Ax) : List Value := [.int .i64 (d.x.conn : Nat), .int .i64 d.x.kind, .slice d.a d.x.places.length d.cap, .int .u64 (d.x.till : Nat)]
theorem info56 : (Try.prog.info? 56).map (fun i => (i.zero, i.size, i.bytes)) = some (some (.agg #[.int .i64 0, .int .i64 0, .slice none 0 0, .int .u64 0]), 4, 48) := by kernel_rfl
theorem axC_one : ∀ (A : List Ax), ∀ u ∈ A.flatMap axC, u.oneCell' = true := by
  intro A u hu
  obtain ⟨d, -, hd⟩ := List.mem_flatMap.1 hu
  simp only [axC, List.mem_cons, List.not_mem_nil, or_false] at hd
  rcases hd with rfl | rfl | rfl | rfl <;> rfl
theorem axC_len (A : List Ax) : (A.flatMap axC).length = A.length * 4 := by
  induction A with
  | nil => rfl
  | cons d A ih => rw [List.flatMap_cons, List.length_append, ih, List.length_cons]; simp [axC]; omega
theorem flat_drop (A : List Ax) (i : Nat) : (A.drop i).flatMap axC = (A.flatMap axC).drop (i * 4) := by
  induction A generalizing i with
  | nil => simp
  | cons d A ih =>
    cases i with
    | zero => simp
    | succ i =>
      rw [List.drop_succ_cons, ih, List.flatMap_cons, show (i + 1) * 4 = (axC d).length + i * 4 by simp [axC]; omega, List.drop_append]
      simp [axC]
theorem flat_take (A : List Ax) (i : Nat) : (A.take i).flatMap axC = (A.flatMap axC).take (i * 4) := by
  induction A generalizing i with
  | nil => simp
  | cons d A ih =>
    cases i with
    | zero => simp
    | succ i =>
      rw [List.take_succ_cons, List.flatMap_cons, ih, List.flatMap_cons, show (i + 1) * 4 = (axC d).length + i * 4 by simp [axC]; omega, List.take_append, Nat.add_sub_cancel_left, List.take_of_length_le (Nat.le_add_right _ _)]
theorem gone_any (w : World) (base : Nat) (v : Value) (A : List Ax) (i : Nat) (h : w.ownsRow base 56 4 v A.length (A.flatMap axC)) (hi : i < A.length) (hn : A.length ≤ 1000) :
    Calls Try.prog 36 #[v, .int .i64 (i : Nat)] w fun e w' => ∃ v', e = .returned v' ∧ Hid (w'.ownsRow w.heap.size 56 4 v' (A.eraseIdx i).length ((A.eraseIdx i).flatMap axC) ∧ Below w.heap.size w w') := by
  have hlen := axC_len A
  obtain ⟨g, cap, e, -, hg⟩ := own_cell h (j := 0) (u := (A.flatMap axC)[0]'(by omega)) (List.getElem?_eq_getElem (by omega))
  have hcell : ∀ j u, (A.flatMap axC)[j]? = some u → w.cell? ⟨g, j, none⟩ = some u := fun j u hu => by
    obtain ⟨g', cap', e', c, -⟩ := own_cell h hu
    rw [e] at e'
    cases e'
    exact c
  have hcap : A.length ≤ cap := by
    rcases h.2 with ⟨h1, h2⟩ | ⟨g', cap', cur, h1, -, -, hle, -⟩
    · rw [e] at h1; cases h1
    · rw [e] at h1; cases h1; exact hle
  subst e
  obtain ⟨n, hnn⟩ : ∃ n, n = A.length := ⟨_, rfl⟩
  have H1 : Hid (∀ j u, ((A.take i).flatMap axC)[j]? = some u → w.cell? ((⟨g, 0, none⟩ : Addr).add j) = some u) := hide fun j u hu => by
    rw [flat_take, List.getElem?_take] at hu
    split at hu
    · have e2 : ((⟨g, 0, none⟩ : Addr).add j) = ⟨g, j, none⟩ := by
        by_cases hj : j = 0
        · simp [Addr.add, hj]
        · simp [Addr.add, hj]
      rw [e2]
      exact hcell j u hu
    · cases hu
  have H2 : Hid (∀ w', Below w.heap.size w w' → ∀ j u, ((A.drop (i + 1)).flatMap axC)[j]? = some u → w'.cell? ((⟨g, (i + 1) * 4, none⟩ : Addr).add j) = some u) := hide fun w' hb j u hu => by
    rw [flat_drop, List.getElem?_drop] at hu
    have := hcell _ u hu
    have e2 : ((⟨g, (i + 1) * 4, none⟩ : Addr).add j) = ⟨g, (i + 1) * 4 + j, none⟩ := by simp [Addr.add]
    rw [e2]
    exact (hb.cell (p := ⟨g, (i + 1) * 4 + j, none⟩) hg).trans this
  rw [← hnn] at hi hn hcap ⊢
  have L1 : Hid (((A.take i).flatMap axC).length = i * 4) := hide (by rw [axC_len, List.length_take]; omega)
  have L2 : Hid (((A.drop (i + 1)).flatMap axC).length = (n - (i + 1)) * 4) := hide (by rw [axC_len, List.length_drop]; omega)
  have HN := hide hnn
  clear hnn h hlen hcell
  obtain ⟨i0, hi0, hzz⟩ := Option.map_eq_some_iff.1 info56
  simp only [Prod.mk.injEq] at hzz
  obtain ⟨hz0, hz1, hz2⟩ := hzz
  have g1 : (0 : Int) ≤ (i : Int) := by omega
  have g2 : (i : Int) ≤ (n : Int) := by omega
  have g3 : (i : Int) + 1 ≤ (n : Int) := by omega
  have g4 : (i : Int) ≤ (cap : Int) := by omega
  have g5 : (n : Int) ≤ (cap : Int) := by omega
  go_enter Try.func36, Try.ntmps36
  by_cases hbr : i + 1 = cap
  · have hn1 : n = i + 1 := by omega
    subst hn1
    subst hbr
    go_wp2_with (first
      | (at_builtin; refine wpList_append_own _ rfl _ _ 48 rfl w.heap.size 56 i0 _ 4 48 Try.underlying48 hi0 hz0 hz1 hz2 rfl (by decide) (.slice none 0 0) 0 [] rfl ⟨by simp, .inl ⟨rfl, rfl⟩⟩ ⟨g, 0, none⟩ i (i + 1) ((A.take i).flatMap axC) rfl (unhide L1) (unhide H1) (axC_one _) (by unfold maxLen; omega) (by omega) (Nat.le_refl _) ?_; intro v7 w7 hown7 hg7 hnil7; have H7 : Hid (w7.ownsRow w.heap.size 56 4 v7 i ((A.take i).flatMap axC) ∧ Below w.heap.size w w7) := hide ⟨by simpa using hown7, below_grown (Below.refl _ _) (Nat.le_refl _) hg7 (fun k e => by cases e)⟩; clear hown7 hg7 hnil7 H1; go_frame)
      | (at_builtin; refine wpList_append_own _ rfl _ _ 48 rfl w.heap.size 56 i0 _ 4 48 Try.underlying48 hi0 hz0 hz1 hz2 rfl (by decide) v7 i _ rfl (unhide H7).1 _ 0 _ [] rfl rfl (fun j u hu => by simp at hu) (fun u hu => by simp at hu) (by unfold maxLen; omega) (by omega) (unhide H7).2.size ?_; intro v8 w8 hown8 hg8 hnil8; have H8 := hide (And.intro hown8 hg8); clear hown8 hg8 hnil8; go_frame))
    go_ret
    refine ⟨_, rfl, hide ?_⟩
    obtain ⟨k1, k2⟩ := unhide H7
    obtain ⟨k3, k4⟩ := unhide H8
    refine ⟨?_, below_grown k2 (Nat.le_refl _) k4 (own_ge k1)⟩
    rw [List.length_eraseIdx_of_lt (by rw [← unhide HN]; exact hi), ← unhide HN]
    rw [List.eraseIdx_eq_take_drop_succ, List.drop_of_length_le (by rw [← unhide HN]; omega), List.append_nil]
    simpa using k3
  · have g6 : (i : Int) + 1 < (cap : Int) := by omega
    go_wp2_with (first
      | (at_builtin; refine wpList_append_own _ rfl _ _ 48 rfl w.heap.size 56 i0 _ 4 48 Try.underlying48 hi0 hz0 hz1 hz2 rfl (by decide) (.slice none 0 0) 0 [] rfl ⟨by simp, .inl ⟨rfl, rfl⟩⟩ ⟨g, 0, none⟩ i cap ((A.take i).flatMap axC) rfl (unhide L1) (unhide H1) (axC_one _) (by unfold maxLen; omega) (by omega) (Nat.le_refl _) ?_; intro v7 w7 hown7 hg7 hnil7; have H7 : Hid (w7.ownsRow w.heap.size 56 4 v7 i ((A.take i).flatMap axC) ∧ Below w.heap.size w w7) := hide ⟨by simpa using hown7, below_grown (Below.refl _ _) (Nat.le_refl _) hg7 (fun k e => by cases e)⟩; clear hown7 hg7 hnil7 H1; go_frame)
      | (at_builtin; refine wpList_append_own _ rfl _ _ 48 rfl w.heap.size 56 i0 _ 4 48 Try.underlying48 hi0 hz0 hz1 hz2 rfl (by decide) v7 i _ rfl (unhide H7).1 ⟨g, (i + 1) * 4, none⟩ (n - (i + 1)) (cap - (i + 1)) ((A.drop (i + 1)).flatMap axC) rfl (unhide L2) (unhide H2 _ (unhide H7).2) (axC_one _) (by unfold maxLen; omega) (by omega) (unhide H7).2.size ?_; intro v8 w8 hown8 hg8 hnil8; have H8 := hide (And.intro hown8 hg8); clear hown8 hg8 hnil8; go_frame))
    go_ret
    refine ⟨_, rfl, hide ?_⟩
    obtain ⟨k1, k2⟩ := unhide H7
    obtain ⟨k3, k4⟩ := unhide H8
    refine ⟨?_, below_grown k2 (Nat.le_refl _) k4 (own_ge k1)⟩
    rw [List.length_eraseIdx_of_lt (by rw [← unhide HN]; exact hi), ← unhide HN]
    rw [List.eraseIdx_eq_take_drop_succ, List.flatMap_append]
    have e9 : i + (n - (i + 1)) = n - 1 := by omega
    rw [e9] at k3
    exact k3
end Go.Proofs.Ytfebiemfmiahhaa
