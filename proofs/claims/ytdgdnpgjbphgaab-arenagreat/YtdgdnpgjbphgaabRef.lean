/- The document's block. -/
import Derived.Test.YtdgdnpgjbphgaabRows6
import Derived.Test.YtdgdnpgjbphgaabBookHold
namespace Go.Proofs.Ytdgdnpgjbphgaab
open Go.ChangeShapes Go.WideShapes Go.ChangeAt Go.RowKit
set_option linter.unusedVariables false
set_option maxRecDepth 100000
set_option maxHeartbeats 4000000

/-- objects: their shapes, what their fields hold, where they went; the memory of their fields; the row -/
structure RefSt where
  L : List (Nat × Nat × Nat)
  X : List (List Nat)
  Gn : List (Option Nat)
  F : List Value
  v : Value
  size : Nat
def RefSt.used (R : RefSt) : Nat := place R.L R.L.length
def objField (R : RefSt) (j c : Nat) : Value :=
  if c = 0 then .int .i64 (place R.L j : Nat)
  else if c = 1 then .int .i64 ((R.L.getD j (0, 0, 0)).1 : Nat)
  else if c = 2 then .int .i64 ((R.L.getD j (0, 0, 0)).2.1 : Nat)
  else if c = 3 then R.F.getD j undef
  else if c = 4 then .bool (R.Gn.getD j none).isSome
  else .int .i64 ((R.Gn.getD j none).getD 0 : Nat)
def objCell (R : RefSt) (i : Nat) : Value := objField R (i / 6) (i % 6)
theorem objCell_at (R : RefSt) (j c : Nat) (hc : c < 6) : objCell R (j * 6 + c) = objField R j c := by
  unfold objCell
  rw [show (j * 6 + c) / 6 = j by omega, show (j * 6 + c) % 6 = c by omega]
def w64 (x : Nat) : Value := .int .u64 (x : Nat)
structure RefAt (w : World) (pr r : Nat) (rt : Nat → Nat) (R : RefSt) : Prop where
  c0 : w.cell? ⟨pr, 0, none⟩ = some (.int .i64 R.size)
  c1 : w.cell? ⟨pr, 1, none⟩ = some (.int .i64 R.used)
  c2 : w.cell? ⟨pr, 2, none⟩ = some R.v
  f1 : w.frozen? ⟨pr, 1, none⟩ = false
  f2 : w.frozen? ⟨pr, 2, none⟩ = false
  lp : pr < w.heap.size
  tp : rt pr = 10 + r
  row : Wide w 112 6 R.v R.L.length (objCell R)
  tr : ∀ g, R.v.ownBlock = some g → rt g = 22 + r
  fld : ∀ j, j < R.L.length → Line w 24 (R.F.getD j undef) (fldsOf R.L j) (fun k => w64 ((R.X.getD j []).getD k 0)) ∧ ∀ g, (R.F.getD j undef).ownBlock = some g → rt g = 40 + 3 * j + r
  xl : R.X.length = R.L.length
  gl : R.Gn.length = R.L.length
  fl : R.F.length = R.L.length
  xs : ∀ j, j < R.L.length → (R.X.getD j []).length = fldsOf R.L j
  u2 : R.used ≤ R.size
  sz : R.size ≤ 1048576
  sm : ∀ j k, (R.X.getD j []).getD k 0 < 18446744073709551616
  go : ∀ j t, R.Gn.getD j none = some t → t ≤ 1048576
  sh : ∀ j, j < R.L.length → 1 ≤ (R.L.getD j (0, 0, 0)).1 ∧ (R.L.getD j (0, 0, 0)).1 ≤ 255
/-- the tags of block r -/
def Mine (r k : Nat) : Prop := k ≠ 0 ∧ k % 3 = (1 + r) % 3
theorem RefAt.conf {w w' : World} {pr r : Nat} {rt rt' : Nat → Nat} {R : RefSt} (h : RefAt w pr r rt R) (hs : w.heap.size ≤ w'.heap.size) (hb : ∀ g, g < w.heap.size → Mine r (rt g) → w'.heap[g]? = w.heap[g]?) (ht : ∀ g, g < w.heap.size → Mine r (rt g) → rt' g = rt g) : RefAt w' pr r rt' R := by
  have mp : Mine r (rt pr) := by rw [h.tp]; exact ⟨by omega, by omega⟩
  have mr : ∀ g, R.v.ownBlock = some g → Mine r (rt g) := fun g hg => by rw [h.tr g hg]; exact ⟨by omega, by omega⟩
  have hp := hb pr h.lp mp
  refine ⟨(World.cell?_of_block (a := ⟨pr, 0, none⟩) hp).trans h.c0, (World.cell?_of_block (a := ⟨pr, 1, none⟩) hp).trans h.c1, (World.cell?_of_block (a := ⟨pr, 2, none⟩) hp).trans h.c2, (World.frozen?_of_block (a := ⟨pr, 1, none⟩) hp).trans h.f1, (World.frozen?_of_block (a := ⟨pr, 2, none⟩) hp).trans h.f2, Nat.lt_of_lt_of_le h.lp hs, (ht pr h.lp mp).trans h.tp, h.row.same (fun g hg => hb g (h.row.lt g hg) (mr g hg)), fun g hg => (ht g (h.row.lt g hg) (mr g hg)).trans (h.tr g hg), fun j hj => ?_, h.xl, h.gl, h.fl, h.xs, h.u2, h.sz, h.sm, h.go, h.sh⟩
  obtain ⟨h1, h2⟩ := h.fld j hj
  have mf : ∀ g, (R.F.getD j undef).ownBlock = some g → Mine r (rt g) := fun g hg => by rw [h2 g hg]; exact ⟨by omega, by omega⟩
  exact ⟨h1.same (fun g hg => hb g (h1.lt g hg) (mf g hg)), fun g hg => (ht g (h1.lt g hg) (mf g hg)).trans (h2 g hg)⟩
theorem RefAt.still {w w' : World} {pr r : Nat} {rt : Nat → Nat} {R : RefSt} (h : RefAt w pr r rt R) (k : Still w w') : RefAt w' pr r rt R := h.conf (by rw [k.heap]; exact Nat.le_refl _) (fun g _ _ => by rw [k.heap]) (fun _ _ _ => rfl)
/-- a cell of an object -/
theorem RefAt.obj {w : World} {pr r : Nat} {rt : Nat → Nat} {R : RefSt} (h : RefAt w pr r rt R) (j : Nat) (hj : j < R.L.length) : ∃ g cap, R.v = .slice (some ⟨g, 0, none⟩) R.L.length cap ∧ w.cell? ⟨pr, 2, none⟩ = some (.slice (some ⟨g, 0, none⟩) R.L.length cap) ∧ ∀ c, c < 6 → w.cell? ⟨g, j * 6 + c, none⟩ = some (objField R j c) ∧ w.frozen? ⟨g, j * 6 + c, none⟩ = false := by
  obtain ⟨g, cap, hv, _, hc⟩ := h.row.at (by omega)
  refine ⟨g, cap, hv, by rw [← hv]; exact h.c2, fun c hcc => ?_⟩
  have := hc (j * 6 + c) (by omega)
  rw [objCell_at R j c hcc] at this
  exact this
theorem place_inj (L : List (Nat × Nat × Nat)) {i j : Nat} (h : place L i = place L j) : i = j := by
  rcases Nat.lt_trichotomy i j with h1 | h1 | h1
  · have := place_lt L h1; unfold wd at this; omega
  · exact h1
  · have := place_lt L h1; unfold wd at this; omega
theorem find_any {w : World} {pr r : Nat} {rt : Nat → Nat} {R : RefSt} (h : RefAt w pr r rt R) (at' : Int) :
    Calls Try.prog 67 #[.pointer (some ⟨pr, 0, none⟩), .int .i64 at'] w fun e w' => (∃ k : Int, e = .returned (.int .i64 k) ∧ ((∃ j : Nat, j < R.L.length ∧ at' = (place R.L j : Nat) ∧ k = j) ∨ (k = -1 ∧ ∀ j, j < R.L.length → at' ≠ (place R.L j : Nat)))) ∧ Still w w' := by
  obtain ⟨a0, cp0, hv0⟩ := h.row.shape
  have hn : R.L.length ≤ 1048576 := by
    have h1 := h.u2
    have h2 := h.sz
    unfold RefSt.used at h1
    have h3 : ∀ m, m + 1 ≤ place R.L m := fun m => by
      induction m with
      | zero => exact Nat.le_refl _
      | succ m ih => have := place_lt R.L (show m < m + 1 by omega); unfold wd at this; omega
    have := h3 R.L.length
    omega
  have HC : Hid (∀ wq, Still w wq → wq.cell? ⟨pr, 2, none⟩ = some (.slice a0 R.L.length cp0)) := hide (fun wq k => by rw [k.cell, ← hv0]; exact h.c2)
  have HO : Hid (∀ wq, Still w wq → ∀ j, j < R.L.length → ∃ g, a0 = some ⟨g, 0, none⟩ ∧ wq.cell? ⟨g, j * 6, none⟩ = some (.int .i64 (place R.L j : Nat))) := hide (fun wq k j hj => by
    obtain ⟨g, cap, hv, _, hc⟩ := (h.still k).obj j hj
    rw [hv0] at hv
    simp only [Value.slice.injEq] at hv
    exact ⟨g, hv.1, (hc 0 (by decide)).1⟩)
  have hc2 := unhide HC w (Still.refl _)
  clear h hv0
  go_enter Try.func67, Try.ntmps67
  go_wp2_with fail
  go_quiet (fail)
  have HS0 := hide ((Still.refl w).drew nq)
  clear hc2
  generalize w.drewN nq = w8 at *
  go_wp2_with fail
  go_loopw [5, 6] (fun l u wq => ∃ lo hi : Nat, lo ≤ hi ∧ hi ≤ R.L.length ∧ l = .int .i64 lo ∧ u = .int .i64 hi ∧ (∀ j, j < lo → ((place R.L j : Nat) : Int) < at') ∧ (∀ j, hi ≤ j → j < R.L.length → at' ≤ ((place R.L j : Nat) : Int)) ∧ Still w wq) (fun l u _ => (intOf u).toNat - (intOf l).toNat)
  case atStart => exact ⟨0, R.L.length, by omega, by omega, rfl, rfl, (fun j hj => by omega), (fun j h1 h2 => by omega), unhide HS0⟩
  case round =>
    obtain ⟨lo, hi, hlh, hhn, rfl, rfl, hlo, hhi, hst⟩ := hrel
    rename World => wq
    have c2 := unhide HC wq hst
    by_cases hlt : lo < hi
    · have d1 : decide ((lo : Int) < (hi : Int)) = true := decide_eq_true (by omega)
      have d1' : decide (lo < hi) = true := decide_eq_true hlt
      obtain ⟨m, hm⟩ : ∃ m, m = (lo + hi) / 2 := ⟨_, rfl⟩
      have em : ((lo : Int) + (hi : Int)).tdiv 2 = (m : Int) := by rw [hm]; rfl
      have hm1 : lo ≤ m := by omega
      have hm2 : m < hi := by omega
      obtain ⟨g, rfl, hcm⟩ := unhide HO wq hst m (by omega)
      have y0 : (0 : Int) ≤ (m : Int) := by omega
      have y1 : (m : Int) < (R.L.length : Int) := by omega
      have HLO := hide hlo
      have HHI := hide hhi
      have HST := hide hst
      have HMONO : Hid (∀ i j, i ≤ j → place R.L i ≤ place R.L j) := hide (fun i j hij => place_le R.L hij)
      clear hlo hhi hst hm
      by_cases hcmp : ((place R.L m : Nat) : Int) < at'
      · have d2 : decide (((place R.L m : Nat) : Int) < at') = true := decide_eq_true hcmp
        go_wp2_with fail
        refine ⟨⟨m + 1, hi, by omega, hhn, by go_num, rfl, fun j hj => ?_, unhide HHI, unhide HST⟩, by simp [intOf]; omega⟩
        have := unhide HMONO j m (by omega)
        omega
      · have d2 : decide (((place R.L m : Nat) : Int) < at') = false := decide_eq_false hcmp
        go_wp2_with fail
        refine ⟨⟨lo, m, by omega, by omega, rfl, rfl, unhide HLO, fun j h1 h2 => ?_, unhide HST⟩, by simp [intOf]; omega⟩
        have := unhide HMONO m j h1
        omega
    · have d1 : decide ((lo : Int) < (hi : Int)) = false := decide_eq_false (by omega)
      have d1' : decide (lo < hi) = false := decide_eq_false hlt
      have hle : lo = hi := by omega
      subst hle
      have HST := hide hst
      by_cases hin : lo < R.L.length
      · have d2 : decide ((lo : Int) < (R.L.length : Int)) = true := decide_eq_true (by omega)
        have d2' : decide (lo < R.L.length) = true := decide_eq_true hin
        obtain ⟨g, rfl, hcm⟩ := unhide HO wq hst lo hin
        have y0 : (0 : Int) ≤ (lo : Int) := by omega
        have y1 : (lo : Int) < (R.L.length : Int) := by omega
        by_cases heq : ((place R.L lo : Nat) : Int) = at'
        · have HEN : Hid ((∃ j : Nat, j < R.L.length ∧ at' = (place R.L j : Nat) ∧ (lo : Int) = j) ∨ ((lo : Int) = -1 ∧ ∀ j, j < R.L.length → at' ≠ (place R.L j : Nat))) := hide (.inl ⟨lo, hin, heq.symm, rfl⟩)
          have d3 : (((place R.L lo : Nat) : Int) == at') = true := by rw [heq]; simp
          clear hst hlo hhi heq hlt hlh
          go_wp2
          go_ret
          exact ⟨⟨_, rfl, unhide HEN⟩, unhide HST⟩
        · have HNO : Hid (∀ j, j < R.L.length → at' ≠ (place R.L j : Nat)) := hide (fun j hj e => by
            by_cases h1 : j < lo
            · have := hlo j h1; omega
            · have h2 := hhi j (by omega) hj
              have h3 := hhi lo (Nat.le_refl _) hin
              have h4 : place R.L lo ≤ place R.L j := place_le R.L (by omega)
              omega)
          have d3 : (((place R.L lo : Nat) : Int) == at') = false := by rw [beq_eq_false_iff_ne]; exact heq
          clear hst hlo hhi heq hlt hlh
          go_wp2
          go_ret
          exact ⟨⟨_, rfl, .inr ⟨rfl, unhide HNO⟩⟩, unhide HST⟩
      · have d2 : decide ((lo : Int) < (R.L.length : Int)) = false := decide_eq_false (by omega)
        have d2' : decide (lo < R.L.length) = false := decide_eq_false hin
        have HNO : Hid (∀ j, j < R.L.length → at' ≠ (place R.L j : Nat)) := hide (fun j hj e => by
          have := hlo j (by omega)
          omega)
        clear hst hlo hhi hlt hlh
        go_wp2
        go_ret
        exact ⟨⟨_, rfl, .inr ⟨rfl, unhide HNO⟩⟩, unhide HST⟩
/-- whole: the object, or why not -/
theorem whole_any {w : World} {pr r : Nat} {rt : Nat → Nat} {R : RefSt} (h : RefAt w pr r rt R) (at' : Int) :
    Calls Try.prog 65 #[.pointer (some ⟨pr, 0, none⟩), .int .i64 at'] w fun e w' => ((∃ j : Nat, j < R.L.length ∧ at' = (place R.L j : Nat) ∧ R.Gn.getD j none = none ∧ e = .returned (.tuple #[.int .i64 j, .int .i64 0])) ∨ (∃ j : Nat, j < R.L.length ∧ at' = (place R.L j : Nat) ∧ (R.Gn.getD j none).isSome = true ∧ e = .returned (.tuple #[.int .i64 0, .int .i64 26])) ∨ ((∀ j, j < R.L.length → at' ≠ (place R.L j : Nat)) ∧ e = .returned (.tuple #[.int .i64 0, .int .i64 23]))) ∧ Still w w' := by
  have HF := hide (find_any h at')
  have HO : Hid (∀ wq, Still w wq → ∀ j, j < R.L.length → ∃ g cap, wq.cell? ⟨pr, 2, none⟩ = some (.slice (some ⟨g, 0, none⟩) R.L.length cap) ∧ wq.cell? ⟨g, j * 6 + 4, none⟩ = some (.bool (R.Gn.getD j none).isSome)) := hide (fun wq k j hj => by
    obtain ⟨g, cap, _, hc2, hc⟩ := (h.still k).obj j hj
    exact ⟨g, cap, hc2, (hc 4 (by decide)).1⟩)
  clear h
  go_enter Try.func65, Try.ntmps65
  go_wp2_with fail
  refine (unhide HF).mono ?_
  rintro e w1 ⟨⟨k, rfl, (⟨j, hj, hat, rfl⟩ | ⟨rfl, hno⟩)⟩, hst⟩
  · obtain ⟨g, cap, c2, c4⟩ := unhide HO w1 hst j hj
    have d1 : decide ((j : Int) < 0) = false := decide_eq_false (by omega)
    have y0 : (0 : Int) ≤ (j : Int) := by omega
    have y1 : (j : Int) < (R.L.length : Int) := by omega
    have HST := hide hst
    have HAT := hide hat
    clear hst hat
    cases hg : R.Gn.getD j none with
    | none =>
      rw [hg] at c4
      have c4' : w1.cell? ⟨g, j * 6 + 4, none⟩ = some (.bool false) := c4
      clear c4
      go_wp2
      go_ret2
      exact ⟨.inl ⟨j, hj, unhide HAT, hg, rfl⟩, unhide HST⟩
    | some t =>
      rw [hg] at c4
      have c4' : w1.cell? ⟨g, j * 6 + 4, none⟩ = some (.bool true) := c4
      clear c4
      go_wp2
      go_ret2
      exact ⟨.inr (.inl ⟨j, hj, unhide HAT, by rw [hg]; rfl, rfl⟩), unhide HST⟩
  · have HST := hide hst
    have HNO := hide hno
    clear hst hno
    go_wp2
    go_ret2
    exact ⟨.inr (.inr ⟨unhide HNO, rfl⟩), unhide HST⟩
end Go.Proofs.Ytdgdnpgjbphgaab
