/- The document's Glob. -/
import Derived.Test.YtjmnddcombepaaaRpe
import Derived.Deep.RegionHeld3
import Derived.Deep.OwnRows
namespace Larder
/-- the first i pieces fit the first j bytes -/
theorem glob_table (L : List (Option (Nat → Bool))) (t : List Nat) : ∃ F : Nat → Nat → Bool, (∀ i j, F i j = true ↔ Meets (L.take i) (t.take j)) ∧ F 0 0 = true ∧ (∀ j, 0 < j → j ≤ t.length → F 0 j = false) ∧
    (∀ i j, L[i]? = some none → j ≤ t.length → F (i + 1) j = (F i j || (decide (0 < j) && F (i + 1) (j - 1)))) ∧
    (∀ i f j, L[i]? = some (some f) → j ≤ t.length → F (i + 1) j = (decide (0 < j) && F i (j - 1) && f (t.getD (j - 1) 0))) ∧ (F L.length t.length = true ↔ Meets L t) := by
  classical
  obtain ⟨F, hF⟩ : ∃ F : Nat → Nat → Bool, ∀ i j, F i j = true ↔ Meets (L.take i) (t.take j) := ⟨fun i j => decide (Meets (L.take i) (t.take j)), fun i j => decide_eq_true_iff⟩
  have tk : ∀ i x, L[i]? = some x → L.take (i + 1) = L.take i ++ [x] := fun i x h => by
    have hi := (List.getElem?_eq_some_iff.1 h).1
    rw [List.take_succ_eq_append_getElem hi, (List.getElem?_eq_some_iff.1 h).2]
  have be : ∀ a b : Bool, (a = true ↔ b = true) → a = b := fun a b h => by cases a <;> cases b <;> simp_all
  refine ⟨F, hF, ?_, fun j hj hjt => ?_, fun i j h hj => ?_, fun i f j h hj => ?_, ?_⟩
  · exact (hF 0 0).2 rfl
  · cases e : F 0 j with
    | false => rfl
    | true =>
      have := (hF 0 j).1 e
      have h0 : t.take j = [] := this
      have : (t.take j).length = j := by rw [List.length_take]; omega
      rw [h0] at this
      simp at this
      omega
  · refine be _ _ ?_
    rw [hF, tk i _ h, meets_star_end _ _ _ hj, Bool.or_eq_true, Bool.and_eq_true, decide_eq_true_iff, hF, hF, tk i _ h]
  · refine be _ _ ?_
    rw [hF, tk i _ h, meets_one_end _ _ _ _ hj, Bool.and_eq_true, Bool.and_eq_true, decide_eq_true_iff, hF, and_assoc]
  · rw [hF, List.take_length, List.take_length]
end Larder
namespace Go.Proofs.Ytjmnddcombepaaa
open Go.ChangeShapes Go.WideShapes Go.ChangeAt Go.RowKit
set_option linter.unusedVariables false
set_option maxRecDepth 20000
set_option maxHeartbeats 2000000

/-- a row of N bools -/
def Br (W : World) (g N : Nat) (f : Nat → Bool) : Prop := ∃ cur, W.heap[g]? = some (.cells cur 4 (0, 0)) ∧ cur.size = N ∧ ∀ j, j < N → cur[j]? = some (.bool (f j))
theorem Br.at {W : World} {g N : Nat} {f : Nat → Bool} (h : Br W g N f) (j : Nat) (hj : j < N) : W.cell? ⟨g, j, none⟩ = some (.bool (f j)) ∧ W.frozen? ⟨g, j, none⟩ = false := by
  obtain ⟨cur, h1, h2, h3⟩ := h
  exact ⟨by rw [cell_of_row _ _ _ _ _ _ h1]; exact h3 j hj, by simp only [World.frozen?, h1]; simp⟩
theorem Br.lt {W : World} {g N : Nat} {f : Nat → Bool} (h : Br W g N f) : g < W.heap.size := by
  obtain ⟨cur, h1, _⟩ := h
  exact (Array.getElem?_eq_some_iff.1 h1).1
theorem Br.set {W : World} {g N : Nat} {f : Nat → Bool} (h : Br W g N f) (k : Nat) (hk : k < N) (v : Bool) : Br (W.setCell ⟨g, k, none⟩ (.bool v)) g N (fun j => if j = k then v else f j) := by
  obtain ⟨cur, h1, h2, h3⟩ := h
  refine ⟨_, setCell_row W g k _ cur 4 _ h1, by simpa using h2, fun j hj => ?_⟩
  show _ = some (Value.bool (if j = k then v else f j))
  rw [Array.getElem?_setIfInBounds]
  by_cases e : j = k
  · subst e; rw [if_pos rfl, if_pos (by omega), if_pos rfl]
  · rw [if_neg (fun h => e h.symm), h3 j hj, if_neg e]
theorem Br.keep {W W' : World} {g N : Nat} {f : Nat → Bool} (h : Br W g N f) (hb : W'.heap[g]? = W.heap[g]?) : Br W' g N f := by
  obtain ⟨cur, h1, h2, h3⟩ := h
  exact ⟨cur, by rw [hb]; exact h1, h2, h3⟩
theorem Br.congr {W : World} {g N : Nat} {f f' : Nat → Bool} (h : Br W g N f) (e : ∀ j, j < N → f j = f' j) : Br W g N f' := by
  obtain ⟨cur, h1, h2, h3⟩ := h
  exact ⟨cur, h1, h2, fun j hj => by rw [h3 j hj, e j hj]⟩
theorem made_at (n j : Nat) (h : j < n) : (madeCells #[.bool false] n)[j]? = some (.bool false) := by
  unfold madeCells
  simp [h, Nat.mod_one]
theorem Br.made (W : World) (n : Nat) : Br (W.alloc (.cells (madeCells #[.bool false] n) 4)) W.heap.size n (fun _ => false) := ⟨_, heap_alloc_last W _, size_madeCells _ _, fun j hj => made_at n j hj⟩
theorem Try.info4 : (Try.prog.info? 4).map (fun i => (i.zero, i.size, i.bytes)) = some (some (.bool false), 1, 1) := by kernel_rfl
/-- the pieces, as Glob reads them -/
structure Pc (W : World) (lb n : Nat) (L : List (Option (Nat → Bool))) : Prop where
  star : ∀ i x, L[i]? = some x → W.cell? ⟨lb, i * 257, none⟩ = some (.bool x.isNone)
  fits : ∀ i f, L[i]? = some (some f) → ∀ c, c < 256 → W.cell? ⟨lb, i * 257 + 1 + c, none⟩ = some (.bool (f c))
theorem Pr.pc {w W : World} {lv : Value} {L : List (Option (Nat → Bool))} (h : Pr w W lv L) : ∃ a c, lv = .slice a L.length c ∧ (0 < L.length → ∃ lb, a = some ⟨lb, 0, none⟩ ∧ lb < W.heap.size ∧ Pc W lb L.length L) := by
  obtain ⟨xs, hown, hps⟩ := h.own
  obtain ⟨a, c, rfl, hn⟩ := own_shape hown
  refine ⟨a, c, rfl, fun h0 => ?_⟩
  rcases hown.2 with ⟨h, h1⟩ | ⟨g, cap, cur, h, hg, hh, r⟩
  · omega
  · cases h
    have ce : ∀ j u, xs[j]? = some u → W.cell? ⟨g, j, none⟩ = some u := fun j u hj => by
      have := hown.cells (g := g) rfl j u hj
      rwa [Addr.add_mid, Nat.zero_add] at this
    refine ⟨g, rfl, (Array.getElem?_eq_some_iff.1 hh).1, fun i x hx => ce _ _ (hps.star i x hx), fun i f hf c hc => ?_⟩
    rw [Nat.add_assoc]
    exact ce _ _ (hps.fits i f hf c hc)
theorem Pc.below {W W' : World} {lb n : Nat} {L : List (Option (Nat → Bool))} (h : Pc W lb n L) (hl : lb < W.heap.size) (hb : Below W.heap.size W W') : Pc W' lb n L :=
  ⟨fun i x hx => (hb.cell (p := ⟨lb, i * 257, none⟩) hl).trans (h.star i x hx), fun i f hf c hc => (hb.cell (p := ⟨lb, i * 257 + 1 + c, none⟩) hl).trans (h.fits i f hf c hc)⟩
/-- the table's row under way -/
structure Gt (w1 W : World) (g g2 N : Nat) (A B : Nat → Bool) : Prop where
  bel : Below w1.heap.size w1 W
  can : Br W g N A
  next : Br W g2 N B
  ge : w1.heap.size ≤ g2
  ne : g ≠ g2
theorem Gt.set {w1 W : World} {g g2 N : Nat} {A B : Nat → Bool} (h : Gt w1 W g g2 N A B) (k : Nat) (hk : k < N) (v : Bool) : Gt w1 (W.setCell ⟨g2, k, none⟩ (.bool v)) g g2 N A (fun j => if j = k then v else B j) :=
  ⟨(setCell_turn W g2 k _).below h.bel h.ge, h.can.keep ((setCell_turn W g2 k _).other g h.ne), h.next.set k hk v, h.ge, h.ne⟩
theorem Gt.congr {w1 W : World} {g g2 N : Nat} {A B B' : Nat → Bool} (h : Gt w1 W g g2 N A B) (e : ∀ j, j < N → B j = B' j) : Gt w1 W g g2 N A B' := ⟨h.bel, h.can, h.next.congr e, h.ge, h.ne⟩
/-- the next cell of the row is laid -/
theorem Gt.step {w1 W : World} {g g2 N : Nat} {A D : Nat → Bool} {j : Nat} (h : Gt w1 W g g2 N A (fun q => if q < j then D q else false)) (hj : j < N) (v : Bool) (hv : v = D j) : Gt w1 (W.setCell ⟨g2, j, none⟩ (.bool v)) g g2 N A (fun q => if q < j + 1 then D q else false) :=
  (h.set j hj v).congr (fun q hq => by
    show (if q = j then v else if q < j then D q else false) = _
    by_cases e : q = j
    · subst e; rw [if_pos rfl, if_pos (by omega), hv]
    · rw [if_neg e]
      by_cases e2 : q < j
      · rw [if_pos e2, if_pos (by omega)]
      · rw [if_neg e2, if_neg (by omega)])

theorem Gt.drew {w1 W : World} {g g2 N : Nat} {A B : Nat → Bool} (h : Gt w1 W g g2 N A B) : Gt w1 W.drew g g2 N A B := ⟨h.bel.drew, h.can, h.next, h.ge, h.ne⟩
theorem rglob_core (ap a2 : Option Addr) (np cp ct : Nat) (w : World) (t : List Nat) (L : List (Option (Nat → Bool))) (ht : t.length ≤ 1073741824) (hL : L.length ≤ 1073741824) (hst : Small t) (hBt : Bytes w a2 t)
    (hp : Calls Try.prog 74 #[.slice ap np cp] w fun e w' => ∃ v, e = .returned v ∧ Pr w w' v L) :
    Calls Try.prog 68 #[.slice ap np cp, .slice a2 t.length ct] w fun e w' => ∃ r : Bool, e = .returned (.bool r) ∧ (r = true ↔ Larder.Meets L t) ∧ Below w.heap.size w w' := by
  obtain ⟨F, -, F00, F0, Fst, Fon, Fend⟩ := Larder.glob_table L t
  have HF0 := hide (And.intro F00 F0)
  have HFS := hide Fst
  have HFO := hide Fon
  have HFE := hide Fend
  have HC := hide hp
  have HBT := hide hBt
  have HST := hide hst
  obtain ⟨n, hn⟩ : ∃ n, n = t.length := ⟨_, rfl⟩
  have HN := hide hn
  have m1 := fun w' => run_make_row' (P := Try.prog) 125 4 (.bool false) 1 Try.underlying125 Try.info4 rfl .i64 .i64 (n + 1) (by omega) (by omega) w'
  simp only [Int.natCast_add, Int.natCast_one] at m1
  rw [← hn] at HF0 HFE
  have HFS : Hid (∀ i j, L[i]? = some none → j ≤ n → F (i + 1) j = (F i j || (decide (0 < j) && F (i + 1) (j - 1)))) := hide (by rw [unhide HN]; exact unhide HFS)
  have HFO : Hid (∀ i f j, L[i]? = some (some f) → j ≤ n → F (i + 1) j = (decide (0 < j) && F i (j - 1) && f (t.getD (j - 1) 0))) := hide (by rw [unhide HN]; exact unhide HFO)
  rw [← hn]
  have hn30 : n ≤ 1073741824 := by rw [hn]; exact ht
  clear hp hBt hst F00 F0 Fst Fon Fend hn ht
  go_enter Try.func68, Try.ntmps68
  go_wp2_with (first | (go_at_call 74; refine (unhide HC).mono ?_; rintro e w1 ⟨lv, rfl, p1⟩; have P1 := hide p1; obtain ⟨la, lc, rfl, hpc⟩ := p1.pc; have HPC := hide hpc; clear hpc p1; have z1 := ((Br.made w1 (n + 1)).at 0 (by omega)).1; have z2 := ((Br.made w1 (n + 1)).at 0 (by omega)).2))
  have B0 : Hid (Br (w1.alloc (.cells ((madeCells #[.bool false] (n + 1)).setIfInBounds 0 (.bool true)) 4)) w1.heap.size (n + 1) (F 0)) := hide ⟨_, heap_alloc_last w1 _, by simp [size_madeCells], fun j hj => by
    rw [Array.getElem?_setIfInBounds]
    by_cases e : 0 = j
    · subst e; rw [if_pos rfl, if_pos (by rw [size_madeCells]; omega), (unhide HF0).1]
    · rw [if_neg e, made_at _ _ hj, (unhide HF0).2 j (by omega) (by omega)]⟩
  have B1 : Hid (Below w1.heap.size w1 (w1.alloc (.cells ((madeCells #[.bool false] (n + 1)).setIfInBounds 0 (.bool true)) 4))) := hide ((Below.refl _ _).alloc (Nat.le_refl _) _)
  clear z1 z2
  go_loopw [6, 7, 8, 9] (fun cv iv _ _ wr => ∃ (i g : Nat), iv = .int .i64 (i : Nat) ∧ i ≤ L.length ∧ cv = .slice (some ⟨g, 0, none⟩) (n + 1) (n + 1) ∧ Hid (Below w1.heap.size w1 wr ∧ Br wr g (n + 1) (F i))) (fun _ iv _ _ _ => L.length - (intOf iv).toNat)
  case atStart => exact ⟨0, w1.heap.size, rfl, Nat.zero_le _, rfl, hide ⟨unhide B1, unhide B0⟩⟩
  case round =>
    rename World => wo
    obtain ⟨i, g, rfl, hi, rfl, KG⟩ := hrel
    clear B0 B1
    by_cases hlt : i < L.length
    · have di : decide ((i : Int) < (L.length : Int)) = true := decide_eq_true (by omega)
      obtain ⟨lb, rfl, hlb, hpc⟩ := unhide HPC (by omega)
      have HP := hide hpc
      have G0 : Hid (Gt w1 (wo.alloc (.cells (madeCells #[.bool false] (n + 1)) 4)) g wo.heap.size (n + 1) (F i) (fun q => if q < 0 then F (i + 1) q else false)) := hide ⟨(unhide KG).1.alloc (unhide KG).1.size _, (unhide KG).2.keep (Below.heap_alloc _ _ _ (unhide KG).2.lt), (Br.made wo (n + 1)).congr (fun j hj => by simp), (unhide KG).1.size, by have := (unhide KG).2.lt; omega⟩
      obtain ⟨x, hx⟩ : ∃ x, L[i]? = some x := ⟨_, List.getElem?_eq_getElem hlt⟩
      clear hpc
      go_wp2_with fail
      go_loopw [9] (fun jv wr => ∃ j : Nat, jv = .int .i64 (j : Nat) ∧ j ≤ n + 1 ∧ Hid (Gt w1 wr g wo.heap.size (n + 1) (F i) (fun q => if q < j then F (i + 1) q else false))) (fun jv _ => n + 1 - (intOf jv).toNat)
      case atStart => exact ⟨0, rfl, Nat.zero_le _, G0⟩
      case round =>
        obtain ⟨j, rfl, hj, GJ⟩ := hrel
        clear G0
        by_cases hjl : j ≤ n
        · have dj : decide ((j : Int) ≤ (n : Int)) = true := decide_eq_true (by omega)
          have s1 := ((unhide HP).below hlb (unhide GJ).bel).star i x hx
          have a1 := ((unhide GJ).can.at j (by omega)).1
          obtain ⟨b1, b2⟩ := (unhide GJ).next.at j (by omega)
          simp only [if_neg (Nat.lt_irrefl j)] at b1
          have g0 : (0 : Int) ≤ (j : Int) := by omega
          have g1 : (j : Int) < (n : Int) + 1 := by omega
          have g2 : (0 : Int) ≤ (i : Int) := by omega
          have g3 : (i : Int) < (L.length : Int) := by omega
          cases x with
          | none =>
            have hv := unhide HFS i j hx hjl
            simp only [Option.isNone_none] at s1
            cases hA : F i j with
            | true =>
              rw [hA] at a1 hv
              have GN := hide ((unhide GJ).step (by omega) true (by rw [hv]; simp))
              clear hv
              go_wp2
              all_goals go_roundw
              all_goals first | exact ⟨j + 1, by simp, by omega, GN⟩ | (simp only [intOf]; omega)
            | false =>
              rw [hA] at a1 hv
              cases j with
              | zero =>
                have GN := hide ((unhide GJ).step (by omega) false (by rw [hv]; simp))
                clear hv
                rw [show ((0 : Nat) : Int) = 0 from rfl] at *
                go_wp2
                all_goals go_roundw
                all_goals first | exact ⟨1, rfl, by omega, GN⟩ | (simp only [intOf]; omega)
              | succ j =>
                have dg : decide ((0 : Int) < ((j + 1 : Nat) : Int)) = true := decide_eq_true (by omega)
                have dg2 : decide ((0 : Int) < (j : Int) + 1) = true := decide_eq_true (by omega)
                have c1 := ((unhide GJ).next.at j (by omega)).1
                simp only [if_pos (Nat.lt_succ_self j)] at c1
                have GN := hide ((unhide GJ).step (by omega) (F (i + 1) j) (by rw [hv]; simp))
                generalize F (i + 1) j = y at c1 GN
                clear hv
                go_wp2
                all_goals go_roundw
                all_goals first | exact ⟨j + 1 + 1, by simp, by omega, GN⟩ | (simp only [intOf]; omega)
          | some f =>
            have hv := unhide HFO i f j hx hjl
            simp only [Option.isNone_some] at s1
            cases j with
            | zero =>
              have GN := hide ((unhide GJ).step (by omega) false (by rw [hv]; simp))
              clear hv
              rw [show ((0 : Nat) : Int) = 0 from rfl] at *
              go_wp2_with fail
              refine wp_region_noPanic ?_
              go_region
              all_goals refine NoPanic.normal ?_
              all_goals go_wp2
              all_goals go_roundw
              all_goals first | exact ⟨1, rfl, by omega, hide (unhide GN).drew⟩ | exact ⟨1, rfl, by omega, GN⟩ | (simp only [intOf]; omega)
            | succ j =>
              have dg : decide ((0 : Int) < ((j + 1 : Nat) : Int)) = true := decide_eq_true (by omega)
              have dg2 : decide ((0 : Int) < (j : Int) + 1) = true := decide_eq_true (by omega)
              have c1 := ((unhide GJ).can.at j (by omega)).1
              simp only [Nat.add_sub_cancel] at hv
              cases hA : F i j with
              | false =>
                rw [hA] at c1 hv
                have GN := hide ((unhide GJ).step (by omega) false (by rw [hv]; simp))
                clear hv
                go_wp2_with fail
                refine wp_region_noPanic ?_
                go_region
                all_goals refine NoPanic.normal ?_
                all_goals go_wp2
                all_goals go_roundw
                all_goals first | exact ⟨j + 1 + 1, by simp, by omega, hide (unhide GN).drew⟩ | exact ⟨j + 1 + 1, by simp, by omega, GN⟩ | (simp only [intOf]; omega)
              | true =>
                rw [hA] at c1 hv
                have hbt : Bytes wr a2 t := (unhide HBT).below ((unhide P1).bel.trans ((unhide GJ).bel.mono (unhide P1).bel.size))
                have hjt : j < t.length := by rw [← unhide HN]; omega
                obtain ⟨tb, to, rfl, htb, htc⟩ := hbt.at (by omega)
                have c2 := htc j hjt
                have hsm := unhide HST j hjt
                have c3 := ((unhide HP).below hlb (unhide GJ).bel).fits i f hx (t.getD j 0) hsm
                have GN := hide ((unhide GJ).step (by omega) (f (t.getD j 0)) (by rw [hv]; simp))
                clear hv htc
                generalize t.getD j 0 = ch at *
                generalize f ch = y at c3 GN
                have g4 : (0 : Int) ≤ (ch : Int) := by omega
                have g5 : (ch : Int) < 256 := by omega
                have g6 : (0 : Int) ≤ (j : Int) := by omega
                have g7 : (j : Int) < (n : Int) := by omega
                go_wp2_with fail
                refine wp_region_noPanic ?_
                go_region
                all_goals refine NoPanic.normal ?_
                all_goals go_wp2
                all_goals go_roundw
                all_goals first | exact ⟨j + 1 + 1, by simp, by omega, hide (unhide GN).drew⟩ | exact ⟨j + 1 + 1, by simp, by omega, GN⟩ | (simp only [intOf]; omega)
        · have hjj : j = n + 1 := by omega
          subst hjj
          have dj : decide (((n + 1 : Nat) : Int) ≤ (n : Int)) = false := decide_eq_false (by omega)
          have dj2 : decide ((n : Int) + 1 ≤ (n : Int)) = false := decide_eq_false (by omega)
          have KN := hide (And.intro (unhide GJ).bel ((unhide GJ).next.congr (f' := F (i + 1)) (fun q hq => by rw [if_pos hq])))
          go_wp2
          all_goals go_roundw
          all_goals first | exact ⟨i + 1, wo.heap.size, by simp, by omega, rfl, KN⟩ | (simp only [intOf]; omega)
    · obtain rfl : i = L.length := by omega
      have di : decide ((L.length : Int) < (L.length : Int)) = false := decide_eq_false (by omega)
      have a1 := ((unhide KG).2.at n (by omega)).1
      generalize hr : F L.length n = r at *
      go_wp2
      all_goals go_ret
      all_goals exact ⟨r, rfl, unhide HFE, (unhide P1).bel.trans ((unhide KG).1.mono (unhide P1).bel.size)⟩
theorem rpieces_nil (a : Option Addr) (cap : Nat) (w : World) : Calls Try.prog 74 #[.slice a 0 cap] w fun e w' => ∃ v, e = .returned v ∧ Pr w w' v [] := by
  go_enter Try.func74, Try.ntmps74
  go_wp2_with fail
  go_loopw [3, 4] (fun lv jv wr => lv = .slice none 0 0 ∧ jv = .int .i64 0 ∧ wr = w) (fun _ _ _ => 0)
  case atStart => exact ⟨rfl, rfl, rfl⟩
  case round =>
    obtain ⟨rfl, rfl, rfl⟩ := hrel
    go_wp2
    all_goals go_ret
    all_goals exact ⟨_, rfl, Below.refl _ _, [], World.ownsRow_nil _ _ 128 257, Larder.PsL.nil⟩
theorem rpieces_any (a : Option Addr) (cap : Nat) (w : World) (p : List Nat) (hl : p.length ≤ 1073741824) (hs : Small p) (hB : Bytes w a p) :
    Calls Try.prog 74 #[.slice a p.length cap] w fun e w' => ∃ v, e = .returned v ∧ Pr w w' v (Larder.parse p) := by
  rcases hB with h | ⟨b, off, rfl, hb, hc⟩
  · subst h
    exact rpieces_nil a cap w
  · exact rpieces_in b off cap w p hl hs hb hc
/-- the document's Glob -/
theorem rglob_any (ap a2 : Option Addr) (cp ct : Nat) (w : World) (p t : List Nat) (hp : p.length ≤ 1073741824) (ht : t.length ≤ 1073741824) (hsp : Small p) (hst : Small t) (hBp : Bytes w ap p) (hBt : Bytes w a2 t) :
    Calls Try.prog 68 #[.slice ap p.length cp, .slice a2 t.length ct] w fun e w' => ∃ r : Bool, e = .returned (.bool r) ∧ (r = true ↔ Larder.Meets (Larder.parse p) t) ∧ Below w.heap.size w w' :=
  rglob_core ap a2 p.length cp ct w t (Larder.parse p) ht (Nat.le_trans (Larder.parseK_length p p.length 0) hp) hst hBt (rpieces_any ap cp w p hp hsp hBp)
end Go.Proofs.Ytjmnddcombepaaa
