/- MatchSplit: the law. -/
import Derived.Test.YtidfbelckdlbhaaWrh
import Derived.Test.YtidfbelckdlbhaaWrk
import Derived.Test.YtidfbelckdlbhaaWak
namespace Go.Proofs.Ytidfbelckdlbhaa
open Go.ChangeShapes Go.WideShapes Go.ChangeAt Go.RowKit
set_option linter.unusedVariables false
set_option linter.unusedSimpArgs false
set_option maxRecDepth 20000
set_option maxHeartbeats 2000000

theorem Bytes.takeN {w : World} {a : Option Addr} {l : List Nat} (h : Bytes w a l) (i : Nat) : Bytes w a (l.take i) := by
  rcases h with rfl | ⟨b, off, rfl, hb, hc⟩
  · exact .inl (by simp)
  · refine .inr ⟨b, off, rfl, hb, fun j hj => ?_⟩
    rw [List.length_take] at hj
    rw [hc j (by omega), List.getD_eq_getElem?_getD, List.getD_eq_getElem?_getD, List.getElem?_take, if_pos (by omega)]
theorem Bytes.dropN {w : World} {x : Addr} {l : List Nat} (h : Bytes w (some x) l) (i : Nat) : Bytes w (some (x.add i)) (l.drop i) := by
  rcases h with rfl | ⟨b, off, e, hb, hc⟩
  · exact .inl (by simp)
  · cases e
    refine .inr ⟨b, off + i, by rw [add_plain], hb, fun j hj => ?_⟩
    rw [List.length_drop] at hj
    rw [Nat.add_assoc, hc (i + j) (by omega), List.getD_eq_getElem?_getD, List.getD_eq_getElem?_getD, List.getElem?_drop]
theorem bool_of (p : Nat → Prop) : ∃ f : Nat → Bool, ∀ i, f i = true ↔ p i := ⟨fun i => @decide (p i) (Classical.propDecidable _), fun i => by simp⟩
/-- the world as the law keeps it: its box, what lies there, and the two patterns -/
structure Gd (w0 : World) (B : Nat) (p q : List Nat) (W : World) (a1 : Option Addr) (c1 : Nat) (a2 : Option Addr) (c2 : Nat) : Prop where
  bel : Below B w0 W
  bp : Bytes W a1 p
  bq : Bytes W a2 q
  z2 : a2 = none → c2 = 0
theorem Gd.keep {w0 W W' : World} {B : Nat} {p q : List Nat} {a1 a2 : Option Addr} {c1 c2 : Nat} (h : Gd w0 B p q W a1 c1 a2 c2) (hB : B ≤ w0.heap.size) (hb : Below W.heap.size W W') : Gd w0 B p q W' a1 c1 a2 c2 :=
  ⟨h.bel.trans (hb.mono (Nat.le_trans hB h.bel.size)), h.bp.below hb, h.bq.below hb, h.z2⟩
theorem law_some (w : World) (aP aQ : Option Addr) (xT : Addr) (cP cQ cT : Nat) (xs zs : List Larder.Pcd) (T : List Nat) (h60 : xs.length + zs.length ≤ 60) (h100 : T.length ≤ 100) (hcT : T.length ≤ cT) (hcm : cT ≤ 9223372036854775807)
    (hP : PcsAt w aP xs) (hQ : PcsAt w aQ zs) (dP : ∀ x ∈ xs, (-9223372036854775808 ≤ x.d ∧ x.d ≤ 9223372036854775807) ∧ x.b < 256 ∧ MsSmall x.ms) (dQ : ∀ x ∈ zs, (-9223372036854775808 ≤ x.d ∧ x.d ≤ 9223372036854775807) ∧ x.b < 256 ∧ MsSmall x.ms)
    (h5 : (Larder.patL xs).length + (Larder.patL zs).length ≤ 5000) (hT : Bytes w (some xT) T) (sT : Small T) :
    Calls Try.prog 5 #[.agg #[.slice aP xs.length cP, .slice aQ zs.length cQ, .slice (some xT) T.length cT]] w fun e w' => e = .returned (.bool true) ∧ Below w.heap.size w w' := by
  obtain ⟨p, hp⟩ : ∃ p, p = Larder.patL xs := ⟨_, rfl⟩
  obtain ⟨q, hq⟩ : ∃ q, q = Larder.patL zs := ⟨_, rfl⟩
  obtain ⟨w0, hw0⟩ : ∃ w0, w0 = w.alloc (.cells #[.slice aP xs.length cP, .slice aQ zs.length cQ, .slice (some xT) T.length cT] 35) := ⟨_, rfl⟩
  have hs0 : w0.heap.size = w.heap.size + 1 := by rw [hw0]; simp
  have B0 : Below w.heap.size w w0 := by rw [hw0]; exact (Below.refl _ _).alloc (Nat.le_refl _) _
  have hrow : w0.heap[w.heap.size]? = some (.cells #[.slice aP xs.length cP, .slice aQ zs.length cQ, .slice (some xT) T.length cT] 35 (0, 0)) := by rw [hw0]; exact heap_alloc_new w _
  have low : ∀ W, Below (w.heap.size + 1) w0 W → Below w.heap.size w W := fun W h => B0.trans (h.mono (by omega))
  have cel : ∀ W, Below (w.heap.size + 1) w0 W → W.cell? ⟨w.heap.size, 0, none⟩ = some (.slice aP xs.length cP) ∧ W.cell? ⟨w.heap.size, 1, none⟩ = some (.slice aQ zs.length cQ) ∧ W.cell? ⟨w.heap.size, 2, none⟩ = some (.slice (some xT) T.length cT) := fun W h => by
    have hr : W.heap[w.heap.size]? = some (.cells #[.slice aP xs.length cP, .slice aQ zs.length cQ, .slice (some xT) T.length cT] 35 (0, 0)) := by rw [h.block _ (by omega)]; exact hrow
    exact ⟨by rw [cell_of_row _ _ _ _ _ _ hr]; rfl, by rw [cell_of_row _ _ _ _ _ _ hr]; rfl, by rw [cell_of_row _ _ _ _ _ _ hr]; rfl⟩
  have sp : Small p := by rw [hp]; exact small_pat xs (fun x hx => (dP x hx).2)
  have sq : Small q := by rw [hq]; exact small_pat zs (fun x hx => (dQ x hx).2)
  have lp : p.length ≤ 5000 := by rw [hp]; omega
  have lq : q.length ≤ 5000 := by rw [hq]; omega
  obtain ⟨pm, hpm⟩ := bool_of (fun i => Larder.Meets (Larder.parse p) (T.take i))
  obtain ⟨qm, hqm⟩ := bool_of (fun i => Larder.Meets (Larder.parse q) (T.drop i))
  have up : ∀ {W W' : World}, Below (w.heap.size + 1) w0 W → Below W.heap.size W W' → Below (w.heap.size + 1) w0 W' := fun h h' => h.trans (h'.mono (by have := h.size; omega))
  have main := split_some w aP aQ xT cP cQ cT xs.length zs.length T.length p.length q.length p q pm qm (fun W => Below (w.heap.size + 1) w0 W) (fun W a1 c1 => Below (w.heap.size + 1) w0 W ∧ Bytes W a1 p) (fun W _ a1 c1 a2 c2 => Gd w0 (w.heap.size + 1) p q W a1 c1 a2 c2) h60 h100 hcT hcm (by rw [hp, hq]; exact h5) rfl rfl
    (hide (by
      rw [← hw0]
      refine (wakes_any w0).mono ?_
      rintro e w' ⟨rfl, h⟩
      have h2 : Below (w.heap.size + 1) w0 w' := by rw [← hs0]; exact h
      exact ⟨rfl, hide h2, cel w' h2⟩))
    (hide (fun W hW => by
      refine (pattern_any aP xs.length cP W xs rfl (by omega) (by rw [← hp]; omega) (hP.below (low W (unhide hW))) (fun x hx => (dP x hx).1)).mono ?_
      rintro e w' ⟨v, rfl, ho, hb⟩
      rw [← hp] at ho
      obtain ⟨a, c, rfl, hby, hz⟩ := ho.shape
      have h2 := up (unhide hW) hb
      exact ⟨a, c, rfl, hide ⟨h2, hby⟩, cel w' h2⟩))
    (hide (fun W a1 c1 hW => by
      refine (pattern_any aQ zs.length cQ W zs rfl (by omega) (by rw [← hq]; omega) (hQ.below (low W (unhide hW).1)) (fun x hx => (dQ x hx).1)).mono ?_
      rintro e w' ⟨v, rfl, ho, hb⟩
      rw [← hq] at ho
      obtain ⟨a, c, rfl, hby, hz⟩ := ho.shape
      have h2 := up (unhide hW).1 hb
      exact ⟨a, c, rfl, hide ⟨h2, (unhide hW).2.below hb, hby, hz⟩, cel w' h2⟩))
    (hide (fun W g a1 c1 a2 c2 hW => cel W (unhide hW).bel))
    (hide (fun W g a1 c1 a2 c2 hW => by
      refine (pattern_any aP xs.length cP W xs rfl (by omega) (by rw [← hp]; omega) (hP.below (low W (unhide hW).bel)) (fun x hx => (dP x hx).1)).mono ?_
      rintro e w' ⟨v, rfl, ho, hb⟩
      rw [← hp] at ho
      obtain ⟨a, c, rfl, hby, hz⟩ := ho.shape
      exact ⟨a, c, rfl, hide ⟨ho, hb, (unhide hW).bq.below hb, (unhide hW).z2⟩⟩))
    (hide (fun W W' g a1 c1 a2 c2 hW hb => hide ((unhide hW).keep (by omega) hb)))
    (hide (fun W g a1 c1 a2 c2 i cc hW hi => by
      refine (glob_is a1 (some xT) c1 cc p.length i p (T.take i) _ W (pm i) rfl (by rw [List.length_take]; omega) rfl (by omega) (by rw [List.length_take]; omega) sp (small_take sT i) (unhide hW).bp ((hT.below (low W (unhide hW).bel)).takeN i) (hpm i)).mono ?_
      rintro e w' ⟨rfl, h⟩
      exact ⟨rfl, hide h⟩))
    (hide (fun W g a1 c1 a2 c2 i cc hW hi => by
      refine (glob_is a2 (some (xT.add i)) c2 cc q.length (T.length - i) q (T.drop i) _ W (qm i) rfl (by rw [List.length_drop]) rfl (by omega) (by rw [List.length_drop]; omega) sq (small_drop sT i) (unhide hW).bq ((hT.below (low W (unhide hW).bel)).dropN i) (hqm i)).mono ?_
      rintro e w' ⟨rfl, h⟩
      exact ⟨rfl, hide h⟩))
    (hide (fun W g a1 c1 a2 c2 i cc hW hi => by
      refine (glob_is a2 (some xT) c2 cc q.length (T.length - i) q (T.drop i) _ W (qm i) rfl (by rw [List.length_drop]) rfl (by omega) (by rw [List.length_drop]; omega) sq (small_drop sT i) (unhide hW).bq (.inl (by rw [hi]; simp)) (hqm i)).mono ?_
      rintro e w' ⟨rfl, h⟩
      exact ⟨rfl, hide h⟩))
    (hide (fun W a c a1 c1 a2 c2 hB hW => by
      refine (glob_is a (some xT) c cT (p.length + q.length) T.length (p ++ q) T (Larder.parse p ++ Larder.parse q) W _ (by rw [List.length_append]) rfl (by rw [hp, hq]; exact Larder.parse_pair xs zs) (by rw [List.length_append]; omega) (by omega) (small_join sp sq) sT (unhide hB) (hT.below (low W (unhide hW).bel)) (Larder.can_meets _ _ T pm qm hpm hqm)).mono ?_
      rintro e w' ⟨rfl, h⟩
      exact ⟨rfl, hide h⟩))
    (hide (fun L W a c a1 c1 a2 c2 hL hB hW => by
      have hl : L.length ≤ 10010 := by rw [unhide hL]; simp; omega
      refine (glob_is a (some xT) c cT L.length T.length L T (Larder.parse p ++ none :: Larder.parse q) W _ rfl rfl (by rw [unhide hL, hp, hq]; exact Larder.parse_star1 xs zs) (by omega) (by omega) (by rw [unhide hL]; exact small_join (small_join sp (by intro j hj; match j, hj with | 0, _ => decide)) sq) sT (unhide hB) (hT.below (low W (unhide hW).bel)) (Larder.gap_meets _ _ T pm qm hpm hqm)).mono ?_
      rintro e w' ⟨rfl, h⟩
      exact ⟨rfl, hide h⟩))
    (hide (fun L W a c a1 c1 a2 c2 hL hB hW => by
      have hl : L.length ≤ 10010 := by rw [unhide hL]; simp; omega
      refine (glob_is a (some xT) c cT L.length T.length L T (Larder.parse p ++ none :: none :: none :: Larder.parse q) W _ rfl rfl (by rw [unhide hL, hp, hq]; exact Larder.parse_star3 xs zs) (by omega) (by omega) (by rw [unhide hL]; exact small_join (small_join sp (by intro j hj; match j, hj with | 0, _ => decide | 1, _ => decide | 2, _ => decide)) sq) sT (unhide hB) (hT.below (low W (unhide hW).bel)) (Larder.gap_meets3 _ _ T pm qm hpm hqm)).mono ?_
      rintro e w' ⟨rfl, h⟩
      exact ⟨rfl, hide h⟩))
    (hide (fun W g a1 c1 a2 c2 hW => ⟨(unhide hW).bq, (unhide hW).z2⟩))
  refine main.mono ?_
  rintro e w' ⟨rfl, h⟩
  obtain ⟨a1, c1, a2, c2, h⟩ := unhide h
  exact ⟨rfl, low w' h.bel⟩
theorem law_nil (w : World) (aP aQ : Option Addr) (cP cQ cT : Nat) (xs zs : List Larder.Pcd) (T : List Nat) (h60 : xs.length + zs.length ≤ 60) (h100 : T.length ≤ 100) (hcT : T.length ≤ cT) (hcm : cT ≤ 9223372036854775807)
    (hP : PcsAt w aP xs) (hQ : PcsAt w aQ zs) (dP : ∀ x ∈ xs, (-9223372036854775808 ≤ x.d ∧ x.d ≤ 9223372036854775807) ∧ x.b < 256 ∧ MsSmall x.ms) (dQ : ∀ x ∈ zs, (-9223372036854775808 ≤ x.d ∧ x.d ≤ 9223372036854775807) ∧ x.b < 256 ∧ MsSmall x.ms)
    (h5 : (Larder.patL xs).length + (Larder.patL zs).length ≤ 5000) (hT : Bytes w none T) (sT : Small T) :
    Calls Try.prog 5 #[.agg #[.slice aP xs.length cP, .slice aQ zs.length cQ, .slice none T.length cT]] w fun e w' => e = .returned (.bool true) ∧ Below w.heap.size w w' := by
  obtain ⟨p, hp⟩ : ∃ p, p = Larder.patL xs := ⟨_, rfl⟩
  obtain ⟨q, hq⟩ : ∃ q, q = Larder.patL zs := ⟨_, rfl⟩
  obtain ⟨w0, hw0⟩ : ∃ w0, w0 = w.alloc (.cells #[.slice aP xs.length cP, .slice aQ zs.length cQ, .slice none T.length cT] 35) := ⟨_, rfl⟩
  have hs0 : w0.heap.size = w.heap.size + 1 := by rw [hw0]; simp
  have B0 : Below w.heap.size w w0 := by rw [hw0]; exact (Below.refl _ _).alloc (Nat.le_refl _) _
  have hrow : w0.heap[w.heap.size]? = some (.cells #[.slice aP xs.length cP, .slice aQ zs.length cQ, .slice none T.length cT] 35 (0, 0)) := by rw [hw0]; exact heap_alloc_new w _
  have low : ∀ W, Below (w.heap.size + 1) w0 W → Below w.heap.size w W := fun W h => B0.trans (h.mono (by omega))
  have cel : ∀ W, Below (w.heap.size + 1) w0 W → W.cell? ⟨w.heap.size, 0, none⟩ = some (.slice aP xs.length cP) ∧ W.cell? ⟨w.heap.size, 1, none⟩ = some (.slice aQ zs.length cQ) ∧ W.cell? ⟨w.heap.size, 2, none⟩ = some (.slice none T.length cT) := fun W h => by
    have hr : W.heap[w.heap.size]? = some (.cells #[.slice aP xs.length cP, .slice aQ zs.length cQ, .slice none T.length cT] 35 (0, 0)) := by rw [h.block _ (by omega)]; exact hrow
    exact ⟨by rw [cell_of_row _ _ _ _ _ _ hr]; rfl, by rw [cell_of_row _ _ _ _ _ _ hr]; rfl, by rw [cell_of_row _ _ _ _ _ _ hr]; rfl⟩
  have sp : Small p := by rw [hp]; exact small_pat xs (fun x hx => (dP x hx).2)
  have sq : Small q := by rw [hq]; exact small_pat zs (fun x hx => (dQ x hx).2)
  have lp : p.length ≤ 5000 := by rw [hp]; omega
  have lq : q.length ≤ 5000 := by rw [hq]; omega
  obtain ⟨pm, hpm⟩ := bool_of (fun i => Larder.Meets (Larder.parse p) (T.take i))
  obtain ⟨qm, hqm⟩ := bool_of (fun i => Larder.Meets (Larder.parse q) (T.drop i))
  have up : ∀ {W W' : World}, Below (w.heap.size + 1) w0 W → Below W.heap.size W W' → Below (w.heap.size + 1) w0 W' := fun h h' => h.trans (h'.mono (by have := h.size; omega))
  have main := split_nil w aP aQ cP cQ cT xs.length zs.length T.length p.length q.length p q pm qm (fun W => Below (w.heap.size + 1) w0 W) (fun W a1 c1 => Below (w.heap.size + 1) w0 W ∧ Bytes W a1 p) (fun W _ a1 c1 a2 c2 => Gd w0 (w.heap.size + 1) p q W a1 c1 a2 c2) h60 h100 hcT hcm (by rw [hp, hq]; exact h5) rfl rfl
    (hide (by
      rw [← hw0]
      refine (wakes_any w0).mono ?_
      rintro e w' ⟨rfl, h⟩
      have h2 : Below (w.heap.size + 1) w0 w' := by rw [← hs0]; exact h
      exact ⟨rfl, hide h2, cel w' h2⟩))
    (hide (fun W hW => by
      refine (pattern_any aP xs.length cP W xs rfl (by omega) (by rw [← hp]; omega) (hP.below (low W (unhide hW))) (fun x hx => (dP x hx).1)).mono ?_
      rintro e w' ⟨v, rfl, ho, hb⟩
      rw [← hp] at ho
      obtain ⟨a, c, rfl, hby, hz⟩ := ho.shape
      have h2 := up (unhide hW) hb
      exact ⟨a, c, rfl, hide ⟨h2, hby⟩, cel w' h2⟩))
    (hide (fun W a1 c1 hW => by
      refine (pattern_any aQ zs.length cQ W zs rfl (by omega) (by rw [← hq]; omega) (hQ.below (low W (unhide hW).1)) (fun x hx => (dQ x hx).1)).mono ?_
      rintro e w' ⟨v, rfl, ho, hb⟩
      rw [← hq] at ho
      obtain ⟨a, c, rfl, hby, hz⟩ := ho.shape
      have h2 := up (unhide hW).1 hb
      exact ⟨a, c, rfl, hide ⟨h2, (unhide hW).2.below hb, hby, hz⟩, cel w' h2⟩))
    (hide (fun W g a1 c1 a2 c2 hW => cel W (unhide hW).bel))
    (hide (fun W g a1 c1 a2 c2 hW => by
      refine (pattern_any aP xs.length cP W xs rfl (by omega) (by rw [← hp]; omega) (hP.below (low W (unhide hW).bel)) (fun x hx => (dP x hx).1)).mono ?_
      rintro e w' ⟨v, rfl, ho, hb⟩
      rw [← hp] at ho
      obtain ⟨a, c, rfl, hby, hz⟩ := ho.shape
      exact ⟨a, c, rfl, hide ⟨ho, hb, (unhide hW).bq.below hb, (unhide hW).z2⟩⟩))
    (hide (fun W W' g a1 c1 a2 c2 hW hb => hide ((unhide hW).keep (by omega) hb)))
    (hide (fun W g a1 c1 a2 c2 i cc hW hi => by
      refine (glob_is a1 none c1 cc p.length i p (T.take i) _ W (pm i) rfl (by rw [List.length_take]; omega) rfl (by omega) (by rw [List.length_take]; omega) sp (small_take sT i) (unhide hW).bp ((hT.below (low W (unhide hW).bel)).takeN i) (hpm i)).mono ?_
      rintro e w' ⟨rfl, h⟩
      exact ⟨rfl, hide h⟩))
    (hide (fun W g a1 c1 a2 c2 i cc hW hi => by
      refine (glob_is a2 none c2 cc q.length (T.length - i) q (T.drop i) _ W (qm i) rfl (by rw [List.length_drop]) rfl (by omega) (by rw [List.length_drop]; omega) sq (small_drop sT i) (unhide hW).bq (.inl (by rcases hT with rfl | ⟨b, off, e, _⟩; (· simp); (· cases e))) (hqm i)).mono ?_
      rintro e w' ⟨rfl, h⟩
      exact ⟨rfl, hide h⟩))
    (hide (fun W g a1 c1 a2 c2 i cc hW hi => by
      refine (glob_is a2 none c2 cc q.length (T.length - i) q (T.drop i) _ W (qm i) rfl (by rw [List.length_drop]) rfl (by omega) (by rw [List.length_drop]; omega) sq (small_drop sT i) (unhide hW).bq (.inl (by rw [hi]; simp)) (hqm i)).mono ?_
      rintro e w' ⟨rfl, h⟩
      exact ⟨rfl, hide h⟩))
    (hide (fun W a c a1 c1 a2 c2 hB hW => by
      refine (glob_is a none c cT (p.length + q.length) T.length (p ++ q) T (Larder.parse p ++ Larder.parse q) W _ (by rw [List.length_append]) rfl (by rw [hp, hq]; exact Larder.parse_pair xs zs) (by rw [List.length_append]; omega) (by omega) (small_join sp sq) sT (unhide hB) (hT.below (low W (unhide hW).bel)) (Larder.can_meets _ _ T pm qm hpm hqm)).mono ?_
      rintro e w' ⟨rfl, h⟩
      exact ⟨rfl, hide h⟩))
    (hide (fun L W a c a1 c1 a2 c2 hL hB hW => by
      have hl : L.length ≤ 10010 := by rw [unhide hL]; simp; omega
      refine (glob_is a none c cT L.length T.length L T (Larder.parse p ++ none :: Larder.parse q) W _ rfl rfl (by rw [unhide hL, hp, hq]; exact Larder.parse_star1 xs zs) (by omega) (by omega) (by rw [unhide hL]; exact small_join (small_join sp (by intro j hj; match j, hj with | 0, _ => decide)) sq) sT (unhide hB) (hT.below (low W (unhide hW).bel)) (Larder.gap_meets _ _ T pm qm hpm hqm)).mono ?_
      rintro e w' ⟨rfl, h⟩
      exact ⟨rfl, hide h⟩))
    (hide (fun L W a c a1 c1 a2 c2 hL hB hW => by
      have hl : L.length ≤ 10010 := by rw [unhide hL]; simp; omega
      refine (glob_is a none c cT L.length T.length L T (Larder.parse p ++ none :: none :: none :: Larder.parse q) W _ rfl rfl (by rw [unhide hL, hp, hq]; exact Larder.parse_star3 xs zs) (by omega) (by omega) (by rw [unhide hL]; exact small_join (small_join sp (by intro j hj; match j, hj with | 0, _ => decide | 1, _ => decide | 2, _ => decide)) sq) sT (unhide hB) (hT.below (low W (unhide hW).bel)) (Larder.gap_meets3 _ _ T pm qm hpm hqm)).mono ?_
      rintro e w' ⟨rfl, h⟩
      exact ⟨rfl, hide h⟩))
    (hide (fun W g a1 c1 a2 c2 hW => ⟨(unhide hW).bq, (unhide hW).z2⟩))
  refine main.mono ?_
  rintro e w' ⟨rfl, h⟩
  obtain ⟨a1, c1, a2, c2, h⟩ := unhide h
  exact ⟨rfl, low w' h.bel⟩
end Go.Proofs.Ytidfbelckdlbhaa
