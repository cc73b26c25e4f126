/- The document's sorted: each text once. -/
import Derived.Test.YtjmnddcombepaaaDi
import Derived.Test.YtjmnddcombepaaaHpb
namespace Go.Proofs.Ytjmnddcombepaaa
open Go.ChangeShapes Go.WideShapes Go.ChangeAt Go.RowKit Go.Maps
set_option linter.unusedVariables false
set_option linter.unusedSimpArgs false
set_option maxRecDepth 100000
set_option maxHeartbeats 8000000
/-- two rising lists that hold the same are the same -/
theorem inc_ext {U V : List (List UInt8)} (hU : Inc U) (hV : Inc V) (h : ∀ x, x ∈ U ↔ x ∈ V) : U = V := by
  have nU : U.Nodup := hU.imp (fun {a b} q e => by rw [e] at q; exact List.lt_irrefl _ q)
  have nV : V.Nodup := hV.imp (fun {a b} q e => by rw [e] at q; exact List.lt_irrefl _ q)
  refine List.Perm.eq_of_pairwise (le := fun (x y : List UInt8) => x ≤ y) (fun a b _ _ h1 h2 => List.le_antisymm h1 h2) (hU.imp (fun q => List.le_of_lt q)) (hV.imp (fun q => List.le_of_lt q)) ?_
  exact (List.perm_ext_iff_of_nodup nU nV).2 h
/-- numbers back to bytes -/
def ub (T : List Nat) : List UInt8 := T.map UInt8.ofNat
theorem ub_nb (T : List UInt8) : ub (nb T) = T := by
  unfold ub nb
  rw [List.map_map]
  conv => rhs; rw [← List.map_id T]
  apply List.map_congr_left
  intro x _
  simp
theorem nb_le (x y : List UInt8) : nb x ≤ nb y ↔ x ≤ y := by rw [← cmpL_le, ← cmpN_le]
theorem back_perm {m : List (List Nat)} {l : List (List UInt8)} (hp : m.Perm (l.map nb)) (hs : m.Pairwise (fun x y => x ≤ y)) : ∃ M : List (List UInt8), m = M.map nb ∧ M.Perm l ∧ M.Pairwise (fun x y => x ≤ y) := by
  have e : m = (m.map ub).map nb := by
    rw [List.map_map]
    conv => lhs; rw [← List.map_id m]
    apply List.map_congr_left
    intro x hx
    obtain ⟨T, -, rfl⟩ := List.mem_map.1 (hp.mem_iff.1 hx)
    show nb T = nb (ub (nb T))
    rw [ub_nb]
  refine ⟨m.map ub, e, ?_, ?_⟩
  · have := hp.map ub
    rw [List.map_map] at this
    have e2 : l.map (ub ∘ nb) = l := by
      conv => rhs; rw [← List.map_id l]
      apply List.map_congr_left
      intro x _
      exact ub_nb x
    rw [e2] at this
    exact this
  · rw [e, List.pairwise_map] at hs
    exact hs.imp (fun h => (nb_le _ _).1 h)
/-- what was kept of the first i of a sorted list -/
structure Kp1 (M : List (List UInt8)) (i : Nat) (U : List (List UInt8)) : Prop where
  inc : Inc U
  mem : ∀ x, x ∈ U ↔ x ∈ M.take i
  len : U.length ≤ i
theorem Kp1.start (M : List (List UInt8)) : Kp1 M 0 [] := ⟨List.Pairwise.nil, fun x => by rw [List.take_zero], Nat.le_refl _⟩
theorem Kp1.push {M U : List (List UInt8)} {i : Nat} {x : List UInt8} (h : Kp1 M i U) (hs : M.Pairwise (fun x y => x ≤ y)) (hx : M[i]? = some x) (hn : ∀ y, 0 < i → M[i - 1]? = some y → y ≠ x) : Kp1 M (i + 1) (U ++ [x]) := by
  have ht : M.take (i + 1) = M.take i ++ [x] := by rw [List.take_add_one, hx]; rfl
  have hi := (List.getElem?_eq_some_iff.1 hx).1
  have hlt : ∀ y ∈ M.take i, y < x := fun y hy => by
    obtain ⟨j, hj, rfl⟩ := List.mem_iff_getElem.1 hy
    rw [List.length_take] at hj
    have hji : j < i := by omega
    have e1 : (M.take i)[j]'(by rw [List.length_take]; omega) = M[j]'(by omega) := List.getElem_take
    rw [e1]
    have hpi := List.pairwise_iff_getElem.1 hs
    have h1 : M[j]'(by omega) ≤ M[i - 1]'(by omega) := by
      rcases Nat.lt_or_ge j (i - 1) with q | q
      · exact hpi j (i - 1) (by omega) (by omega) q
      · obtain rfl : j = i - 1 := by omega
        exact List.le_refl _
    have h2 : M[i - 1]'(by omega) ≤ M[i]'hi := hpi (i - 1) i (by omega) hi (by omega)
    have e2 : M[i]'hi = x := (List.getElem?_eq_some_iff.1 hx).2
    have h3 := hn (M[i - 1]'(by omega)) (by omega) (List.getElem?_eq_getElem (by omega))
    rw [e2] at h2
    rcases List.le_iff_lt_or_eq.1 h2 with q | q
    · exact List.lt_of_le_of_lt h1 q
    · exact absurd q h3
  refine ⟨?_, fun y => ?_, by rw [List.length_append]; have := h.len; simp; omega⟩
  · show (U ++ [x]).Pairwise _
    rw [List.pairwise_append]
    exact ⟨h.inc, List.pairwise_singleton _ _, fun y hy z hz => by rw [List.mem_singleton.1 hz]; exact hlt y ((h.mem y).1 hy)⟩
  · rw [ht, List.mem_append, List.mem_append, h.mem]
theorem Kp1.same {M U : List (List UInt8)} {i : Nat} {x : List UInt8} (h : Kp1 M i U) (hx : M[i]? = some x) (h0 : 0 < i) (hn : M[i - 1]? = some x) : Kp1 M (i + 1) U := by
  have ht : M.take (i + 1) = M.take i ++ [x] := by rw [List.take_add_one, hx]; rfl
  have hm : x ∈ M.take i := by
    refine List.mem_iff_getElem?.2 ⟨i - 1, ?_⟩
    rw [List.getElem?_take, if_pos (by omega)]
    exact hn
  refine ⟨h.inc, fun y => ?_, by have := h.len; omega⟩
  rw [ht, List.mem_append, h.mem, List.mem_singleton]
  exact ⟨fun q => .inl q, fun q => by rcases q with q | q; exact q; rw [q]; exact hm⟩
theorem Kp1.done {M U V l : List (List UInt8)} (h : Kp1 M M.length U) (hp : M.Perm l) (hV : Inc V) (hm : ∀ x, x ∈ V ↔ x ∈ l) : U = V :=
  inc_ext h.inc hV (fun x => by rw [h.mem, List.take_length, hm, hp.mem_iff])
/-- the loop of sorted -/
structure SoAt (w1 wr : World) (M : List (List UInt8)) (v : Value) (i : Nat) (U : List (List UInt8)) : Prop where
  on : Below w1.heap.size w1 wr
  row : OwnS wr w1.heap.size v U
  kp : Kp1 M i U
theorem SoAt.push {w1 wr w3 w4 : World} {M U : List (List UInt8)} {v v' : Value} {i : Nat} {x : List UInt8} {o : Obj} (h : SoAt w1 wr M v i U) (hb : Below wr.heap.size wr w3) (hs : M.Pairwise (fun x y => x ≤ y)) (hx : M[i]? = some x) (hn : ∀ y, 0 < i → M[i - 1]? = some y → y ≠ x) (hg : (w3.alloc o).grownBy w4 v.ownBlock) (ho : w4.ownsRow w1.heap.size 9 1 v' (U.length + 1) (U.map encStr ++ [.string (bs x)])) : SoAt w1 w4 M v' (i + 1) (U ++ [x]) := by
  refine ⟨?_, ?_, h.kp.push hs hx hn⟩
  · have h1 := h.on.trans (hb.mono h.on.size)
    exact (h1.alloc h1.size o).grown hg (by simp; have := h1.size; omega) (fun j hj => (h.row.ge j hj).1)
  · unfold OwnS
    simpa [bs, encStr] using ho
theorem dsort_any (w : World) (a : Option Addr) (cap : Nat) (l V : List (List UInt8)) (hV : Inc V) (hm : ∀ x, x ∈ V ↔ x ∈ l) (hl : l.length ≤ 500000) (hT : ∀ T ∈ l, T.length ≤ 140737488355328) (hB : BL w a (l.map nb)) (hcap : l.length ≤ cap) :
    Calls Try.prog 69 #[.slice a l.length cap] w (SEnd w V) := by
  obtain ⟨n, hn⟩ : ∃ n, n = l.length := ⟨_, rfl⟩
  have C75 : Calls Try.prog 75 #[.slice a n cap] w fun e w1 => ∃ a1 c1, e = .returned (.slice a1 n c1) ∧ Hid (∃ M : List (List UInt8), n = M.length ∧ M.Perm l ∧ M.Pairwise (fun x y => x ≤ y) ∧ BL w1 a1 (M.map nb) ∧ Below w.heap.size w w1) := by
    have := dsorted_any l.length w a cap (l.map nb) (by rw [List.length_map]) hl (fun T hT' => by obtain ⟨T0, h0, rfl⟩ := List.mem_map.1 hT'; rw [nb_len]; exact hT T0 h0) hB hcap
    rw [List.length_map] at this
    rw [hn]
    refine this.mono ?_
    rintro e w1 ⟨a1, c1, rfl, H⟩
    obtain ⟨m, h1, h2, h3, h4⟩ := unhide H
    obtain ⟨M, rfl, h5, h6⟩ := back_perm h1 h2
    exact ⟨a1, c1, by rw [List.length_map], hide ⟨M, h5.length_eq.symm, h5, h6, h3, h4⟩⟩
  obtain ⟨i0, hi, hz0, hz1, hz2⟩ := info_parts info9
  have HT := hide hT
  have HV := hide hV
  have HM := hide hm
  rw [← hn] at hl ⊢
  clear hT hV hm hB hcap hn
  unfold SEnd
  go_enter Try.func69, Try.ntmps69
  go_wp2_with (go_at_call 75; refine C75.mono ?_; clear C75; rintro e w1 ⟨a1, c1, rfl, H1⟩)
  obtain ⟨M, HN, HP, HS, HB, HW⟩ : ∃ M : List (List UInt8), Hid (n = M.length) ∧ Hid (M.Perm l) ∧ Hid (M.Pairwise (fun x y => x ≤ y)) ∧ Hid (BL w1 a1 (M.map nb)) ∧ Hid (Below w.heap.size w w1) := by
    obtain ⟨M, q1, q2, q3, q4, q5⟩ := unhide H1
    exact ⟨M, hide q1, hide q2, hide q3, hide q4, hide q5⟩
  clear H1
  go_loopw [4, 5] (fun ov iv wr => ∃ (i : Nat) (U : List (List UInt8)), iv = .int .i64 ((i : Nat) : Int) ∧ i ≤ n ∧ Hid (SoAt w1 wr M ov i U)) (fun _ iv _ => n - (intOf iv).toNat)
  case atStart => exact ⟨0, [], rfl, Nat.zero_le _, hide ⟨Below.refl _ _, OwnS.nil _ _, Kp1.start _⟩⟩
  case round =>
    obtain ⟨i, U, rfl, hi', HC⟩ := hrel
    by_cases hin : i < n
    · have f1 : decide ((i : Int) < (n : Int)) = true := decide_eq_true (by omega)
      have f9 : decide (i < n) = true := decide_eq_true hin
      have g1 : (0 : Int) ≤ (i : Int) := by omega
      have g2 : (i : Int) < (n : Int) := by omega
      obtain ⟨x, hx⟩ : ∃ x, M[i]? = some x := ⟨_, List.getElem?_eq_getElem (by have := unhide HN; omega)⟩
      obtain ⟨b, off, ai, ci, rfl, hb, u1, uB⟩ := (unhide HB).at (i := i) (T := nb x) (by rw [List.getElem?_map, hx]; rfl) (unhide HC).on
      rw [nb_len] at u1
      have hUl : U.length ≤ 500000 := by have := (unhide HC).kp.len; omega
      have hsz : w1.heap.size ≤ wr.heap.size := (unhide HC).on.size
      have hbw : b < wr.heap.size := Nat.lt_of_lt_of_le hb (unhide HC).on.size
      have hxl := (unhide HT) x ((unhide HP).mem_iff.1 (List.mem_of_getElem? hx))
      have HX := hide hx
      have HUB := hide uB
      clear hx uB
      obtain ⟨av, cv, hov⟩ := (unhide HC).row.shape
      subst hov
      by_cases hi0 : i = 0
      · have p1 : ((i : Int) == 0) = true := by simp [hi0]
        have p1' : decide ((i : Int) = 0) = true := decide_eq_true (by omega)
        have p1'' : (i == 0) = true := by simp [hi0]
        have HNE : Hid (∀ y, 0 < i → M[i - 1]? = some y → y ≠ x) := hide (fun y h _ => by omega)
        have HBD := hide ((Below.refl wr.heap.size wr).drew)
        have cvt := conv_back wr.drew ai ci x (((unhide HUB).below' (unhide HC).on).below' (unhide HBD))
        have hrw := (unhide HC).row.below (unhide HBD)
        clear hi0
        go_wp2_with fail
        refine wp_region_noPanic ?_
        go_region
        refine NoPanic.normal ?_
        go_wp2_with (first
          | (at_builtin; refine wpList_append_own _ rfl _ _ 47 rfl w1.heap.size 9 i0 (.string ⟨#[]⟩) 1 16 Try.underlying47 hi hz0 hz1 hz2 rfl (by decide) _ _ _ rfl (World.ownsRow.alloc hrw (.cells #[.string (bs x)] 9)) ⟨wr.heap.size, 0, none⟩ 1 1 [.string (bs x)] rfl rfl (cell_one_new wr.drew _ _) (by simp [Value.oneCell']) (by unfold maxLen; omega) (by omega) (by simp; omega) ?_; intro v' w4 hown' hg4 hnil4; have K4 := hide (SoAt.push (unhide HC) (unhide HBD) (unhide HS) (unhide HX) (unhide HNE) hg4 hown'); go_frame))
        all_goals go_roundw
        case rel => exact ⟨i + 1, _, by go_num, by omega, K4⟩
        case measure => simp [intOf]; omega
      · obtain ⟨j, hj⟩ : ∃ j, j = i - 1 := ⟨_, rfl⟩
        obtain ⟨y, hy⟩ : ∃ y, M[j]? = some y := ⟨_, List.getElem?_eq_getElem (by have := unhide HN; omega)⟩
        obtain ⟨b', off', bi, di, e, -, u2, uB2⟩ := (unhide HB).at (i := j) (T := nb y) (by rw [List.getElem?_map, hy]; rfl) (unhide HC).on
        cases e
        rw [nb_len] at u2
        have hyl := (unhide HT) y ((unhide HP).mem_iff.1 (List.mem_of_getElem? hy))
        have q1 : IntKind.i64.wrap ((i : Int) - 1) = (j : Int) := by rw [IntKind.wrap_i64]; omega
        have r1 : (0 : Int) ≤ (j : Int) := by omega
        have r2 : (j : Int) < (n : Int) := by omega
        have p1 : ((i : Int) == 0) = false := by simp [hi0]
        have p1' : decide ((i : Int) = 0) = false := decide_eq_false (by omega)
        have p1'' : (i == 0) = false := by simp [hi0]
        have HB1 := hide (uB2.below' (unhide HC).on)
        have HB2 := hide ((unhide HUB).below' (unhide HC).on)
        have C76 : Hid (∀ W, Below wr.heap.size wr W → Calls Try.prog 76 #[.slice bi y.length di, .slice ai x.length ci] W fun e w' => e = .returned (.int .i64 (cmpL (nb y) (nb x))) ∧ Hid (Below W.heap.size W w')) := hide (fun W hW => dcmp_any W bi ai y.length x.length di ci (nb y) (nb x) ((unhide HB1).below' hW) ((unhide HB2).below' hW) (nb_len y).symm (nb_len x).symm hyl hxl)
        have HZ : Hid (cmpL (nb y) (nb x) = 0 ↔ y = x) := hide (cmpL_lt y x).2
        have HJ : Hid (M[i - 1]? = some y) := hide (by rw [← hj]; exact hy)
        have HI : Hid (0 < i) := hide (by omega)
        generalize cmpL (nb y) (nb x) = cc at C76 HZ
        clear hy hj hi0 uB2
        by_cases hc : cc = 0
        · have p4 : (cc != 0) = false := by simp [hc]
          have p4' : (cc == 0) = true := by simp [hc]
          have p4'' : decide (cc = 0) = true := decide_eq_true hc
          have HYX : Hid (y = x) := hide ((unhide HZ).1 hc)
          clear hc
          go_wp2_with fail
          go_region_held3 (fun W => W.cell? ⟨b, off + j, none⟩ = some (.slice bi y.length di) ∧ W.cell? ⟨b, off + i, none⟩ = some (.slice ai x.length ci)) (first | exact ⟨u3, u4⟩ | go_keep) (first | (go_at_call 76; (with_reducible refine (unhide C76 _ ((Below.refl _ _).drew)).mono ?_); clear C76; rintro e w3 ⟨rfl, H3⟩; have HK := hide (((Below.refl wr.heap.size wr).drew).trans (unhide H3)); clear H3; have u3 := ((unhide HK).cell (p := ⟨b, off + j, none⟩) hbw).trans u2; have u4 := ((unhide HK).cell (p := ⟨b, off + i, none⟩) hbw).trans u1))
          go_wp2_with fail
          all_goals go_roundw
          case rel => exact ⟨i + 1, U, by go_num, by omega, hide ⟨(unhide HC).on.trans ((unhide HK).mono (unhide HC).on.size), (unhide HC).row.below (unhide HK), (unhide HC).kp.same (unhide HX) (unhide HI) (by rw [← unhide HYX]; exact unhide HJ)⟩⟩
          case measure => simp [intOf]; omega
        · have p4 : (cc != 0) = true := by simp [hc]
          have p4' : (cc == 0) = false := by simp [hc]
          have p4'' : decide (cc = 0) = false := decide_eq_false hc
          have HNE : Hid (∀ z, 0 < i → M[i - 1]? = some z → z ≠ x) := hide (fun z _ hz e => by rw [unhide HJ] at hz; cases hz; exact hc ((unhide HZ).2 e))
          clear hc
          go_wp2_with fail
          go_region_held3 (fun W => W.cell? ⟨b, off + j, none⟩ = some (.slice bi y.length di) ∧ W.cell? ⟨b, off + i, none⟩ = some (.slice ai x.length ci)) (first | exact ⟨u3, u4⟩ | go_keep) (first | (go_at_call 76; (with_reducible refine (unhide C76 _ ((Below.refl _ _).drew)).mono ?_); clear C76; rintro e w3 ⟨rfl, H3⟩; have HK := hide (((Below.refl wr.heap.size wr).drew).trans (unhide H3)); clear H3; have u3 := ((unhide HK).cell (p := ⟨b, off + j, none⟩) hbw).trans u2; have u4 := ((unhide HK).cell (p := ⟨b, off + i, none⟩) hbw).trans u1; have cvt := conv_back w3 ai ci x ((unhide HB2).below' (unhide HK)); have hrw := (unhide HC).row.below (unhide HK); have hsz3 : wr.heap.size ≤ w3.heap.size := (unhide HK).size))
          go_wp2_with (first
            | (at_builtin; refine wpList_append_own _ rfl _ _ 47 rfl w1.heap.size 9 i0 (.string ⟨#[]⟩) 1 16 Try.underlying47 hi hz0 hz1 hz2 rfl (by decide) _ _ _ rfl (World.ownsRow.alloc hrw (.cells #[.string (bs x)] 9)) ⟨w3.heap.size, 0, none⟩ 1 1 [.string (bs x)] rfl rfl (cell_one_new w3 _ _) (by simp [Value.oneCell']) (by unfold maxLen; omega) (by omega) (by simp; omega) ?_; intro v' w4 hown' hg4 hnil4; have K4 := hide (SoAt.push (unhide HC) (unhide HK) (unhide HS) (unhide HX) (unhide HNE) hg4 hown'); go_frame))
          all_goals go_roundw
          case rel => exact ⟨i + 1, _, by go_num, by omega, K4⟩
          case measure => simp [intOf]; omega
    · obtain rfl : n = i := by omega
      have f1 : decide ((n : Int) < (n : Int)) = false := decide_eq_false (by omega)
      have f9 : decide (n < n) = false := decide_eq_false (by omega)
      go_wp2_with fail
      have e : U = V := Kp1.done (M := M) (l := l) (by rw [← unhide HN]; exact (unhide HC).kp) (unhide HP) (unhide HV) (unhide HM)
      obtain ⟨av, cv, hov⟩ := (unhide HC).row.shape
      subst hov
      go_ret
      exact ⟨_, _, _, rfl, hide ⟨by rw [← e]; exact (unhide HC).row.mono (unhide HW).size, (unhide HW).trans ((unhide HC).on.mono (unhide HW).size), by rw [← e]⟩⟩
end Go.Proofs.Ytjmnddcombepaaa
