/- The document's written and Encode: whole. -/
import Derived.Test.YtcnlikojbkegiaaGreatDoorWro
import Derived.Test.YtcnlikojbkegiaaGreatDoorEnb
namespace Go.Proofs.YtcnlikojbkegiaaGreatDoor
open Go.ChangeShapes Go.WideShapes Go.ChangeAt Go.RowKit
set_option linter.unusedVariables false
set_option linter.unusedSimpArgs false
set_option maxRecDepth 20000
set_option maxHeartbeats 4000000

theorem written_list (w0 : World) (d : Nat) (w : World) (va ta la : Option Addr) (n vc tn tc ln lc : Nat) (l : List Nat) (k1 : Int) (ll : List (Tr d)) (S : Nat) (HLn : Hid (ln = ll.length)) (hln : ln ≤ 65536) (HL0 : Hid (RlAt w0 d la ll)) (HNC : Hid (∀ y ∈ ll, NumOk d y)) (hS : Hid ((ll.map (sz d)).sum + 10 ≤ S)) (hn : n + 3 * S ≤ 201326592)
    (hG : Gn w0 w (.slice va n vc) w (.slice va n vc) n l)
    (IH : Hid (∀ (y : Tr d) (W : World) (va' : Option Addr) (n' vc' : Nat) (l' : List Nat) (u0 u1 u2 u3 : Value), y ∈ ll → RpAt w0 d y u0 u1 u2 u3 → Gn w0 W (.slice va' n' vc') W (.slice va' n' vc') n' l' → n' + 3 * sz d y ≤ 201326592 → Calls Tryz.prog 51 #[.slice va' n' vc', .agg #[u0, u1, u2, u3]] W fun e w' => ∃ va3 n3 vc3, e = .returned (.slice va3 n3 vc3) ∧ Hid (Gn w0 W (.slice va' n' vc') w' (.slice va3 n3 vc3) n3 (l' ++ encL d y)))) :
    Calls Tryz.prog 51 #[.slice va n vc, .agg #[.int .i64 6, .int .i64 k1, .slice ta tn tc, .slice la ln lc]] w fun e w' => ∃ va' n' vc', e = .returned (.slice va' n' vc') ∧ Hid (Gn w0 w (.slice va n vc) w' (.slice va' n' vc') n' (l ++ (numL 42 (ln : Nat) ++ encTo d ll ln))) := by
  obtain ⟨wb, hwb⟩ : ∃ wb, wb = w.alloc (.cells #[.int .i64 6, .int .i64 k1, .slice ta tn tc, .slice la ln lc] 31) := ⟨_, rfl⟩
  have bb : Below w.heap.size w wb := by rw [hwb]; exact (Below.refl _ _).alloc (Nat.le_refl _) _
  have hbox : wb.heap[w.heap.size]? = some (.cells #[.int .i64 6, .int .i64 k1, .slice ta tn tc, .slice la ln lc] 31 (0, 0)) := by rw [hwb]; exact heap_alloc_new w _
  have c0 : wb.cell? ⟨w.heap.size, 0, none⟩ = some (.int .i64 6) := cell_of_row _ _ _ _ _ _ hbox
  have c3 : wb.cell? ⟨w.heap.size, 3, none⟩ = some (.slice la ln lc) := cell_of_row _ _ _ _ _ _ hbox
  have GB := hide (hG.below bb)
  have hblt := block_lt hbox
  have VO : Hid (∀ (W : World) (v : Value) (n' : Nat) (l' : List Nat), Gn w0 wb (.slice va n vc) W v n' l' → Gn w0 w (.slice va n vc) W v n' l' ∧ W.cell? ⟨w.heap.size, 3, none⟩ = some (.slice la ln lc)) := hide (fun W v n' l' h => by
    refine ⟨⟨h.bel, h.row, h.own, ((Gw.refl w (.slice va n vc)).below bb).trans h.gw⟩, ?_⟩
    have hb := (h.gw.oth w.heap.size hblt (fun e => by have := hG.row.lt _ e; omega)).trans hbox
    exact cell_of_row _ _ _ _ _ _ hb)
  have GB' : Hid (Gn w0 wb (.slice va n vc) wb (.slice va n vc) n l) := hide ⟨(unhide GB).bel, (unhide GB).row, (unhide GB).own, Gw.refl _ _⟩
  have spl := spell_short (ln : Nat) (by omega) (by omega)
  have CN : Hid (Calls Tryz.prog 46 #[.int .i64 (ln : Nat)] wb fun e w' => e = .returned (.string (sB (Larder.spellI ln))) ∧ Hid (Gn w0 wb (.slice va n vc) w' (.slice va n vc) n l)) := hide ((texted_any (ln : Nat) (by omega) (by omega) wb).mono (fun e w' h => ⟨h.1, hide ((unhide GB').below h.2)⟩))
  have A1 : ∀ W, (Op.stringOp .add ⟨#[42]⟩ (sB (Larder.spellI ln))).run Tryz.prog W = .ok (.string (sB ([42] ++ Larder.spellI ln))) W := fun W => sB_add W [42] _ (by simp) (by omega)
  have A2 : ∀ W, (Op.stringOp .add (sB ([42] ++ Larder.spellI ln)) ⟨#[13, 10]⟩).run Tryz.prog W = .ok (.string (sB (numL 42 ln))) W := fun W => sB_add W ([42] ++ Larder.spellI ln) [13, 10] (by simp; omega) (by simp)
  obtain ⟨R2, hR2⟩ : ∃ R2, R2 = sB (numL 42 ln) := ⟨_, rfl⟩
  rw [← hR2] at A2
  have HX := hide (congrArg Value.string hR2)
  clear hR2
  generalize sB ([42] ++ Larder.spellI ln) = R1 at *
  generalize sB (Larder.spellI ln) = R0 at *
  have HS : Hid (Small (numL 42 (ln : Nat))) := hide (numL_small 42 _ (by decide))
  have HL : Hid (0 < (numL 42 (ln : Nat)).length ∧ (numL 42 (ln : Nat)).length ≤ 24) := hide (by unfold numL; simp only [List.length_append, List.length_cons, List.length_nil]; omega)
  have hnl := hG.row.len
  have HC : Hid (∀ (i : Nat) (y : Tr d), ll[i]? = some y → ∀ (W : World) va1 n1 vc1 u0 u1 u2 u3, RpAt w0 d y u0 u1 u2 u3 → Hid (Gn w0 wb (.slice va n vc) W (.slice va1 n1 vc1) n1 (l ++ (numL 42 (ln : Nat) ++ encTo d ll i))) → Calls Tryz.prog 51 #[.slice va1 n1 vc1, .agg #[u0, u1, u2, u3]] W fun e w' => ∃ va' n' vc', e = .returned (.slice va' n' vc') ∧ Hid (Gn w0 wb (.slice va n vc) w' (.slice va' n' vc') n' (l ++ (numL 42 (ln : Nat) ++ encTo d ll (i + 1))))) := hide (fun i y hy W va1 n1 vc1 u0 u1 u2 u3 r g => by
    have hlen := (unhide g).row.len
    have n5 := unhide HL
    have n6 := encTo_len ll i (unhide HNC)
    have n7 := sum_take ll i hy
    have hs := unhide hS
    simp only [List.length_append] at hlen
    refine (unhide IH y W va1 n1 vc1 _ u0 u1 u2 u3 (List.mem_of_getElem? hy) r ⟨(unhide g).bel, (unhide g).row, (unhide g).own, Gw.refl _ _⟩ (by omega)).mono ?_
    rintro e w' ⟨va', n', vc', rfl, k⟩
    refine ⟨va', n', vc', rfl, hide ?_⟩
    rw [encTo_step hy, ← List.append_assoc, ← List.append_assoc, List.append_assoc l]
    exact ⟨(unhide k).bel, (unhide k).row, (unhide k).own, (unhide g).gw.trans (unhide k).gw⟩)
  clear hbox bb hG GB IH HNC hS hnl spl hblt
  go_enter Tryz.func51, Tryz.ntmps51
  go_upto_region 1 with fail
  rw [← hwb]
  clear hwb
  go_wp2_with (first
    | (go_at_call 46; refine (unhide CN).mono ?_; rintro e w5 ⟨rfl, G5⟩)
    | (at_builtin; refine app_n rfl _ _ rfl rfl (.slice va n vc) n l (numL 42 (ln : Nat)) rfl (unhide G5).row (unhide HX) (unhide HS) (by have := unhide HL; omega) (by have := unhide HL; omega) ?_; intro v3 w3 h3 g3; have HG3 := hide (Gn.app (unhide G5) h3 g3); obtain ⟨a3, c3', rfl⟩ := h3.shape; clear h3 g3))
  go_loopw [0, 5] (fun bv iv wr => ∃ (j n1 vc1 : Nat) (va1 : Option Addr), iv = .int .i64 (j : Nat) ∧ j ≤ ln ∧ bv = .slice va1 n1 vc1 ∧ Hid (Gn w0 wb (.slice va n vc) wr (.slice va1 n1 vc1) n1 (l ++ (numL 42 (ln : Nat) ++ encTo d ll j)))) (fun _ iv _ => ln - (intOf iv).toNat)
  case atStart => exact ⟨0, _, _, _, rfl, Nat.zero_le _, rfl, hide (by have := unhide HG3; simpa [encTo] using this)⟩
  case round =>
    obtain ⟨j, n1, vc1, va1, rfl, hj, rfl, p⟩ := hrel
    have cl := (unhide VO _ _ _ _ (unhide p)).2
    rcases Nat.lt_or_ge j ln with hlt | hge
    · have f0 : decide ((j : Int) < (ln : Int)) = true := decide_eq_true (by omega)
      have y1 : (0 : Int) ≤ (j : Int) := by omega
      have y2 : (j : Int) < (ln : Int) := by omega
      obtain ⟨b, off, rfl, hb, hc⟩ : ∃ b off, la = some ⟨b, off, none⟩ ∧ b < w0.heap.size ∧ ∀ i y, ll[i]? = some y → ∃ u0 u1 u2 u3, w0.cell? ⟨b, off + i * 4, none⟩ = some u0 ∧ w0.cell? ⟨b, off + i * 4 + 1, none⟩ = some u1 ∧ w0.cell? ⟨b, off + i * 4 + 2, none⟩ = some u2 ∧ w0.cell? ⟨b, off + i * 4 + 3, none⟩ = some u3 ∧ RpAt w0 d y u0 u1 u2 u3 := by
        rcases unhide HL0 with h | h
        · have := unhide HLn; rw [h] at this; simp at this; omega
        · exact h
      obtain ⟨y, hy⟩ : ∃ y, ll[j]? = some y := ⟨_, List.getElem?_eq_getElem (by have := unhide HLn; omega)⟩
      obtain ⟨u0, u1, u2, u3, z0, z1, z2, z3, r⟩ := hc j y hy
      have d0 : wr.cell? ⟨b, off + j * 4, none⟩ = some u0 := by rw [(unhide p).bel.cell hb]; exact z0
      have d1 : wr.cell? ⟨b, off + j * 4 + 1, none⟩ = some u1 := by rw [(unhide p).bel.cell hb]; exact z1
      have d2 : wr.cell? ⟨b, off + j * 4 + 2, none⟩ = some u2 := by rw [(unhide p).bel.cell hb]; exact z2
      have d3 : wr.cell? ⟨b, off + j * 4 + 3, none⟩ = some u3 := by rw [(unhide p).bel.cell hb]; exact z3
      have CJ := hide (unhide HC j y hy wr va1 n1 vc1 u0 u1 u2 u3 r p)
      clear z0 z1 z2 z3 hc hy r
      go_wp2_with (go_at_call 51; refine (unhide CJ).mono ?_; rintro e w6 ⟨va6, n6, vc6, rfl, k6⟩)
      all_goals go_roundw
      all_goals first | exact ⟨j + 1, n6, vc6, va6, by go_num, by omega, rfl, k6⟩ | (simp [intOf]; omega)
    · obtain rfl : j = ln := by omega
      have f0 : decide ((j : Int) < (j : Int)) = false := decide_eq_false (by omega)
      go_wp2
      go_ret
      exact ⟨va1, n1, vc1, rfl, hide (unhide VO _ _ _ _ (unhide p)).1⟩
theorem written_any (w0 : World) : ∀ (d : Nat) (x : Tr d) (w : World) (va : Option Addr) (n vc : Nat) (l : List Nat) (v0 v1 v2 v3 : Value), RpAt w0 d x v0 v1 v2 v3 → plainB d x = true → Gn w0 w (.slice va n vc) w (.slice va n vc) n l → n + 3 * sz d x ≤ 201326592 →
    Calls Tryz.prog 51 #[.slice va n vc, .agg #[v0, v1, v2, v3]] w fun e w' => ∃ va' n' vc', e = .returned (.slice va' n' vc') ∧ Hid (Gn w0 w (.slice va n vc) w' (.slice va' n' vc') n' (l ++ encL d x))
  | 0, x, w, va, n, vc, l, v0, v1, v2, v3, h, _, _, _ => absurd h id
  | d + 1, x, w, va, n, vc, l, v0, v1, v2, v3, h, hP, hG, hn => by
    have IH := written_any w0 d
    have hnum := h.num
    obtain ⟨⟨rfl, -⟩, ⟨rfl, hb1⟩, ⟨ta, tc, rfl, hB, hS, htn, -⟩, la, lc, rfl, hln, hat⟩ := h
    have hP' : fitK x.nd.k x.nd.n x.nd.t x.nd.l.length (decide (x.nd.l.length ≤ 65536) && x.nd.l.all (plainB d)) = true := hP
    have hE : encL (d + 1) x = encK x.nd.k x.nd.n x.nd.t x.nd.l.length (x.nd.l.map (encL d)).flatten := rfl
    have hZ : sz (d + 1) x = 10 + x.nd.t.length + (x.nd.l.map (sz d)).sum := rfl
    rw [hE]
    rw [hZ] at hn
    unfold fitK at hP'
    unfold encK
    by_cases k1 : x.nd.k = 1
    · rw [if_pos k1, k1]
      rw [k1] at hP'
      simp at hP'
      exact written_1 w0 w va ta la n vc _ tc _ lc l x.nd.t x.nd.n rfl hB hS (by omega) hb1 hG (by omega)
    by_cases k2 : x.nd.k = 2
    · rw [if_neg k1, if_pos k2, k2]
      rw [k2] at hP'
      simp at hP'
      exact written_2 w0 w va ta la n vc _ tc _ lc l x.nd.t x.nd.n rfl hB hS (by omega) hb1 hG (by omega)
    by_cases k3 : x.nd.k = 3
    · rw [if_neg k1, if_neg k2, if_pos k3, k3]
      rw [k3] at hP'
      simp at hP'
      exact written_3 w0 w va ta la n vc _ tc _ lc l x.nd.t x.nd.n rfl hB hS (by rw [hP'.1]; simp) hb1 hG (by omega)
    by_cases k4 : x.nd.k = 4
    · rw [if_neg k1, if_neg k2, if_neg k3, if_pos k4, k4]
      rw [k4] at hP'
      simp at hP'
      exact written_4 w0 w va ta la n vc _ tc _ lc l x.nd.t x.nd.n rfl hB hS (by omega) hb1 hG (by omega)
    by_cases k5 : x.nd.k = 5
    · rw [if_neg k1, if_neg k2, if_neg k3, if_neg k4, if_pos k5, k5]
      rw [k5] at hP'
      simp at hP'
      rw [show numL 36 (-1) = [36, 45, 49, 13, 10] by decide +kernel]
      exact written_5 w0 w va ta la n vc _ tc _ lc l x.nd.t x.nd.n rfl hB hS (by simp [hP']) hb1 hG (by omega)
    by_cases k7 : x.nd.k = 7
    · rw [if_neg k1, if_neg k2, if_neg k3, if_neg k4, if_neg k5, if_pos k7, k7]
      rw [k7] at hP'
      simp at hP'
      rw [show numL 42 (-1) = [42, 45, 49, 13, 10] by decide +kernel]
      exact written_7 w0 w va ta la n vc _ tc _ lc l x.nd.t x.nd.n rfl hB hS (by simp [hP']) hb1 hG (by omega)
    by_cases k6 : x.nd.k = 6
    · rw [if_neg k1, if_neg k2, if_neg k3, if_neg k4, if_neg k5, if_neg k7, k6]
      rw [k6] at hP'
      simp at hP'
      have hall : ∀ y ∈ x.nd.l, plainB d y = true := hP'.2.2
      have e : (x.nd.l.map (encL d)).flatten = encTo d x.nd.l x.nd.l.length := by unfold encTo; rw [List.take_length]
      rw [e]
      exact written_list w0 d w va ta la n vc _ tc _ lc l x.nd.n x.nd.l (10 + x.nd.t.length + (x.nd.l.map (sz d)).sum) (hide rfl) hP'.2.1 (hide hat) (hide hnum.2.2.2) (hide (by omega)) hn hG (hide (fun y W va' n' vc' l' u0 u1 u2 u3 hy r g hn' => IH y W va' n' vc' l' u0 u1 u2 u3 r (hall y hy) g hn'))
    · simp [k1, k2, k3, k4, k5, k6, k7] at hP'
theorem rencode_any (w : World) (d : Nat) (x : Tr d) (v0 v1 v2 v3 : Value) (h : RpAt w d x v0 v1 v2 v3) (hs : sz d x ≤ 16777216) :
    Calls Tryz.prog 26 #[.agg #[v0, v1, v2, v3]] w fun e w' => ∃ va vc, e = .returned (.tuple #[.slice va (outE d x).length vc, .int .i64 (errE d x)]) ∧ Hid (Bytes w' va (outE d x) ∧ (∀ g off, 0 < (outE d x).length → va = some ⟨g, off, none⟩ → w.heap.size ≤ g) ∧ Below w.heap.size w w') := by
  have hfp := fit_plain d x 0 (by omega)
  obtain ⟨wb, hwb⟩ : ∃ wb, wb = w.alloc (.cells #[v0, v1, v2, v3] 31) := ⟨_, rfl⟩
  have bb : Below w.heap.size w wb := by rw [hwb]; exact (Below.refl _ _).alloc (Nat.le_refl _) _
  have hbox : wb.heap[w.heap.size]? = some (.cells #[v0, v1, v2, v3] 31 (0, 0)) := by rw [hwb]; exact heap_alloc_new w _
  have hblt := block_lt hbox
  have cs : ∀ {W : World}, Below wb.heap.size wb W → W.cell? ⟨w.heap.size, 0, none⟩ = some v0 ∧ W.cell? ⟨w.heap.size, 1, none⟩ = some v1 ∧ W.cell? ⟨w.heap.size, 2, none⟩ = some v2 ∧ W.cell? ⟨w.heap.size, 3, none⟩ = some v3 := fun {W} hW => by
    have hb := (hW.block w.heap.size hblt).trans hbox
    exact ⟨cell_of_row _ _ _ _ _ _ hb, cell_of_row _ _ _ _ _ _ hb, cell_of_row _ _ _ _ _ _ hb, cell_of_row _ _ _ _ _ _ hb⟩
  have CP : Hid (Calls Tryz.prog 49 #[.agg #[v0, v1, v2, v3]] wb fun e w' => ∃ q, e = .returned (.bool q) ∧ Hid (q = plainB d x) ∧ Hid (Below wb.heap.size wb w') ∧ w'.cell? ⟨w.heap.size, 0, none⟩ = some v0 ∧ w'.cell? ⟨w.heap.size, 1, none⟩ = some v1 ∧ w'.cell? ⟨w.heap.size, 2, none⟩ = some v2 ∧ w'.cell? ⟨w.heap.size, 3, none⟩ = some v3) := hide ((plain_any d wb x v0 v1 v2 v3 (h.below bb)).mono (fun e w' k => ⟨_, k.1, hide rfl, hide k.2, cs k.2⟩))
  have CD : Hid (∀ W, Hid (Below wb.heap.size wb W) → Calls Tryz.prog 50 #[.agg #[v0, v1, v2, v3]] W fun e w' => ∃ N : Nat, e = .returned (.int .i64 (N : Nat)) ∧ Hid (N = deepN d x) ∧ ((8 < N ∧ decide ((8 : Int) < (N : Int)) = true) ∨ (N ≤ 8 ∧ decide ((8 : Int) < (N : Int)) = false)) ∧ Hid (Below wb.heap.size wb w') ∧ w'.cell? ⟨w.heap.size, 0, none⟩ = some v0 ∧ w'.cell? ⟨w.heap.size, 1, none⟩ = some v1 ∧ w'.cell? ⟨w.heap.size, 2, none⟩ = some v2 ∧ w'.cell? ⟨w.heap.size, 3, none⟩ = some v3) := hide (fun W hW => (deep_any d x W v0 v1 v2 v3 ((h.below bb).below (unhide hW)) hs).mono (fun e w' k => ⟨_, k.1, hide rfl, (by rcases Nat.lt_or_ge 8 (deepN d x) with q | q; exact .inl ⟨q, decide_eq_true (by omega)⟩; exact .inr ⟨q, decide_eq_false (by omega)⟩), hide ((unhide hW).trans (k.2.mono (unhide hW).size)), cs ((unhide hW).trans (k.2.mono (unhide hW).size))⟩))
  have CW : Hid (∀ W, Hid (Below wb.heap.size wb W) → plainB d x = true → Calls Tryz.prog 51 #[.slice none 0 0, .agg #[v0, v1, v2, v3]] W fun e w' => ∃ va n vc, e = .returned (.slice va n vc) ∧ Hid (Gn w W (.slice none 0 0) w' (.slice va n vc) n (encL d x))) := hide (fun W hW hp => (written_any w d x W none 0 0 [] v0 v1 v2 v3 h hp ⟨bb.trans ((unhide hW).mono bb.size), .inl ⟨rfl, rfl, rfl⟩, fun g hg => by simp [Value.ownBlock] at hg, Gw.refl _ _⟩ (by omega)).mono (fun e w' ⟨va, n, vc, k1, k2⟩ => ⟨va, n, vc, k1, hide (by simpa using unhide k2)⟩))
  have BB := hide bb
  have HFP := hide hfp
  obtain ⟨d, rfl⟩ : ∃ d', d = d' + 1 := ⟨d - 1, by have := tr_pos x; omega⟩
  obtain ⟨⟨rfl, -⟩, ⟨rfl, -⟩, ⟨ta, tc, rfl, -⟩, la, lc, rfl, -⟩ := h
  obtain ⟨b0, b1, b2, b3⟩ := cs (W := wb) (Below.refl _ _)
  clear hs hfp bb hbox hblt cs
  generalize x.nd.k = k0 at *
  generalize x.nd.n = k1 at *
  generalize x.nd.t.length = tn' at *
  generalize x.nd.l.length = ln at *
  have NO : Hid (∀ W, Hid (Below wb.heap.size wb W) → fitB (d + 1) x 0 = false → ∃ va vc, Ending.returned (.tuple #[.slice none 0 0, .int .i64 85]) = .returned (.tuple #[.slice va (outE (d + 1) x).length vc, .int .i64 (errE (d + 1) x)]) ∧ Hid (Bytes W va (outE (d + 1) x) ∧ (∀ g off, 0 < (outE (d + 1) x).length → va = some ⟨g, off, none⟩ → w.heap.size ≤ g) ∧ Below w.heap.size w W)) := hide (fun W hW hf => by
    have e1 : outE (d + 1) x = [] := by unfold outE; rw [hf]; rfl
    have e2 : errE (d + 1) x = 85 := by unfold errE; rw [hf]; rfl
    rw [e1, e2]
    exact ⟨none, 0, rfl, hide ⟨.inl rfl, fun g off h0 => by simp at h0, (unhide BB).trans ((unhide hW).mono (unhide BB).size)⟩⟩)
  go_enter Tryz.func26, Tryz.ntmps26
  go_upto_region 1 with fail
  rw [← hwb]
  clear hwb
  go_wp2_with (first
    | (go_at_call 49; refine (unhide CP).mono ?_; rintro e w1 ⟨q, rfl, hq, k1', x0, x1, x2, x3⟩; cases q)
    | (go_at_call 50; refine (unhide CD _ k1').mono ?_; rintro e w2 ⟨NN, rfl, hN, ⟨hN8, t8⟩ | ⟨hN8, t8⟩, k2, y0, y1, y2, y3⟩)
    | (go_at_call 51; refine (unhide CW _ k2 (unhide hq).symm).mono ?_; rintro e w3 ⟨a3, n3, c3, rfl, HG3⟩))
  all_goals go_ret2
  · exact unhide NO _ k1' (by rw [unhide HFP, ← unhide hq]; rfl)
  · exact unhide NO _ k2 (by rw [unhide HFP, ← unhide hN, decide_eq_false (by omega)]; simp)
  · have hf : fitB (d + 1) x 0 = true := by rw [unhide HFP, ← unhide hq, ← unhide hN, decide_eq_true (by omega)]; rfl
    have e1 : outE (d + 1) x = encL (d + 1) x := by unfold outE; rw [hf]; rfl
    have e2 : errE (d + 1) x = 0 := by unfold errE; rw [hf]; rfl
    rw [e1, e2]
    have hlen := (unhide HG3).row.len
    rw [← hlen]
    refine ⟨a3, c3, rfl, hide ⟨?_, fun g off h0 e => ?_, (unhide HG3).bel⟩⟩
    · rcases (unhide HG3).row with ⟨_, _, e⟩ | ⟨g, cap', cur, fz, h1, h2, h3, h4, h5, h6, h7, h8⟩
      · exact .inl e
      · cases h1
        refine .inr ⟨g, 0, rfl, block_lt h2, fun i hi => ?_⟩
        rw [Nat.zero_add, cell_of_row _ _ _ _ _ _ h2, h8 i (by omega)]; rfl
    · rcases (unhide HG3).row with ⟨e', _, _⟩ | ⟨g', cap', cur, fz, h1, h2, h3, h4, h5, h6, h7, h8⟩
      · cases e'; cases e
      · cases h1
        cases e
        exact (unhide HG3).own g rfl
end Go.Proofs.YtcnlikojbkegiaaGreatDoor
