/- WaitFair: the Wait and the statement's own book; lined. -/
import Derived.Test.YtfebiemfmiahhaaFb
import Derived.Test.YtfebiemfmiahhaaPa
import Derived.Deep.RegionHeld3
namespace Go.Proofs.Ytfebiemfmiahhaa
open Go.ChangeShapes Go.WideShapes Go.ChangeAt Go.RowKit Go.Maps
set_option linter.unusedVariables false
set_option linter.unusedSimpArgs false
set_option maxRecDepth 100000
set_option maxHeartbeats 8000000
/-- the Wait, and the book that tells the same -/
structure Fs (w0 : World) (O : Nat → Prop) (w : World) (p T : Nat) (E : List En) (v : Value) (A : List Ax) : Prop where
  wa : Wa w0 O w p T E
  own : w.ownsRow w0.heap.size 56 4 v A.length (A.flatMap axC)
  off : ∀ g, v.ownBlock = some g → ¬ O g
  eq : A.map (·.x) = E.map (·.x)
  pls : ∀ d ∈ A, PlsAt w0 d.a d.x.places
theorem own_lt2 {w : World} {base : Nat} {e : TypeId} {size : Nat} {v : Value} {n : Nat} {xs : List Value} (h : w.ownsRow base e size v n xs) {g : Nat} (hg : v.ownBlock = some g) : g < w.heap.size := by
  obtain ⟨cur, hc⟩ := own_type h hg
  exact blk_lt hc
theorem Fs.below {w0 w w' : World} {O : Nat → Prop} {p T : Nat} {E : List En} {v : Value} {A : List Ax} (h : Fs w0 O w p T E v A) (hb : Below w.heap.size w w') : Fs w0 O w' p T E v A :=
  ⟨h.wa.below hb, ownsRow_same h.own (fun g hg => hb.block g (own_lt2 h.own hg)), h.off, h.eq, h.pls⟩
theorem Fs.len {w0 w : World} {O : Nat → Prop} {p T : Nat} {E : List En} {v : Value} {A : List Ax} (h : Fs w0 O w p T E v A) : A.length = E.length := by
  have := congrArg List.length h.eq
  simpa using this
theorem look_nth {E : List En} (hnd : (E.map (·.x.conn)).Nodup) {i : Nat} {e : En} (hi : E[i]? = some e) : lookE E (e.x.conn : Int) = some e := by
  unfold lookE
  induction E generalizing i with
  | nil => simp at hi
  | cons a E ih =>
    rw [List.map_cons, List.nodup_cons] at hnd
    cases i with
    | zero =>
      obtain rfl : a = e := by simpa using hi
      rw [List.find?_cons_of_pos]
      simp
    | succ i =>
      have hi' : E[i]? = some e := by simpa using hi
      rw [List.find?_cons_of_neg]
      · exact ih hnd.2 hi'
      · have : a.x.conn ≠ e.x.conn := fun e1 => hnd.1 (by rw [e1]; exact List.mem_map_of_mem (f := fun z : En => z.x.conn) (List.mem_of_getElem? hi'))
        simpa using fun h => this (by omega)
/-- the i-th of the book -/
theorem Fs.at {w0 w : World} {O : Nat → Prop} {p T : Nat} {E : List En} {v : Value} {A : List Ax} (h : Fs w0 O w p T E v A) {i : Nat} {d : Ax} (hd : A[i]? = some d) : ∃ b cap, v = .slice (some ⟨b, 0, none⟩) A.length cap ∧ w.cell? ⟨b, i * 4, none⟩ = some (.int .i64 (d.x.conn : Nat)) ∧ w.cell? ⟨b, i * 4 + 1, none⟩ = some (.int .i64 d.x.kind) ∧ w.cell? ⟨b, i * 4 + 2, none⟩ = some (.slice d.a d.x.places.length d.cap) ∧ w.cell? ⟨b, i * 4 + 3, none⟩ = some (.int .u64 (d.x.till : Nat)) ∧ ∃ e, E[i]? = some e ∧ e.x = d.x := by
  have g := fun j (hj : j < 4) => flat_get axC 4 (fun _ => rfl) A i d hd j hj
  obtain ⟨b, cap, e, c0, -⟩ := own_cell h.own (g 0 (by omega))
  have hE : ∃ e, E[i]? = some e ∧ e.x = d.x := by
    have h1 : (A.map (·.x))[i]? = some d.x := by rw [List.getElem?_map, hd]; rfl
    rw [h.eq, List.getElem?_map] at h1
    obtain ⟨e, he, hx⟩ := Option.map_eq_some_iff.1 h1
    exact ⟨e, he, hx⟩
  refine ⟨b, cap, e, c0, ?_, ?_, ?_, hE⟩
  · obtain ⟨b', cap', e', c, -⟩ := own_cell h.own (g 1 (by omega))
    rw [e] at e'; cases e'; exact c
  · obtain ⟨b', cap', e', c, -⟩ := own_cell h.own (g 2 (by omega))
    rw [e] at e'; cases e'; exact c
  · obtain ⟨b', cap', e', c, -⟩ := own_cell h.own (g 3 (by omega))
    rw [e] at e'; cases e'; exact c
theorem lined_any (w0 : World) (O : Nat → Prop) (w : World) (p T : Nat) (E : List En) (v : Value) (A : List Ax) (h : Fs w0 O w p T E v A) :
    Calls Try.prog 19 #[.pointer (some ⟨p, 0, none⟩), v] w fun e w' => e = .returned (.bool true) ∧ Hid (Below w.heap.size w w') := by
  obtain ⟨va, vc, rfl, -⟩ := own_shape h.own
  obtain ⟨n, hn⟩ : ∃ n, n = A.length := ⟨_, rfl⟩
  have hnE : n = E.length := by rw [hn]; exact h.len
  rw [← hn]
  have hf := h.wa.few8
  have hn8 : n ≤ 8 := by omega
  have HH := hide h
  have HN := hide hn
  have HNE := hide hnE
  have C1 : Calls Try.prog 11 #[.pointer (some ⟨p, 0, none⟩)] w fun e w' => ∃ g, e = .returned (.slice (some ⟨g, 0, none⟩) n n) ∧ Hid (RowI w' g (E.map (·.x.conn)) ∧ Below w.heap.size w w') := by
    refine (wa_waiting w0 O w p T E h.wa).mono ?_
    rintro e w' ⟨g, m, rfl, H⟩
    obtain ⟨k1, k2, k3, k4, k5⟩ := unhide H
    exact ⟨g, by rw [k2, hnE], hide ⟨k1, k5⟩⟩
  clear h hn hnE hf
  go_enter Try.func19, Try.ntmps19
  go_wp2_with (go_at_call 11; refine C1.mono ?_; clear C1; rintro e w1 ⟨g, rfl, H1⟩)
  go_loopw [6] (fun iv wr => ∃ i : Nat, iv = .int .i64 ((i : Nat) : Int) ∧ i ≤ n ∧ Hid (Below w1.heap.size w1 wr)) (fun iv _ => n - (intOf iv).toNat)
  case atStart => exact ⟨0, rfl, Nat.zero_le _, hide (Below.refl _ _)⟩
  case round =>
    obtain ⟨i, rfl, hi, HO⟩ := hrel
    by_cases hin : i < n
    rotate_left
    · obtain rfl : i = n := by omega
      have f1 : decide ((i : Int) < (i : Int)) = false := decide_eq_false (by omega)
      go_wp2_with fail
      go_ret
      exact ⟨rfl, hide ((unhide H1).2.trans ((unhide HO).mono (unhide H1).2.size))⟩
    have f1 : decide ((i : Int) < (n : Int)) = true := decide_eq_true (by omega)
    have g1 : (0 : Int) ≤ (i : Int) := by omega
    have g2 : (i : Int) < (n : Int) := by omega
    obtain ⟨d, hd⟩ : ∃ d, A[i]? = some d := ⟨_, List.getElem?_eq_getElem (by have := unhide HN; omega)⟩
    obtain ⟨b, cap, e1, -, -, -, -, en, hen, hx⟩ := (unhide HH).at hd
    cases e1
    obtain ⟨cn, hcn⟩ : ∃ cn, cn = d.x.conn := ⟨_, rfl⟩
    obtain ⟨tl, htl⟩ : ∃ tl, tl = d.x.till := ⟨_, rfl⟩
    obtain ⟨pa, hpa⟩ : ∃ pa, pa = d.a := ⟨_, rfl⟩
    obtain ⟨pn, hpn⟩ : ∃ pn, pn = d.x.places.length := ⟨_, rfl⟩
    obtain ⟨pc, hpc⟩ : ∃ pc, pc = d.cap := ⟨_, rfl⟩
    have HC : Hid (∀ W, Below w1.heap.size w1 W → W.cell? ⟨g, i, none⟩ = some (.int .i64 (cn : Nat)) ∧ W.cell? ⟨b, i * 4, none⟩ = some (.int .i64 (cn : Nat)) ∧ W.cell? ⟨b, i * 4 + 2, none⟩ = some (.slice pa pn pc) ∧ W.cell? ⟨b, i * 4 + 3, none⟩ = some (.int .u64 (tl : Nat))) := hide fun W hb => by
      obtain ⟨b', cap', e2, c0, -, c2, c3, -⟩ := ((unhide HH).below ((unhide H1).2.trans (hb.mono (unhide H1).2.size))).at hd
      cases e2
      rw [hcn, htl, hpa, hpn, hpc]
      refine ⟨?_, c0, c2, c3⟩
      have hr := (unhide H1).1
      rw [(hb.cell (p := ⟨g, i, none⟩) (blk_lt hr)), cell_blk hr, List.getElem?_toArray, List.getElem?_map, List.getElem?_map, hen]
      show some (Value.int .i64 (en.x.conn : Nat)) = _
      rw [hx]
    have hlk : lookE E (cn : Int) = some en := by
      obtain ⟨bw, bl, q⟩ := (unhide HH).wa.ex
      rw [hcn, ← hx]
      exact look_nth q.nd hen
    have hcn8 : cn < 8 := by
      obtain ⟨bw, bl, q⟩ := (unhide HH).wa.ex
      rw [hcn, ← hx]
      exact (q.ok en (List.mem_of_getElem? hen)).conn
    have hIc : IOk (cn : Int) := by
      have : cn = 0 ∨ cn = 1 ∨ cn = 2 ∨ cn = 3 ∨ cn = 4 ∨ cn = 5 ∨ cn = 6 ∨ cn = 7 := by omega
      rcases this with rfl | rfl | rfl | rfl | rfl | rfl | rfl | rfl <;> rfl
    have hmany : d.x.places.length ≤ 64 := by
      obtain ⟨bw, bl, q⟩ := (unhide HH).wa.ex
      rw [← hx]
      exact (q.ok en (List.mem_of_getElem? hen)).many.2
    have hpl : PlsAt w0 d.a d.x.places := (unhide HH).pls d (List.mem_of_getElem? hd)
    have D13 : ∀ W, Below w1.heap.size w1 W → Calls Try.prog 13 #[.pointer (some ⟨p, 0, none⟩), .int .i64 (cn : Nat)] W fun e w' => e = .returned (.tuple #[.int .u64 (tl : Nat), .bool true]) ∧ w'.cell? ⟨g, i, none⟩ = some (.int .i64 (cn : Nat)) ∧ w'.cell? ⟨b, i * 4, none⟩ = some (.int .i64 (cn : Nat)) ∧ w'.cell? ⟨b, i * 4 + 2, none⟩ = some (.slice pa pn pc) ∧ w'.cell? ⟨b, i * 4 + 3, none⟩ = some (.int .u64 (tl : Nat)) ∧ Hid (Below w1.heap.size w1 w') := fun W hb => by
      have hw := (unhide H1).2.trans (hb.mono (unhide H1).2.size)
      refine (wa_until w0 O W p T E (cn : Int) ((unhide HH).wa.below hw) hIc).mono ?_
      rintro e w' ⟨rfl, H⟩
      have hb2 := hb.trans ((unhide H).2.mono hb.size)
      obtain ⟨c0, c1, c2, c3⟩ := unhide HC w' hb2
      refine ⟨?_, c0, c1, c2, c3, hide hb2⟩
      rw [hlk, htl, ← hx]; rfl
    have D34 : ∀ W, Below w1.heap.size w1 W → Calls Try.prog 34 #[.pointer (some ⟨p, 0, none⟩), .int .i64 (cn : Nat)] W fun e w' => ∃ gp, e = .returned (.slice (some ⟨gp, 0, none⟩) pn pn) ∧ w'.cell? ⟨g, i, none⟩ = some (.int .i64 (cn : Nat)) ∧ w'.cell? ⟨b, i * 4, none⟩ = some (.int .i64 (cn : Nat)) ∧ w'.cell? ⟨b, i * 4 + 2, none⟩ = some (.slice pa pn pc) ∧ w'.cell? ⟨b, i * 4 + 3, none⟩ = some (.int .u64 (tl : Nat)) ∧ Hid (PlsAt w' (some ⟨gp, 0, none⟩) d.x.places ∧ Below w1.heap.size w1 w') := fun W hb => by
      have hw := (unhide H1).2.trans (hb.mono (unhide H1).2.size)
      obtain ⟨bw, bl, q⟩ := ((unhide HH).wa.below hw).ex
      refine (places_any O W p bw bl T E (cn : Int) q hIc).mono ?_
      rintro e w' ⟨rfl, H⟩
      obtain ⟨k1, k2⟩ := unhide H
      have hb2 := hb.trans (k2.mono hb.size)
      obtain ⟨c0, c1, c2, c3⟩ := unhide HC w' hb2
      rw [hlk] at k1 ⊢
      have e3 : ((some en : Option En).map (·.x.places)).getD [] = d.x.places := by show en.x.places = _; rw [hx]
      rw [e3] at k1 ⊢
      exact ⟨_, by rw [hpn], c0, c1, c2, c3, hide ⟨k1.at, hb2⟩⟩
    have D33 : ∀ (W : World) (gp : Nat), Hid (PlsAt W (some ⟨gp, 0, none⟩) d.x.places ∧ Below w1.heap.size w1 W) → Calls Try.prog 33 #[.slice (some ⟨gp, 0, none⟩) pn pn, .slice pa pn pc] W fun e w' => e = .returned (.bool true) ∧ w'.cell? ⟨g, i, none⟩ = some (.int .i64 (cn : Nat)) ∧ w'.cell? ⟨b, i * 4, none⟩ = some (.int .i64 (cn : Nat)) ∧ w'.cell? ⟨b, i * 4 + 2, none⟩ = some (.slice pa pn pc) ∧ w'.cell? ⟨b, i * 4 + 3, none⟩ = some (.int .u64 (tl : Nat)) ∧ Hid (Below w1.heap.size w1 w') := fun W gp H => by
      obtain ⟨k1, hb⟩ := unhide H
      have hw := (unhide H1).2.trans (hb.mono (unhide H1).2.size)
      refine (same_any W _ pa pn pn pc d.x.places k1 (by rw [hpa]; exact hpl.below ((unhide HH).wa.bel.trans (hw.mono (unhide HH).wa.bel.size))) hpn (by omega)).mono ?_
      rintro e w' ⟨rfl, H⟩
      have hb2 := hb.trans ((unhide H).mono hb.size)
      obtain ⟨c0, c1, c2, c3⟩ := unhide HC w' hb2
      exact ⟨rfl, c0, c1, c2, c3, hide hb2⟩
    obtain ⟨x0, x1, x2, x3⟩ := unhide HC wr (unhide HO)
    have f2 : ((cn : Int) != (cn : Int)) = false := bne_self_eq_false _
    have f3 : ((tl : Int) != (tl : Int)) = false := bne_self_eq_false _
    clear hd hcn htl hpa hpn hpc hlk hcn8 hIc hmany hpl hen hx
    go_wp2_with fail
    go_quiet (fail)
    go_wp2_with (go_at_call 13; refine (D13 _ (below_drewN (unhide HO) _)).mono ?_; rintro e w2 ⟨rfl, x0, x1, x2, x3, H2⟩)
    have hd2 : Below w1.heap.size w1 w2.drew := ⟨(unhide H2).os, (unhide H2).tape, (unhide H2).output, (unhide H2).size, (unhide H2).block⟩
    have E34 := D34 w2.drew hd2
    clear hd2 D34 D13
    go_region_held3 (fun W => W.cell? ⟨g, i, none⟩ = some (.int .i64 (cn : Nat)) ∧ W.cell? ⟨b, i * 4, none⟩ = some (.int .i64 (cn : Nat)) ∧ W.cell? ⟨b, i * 4 + 2, none⟩ = some (.slice pa pn pc) ∧ W.cell? ⟨b, i * 4 + 3, none⟩ = some (.int .u64 (tl : Nat))) (go_keep) (first | (go_at_call 34; refine E34.mono ?_; rintro e w3 ⟨gp, rfl, x0, x1, x2, x3, H3⟩) | (go_at_call 33; refine (D33 _ _ H3).mono ?_; rintro e w4 ⟨rfl, x0, x1, x2, x3, H4⟩))
    all_goals go_wp2_with fail
    all_goals exact ⟨⟨i + 1, congrArg (Value.int .i64) (by omega), by omega, H4⟩, by simp [intOf]; omega⟩
end Go.Proofs.Ytfebiemfmiahhaa
