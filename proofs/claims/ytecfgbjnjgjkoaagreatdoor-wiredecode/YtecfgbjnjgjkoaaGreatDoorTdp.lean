/- A Told whose book has replies. -/
import Derived.Test.YtecfgbjnjgjkoaaGreatDoorBkb
import Derived.Test.YtecfgbjnjgjkoaaGreatDoorBpg
import Derived.Test.YtecfgbjnjgjkoaaGreatDoorDcy
import Derived.Test.YtecfgbjnjgjkoaaGreatDoorSame
import Derived.Deep.RegionWith
import Derived.Deep.RegionHeld3
import Derived.Test.YtecfgbjnjgjkoaaGreatDoorTda
namespace Go.Proofs.YtecfgbjnjgjkoaaGreatDoor
open Go.ChangeShapes Go.WideShapes Go.ChangeAt Go.RowKit
set_option linter.unusedVariables false
set_option linter.unusedSimpArgs false
set_option maxRecDepth 20000
set_option maxHeartbeats 4000000

theorem sumTo_le {d : Nat} : ∀ (l : List (Tr d)) (i : Nat), sumTo d l i ≤ (l.map (sz d)).sum
  | [], i => by simp [sumTo]
  | x :: l, 0 => by simp [sumTo]
  | x :: l, i + 1 => by
    have := sumTo_le l i
    unfold sumTo at this ⊢
    simp only [List.take_succ_cons, List.map_cons, List.sum_cons]
    omega
theorem size_any : ∀ (d : Nat) (w : World) (x : Tr d) (v0 v1 v2 v3 : Value), RpAt w d x v0 v1 v2 v3 → sz d x ≤ 1099511627776 → Calls Tryz.prog 54 #[.agg #[v0, v1, v2, v3]] w fun e w' => e = .returned (.int .i64 (sz d x : Nat)) ∧ Hid (Below w.heap.size w w')
  | 0, w, x, v0, v1, v2, v3, h, _ => absurd h id
  | d + 1, w, x, v0, v1, v2, v3, h, hm => by
    have IH := size_any d
    obtain ⟨⟨rfl, -⟩, ⟨rfl, -⟩, ⟨ta, tc, rfl, -, -, htn, -⟩, la, lc, rfl, hln, hat⟩ := h
    have hsz : Hid (sz (d + 1) x = 10 + x.nd.t.length + (x.nd.l.map (sz d)).sum) := hide rfl
    have hch : Hid (∀ y, y ∈ x.nd.l → sz d y ≤ 1099511627776) := hide (fun y hy => by have := sz_child x hy; omega)
    have hto : Hid (∀ i, 10 + x.nd.t.length + sumTo d x.nd.l i ≤ sz (d + 1) x) := hide (fun i => by
      have h1 := sumTo_le x.nd.l i
      have h2 := unhide hsz
      omega)
    obtain ⟨S, hS⟩ : ∃ n, n = sz (d + 1) x := ⟨_, rfl⟩
    rw [← hS] at hsz hto hm
    rw [← hS]
    obtain ⟨tn', htn'⟩ : ∃ n, n = x.nd.t.length := ⟨_, rfl⟩
    obtain ⟨ln, hln'⟩ : ∃ n, n = x.nd.l.length := ⟨_, rfl⟩
    obtain ⟨k0, hk0⟩ : ∃ n, n = x.nd.k := ⟨_, rfl⟩
    obtain ⟨k1, hk1⟩ : ∃ n, n = x.nd.n := ⟨_, rfl⟩
    rw [← htn', ← hln', ← hk0, ← hk1]
    rw [← htn'] at htn hsz hto
    rw [← hln'] at hln
    have HI := hide IH
    have HT := hide hat
    have HLn := hide hln'
    clear IH hat htn' hln' hk0 hk1 hS
    have B0 : Hid (∀ o, Below (w.heap.size + 1) (w.alloc o) (w.alloc o)) := hide (fun o => Below.refl _ _)
    go_enter Tryz.func54, Tryz.ntmps54
    go_wp2
    go_loopw [3, 4] (fun nv iv wr => ∃ (i k : Nat), nv = .int .i64 (k : Nat) ∧ iv = .int .i64 (i : Nat) ∧ i ≤ ln ∧ k ≤ S ∧ Hid (k = 10 + tn' + sumTo d x.nd.l i) ∧ Hid (Below (w.heap.size + 1) (w.alloc (.cells #[.int .i64 k0, .int .i64 k1, .slice ta tn' tc, .slice la ln lc] 31)) wr)) (fun _ iv _ => ln - (intOf iv).toNat)
    case atStart => exact ⟨0, tn' + 10, by go_num, rfl, Nat.zero_le _, by have := unhide hto 0; omega, hide (by simp [sumTo]; omega), hide (unhide B0 _)⟩
    case round =>
      obtain ⟨i, k, rfl, rfl, hi, hk1, hks, p⟩ := hrel
      have cl : wr.cell? ⟨w.heap.size, 3, none⟩ = some (.slice la ln lc) := by
        rw [(unhide p).cell (Nat.lt_succ_self _), cell_of_row _ _ _ _ _ _ (heap_alloc_new w _)]; rfl
      have bw : Hid (Below w.heap.size w wr) := hide (((Below.refl w.heap.size w).alloc (Nat.le_refl _) _).trans ((unhide p).mono (Nat.le_succ _)))
      rcases Nat.lt_or_ge i ln with hlt | hge
      · have f1 : decide ((i : Int) < (ln : Int)) = true := decide_eq_true (by omega)
        have g1 : (0 : Int) ≤ (i : Int) := by omega
        have g2 : (i : Int) < (ln : Int) := by omega
        obtain ⟨b, off, rfl, hb, hc⟩ : ∃ b off, la = some ⟨b, off, none⟩ ∧ b < w.heap.size ∧ ∀ i y, x.nd.l[i]? = some y → ∃ u0 u1 u2 u3, w.cell? ⟨b, off + i * 4, none⟩ = some u0 ∧ w.cell? ⟨b, off + i * 4 + 1, none⟩ = some u1 ∧ w.cell? ⟨b, off + i * 4 + 2, none⟩ = some u2 ∧ w.cell? ⟨b, off + i * 4 + 3, none⟩ = some u3 ∧ RpAt w d y u0 u1 u2 u3 := by
          rcases unhide HT with h | h
          · have := unhide HLn; rw [h] at this; simp at this; omega
          · exact h
        obtain ⟨y, hy⟩ : ∃ y, x.nd.l[i]? = some y := ⟨_, List.getElem?_eq_getElem (by have := unhide HLn; omega)⟩
        obtain ⟨u0, u1, u2, u3, c0, c1, c2, c3, r⟩ := hc i y hy
        have d0 : wr.cell? ⟨b, off + i * 4, none⟩ = some u0 := by rw [(unhide bw).cell hb]; exact c0
        have d1 : wr.cell? ⟨b, off + i * 4 + 1, none⟩ = some u1 := by rw [(unhide bw).cell hb]; exact c1
        have d2 : wr.cell? ⟨b, off + i * 4 + 2, none⟩ = some u2 := by rw [(unhide bw).cell hb]; exact c2
        have d3 : wr.cell? ⟨b, off + i * 4 + 3, none⟩ = some u3 := by rw [(unhide bw).cell hb]; exact c3
        obtain ⟨sy, hsy⟩ : ∃ n, n = sz d y := ⟨_, rfl⟩
        have hk2 : k + sy ≤ S := by
          have h1 := unhide hto (i + 1)
          rw [sumTo_step hy, ← hsy] at h1
          have h2 := unhide hks
          omega
        have CM : Hid (Calls Tryz.prog 54 #[.agg #[u0, u1, u2, u3]] wr fun e w' => e = .returned (.int .i64 (sy : Nat)) ∧ Hid (k + sy = 10 + tn' + sumTo d x.nd.l (i + 1)) ∧ Hid (Below (w.heap.size + 1) (w.alloc (.cells #[.int .i64 k0, .int .i64 k1, .slice ta tn' tc, .slice (some ⟨b, off, none⟩) ln lc] 31)) w')) := hide ((unhide HI wr y u0 u1 u2 u3 (r.below (unhide bw)) (unhide hch y (List.mem_of_getElem? hy))).mono (fun e w' ⟨h1, h4⟩ => ⟨by rw [hsy]; exact h1, hide (by rw [sumTo_step hy, unhide hks, ← hsy]; omega), hide ((unhide p).trans ((unhide h4).mono (by have := (unhide p).size; simp at this; omega)))⟩))
        clear c0 c1 c2 c3 r hc hy hsy
        go_wp2_with (go_at_call 54; refine (unhide CM).mono ?_; rintro e w5 ⟨rfl, hk4, k5⟩)
        all_goals go_roundw
        all_goals first | exact ⟨i + 1, k + sy, by go_num, by go_num, by omega, by omega, hk4, k5⟩ | (simp [intOf]; omega)
      · obtain rfl : i = ln := by omega
        have f1 : decide ((i : Int) < (i : Int)) = false := decide_eq_false (by omega)
        have e1 : k = S := by
          have h1 := unhide hks
          rw [sumTo_all _ _ (unhide HLn)] at h1
          have h2 := unhide hsz
          omega
        subst e1
        go_wp2
        go_ret
        exact ⟨rfl, bw⟩
end Go.Proofs.YtecfgbjnjgjkoaaGreatDoor
namespace Go.Proofs.YtecfgbjnjgjkoaaGreatDoor.Bp
open Go.ChangeShapes Go.WideShapes Go.ChangeAt Go.RowKit Go.Proofs.YtecfgbjnjgjkoaaGreatDoor.Bk
set_option linter.unusedVariables false
set_option linter.unusedSimpArgs false
set_option maxRecDepth 100000
set_option maxHeartbeats 8000000

theorem reply_walk (w : World) (pb I n : Nat) (k0 k1 : Int) (ta : Option Addr) (tn tc : Nat) (la : Option Addr) (lc : Nat) (Z : Nat → World → Prop) (R : World → Prop) (hI : I < 10) (hn : n ≤ 140737488351232)
    (C0 : Hid (Calls Tryz.prog 48 #[.pointer (some ⟨pb, 0, none⟩), .slice ta tn tc] (w.alloc (.cells #[.int .i64 k0, .int .i64 k1, .slice ta tn tc, .slice la n lc] 31)) fun e w' => e = .returned (.tuple #[]) ∧ w'.cell? ⟨w.heap.size, 3, none⟩ = some (.slice la n lc) ∧ Hid (Z 0 w')))
    (CS : Hid (∀ i, i < n → ∀ W, Z i W → ∃ b u0 u1 u2 u3, la = some ⟨b, 0, none⟩ ∧ (W.cell? ⟨b, i * 4, none⟩ = some u0 ∧ W.cell? ⟨b, i * 4 + 1, none⟩ = some u1 ∧ W.cell? ⟨b, i * 4 + 2, none⟩ = some u2 ∧ W.cell? ⟨b, i * 4 + 3, none⟩ = some u3) ∧ Calls Tryz.prog 74 #[.pointer (some ⟨pb, 0, none⟩), .agg #[u0, u1, u2, u3], .int .i64 ((I : Int) + 1)] W fun e w' => e = .returned (.tuple #[]) ∧ Hid (Z (i + 1) w')))
    (CE : Hid (∀ W, Z n W → Calls Tryz.prog 96 #[.pointer (some ⟨pb, 0, none⟩), .slice la n lc] W fun e w' => e = .returned (.tuple #[]) ∧ Hid (R w'))) :
    Calls Tryz.prog 74 #[.pointer (some ⟨pb, 0, none⟩), .agg #[.int .i64 k0, .int .i64 k1, .slice ta tn tc, .slice la n lc], .int .i64 (I : Int)] w fun e w' => e = .returned (.tuple #[]) ∧ Hid (R w') := by
  have f2 : decide ((I : Int) < 10) = true := decide_eq_true (by omega)
  go_enter Tryz.func74, Tryz.ntmps74
  go_wp2_with (go_at_call 48; with_reducible refine (unhide C0).mono ?_; rintro e w2 ⟨rfl, c3, hP⟩)
  clear C0 c3
  go_loopw [7] (fun iv wr => ∃ i : Nat, iv = .int .i64 (i : Nat) ∧ i ≤ n ∧ Hid (Z i wr)) (fun iv _ => n - (intOf iv).toNat)
  case atStart => exact ⟨0, rfl, Nat.zero_le _, hP⟩
  case round =>
    obtain ⟨i, rfl, hi, HZ⟩ := hrel
    rename World => wr
    by_cases hlt : i < n
    · have f1 : decide ((i : Int) < (n : Int)) = true := decide_eq_true (by omega)
      have g1 : (0 : Int) ≤ (i : Int) := by omega
      have g2 : (i : Int) < (n : Int) := by omega
      obtain ⟨b, u0, u1, u2, u3, rfl, ⟨p0, p1, p2, p3⟩, hc⟩ := unhide CS i hlt wr (unhide HZ)
      have CM := hide hc
      clear hc CS CE hP HZ
      go_wp2_with (go_at_call 74; with_reducible refine (unhide CM).mono ?_; rintro e w5 ⟨rfl, k5⟩)
      all_goals go_roundw
      all_goals first | exact ⟨i + 1, by go_num, by omega, k5⟩ | (simp [intOf]; omega)
    · obtain rfl : i = n := by omega
      have f1 : decide ((i : Int) < (i : Int)) = false := decide_eq_false (by omega)
      have CM := hide (unhide CE wr (unhide HZ))
      clear CS CE hP HZ
      go_wp2_with (go_at_call 96; with_reducible refine (unhide CM).mono ?_; rintro e w5 ⟨rfl, k5⟩)
      all_goals go_end0
      all_goals exact ⟨rfl, k5⟩
end Go.Proofs.YtecfgbjnjgjkoaaGreatDoor.Bp
namespace Go.Proofs.YtecfgbjnjgjkoaaGreatDoor.Bp
open Go.ChangeShapes Go.WideShapes Go.ChangeAt Go.RowKit Go.Proofs.YtecfgbjnjgjkoaaGreatDoor.Bk
set_option linter.unusedVariables false
set_option linter.unusedSimpArgs false
set_option maxRecDepth 100000
set_option maxHeartbeats 8000000

/-- how many replies it has -/
def cntR : (d : Nat) → Tr d → Nat
  | 0, _ => 0
  | d + 1, x => 1 + (x.nd.l.map (cntR d)).sum
def cntTo (d : Nat) (l : List (Tr d)) (i : Nat) : Nat := ((l.take i).map (cntR d)).sum
theorem cntTo_step {d : Nat} {l : List (Tr d)} {i : Nat} {y : Tr d} (h : l[i]? = some y) : cntTo d l (i + 1) = cntTo d l i + cntR d y := by
  unfold cntTo
  rw [List.take_add_one, h]
  simp
theorem cntTo_all {d : Nat} (l : List (Tr d)) (i : Nat) (h : i = l.length) : cntTo d l i = (l.map (cntR d)).sum := by
  subst h
  unfold cntTo
  rw [List.take_length]
theorem cntTo_le {d : Nat} : ∀ (l : List (Tr d)) (i : Nat), cntTo d l i ≤ (l.map (cntR d)).sum
  | [], i => by simp [cntTo]
  | x :: l, 0 => by simp [cntTo]
  | x :: l, i + 1 => by
    have := cntTo_le l i
    unfold cntTo at this ⊢
    simp only [List.take_succ_cons, List.map_cons, List.sum_cons]
    omega
theorem heap_alloc_new' (w : World) (bx : Obj) {c : Array Value} (h : bx = .cells c 31) : (w.alloc bx).heap[w.heap.size]? = some bx := heap_alloc_new w bx
/-- what the book's taking leaves as it was: all but the blocks of Q -/
structure Took (pb : Nat) (Q : Nat → Prop) (tag tag' : Nat → Nat) (w w' : World) : Prop where
  os : w'.os = w.os
  tape : w'.tape = w.tape
  output : w'.output = w.output
  size : w.heap.size ≤ w'.heap.size
  keep : ∀ g, g < w.heap.size → g ≠ pb → tag g = 0 → ¬ Q g → w'.heap[g]? = w.heap[g]? ∧ tag' g = 0
theorem Took.of {pb o k : Nat} {tag tag' : Nat → Nat} {w w' : World} {v : Value} (h : Noted pb o (tagAt tag v k) tag' w w') : Took pb (fun b => v.ownBlock = some b) tag tag' w w' :=
  ⟨h.os, h.tape, h.output, h.size, fun g h1 h2 h3 h4 => by
    have e : tagAt tag v k g = 0 := by unfold tagAt; rw [if_neg h4]; exact h3
    exact ⟨h.blk g h1 e h2, (h.tg g h1).trans e⟩⟩
theorem Took.trans {pb : Nat} {Q Q' Q'' : Nat → Prop} {t t' t'' : Nat → Nat} {w w' w'' : World} (h : Took pb Q t t' w w') (k : Took pb Q' t' t'' w' w'') (hq : ∀ b, b < w.heap.size → Q b → Q'' b) (hq' : ∀ b, b < w.heap.size → Q' b → Q'' b) : Took pb Q'' t t'' w w'' :=
  ⟨k.os.trans h.os, k.tape.trans h.tape, k.output.trans h.output, Nat.le_trans h.size k.size, fun g h1 h2 h3 h4 => by
    have a := h.keep g h1 h2 h3 (fun e => h4 (hq g h1 e))
    have b := k.keep g (Nat.lt_of_lt_of_le h1 h.size) h2 a.2 (fun e => h4 (hq' g h1 e))
    exact ⟨b.1.trans a.1, b.2⟩⟩
theorem Took.below {pb : Nat} {Q : Nat → Prop} {t t' : Nat → Nat} {w w0 w' : World} (hb : Below w.heap.size w w0) (h : Took pb Q t t' w0 w') : Took pb Q t t' w w' :=
  ⟨h.os.trans hb.os, h.tape.trans hb.tape, h.output.trans hb.output, Nat.le_trans hb.size h.size, fun g h1 h2 h3 h4 => by
    have a := h.keep g (Nat.lt_of_lt_of_le h1 hb.size) h2 h3 h4
    exact ⟨a.1.trans (hb.block g h1), a.2⟩⟩
theorem reply_any (pb : Nat) : ∀ (d : Nat) (x : Tr d) (I : Nat) (w : World) (tag : Nat → Nat) (S : BookSt) (Q : Nat → Prop) (v0 v1 v2 v3 : Value), I + d ≤ 10 → BookAt w pb 0 tag S → DrAt w d Q x v0 v1 v2 v3 → (∀ b, Q b → b < w.heap.size → tag b = 0 ∧ b ≠ pb) → sz d x ≤ 1099511627776 → S.turn + 2 * cntR d x < 1000000 →
    Calls Tryz.prog 74 #[.pointer (some ⟨pb, 0, none⟩), .agg #[v0, v1, v2, v3], .int .i64 (I : Int)] w fun e w' => e = .returned (.tuple #[]) ∧ Hid (∃ tag' S', BookAt w' pb 0 tag' S' ∧ S'.turn = S.turn + 2 * cntR d x ∧ Took pb Q tag tag' w w')
  | 0, x, I, w, tag, S, Q, v0, v1, v2, v3, _, _, hD, _, _, _ => absurd hD id
  | d + 1, x, I, w, tag, S, Q, v0, v1, v2, v3, hI, hB, hD, hQ, hz, ht => by
    obtain ⟨rfl, rfl, ⟨hO, hS, hT⟩, f, hR, hL, Qs, hq1, hq2, hq3⟩ := hD
    have hsl := sz_list x
    have hpl := hB.fl.lt
    have hcn : cntR (d + 1) x = 1 + (x.nd.l.map (cntR d)).sum := rfl
    have t0 : tag w.heap.size = 0 := Classical.byContradiction (fun e => by have := hB.un _ e; omega)
    obtain ⟨ta, tc, e2, -, -⟩ := hO.shape
    obtain ⟨la, lc, e3⟩ := hR.shape
    have hO2 := hO.rws
    have ap : ∀ g, v3.ownBlock = some g → v2.ownBlock ≠ some g := fun g hg => hR.apart hO2 (by decide) g hg
    subst e2 e3
    obtain ⟨bx, hbx⟩ : ∃ bx, bx = Obj.cells #[.int .i64 x.nd.k, .int .i64 x.nd.n, .slice ta x.nd.t.length tc, .slice la x.nd.l.length lc] 31 := ⟨_, rfl⟩
    have hb0 : Below w.heap.size w (w.alloc bx) := (Below.refl _ _).alloc (Nat.le_refl _) _
    have hsz0 : (w.alloc bx).heap.size = w.heap.size + 1 := by simp
    refine reply_walk w pb I x.nd.l.length x.nd.k x.nd.n ta x.nd.t.length tc la lc (fun i W => ∃ tg Sb, BookAt W pb 0 tg Sb ∧ Sb.turn = S.turn + 1 + 2 * cntTo d x.nd.l i ∧ Took pb (fun b => (Value.slice ta x.nd.t.length tc).ownBlock = some b ∨ ∃ j, j < i ∧ Qs j b) tag tg (w.alloc bx) W) (fun w' => ∃ tag' S', BookAt w' pb 0 tag' S' ∧ S'.turn = S.turn + 2 * cntR (d + 1) x ∧ Took pb Q tag tag' w w') (by omega) (by omega) (hide ?_) (hide (fun i hi W hZ => ?_)) (hide (fun W hZ => ?_))
    · rw [← hbx]
      refine (take_bytes (hB.below hb0) (by omega) _ x.nd.t.length (byV x.nd.t) (hO2.below hb0).line (fun g hg => hQ g (hT g hg) (hO2.lt g hg)) (by omega)).mono ?_
      rintro e w' ⟨rfl, tag', S', b1, b2, b3⟩
      have k := Took.of b3
      refine ⟨rfl, ?_, hide ⟨tag', S', b1, by simp [cntTo]; omega, ⟨k.os, k.tape, k.output, k.size, fun g h1 h2 h3 h4 => k.keep g h1 h2 h3 (fun e => h4 (.inl e))⟩⟩⟩
      have hk := (k.keep w.heap.size (by omega) (by omega) t0 (fun e => by have := hO2.lt _ e; omega)).1
      have hk2 : w'.heap[w.heap.size]? = some bx := by rw [hk]; exact heap_alloc_new' w bx hbx
      rw [hbx] at hk2
      rw [cell_of_row _ _ _ _ _ _ hk2]
      rfl
    · obtain ⟨tg, Sb, hb, htn, hk⟩ := hZ
      have sh : ∀ g, g < w.heap.size → (tag g = 0 ∧ g ≠ pb) → (Value.slice ta x.nd.t.length tc).ownBlock ≠ some g → (∀ j, j < i → ¬ Qs j g) → W.heap[g]? = w.heap[g]? ∧ tg g = 0 := fun g h1 h2 h3 h4 => by
        have a := hk.keep g (by omega) h2.2 h2.1 (fun e => by
          rcases e with e | ⟨j, hj, e⟩
          · exact h3 e
          · exact h4 j hj e)
        exact ⟨a.1.trans (hb0.block g h1), a.2⟩
      have hR' : Rws W 31 4 (.slice la x.nd.l.length lc) x.nd.l.length f := hR.same (fun g hg => (sh g (hR.lt g hg) (hQ g (hL g hg) (hR.lt g hg)) (ap g hg) (fun j _ e => (hq2 j g e).2.1 hg)).1)
      obtain ⟨b, cap, hv, hown, hbl, hcell⟩ := hR'.at (by omega)
      simp only [Value.slice.injEq] at hv
      obtain ⟨y, hy⟩ : ∃ y, x.nd.l[i]? = some y := ⟨_, List.getElem?_eq_getElem hi⟩
      have hDy := (hq3 i y hy).tight
      have hstep := cntTo_step hy
      have hle := cntTo_le x.nd.l (i + 1)
      have shq : ∀ b, Qs i b → b < w.heap.size → W.heap[b]? = w.heap[b]? ∧ tg b = 0 := fun b h1 h2 => sh b h2 (hQ b (hq2 i b h1).1 h2) (hq2 i b h1).2.2 (fun j hj e => by have := hq1 j i b e h1; omega)
      have hcall := reply_any pb d y (I + 1) W tg Sb (fun b => Qs i b ∧ b < w.heap.size) _ _ _ _ (by omega) hb (hDy.same (w' := W) (fun b hb' _ => (shq b hb'.1 hb'.2).1)) (fun b hb' _ => ⟨(shq b hb'.1 hb'.2).2, (hQ b (hq2 i b hb'.1).1 hb'.2).2⟩) (by have := sz_child x (List.mem_of_getElem? hy); omega) (by omega)
      have ei : ((I : Int) + 1) = ((I + 1 : Nat) : Int) := by omega
      rw [ei]
      refine ⟨b, _, _, _, _, hv.1, ⟨hcell _ (by omega), hcell _ (by omega), hcell _ (by omega), hcell _ (by omega)⟩, hcall.mono ?_⟩
      rintro e w' ⟨rfl, h2⟩
      obtain ⟨tag', S', c1, c2, c3⟩ := unhide h2
      refine ⟨rfl, hide ⟨tag', S', c1, by omega, hk.trans c3 (fun b _ e => ?_) (fun b _ e => .inr ⟨i, Nat.lt_succ_self _, e.1⟩)⟩⟩
      rcases e with e | ⟨j, hj, e⟩
      · exact .inl e
      · exact .inr ⟨j, by omega, e⟩
    · obtain ⟨tg, Sb, hb, htn, hk⟩ := hZ
      have sh : ∀ g, g < w.heap.size → (tag g = 0 ∧ g ≠ pb) → (Value.slice ta x.nd.t.length tc).ownBlock ≠ some g → (∀ j, ¬ Qs j g) → W.heap[g]? = w.heap[g]? ∧ tg g = 0 := fun g h1 h2 h3 h4 => by
        have a := hk.keep g (by omega) h2.2 h2.1 (fun e => by
          rcases e with e | ⟨j, hj, e⟩
          · exact h3 e
          · exact h4 j e)
        exact ⟨a.1.trans (hb0.block g h1), a.2⟩
      have sv : ∀ g, (Value.slice la x.nd.l.length lc).ownBlock = some g → W.heap[g]? = w.heap[g]? ∧ tg g = 0 := fun g hg => sh g (hR.lt g hg) (hQ g (hL g hg) (hR.lt g hg)) (ap g hg) (fun j e => (hq2 j g e).2.1 hg)
      have hall := cntTo_all x.nd.l _ rfl
      refine (take_replies hb (by omega) _ x.nd.l.length f (hR.same (fun g hg => (sv g hg).1)) (fun g hg => ⟨(sv g hg).2, (hQ g (hL g hg) (hR.lt g hg)).2⟩) (by omega)).mono ?_
      rintro e w' ⟨rfl, tag', S', b1, b2, b3⟩
      refine ⟨rfl, hide ⟨tag', S', b1, by omega, Took.below hb0 (hk.trans (Took.of b3) (fun b hb' e => ?_) (fun b hb' e => hL b e))⟩⟩
      rcases e with e | ⟨j, hj, e⟩
      · exact hT b e
      · exact (hq2 j b e).1
end Go.Proofs.YtecfgbjnjgjkoaaGreatDoor.Bp
namespace Go.Proofs.YtecfgbjnjgjkoaaGreatDoor
open Go
set_option linter.unusedVariables false
section
variable {P : Program} {ops : Array Oper} {Q : Exit → Act → World → Prop} {md : Region.Mode} {S : World → Prop} {k : Nat}

/-- whatever order is picked; S holds behind every operation but number k -/
def AnyTill (P : Program) (md : Region.Mode) (ops : Array Oper) (Q : Exit → Act → World → Prop) (S : World → Prop) (k : Nat) : Nat → Array Bool → Act → World → Prop
  | 0, l, a, w => Region.ready md ops l = [] ∧ Q .normal a w
  | f + 1, l, a, w => (Region.ready md ops l = [] → Q .normal a w) ∧ ∀ i ∈ Region.ready md ops l, wpOp P ops Q i (fun a' w' => (i ≠ k → S w') ∧ AnyTill P md ops Q S k f (l.setIfInBounds i true) a' w') a w

theorem AnyTill.any : ∀ (f : Nat) (l : Array Bool) (a : Act) (w : World), AnyTill P md ops Q S k f l a w → wpAny P md ops Q f l a w
  | 0, _, _, _, h => h
  | f + 1, _, _, _, h => ⟨h.1, fun i hi => wpOp_mono (fun a' w' h' => AnyTill.any f _ a' w' h'.2) (h.2 i hi)⟩

/-- does number k wait for number i? -/
def waitsFor (md : Region.Mode) (ops : Array Oper) (k i : Nat) : Bool := ((ops[k]?).map fun o => o.after.any fun e => Region.binds md e && (e.on == i)).getD false
theorem waits_out {i : Nat} {l : Array Bool} (hw : waitsFor md ops k i = true) (hi : i ∈ Region.ready md ops l) : k ∉ Region.ready md ops l := by
  intro hk
  obtain ⟨h0, _⟩ := mem_ready.1 hi
  obtain ⟨_, o, ho, hall⟩ := mem_ready.1 hk
  unfold waitsFor at hw
  rw [ho] at hw
  simp only [Option.map_some, Option.getD_some, Array.any_eq_true', Bool.and_eq_true, beq_iff_eq] at hw
  obtain ⟨e, he, hb, hon⟩ := hw
  have h1 := hall e he hb
  rw [hon] at h1
  rcases Nat.lt_or_ge i l.size with h' | h'
  · simp [h'] at h0 h1; rw [h0] at h1; cases h1
  · simp [Array.getElem?_eq_none h'] at h1

theorem AnyTill.first {i : Nat} {oi : Oper} {v : Value} (hi : ops[i]? = some oi) (hsel : ∀ (j : Nat) (o : Oper) cs b, ops[j]? = some o → o.op ≠ .select cs b)
    (hQ : ∀ c a w, Q (.panic c) (a.put oi.dst v) w → Q (.panic c) a w) (hw : waitsFor md ops k i = true) (f : Nat) :
    ∀ (l : Array Bool) (a : Act) (w : World), (∀ j oj, ops[j]? = some oj → j ≠ i → l.getD j true = false → (∀ e ∈ oj.after, Region.binds md e = true → e.on ≠ i) → oi.apart ops oj = true) →
      i ∈ Region.ready md ops l → YieldsIf P ops S oi v a → S w → AnyTill P md ops Q S k f (l.setIfInBounds i true) (a.put oi.dst v) w → AnyTill P md ops Q S k (f + 1) l a w := by
  induction f with
  | zero =>
    intro l a w _ hr hy hS H
    refine ⟨fun h => absurd (h ▸ hr) List.not_mem_nil, fun j hj => ?_⟩
    by_cases e : j = i
    · subst e; exact hy.wpOp hi hS ⟨fun _ => hS, H⟩
    · exact absurd (H.1 ▸ ready_mono hj e) List.not_mem_nil
  | succ f ih =>
    intro l a w hfree hr hy hS H
    refine ⟨fun h => absurd (h ▸ hr) List.not_mem_nil, fun j hj => ?_⟩
    by_cases e : j = i
    · subst e; exact hy.wpOp hi hS ⟨fun _ => hS, H⟩
    · obtain ⟨hun, oj, hoj, hall⟩ := mem_ready.1 hj
      have hjk : j ≠ k := fun q => waits_out hw hr (q ▸ hj)
      have hnot : ∀ x ∈ oj.after, Region.binds md x = true → x.on ≠ i := fun x hx hb q => by
        have h1 := hall x hx hb
        have h0 := (mem_ready.1 hr).1
        rw [q] at h1
        rcases Nat.lt_or_ge i l.size with h' | h'
        · simp [h'] at h0 h1; rw [h0] at h1; cases h1
        · simp [Array.getElem?_eq_none h'] at h1
      have h2 := wpOp_putIf hoj (hfree j oj hoj e hun hnot) (fun cs b => hsel i oi cs b hi) (fun cs b => hsel j oj cs b hoj) hQ hy (H.2 j (ready_mono hj e))
      have hfree' : ∀ q oq, ops[q]? = some oq → q ≠ i → (l.setIfInBounds j true).getD q true = false → (∀ x ∈ oq.after, Region.binds md x = true → x.on ≠ i) → oi.apart ops oq = true := fun q oq hq hqi hu hno => by
        refine hfree q oq hq hqi ?_ hno
        by_cases hjq : j = q
        · subst hjq; exact hun
        · rw [getD_set_ne true hjq] at hu; exact hu
      refine wpOp_mono (fun a' w' h3 => ⟨h3.2.1, ih (l.setIfInBounds j true) a' w' hfree' (ready_mono hr (Ne.symm e)) h3.1 (h3.2.1 hjk) ?_⟩) h2
      rw [Array.setIfInBounds_comm _ _ e]
      exact h3.2.2

theorem AnyTill.take (i : Nat) {oi : Oper} {v : Value} {f : Nat} {l : Array Bool} {a : Act} {w : World} (hi : ops[i]? = some oi) (hs : Region.noSelect ops = true) (hf : Region.free md ops l i = true) (hr : (Region.ready md ops l).contains i = true) (hw : waitsFor md ops k i = true)
    (hQ : ∀ c a w, Q (.panic c) (a.put oi.dst v) w → Q (.panic c) a w) (hy : ∀ w, S w → (execOp a.eval oi).run P w = .ok (.value v) w) (hg : oi.guard = none) (hS : S w) (h : AnyTill P md ops Q S k f (l.setIfInBounds i true) (a.put oi.dst v) w) : AnyTill P md ops Q S k (f + 1) l a w :=
  AnyTill.first hi (Region.noSelect_spec hs) hQ hw f l a w (Region.free_spec hi hf) (by simpa using hr) (.inl ⟨by simp [Region.wanted, hg], hy⟩) hS h
theorem AnyTill.all {rs : List Nat} {f : Nat} {l : Array Bool} {a : Act} {w : World} (hr : Region.ready md ops l = rs) (hne : rs ≠ [])
    (h : ∀ i ∈ rs, wpOp P ops Q i (fun a' w' => (i ≠ k → S w') ∧ AnyTill P md ops Q S k f (l.setIfInBounds i true) a' w') a w) : AnyTill P md ops Q S k (f + 1) l a w :=
  ⟨fun h0 => absurd (hr ▸ h0) hne, hr ▸ h⟩
/-- one operation comes up -/
theorem AnyTill.op {i : Nat} {o : Oper} {f : Nat} {l : Array Bool} {a : Act} {w : World} (ho : ops[i]? = some o) (hg : o.guard = none)
    (h : ∀ K : Act → World → Prop, (∀ a' w', (i ≠ k → S w') → AnyTill P md ops Q S k f (l.setIfInBounds i true) a' w' → K a' w') → Oper.wp P o a w K Q) : wpOp P ops Q i (fun a' w' => (i ≠ k → S w') ∧ AnyTill P md ops Q S k f (l.setIfInBounds i true) a' w') a w := by
  unfold wpOp
  rw [ho]
  simp only [Region.wanted, hg, if_true]
  exact .inl (h _ fun a' w' h1 h2 => ⟨h1, h2⟩)
theorem AnyTill.law {i : Nat} {o : Oper} {f : Nat} {l : Array Bool} {a : Act} {w : World} (ho : ops[i]? = some o) (hg : o.guard = none)
    (h : ∀ K : Act → World → Prop, (∀ a' w', (i ≠ k → S w') → AnyTill P md ops Q S k f (l.setIfInBounds i true) a' w' → K a' w') → if Region.wanted o (yielded ops a.tmps) = true then Oper.wp P o a w K Q else False) : wpOp P ops Q i (fun a' w' => (i ≠ k → S w') ∧ AnyTill P md ops Q S k f (l.setIfInBounds i true) a' w') a w :=
  AnyTill.op ho hg fun K hK => by
    have := h K hK
    rw [if_pos (by simp [Region.wanted, hg])] at this
    exact this
theorem AnyTill.one {i : Nat} {f : Nat} {l : Array Bool} {a : Act} {w : World} (hr : Region.ready md ops l = [i]) (h : wpOp P ops Q i (fun a' w' => (i ≠ k → S w') ∧ AnyTill P md ops Q S k f (l.setIfInBounds i true) a' w') a w) : AnyTill P md ops Q S k (f + 1) l a w :=
  AnyTill.all hr (List.cons_ne_nil _ _) fun j hj => by rw [List.mem_singleton.1 hj]; exact h
theorem AnyTill.two {i j : Nat} {f : Nat} {l : Array Bool} {a : Act} {w : World} (hr : Region.ready md ops l = [i, j]) (h1 : wpOp P ops Q i (fun a' w' => (i ≠ k → S w') ∧ AnyTill P md ops Q S k f (l.setIfInBounds i true) a' w') a w) (h2 : wpOp P ops Q j (fun a' w' => (j ≠ k → S w') ∧ AnyTill P md ops Q S k f (l.setIfInBounds j true) a' w') a w) : AnyTill P md ops Q S k (f + 1) l a w :=
  AnyTill.all hr (List.cons_ne_nil _ _) fun q hq => by
    rcases List.mem_cons.1 hq with e | e
    · rw [e]; exact h1
    · rw [List.mem_singleton.1 e]; exact h2
theorem AnyTill.done {f : Nat} {l : Array Bool} {a : Act} {w : World} (hr : Region.ready md ops l = []) (h : Q .normal a w) : AnyTill P md ops Q S k f l a w := by
  cases f with
  | zero => exact ⟨hr, h⟩
  | succ f => exact ⟨fun _ => h, fun i hi => absurd (hr ▸ hi) List.not_mem_nil⟩
theorem till_begin {id : Nat} {a : Act} {w : World} (S : World → Prop) (k : Nat) (hm : P.follows .mixedOrders = true) (h : AnyTill P .any ops Q S k ops.size (Array.replicate ops.size false) a w.drew) : (Code.region id ops true).wp P Q a w :=
  wp_region_any hm (AnyTill.any _ _ _ _ h)
end
end Go.Proofs.YtecfgbjnjgjkoaaGreatDoor
namespace Go.Proofs.YtecfgbjnjgjkoaaGreatDoor.Bp
open Go.ChangeShapes Go.WideShapes Go.ChangeAt Go.RowKit Go.Proofs.YtecfgbjnjgjkoaaGreatDoor
set_option linter.unusedVariables false
set_option linter.unusedSimpArgs false
set_option maxRecDepth 20000
set_option maxHeartbeats 4000000

theorem cnt_sz : ∀ (d : Nat) (x : Tr d), 10 * cntR d x ≤ sz d x
  | 0, _ => by simp [cntR, sz]
  | d + 1, x => by
    have h : ∀ l : List (Tr d), 10 * (l.map (cntR d)).sum ≤ (l.map (sz d)).sum := fun l => by
      induction l with
      | nil => simp
      | cons y l ih =>
        have := cnt_sz d y
        simp only [List.map_cons, List.sum_cons]
        omega
    have h2 := h x.nd.l
    show 10 * (1 + (x.nd.l.map (cntR d)).sum) ≤ 10 + x.nd.t.length + (x.nd.l.map (sz d)).sum
    omega
theorem bookAt_keep {w w' : World} {pb o : Nat} {tag : Nat → Nat} {S : BookSt} (h : BookAt w pb o tag S) (hs : w.heap.size ≤ w'.heap.size) (hb : ∀ g, tag g ≠ 0 → w'.heap[g]? = w.heap[g]?) (hp : w'.heap[pb]? = w.heap[pb]?) : BookAt w' pb o tag S :=
  ⟨h.fl.same hp hs, h.hb.same hb (Nat.le_refl _), h.hu.same hb (Nat.le_refl _), fun g hg => Nat.lt_of_lt_of_le (h.un g hg) hs, h.tp, h.eb, h.eu, h.nb, h.nu, h.cnt, h.us, h.tn⟩
structure TdT (w1 W : World) (pb : Nat) (tg : Nat → Nat) (S : BookSt) (m : Int) : Prop where
  bk : BookAt W pb 0 tg S
  bud : W.heap[pb + 1]? = some (.cells #[.pointer (some ⟨pb, 0, none⟩), .int .i64 m] 50 (0, 0))
  tb : tg (pb + 1) = 0
  old : ∀ b, b < pb → tg b = 0
  kept : Kept (fun b => pb ≤ b) w1 W
  sz1 : pb ≤ w1.heap.size
/-- as long as anything is left, five for each turn have been spent -/
def Td (w1 W : World) (pb : Nat) (m : Int) : Prop := ∃ tg S, (0 ≤ m → 5 * (S.turn : Int) + m ≤ 400000) ∧ TdT w1 W pb tg S m
theorem TdT.lt {w1 W : World} {pb : Nat} {m : Int} {tg : Nat → Nat} {S : BookSt} (h : TdT w1 W pb tg S m) : pb + 1 < W.heap.size := block_lt h.bud
theorem TdT.below {w1 W W' : World} {pb : Nat} {m : Int} {tg : Nat → Nat} {S : BookSt} (h : TdT w1 W pb tg S m) (hb : Below W.heap.size W W') : TdT w1 W' pb tg S m := by
  have hN := h.lt
  exact ⟨h.bk.below hb, (hb.block _ hN).trans h.bud, h.tb, h.old, h.kept.trans (Kept.below hb), h.sz1⟩
theorem Td.below {w1 W W' : World} {pb : Nat} {m : Int} (h : Td w1 W pb m) (hb : Below W.heap.size W W') : Td w1 W' pb m := by
  obtain ⟨tg, S, ht, h⟩ := h
  exact ⟨tg, S, ht, h.below hb⟩
theorem Td.lt {w1 W : World} {pb : Nat} {m : Int} (h : Td w1 W pb m) : pb + 1 < W.heap.size := by
  obtain ⟨tg, S, ht, h⟩ := h
  exact h.lt
theorem Td.budget {w1 W : World} {pb : Nat} {m : Int} (h : Td w1 W pb m) : W.heap[pb + 1]? = some (.cells #[.pointer (some ⟨pb, 0, none⟩), .int .i64 m] 50 (0, 0)) := by
  obtain ⟨tg, S, ht, h⟩ := h
  exact h.bud
theorem Td.kept {w1 W : World} {pb : Nat} {m : Int} (h : Td w1 W pb m) : Kept (fun b => pb ≤ b) w1 W := by
  obtain ⟨tg, S, ht, h⟩ := h
  exact h.kept
theorem TdT.spend {w1 W : World} {pb : Nat} {m : Int} {tg : Nat → Nat} {S : BookSt} (h : TdT w1 W pb tg S m) (k : Int) : TdT w1 (W.setCell ⟨pb + 1, 1, none⟩ (.int .i64 k)) pb tg S k := by
  have hN := h.lt
  have sz : (W.setCell ⟨pb + 1, 1, none⟩ (.int .i64 k)).heap.size = W.heap.size := by simp
  have oth : ∀ g, g ≠ pb + 1 → (W.setCell ⟨pb + 1, 1, none⟩ (.int .i64 k)).heap[g]? = W.heap[g]? := fun g hg => Bk.setCell_else W _ _ g _ hg
  refine ⟨bookAt_keep h.bk (by omega) (fun g hg => oth g (fun e => hg (by rw [e]; exact h.tb))) (oth _ (by omega)), ?_, h.tb, h.old, h.kept.trans ⟨rfl, rfl, rfl, by omega, fun b hb hS => oth b (by omega)⟩, h.sz1⟩
  rw [Bk.setCell_block W _ 1 _ _ _ _ h.bud]; rfl
/-- Book.Look -/
theorem Td.look {w1 W : World} {pb : Nat} {m : Int} (h : Td w1 W pb m) :
    Calls Tryz.prog 56 #[.pointer (some ⟨pb, 0, none⟩)] W fun e w' => e = .returned (.bool true) ∧ Hid (Td w1 w' pb m) := by
  obtain ⟨tg, S, hS, h⟩ := h
  have hN := h.lt
  refine (look_any h.bk).mono ?_
  rintro e w' ⟨rfl, tag', S', b1, b2, b3⟩
  have kp : ∀ g, g < W.heap.size → g ≠ pb → tg g = 0 → w'.heap[g]? = W.heap[g]? ∧ tag' g = 0 := fun g h1 h2 h3 => ⟨b3.blk g h1 h3 h2, (b3.tg g h1).trans h3⟩
  refine ⟨rfl, hide ⟨tag', S', by rw [b2]; exact hS, ⟨b1, ?_, ?_, fun b hb => ?_, h.kept.trans ⟨b3.os, b3.tape, b3.output, b3.size, fun b hb hS => (kp b hb (by omega) (h.old b (by omega))).1⟩, h.sz1⟩⟩⟩
  · exact (kp _ hN (by omega) h.tb).1.trans h.bud
  · exact (kp _ hN (by omega) h.tb).2
  · exact (kp b (by omega) (by omega) (h.old b hb)).2
theorem Td.looked {w1 W : World} {pb : Nat} {m : Int} (h : Td w1 W pb m) :
    Calls Tryz.prog 32 #[.pointer (some ⟨pb + 1, 0, none⟩)] W fun e w' => e = .returned (.bool true) ∧ Hid (Td w1 w' pb m) := by
  have d0 : W.cell? ⟨pb + 1, 0, none⟩ = some (.pointer (some ⟨pb, 0, none⟩)) := by rw [cell_of_row _ _ _ _ _ _ h.budget]; rfl
  have CL : Hid (Calls Tryz.prog 56 #[.pointer (some ⟨pb, 0, none⟩)] W fun e w' => e = .returned (.bool true) ∧ Hid (Td w1 w' pb m)) := hide h.look
  clear h
  go_enter Tryz.func32, Tryz.ntmps32
  go_wp2_with (go_at_call 56; refine (unhide CL).mono ?_; rintro e w2 ⟨rfl, k2⟩)
  all_goals go_ret
  all_goals exact ⟨rfl, k2⟩
/-- Book.Reply of a reply that lies behind B -/
theorem TdT.hand {w1 W : World} {pb B d : Nat} {m : Int} {tg : Nat → Nat} {S : BookSt} {x : Tr d} {v0 v1 v2 v3 : Value} (h : TdT w1 W pb tg S m) (hD : DrAt W d (fun b => B ≤ b) x v0 v1 v2 v3) (ht : ∀ b, B ≤ b → tg b = 0) (hB : pb + 1 < B) (hd : d ≤ 10) (hz : sz d x ≤ 1099511627776) (hc : S.turn + 2 * cntR d x < 1000000) (hm : 5 * ((S.turn : Int) + 2 * (cntR d x : Nat)) + m ≤ 400000) :
    Calls Tryz.prog 55 #[.pointer (some ⟨pb, 0, none⟩), .agg #[v0, v1, v2, v3]] W fun e w' => e = .returned (.tuple #[]) ∧ Hid (Td w1 w' pb m) := by
  have hN := h.lt
  have CR : Hid (∀ W', Below W.heap.size W W' → Calls Tryz.prog 74 #[.pointer (some ⟨pb, 0, none⟩), .agg #[v0, v1, v2, v3], .int .i64 0] W' fun e w' => e = .returned (.tuple #[]) ∧ Hid (Td w1 w' pb m)) := hide (fun W' hb => by
    have h' := h.below hb
    have hN' := h'.lt
    refine (reply_any pb d x 0 W' tg S (fun b => B ≤ b) v0 v1 v2 v3 (by omega) h'.bk (hD.same (fun b _ hl => hb.block b hl)) (fun b hb' _ => ⟨ht b hb', by omega⟩) hz hc).mono ?_
    rintro e w' ⟨rfl, k⟩
    obtain ⟨tag', S', c1, c2, c3⟩ := unhide k
    have kp : ∀ g, g < W'.heap.size → g ≠ pb → tg g = 0 → g < B → w'.heap[g]? = W'.heap[g]? ∧ tag' g = 0 := fun g h1 h2 h3 h4 => c3.keep g h1 h2 h3 (by omega)
    refine ⟨rfl, hide ⟨tag', S', fun _ => by rw [c2]; omega, ⟨c1, ?_, ?_, fun b hb => ?_, h'.kept.trans ⟨c3.os, c3.tape, c3.output, c3.size, fun b hb hS => (kp b hb (by omega) (h'.old b (by omega)) (by omega)).1⟩, h'.sz1⟩⟩⟩
    · exact (kp _ hN' (by omega) h'.tb hB).1.trans h'.bud
    · exact (kp _ hN' (by omega) h'.tb hB).2
    · exact (kp b (by omega) (by omega) (h'.old b hb) (by omega)).2)
  obtain ⟨k0, k1, ta, tn, tc, la, ln, lc, rfl, rfl, rfl, rfl⟩ : ∃ (k0 k1 : Int) (ta : Option Addr) (tn tc : Nat) (la : Option Addr) (ln lc : Nat), v0 = .int .i64 k0 ∧ v1 = .int .i64 k1 ∧ v2 = .slice ta tn tc ∧ v3 = .slice la ln lc := by
    obtain ⟨d, rfl⟩ : ∃ d', d = d' + 1 := ⟨d - 1, by have := tr_pos x; omega⟩
    obtain ⟨rfl, rfl, ⟨hO, -, -⟩, f, hR, -⟩ := hD
    obtain ⟨ta, tc, rfl, -⟩ := hO.shape
    obtain ⟨la, lc, rfl⟩ := hR.shape
    exact ⟨_, _, _, _, _, _, _, _, rfl, rfl, rfl, rfl⟩
  have CR2 := hide (unhide CR _ ((Below.refl _ _).alloc (Nat.le_refl _) (.cells #[.int .i64 k0, .int .i64 k1, .slice ta tn tc, .slice la ln lc] 31)))
  clear h hD ht hc hm hz CR
  go_enter Tryz.func55, Tryz.ntmps55
  go_wp2_with (go_at_call 74; with_reducible refine (unhide CR2).mono ?_; rintro e w2 ⟨rfl, k2⟩)
  all_goals go_end0
  all_goals exact ⟨rfl, k2⟩
end Go.Proofs.YtecfgbjnjgjkoaaGreatDoor.Bp
