/- EqReply of two replies that hold the same. -/
import Derived.Test.YtfgemcmiilbodaaDoorTka
import Derived.Deep.RegionHeld3
namespace Go.Proofs.YtfgemcmiilbodaaDoor
open Go.ChangeShapes Go.WideShapes Go.ChangeAt Go.RowKit
set_option linter.unusedVariables false
set_option linter.unusedSimpArgs false
set_option maxRecDepth 100000
set_option maxHeartbeats 8000000

/-- two boxes beside all that was there -/
structure Ex2 (w V : World) (C1 C2 : Array Value) : Prop where
  bel : Below w.heap.size w V
  b1 : V.heap[w.heap.size]? = some (.cells C1 27 (0, 0))
  b2 : V.heap[w.heap.size + 1]? = some (.cells C2 27 (0, 0))
theorem Ex2.new (w : World) (C1 C2 : Array Value) : Ex2 w ((w.alloc (.cells C1 27)).alloc (.cells C2 27)) C1 C2 :=
  ⟨((Below.refl _ _).alloc (Nat.le_refl _) _).alloc (by simp) _, (heap_alloc_old _ _ (by simp)).trans (heap_alloc_new _ _), by
    have := heap_alloc_new (w.alloc (.cells C1 27)) (.cells C2 27)
    rw [World.size_alloc] at this
    exact this⟩
theorem Ex2.next {w V V' : World} {C1 C2 : Array Value} (h : Ex2 w V C1 C2) (hb : Below V.heap.size V V') : Ex2 w V' C1 C2 :=
  ⟨h.bel.trans (hb.mono h.bel.size), (hb.block _ (block_lt h.b1)).trans h.b1, (hb.block _ (block_lt h.b2)).trans h.b2⟩
theorem Ex2.drew {w V : World} {C1 C2 : Array Value} (h : Ex2 w V C1 C2) : Ex2 w V.drew C1 C2 := h.next ⟨rfl, rfl, rfl, Nat.le_refl _, fun _ _ => rfl⟩
theorem Ex2.c1 {w V : World} {C1 C2 : Array Value} (h : Ex2 w V C1 C2) (j : Nat) (v : Value) (hv : C1[j]? = some v) : V.cell? ⟨w.heap.size, j, none⟩ = some v := by rw [cell_of_row _ _ _ _ _ _ h.b1]; exact hv
theorem Ex2.c2 {w V : World} {C1 C2 : Array Value} (h : Ex2 w V C1 C2) (j : Nat) (v : Value) (hv : C2[j]? = some v) : V.cell? ⟨w.heap.size + 1, j, none⟩ = some v := by rw [cell_of_row _ _ _ _ _ _ h.b2]; exact hv
theorem eqr_walk (w : World) (k0 k1 : Int) (ta tb la lb : Option Addr) (tn tc td ln lc ld : Nat) (htn : tn ≤ 140737488351232) (hln : ln ≤ 140737488351232)
    (CC : Hid (∀ W, Below w.heap.size w W → Calls Tryd.prog 16 #[.slice ta tn tc, .slice tb tn td] W fun e w' => e = .returned (.int .i64 0) ∧ Hid (Below W.heap.size W w')))
    (CE : Hid (∀ i, i < ln → ∃ b off b' off' u0 u1 u2 u3 v0 v1 v2 v3, la = some ⟨b, off, none⟩ ∧ lb = some ⟨b', off', none⟩ ∧ (∀ W, Below w.heap.size w W → (W.cell? ⟨b, off + i * 4, none⟩ = some u0 ∧ W.cell? ⟨b, off + i * 4 + 1, none⟩ = some u1 ∧ W.cell? ⟨b, off + i * 4 + 2, none⟩ = some u2 ∧ W.cell? ⟨b, off + i * 4 + 3, none⟩ = some u3) ∧ (W.cell? ⟨b', off' + i * 4, none⟩ = some v0 ∧ W.cell? ⟨b', off' + i * 4 + 1, none⟩ = some v1 ∧ W.cell? ⟨b', off' + i * 4 + 2, none⟩ = some v2 ∧ W.cell? ⟨b', off' + i * 4 + 3, none⟩ = some v3)) ∧ ∀ W, Below w.heap.size w W → Calls Tryd.prog 11 #[.agg #[u0, u1, u2, u3], .agg #[v0, v1, v2, v3]] W fun e w' => e = .returned (.bool true) ∧ Hid (Below W.heap.size W w'))) :
    Calls Tryd.prog 11 #[.agg #[.int .i64 k0, .int .i64 k1, .slice ta tn tc, .slice la ln lc], .agg #[.int .i64 k0, .int .i64 k1, .slice tb tn td, .slice lb ln ld]] w fun e w' => e = .returned (.bool true) ∧ Hid (Below w.heap.size w w') := by
  have E0 := hide (Ex2.new w #[.int .i64 k0, .int .i64 k1, .slice ta tn tc, .slice la ln lc] #[.int .i64 k0, .int .i64 k1, .slice tb tn td, .slice lb ln ld])
  go_enter Tryd.func11, Tryd.ntmps11
  go_wp2_with (first
    | (go_at_call 16; with_reducible refine (unhide CC _ (unhide E0).bel).mono ?_; rintro e w3 ⟨rfl, h3⟩; have E3 := hide ((unhide E0).next (unhide h3)); have a3 := (unhide E3).c1 3 _ rfl; have b3 := (unhide E3).c2 3 _ rfl))
  go_loopw [5] (fun iv wr => ∃ i : Nat, iv = .int .i64 (i : Nat) ∧ i ≤ ln ∧ Hid (Ex2 w wr #[.int .i64 k0, .int .i64 k1, .slice ta tn tc, .slice la ln lc] #[.int .i64 k0, .int .i64 k1, .slice tb tn td, .slice lb ln ld])) (fun iv _ => ln - (intOf iv).toNat)
  case atStart => exact ⟨0, rfl, Nat.zero_le _, E3⟩
  case round =>
    obtain ⟨i, rfl, hi, HE⟩ := hrel
    rename World => wr
    have a4 := (unhide HE).c1 3 _ rfl
    have b4 := (unhide HE).c2 3 _ rfl
    by_cases hlt : i < ln
    · have f1 : decide ((i : Int) < (ln : Int)) = true := decide_eq_true (by omega)
      have g1 : (0 : Int) ≤ (i : Int) := by omega
      have g2 : (i : Int) < (ln : Int) := by omega
      obtain ⟨b, off, b', off', u0, u1, u2, u3, v0, v1, v2, v3, rfl, rfl, hc, hcall⟩ := unhide CE i hlt
      obtain ⟨⟨p0, p1, p2, p3⟩, q0, q1, q2, q3⟩ := hc wr (unhide HE).bel
      have CM : Hid (Calls Tryd.prog 11 #[.agg #[u0, u1, u2, u3], .agg #[v0, v1, v2, v3]] wr.drew fun e w' => e = .returned (.bool true) ∧ Hid (Ex2 w w' #[.int .i64 k0, .int .i64 k1, .slice ta tn tc, .slice (some ⟨b, off, none⟩) ln lc] #[.int .i64 k0, .int .i64 k1, .slice tb tn td, .slice (some ⟨b', off', none⟩) ln ld]) ∧ (w'.cell? ⟨w.heap.size, 3, none⟩ = some (.slice (some ⟨b, off, none⟩) ln lc) ∧ w'.cell? ⟨b, off + i * 4, none⟩ = some u0 ∧ w'.cell? ⟨b, off + i * 4 + 1, none⟩ = some u1 ∧ w'.cell? ⟨b, off + i * 4 + 2, none⟩ = some u2 ∧ w'.cell? ⟨b, off + i * 4 + 3, none⟩ = some u3 ∧ w'.cell? ⟨w.heap.size + 1, 3, none⟩ = some (.slice (some ⟨b', off', none⟩) ln ld) ∧ w'.cell? ⟨b', off' + i * 4, none⟩ = some v0 ∧ w'.cell? ⟨b', off' + i * 4 + 1, none⟩ = some v1 ∧ w'.cell? ⟨b', off' + i * 4 + 2, none⟩ = some v2 ∧ w'.cell? ⟨b', off' + i * 4 + 3, none⟩ = some v3)) := hide ((hcall wr.drew (unhide HE).drew.bel).mono (fun e w' ⟨h1, h2⟩ => by
        have hE := (unhide HE).drew.next (unhide h2)
        obtain ⟨⟨r0, r1, r2, r3⟩, s0, s1, s2, s3⟩ := hc w' hE.bel
        exact ⟨h1, hide hE, hE.c1 3 _ rfl, r0, r1, r2, r3, hE.c2 3 _ rfl, s0, s1, s2, s3⟩))
      clear hc hcall CC CE E0
      go_wp2_with fail
      go_region_held3 (fun w' => w'.cell? ⟨w.heap.size, 3, none⟩ = some (.slice (some ⟨b, off, none⟩) ln lc) ∧ w'.cell? ⟨b, off + i * 4, none⟩ = some u0 ∧ w'.cell? ⟨b, off + i * 4 + 1, none⟩ = some u1 ∧ w'.cell? ⟨b, off + i * 4 + 2, none⟩ = some u2 ∧ w'.cell? ⟨b, off + i * 4 + 3, none⟩ = some u3 ∧ w'.cell? ⟨w.heap.size + 1, 3, none⟩ = some (.slice (some ⟨b', off', none⟩) ln ld) ∧ w'.cell? ⟨b', off' + i * 4, none⟩ = some v0 ∧ w'.cell? ⟨b', off' + i * 4 + 1, none⟩ = some v1 ∧ w'.cell? ⟨b', off' + i * 4 + 2, none⟩ = some v2 ∧ w'.cell? ⟨b', off' + i * 4 + 3, none⟩ = some v3) (first | exact s7 | go_keep) (first
        | (go_at_call 11; with_reducible refine (unhide CM).mono ?_; rintro e w7 ⟨rfl, k7, s7⟩))
      all_goals go_wp2
      all_goals go_roundw
      all_goals first | exact ⟨i + 1, rfl, by omega, k7⟩ | exact ⟨i + 1, by go_num, by omega, k7⟩ | (simp [intOf]; omega)
    · obtain rfl : i = ln := by omega
      have f1 : decide ((i : Int) < (i : Int)) = false := decide_eq_false (by omega)
      go_wp2
      go_ret
      exact ⟨rfl, hide (unhide HE).bel⟩
/-- EqReply of two replies that are one tree -/
theorem eqr_any : ∀ (d : Nat) (x : Tr d) (w0 w : World) (u0 u1 u2 u3 v0 v1 v2 v3 : Value), RpAt w0 d x u0 u1 u2 u3 → RpAt w0 d x v0 v1 v2 v3 → Below w0.heap.size w0 w → Calls Tryd.prog 11 #[.agg #[u0, u1, u2, u3], .agg #[v0, v1, v2, v3]] w fun e w' => e = .returned (.bool true) ∧ Hid (Below w.heap.size w w')
  | 0, _, _, _, _, _, _, _, _, _, _, _, h, _, _ => absurd h id
  | d + 1, x, w0, w, u0, u1, u2, u3, v0, v1, v2, v3, hu, hv, hb => by
    obtain ⟨⟨rfl, -⟩, ⟨rfl, -⟩, ⟨ta, tc, rfl, hB, hS, htn, htc⟩, la, lc, rfl, hln, hat⟩ := hu
    obtain ⟨⟨rfl, -⟩, ⟨rfl, -⟩, ⟨tb, td, rfl, hB', -, -, -⟩, lb, ld, rfl, -, hat'⟩ := hv
    refine eqr_walk w _ _ ta tb la lb _ tc td _ lc ld htn hln (hide (fun W hW => ?_)) (hide (fun i hi => ?_))
    · have h := cmp_any (c1 := tc) (c2 := td) (by omega) (by omega) (hB.below (hb.trans (hW.mono hb.size))) (hB'.below (hb.trans (hW.mono hb.size)))
      rw [Larder.cmpL_self] at h
      exact h.mono (fun e w' k => ⟨k.1, hide k.2.below⟩)
    · rcases hat with e | ⟨b, off, rfl, hlt, hc⟩
      · rw [e] at hi; simp at hi
      rcases hat' with e | ⟨b', off', rfl, hlt', hc'⟩
      · rw [e] at hi; simp at hi
      obtain ⟨y, hy⟩ : ∃ y, x.nd.l[i]? = some y := ⟨_, List.getElem?_eq_getElem hi⟩
      obtain ⟨a0, a1, a2, a3, p0, p1, p2, p3, hr⟩ := hc i y hy
      obtain ⟨c0, c1, c2, c3, q0, q1, q2, q3, hr'⟩ := hc' i y hy
      refine ⟨b, off, b', off', a0, a1, a2, a3, c0, c1, c2, c3, rfl, rfl, fun W hW => ?_, fun W hW => eqr_any d y w0 W a0 a1 a2 a3 c0 c1 c2 c3 hr hr' (hb.trans (hW.mono hb.size))⟩
      have hW0 := hb.trans (hW.mono hb.size)
      exact ⟨⟨by rw [hW0.cell (show b < _ from hlt)]; exact p0, by rw [hW0.cell (show b < _ from hlt)]; exact p1, by rw [hW0.cell (show b < _ from hlt)]; exact p2, by rw [hW0.cell (show b < _ from hlt)]; exact p3⟩, by rw [hW0.cell (show b' < _ from hlt')]; exact q0, by rw [hW0.cell (show b' < _ from hlt')]; exact q1, by rw [hW0.cell (show b' < _ from hlt')]; exact q2, by rw [hW0.cell (show b' < _ from hlt')]; exact q3⟩
end Go.Proofs.YtfgemcmiilbodaaDoor
