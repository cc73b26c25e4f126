/- record: entries, records written. -/
import Derived.Test.YtljeedgnjgeopaaWe
namespace Go.Proofs.Ytljeedgnjgeopaa
open Go.ChangeShapes Go.WideShapes Go.ChangeAt Go.RowKit
set_option linter.unusedVariables false
set_option linter.unusedSimpArgs false
set_option maxRecDepth 100000
set_option maxHeartbeats 4000000
theorem small_of {l : List Nat} (h : ∀ c ∈ l, c < 256) : Small l := fun i hi => by
  rw [List.getD_eq_getElem?_getD, List.getElem?_eq_getElem hi]
  exact h _ (List.getElem_mem hi)
/-- an entry's numbers and commands fit -/
structure OkN (E : Larder.EntP) : Prop where
  seq : E.seq < 9223372036854775808
  now : E.now < 18446744073709551616
  grp : OkG E.group
  small : ∀ a ∈ E.group, ∀ t ∈ a.2, ∀ c ∈ t, c < 256
theorem body_small {E : Larder.EntP} (h : OkN E) : ∀ c ∈ Larder.body E, c < 256 := fun c hc => by
  unfold Larder.body at hc
  simp only [List.mem_append, List.mem_flatMap] at hc
  rcases hc with hc | hc | hc | ⟨a, ha, hc⟩
  · exact Larder.bigN_small _ _ c hc
  · exact Larder.bigN_small _ _ c hc
  · exact Larder.bigN_small _ _ c hc
  · unfold Larder.encA at hc
    simp only [List.mem_append, List.mem_flatMap] at hc
    rcases hc with hc | hc | ⟨t, ht, hc⟩
    · exact Larder.bigN_small _ _ c hc
    · exact Larder.bigN_small _ _ c hc
    · unfold Larder.encT at hc
      rcases List.mem_append.1 hc with hc | hc
      · exact Larder.bigN_small _ _ c hc
      · exact h.small a ha t ht c hc
theorem head_small (b : List Nat) : ∀ c ∈ Larder.headB b, c < 256 := fun c hc => by
  unfold Larder.headB at hc
  rcases List.mem_cons.1 hc with rfl | hc
  · decide
  · exact Larder.bigN_small _ _ c hc
theorem body_len {E : Larder.EntP} (h : OkG E.group) : (Larder.body E).length ≤ 40000000 := by
  unfold Larder.body
  simp only [List.length_append, Larder.bigN_len]
  have h2 := flat_len Larder.encA 600000 E.group (fun x hx => encA_len (h.2 x hx).2.1 (h.2 x hx).2.2)
  have : E.group.length * 600000 ≤ 64 * 600000 := Nat.mul_le_mul_right _ h.1
  omega
theorem wentry (w0 W : World) (v : Value) (l : List Nat) (E : Larder.EntP) (ga : Option Addr) (gn gc : Nat) (hE : OkN E) (hg : GrpAt w0 ga E.group) (hgn : gn = E.group.length) (hN : Nw w0 W v) (hr : RB W v l) (hl : l.length ≤ 600000000000) :
    Calls Try.prog 42 #[v, .agg #[.int .i64 (E.seq : Nat), .int .u64 (E.now : Nat), .slice ga gn gc]] W (WEnd w0 W v (l ++ Larder.body E)) := by
  obtain ⟨sq, nw, g⟩ := E
  dsimp only at hg hgn ⊢
  have hb := (Below.refl W.heap.size W).alloc (Nat.le_refl _) (.cells #[.int .i64 (sq : Nat), .int .u64 (nw : Nat), .slice ga gn gc] 41)
  have hnew := heap_alloc_new W (.cells #[.int .i64 (sq : Nat), .int .u64 (nw : Nat), .slice ga gn gc] 41)
  obtain ⟨w1, hw1⟩ : ∃ w1, W.alloc (.cells #[.int .i64 (sq : Nat), .int .u64 (nw : Nat), .slice ga gn gc] 41) = w1 := ⟨_, rfl⟩
  rw [hw1] at hb hnew
  have x0 : w1.cell? ⟨W.heap.size, 0, none⟩ = some (.int .i64 (sq : Nat)) := cell_blk hnew 0
  have hs1 : sq < 9223372036854775808 := hE.seq
  have hs2 : nw < 18446744073709551616 := hE.now
  have q1 : IntKind.u64.wrap (sq : Int) = (sq : Int) := by rw [IntKind.wrap_u64]; omega
  have q2 : (sq : Int) % 18446744073709551616 = (sq : Int) := by omega
  have hvW : ∀ g, v.ownBlock = some g → g < W.heap.size := hr.lt
  have HBx : Hid (∀ V v2, Gq w1 V v v2 → V.heap[W.heap.size]? = some (.cells #[.int .i64 (sq : Nat), .int .u64 (nw : Nat), .slice ga gn gc] 41 (0, 0))) := hide (fun V v2 hg => (hg.block W.heap.size (blk_lt hnew) (fun e => by have := hvW _ e; omega)).trans hnew)
  have C1 : Calls Try.prog 43 #[v, .int .u64 (sq : Nat)] w1 (WEnd w0 w1 v (l ++ Larder.bigN 8 sq)) := w64 w0 w1 v l sq (by omega) (hN.on hb) (hr.below hb) (by omega)
  have C2 : Hid (∀ V v2, Nw w0 V v2 → RB V v2 (l ++ Larder.bigN 8 sq) → Calls Try.prog 43 #[v2, .int .u64 (nw : Nat)] V (WEnd w0 V v2 (l ++ Larder.bigN 8 sq ++ Larder.bigN 8 nw))) := hide (fun V v2 h1 h2 => w64 w0 V v2 _ nw (by omega) h1 h2 (by rw [List.length_append, Larder.bigN_len]; omega))
  have C3 : Hid (∀ V v2, Nw w0 V v2 → RB V v2 (l ++ Larder.bigN 8 sq ++ Larder.bigN 8 nw) → Calls Try.prog 53 #[v2, .slice ga gn gc, .func (.func 54) #[] #[]] V (WEnd w0 V v2 (l ++ Larder.body ⟨sq, nw, g⟩))) := hide (fun V v2 h1 h2 => by
    have := wgrp w0 V v2 _ ga gn gc g hg hgn hE.grp h1 h2 (by rw [List.length_append, List.length_append, Larder.bigN_len, Larder.bigN_len]; omega)
    rw [List.append_assoc, List.append_assoc] at this
    exact this)
  have HB := hide hb
  clear hE hg hgn hN hr hl hb hnew hvW hs1 hs2
  unfold WEnd at C1 C2 C3 ⊢
  go_enter Try.func42, Try.ntmps42
  go_wp2_with (first
    | (go_at_call 53; refine ((unhide C3) w3 _ (unhide k3).1 (unhide k3).2.1).mono ?_; rintro e w4 ⟨a4, n4, c4, rfl, e4, k4⟩; replace e4 := hide e4)
    | (go_at_call 43; refine ((unhide C2) w2 _ (unhide k2).1 (unhide k2).2.1).mono ?_; rintro e w3 ⟨a3, n3, c3, rfl, e3, k3⟩; replace e3 := hide e3; have y3 : w3.cell? ⟨W.heap.size, 2, none⟩ = some (.slice ga gn gc) := cell_blk ((unhide HBx) w3 _ ((unhide k2).2.2.trans (unhide k3).2.2)) 2)
    | (go_at_call 43; refine C1.mono ?_; clear C1; rintro e w2 ⟨a2, n2, c2, rfl, e2, k2⟩; replace e2 := hide e2; have y2 : w2.cell? ⟨W.heap.size, 1, none⟩ = some (.int .u64 (nw : Nat)) := cell_blk ((unhide HBx) w2 _ (unhide k2).2.2) 1))
  go_ret
  exact ⟨a4, n4, c4, rfl, unhide e4, hide ⟨(unhide k4).1, (unhide k4).2.1, (((Gq.of (unhide HB)).trans (unhide k2).2.2).trans (unhide k3).2.2).trans (unhide k4).2.2⟩⟩
end Go.Proofs.Ytljeedgnjgeopaa
