/- WireBack: the law. -/
import Derived.Test.YtfgemcmiilbodaaDoorBkg
import Derived.Test.YtfgemcmiilbodaaDoorTke
namespace Go.Proofs.YtfgemcmiilbodaaDoor
open Go.ChangeShapes Go.WideShapes Go.ChangeAt Go.RowKit
set_option linter.unusedVariables false
set_option linter.unusedSimpArgs false
set_option maxRecDepth 100000
set_option maxHeartbeats 8000000

theorem RpAt.rng {w : World} : ∀ {d : Nat} {x : Tr d} {v0 v1 v2 v3 : Value}, RpAt w d x v0 v1 v2 v3 → RngN d x
  | 0, _, _, _, _, _, h => trivial
  | d + 1, x, v0, v1, v2, v3, ⟨h0, h1, h2, a, c, h3, h4, h5⟩ => by
    refine ⟨h1.2, fun y hy => ?_⟩
    rcases h5 with h | ⟨b, off, e, hlt, hc⟩
    · rw [h] at hy; cases hy
    · obtain ⟨i, hi⟩ := List.getElem?_of_mem hy
      obtain ⟨u0, u1, u2, u3, c0, c1, c2, c3, r⟩ := hc i y hi
      exact r.rng
/-- the law's world: its argument's box, the reply made fit -/
structure Bk2 (W V : World) (C : Array Value) (G g3 : Nat) (X : Tr 9) (k0 k1 : Int) (ta : Option Addr) (tn tc : Nat) (la : Option Addr) (ln lc : Nat) : Prop where
  bel : Below W.heap.size W V
  box : V.heap[W.heap.size]? = some (.cells C 38 (0, 0))
  b3 : V.heap[g3]? = some (.cells #[.int .i64 k0, .int .i64 k1, .slice ta tn tc, .slice la ln lc] 27 (0, 0))
  dr : DrAt V 9 (fun b => b < G) X (.int .i64 k0) (.int .i64 k1) (.slice ta tn tc) (.slice la ln lc)
  l1 : W.heap.size < G
  l3 : g3 < G
  lg : G ≤ V.heap.size
theorem Bk2.keep {W V V' : World} {C : Array Value} {G g3 : Nat} {X : Tr 9} {k0 k1 : Int} {ta : Option Addr} {tn tc : Nat} {la : Option Addr} {ln lc : Nat} (h : Bk2 W V C G g3 X k0 k1 ta tn tc la ln lc) (hb : Below G V V') : Bk2 W V' C G g3 X k0 k1 ta tn tc la ln lc :=
  ⟨h.bel.trans (hb.mono (Nat.le_of_lt h.l1)), (hb.block _ h.l1).trans h.box, (hb.block _ h.l3).trans h.b3, h.dr.same (fun b hb' _ => hb.block b hb'), h.l1, h.l3, Nat.le_trans h.lg hb.size⟩
theorem Bk2.next {W V V' : World} {C : Array Value} {G g3 : Nat} {X : Tr 9} {k0 k1 : Int} {ta : Option Addr} {tn tc : Nat} {la : Option Addr} {ln lc : Nat} (h : Bk2 W V C G g3 X k0 k1 ta tn tc la ln lc) (hb : Below V.heap.size V V') : Bk2 W V' C G g3 X k0 k1 ta tn tc la ln lc := h.keep (hb.mono h.lg)
theorem Bk2.nextA {W V V' : World} {C : Array Value} {G g3 : Nat} {X : Tr 9} {k0 k1 : Int} {ta : Option Addr} {tn tc : Nat} {la : Option Addr} {ln lc : Nat} (h : Bk2 W V C G g3 X k0 k1 ta tn tc la ln lc) (hb : Below V.heap.size V V') (o : Obj) : Bk2 W (V'.alloc o) C G g3 X k0 k1 ta tn tc la ln lc := (h.next hb).next ((Below.refl _ _).alloc (Nat.le_refl _) _)
theorem Bk2.c {W V : World} {C : Array Value} {G g3 : Nat} {X : Tr 9} {k0 k1 : Int} {ta : Option Addr} {tn tc : Nat} {la : Option Addr} {ln lc : Nat} (h : Bk2 W V C G g3 X k0 k1 ta tn tc la ln lc) (j : Nat) (v : Value) (hv : C[j]? = some v) : V.cell? ⟨W.heap.size, j, none⟩ = some v := by rw [cell_of_row _ _ _ _ _ _ h.box]; exact hv
theorem Bk2.d {W V : World} {C : Array Value} {G g3 : Nat} {X : Tr 9} {k0 k1 : Int} {ta : Option Addr} {tn tc : Nat} {la : Option Addr} {ln lc : Nat} (h : Bk2 W V C G g3 X k0 k1 ta tn tc la ln lc) (j : Nat) (v : Value) (hv : (#[.int .i64 k0, .int .i64 k1, .slice ta tn tc, .slice la ln lc] : Array Value)[j]? = some v) : V.cell? ⟨g3, j, none⟩ = some v := by rw [cell_of_row _ _ _ _ _ _ h.b3]; exact hv
theorem Bk2.start {W w3 : World} {C : Array Value} {X : Tr 9} {k0 k1 : Int} {ta : Option Addr} {tn tc : Nat} {la : Option Addr} {ln lc : Nat} (h1 : Below (W.alloc (.cells C 38)).heap.size (W.alloc (.cells C 38)) w3) (h2 : DrAt w3 9 (fun b => (W.alloc (.cells C 38)).heap.size ≤ b) X (.int .i64 k0) (.int .i64 k1) (.slice ta tn tc) (.slice la ln lc)) :
    Bk2 W (w3.alloc (.cells #[.int .i64 k0, .int .i64 k1, .slice ta tn tc, .slice la ln lc] 27)) C (w3.heap.size + 1) w3.heap.size X k0 k1 ta tn tc la ln lc := by
  have hs : (W.alloc (.cells C 38)).heap.size = W.heap.size + 1 := World.size_alloc _ _
  have h3 := h1.size
  have hb : Below W.heap.size W (w3.alloc (.cells #[.int .i64 k0, .int .i64 k1, .slice ta tn tc, .slice la ln lc] 27)) := ((Below.refl _ _).alloc (Nat.le_refl _) _).trans ((h1.mono (by omega)).trans ((Below.refl _ _).alloc (by omega) _))
  refine ⟨hb, ?_, heap_alloc_new _ _, (h2.tight.same (fun b _ hlt => heap_alloc_old _ _ hlt)).mono (fun b hb => by omega), by omega, by omega, by simp⟩
  rw [heap_alloc_old _ _ (by omega), h1.block _ (by omega)]
  exact heap_alloc_new _ _
theorem spell_small' (n : Int) : Small (Larder.spellI n) := fun i hi => by
  unfold Larder.spellI at hi ⊢
  exact Larder.nums_small _ i hi
theorem small_app' {l m : List Nat} (hl : Small l) (hm : Small m) : Small (l ++ m) := hl.app hm
theorem small_flat {α : Type} (f : α → List Nat) : ∀ (l : List α), (∀ y ∈ l, Small (f y)) → Small (l.map f).flatten
  | [], _ => small_nil
  | x :: l, h => (h x (List.mem_cons_self ..)).app (small_flat f l (fun y hy => h y (List.mem_cons_of_mem _ hy)))
theorem small_one (c : Nat) (h : c < 256) : Small [c] := fun i hi => by
  obtain rfl : i = 0 := by simpa using hi
  exact h
theorem small_crlf : Small [13, 10] := (small_one 13 (by decide)).app (small_one 10 (by decide))
theorem encL_small {w : World} : ∀ {d : Nat} {S : Nat → Prop} {x : Tr d} {v0 v1 v2 v3 : Value}, DrAt w d S x v0 v1 v2 v3 → Small (encL d x)
  | 0, _, _, _, _, _, _, h => absurd h id
  | d + 1, S, x, v0, v1, v2, v3, ⟨h0, h1, ⟨h2, h3, h4⟩, f, h5, h6, h7⟩ => by
    have hf : Small (x.nd.l.map (encL d)).flatten := small_flat _ _ (fun y hy => by
      obtain ⟨i, hi⟩ := List.getElem?_of_mem hy
      exact encL_small (h7 i y hi))
    have hn : ∀ mk n, mk < 256 → Small (numL mk n) := fun mk n hmk => ((small_one mk hmk).app (spell_small' n)).app small_crlf
    show Small (encK _ _ _ _ _)
    unfold encK
    split
    · exact ((small_one 43 (by decide)).app h3).app small_crlf
    split
    · exact ((small_one 45 (by decide)).app h3).app small_crlf
    split
    · exact hn _ _ (by decide)
    split
    · exact ((hn 36 _ (by decide)).app h3).app small_crlf
    split
    · exact hn _ _ (by decide)
    split
    · exact hn _ _ (by decide)
    · exact (hn _ _ (by decide)).app hf
theorem back_law (W : World) (d : Nat) (x : Tr d) (v0 v1 v2 v3 : Value) (ja : Option Addr) (jc : Nat) (J : List Nat) (cut : Int) (hU : UOk W) (hT : Tab W) (hx : RpAt W d x v0 v1 v2 v3) (hs : sz d x ≤ 4194304) (hJ : Bytes W ja J) (hJs : Small J) (hJn : J.length ≤ 1048576) (hc1 : -9223372036854775808 ≤ cut) (hc2 : cut ≤ 9223372036854775807) :
    Calls Tryd.prog 4 #[.agg #[v0, v1, v2, v3, .slice ja J.length jc, .int .i64 cut]] W fun e w' => e = .returned (.bool true) ∧ Hid (Below W.heap.size W w') := by
  obtain ⟨q5, q4, qs⟩ := fitT_ok d x 8 (Nat.le_refl _) hx.rng
  have B0 : Below W.heap.size W (W.alloc (.cells #[v0, v1, v2, v3, .slice ja J.length jc, .int .i64 cut] 38)) := (Below.refl _ _).alloc (Nat.le_refl _) _
  have CF := hide (fitr_any d x W (W.alloc (.cells #[v0, v1, v2, v3, .slice ja J.length jc, .int .i64 cut] 38)) 8 v0 v1 v2 v3 hx B0 (Nat.le_refl _))
  rw [show ((8 - 8 : Nat) : Int) = 0 from rfl] at CF
  obtain ⟨X, hX⟩ : ∃ X : Tr 9, X = fitT d x 8 := ⟨_, rfl⟩
  have q5' : fitB 9 X 0 = true := by rw [hX]; exact q5
  have q4' : RngN 9 X := by rw [hX]; exact q4
  have qs' : sz 9 X ≤ 4194304 := by rw [hX]; exact Nat.le_trans qs hs
  rw [← hX] at CF
  clear hX q5 q4 qs
  have hfs := fit_size 9 X 0 q5'
  have hs10 := sz_ten 9 X (by decide)
  obtain ⟨p, hp⟩ : ∃ p, (encL 9 X).length = p + 1 := ⟨(encL 9 X).length - 1, by omega⟩
  have hp2 : 2 ≤ p := by omega
  have hEU : outE 9 X = encL 9 X ∧ errE 9 X = 0 := by
    unfold outE errE
    rw [if_pos q5', if_pos q5']
    exact ⟨rfl, rfl⟩
  have CE : Hid (∀ V G g3 k0 k1 ta tn tc la ln lc, Bk2 W V #[v0, v1, v2, v3, .slice ja J.length jc, .int .i64 cut] G g3 X k0 k1 ta tn tc la ln lc → Calls Tryd.prog 7 #[.agg #[.int .i64 k0, .int .i64 k1, .slice ta tn tc, .slice la ln lc]] V fun e w' => ∃ va vc, e = .returned (.tuple #[.slice va (p + 1) vc, .int .i64 0]) ∧ Hid (p + 1 ≤ 12582912 ∧ Gro V w' V.heap.size (.slice va (p + 1) vc) (p + 1) (encL 9 X))) := hide (fun V G g3 k0 k1 ta tn tc la ln lc h => by
    have hrp := h.dr.rp 0 q5' q4'
    have hlen := encL_len 9 X hrp.num
    have he := encode_any V (hT.below h.bel) (UOk.below _ _ hU h.bel) 9 X _ _ _ _ hrp (by omega)
    rw [hEU.1, hEU.2, hp] at he
    exact he.mono (fun e w' ⟨va, vc, h1, h2⟩ => ⟨va, vc, h1, hide ⟨by omega, unhide h2⟩⟩))
  have CJ : Hid (∀ V G g3 k0 k1 ta tn tc la ln lc, Bk2 W V #[v0, v1, v2, v3, .slice ja J.length jc, .int .i64 cut] G g3 X k0 k1 ta tn tc la ln lc → Bytes V ja J) := hide (fun V G g3 k0 k1 ta tn tc la ln lc h => hJ.below h.bel)
  have AP : Hid (∀ V w7 va vc v8 w8 G g3 k0 k1 ta tn tc la ln lc, Bk2 W V #[v0, v1, v2, v3, .slice ja J.length jc, .int .i64 cut] G g3 X k0 k1 ta tn tc la ln lc → Gro V w7 V.heap.size (.slice va (p + 1) vc) (p + 1) (encL 9 X) → Rws w8 5 1 v8 (p + 1 + J.length) (fun k => if k < p + 1 then byV (encL 9 X) k else byV J (k - (p + 1))) → Gw w7 w8 (.slice va (p + 1) vc) v8 → Rws w8 5 1 (.slice va (p + 1) vc) (p + 1) (byV (encL 9 X)) → (Bk2 W w8 #[v0, v1, v2, v3, .slice ja J.length jc, .int .i64 cut] G g3 X k0 k1 ta tn tc la ln lc) ∧ Gro V w8 V.heap.size v8 (p + 1 + J.length) (encL 9 X ++ J) ∧ Rws w8 5 1 (.slice va (p + 1) vc) (p + 1) (byV (encL 9 X))) := hide (fun V w7 va vc v8 w8 G g3 k0 k1 ta tn tc la ln lc h k2 k4 k5 k6 => by
    have hg := k2.app k4 k5
    have hlg := h.lg
    exact ⟨h.keep (hg.bel.mono hlg), hg, k6⟩)
  have CD : Hid (∀ V w8 a8 c8 G g3 k0 k1 ta tn tc la ln lc, (Bk2 W w8 #[v0, v1, v2, v3, .slice ja J.length jc, .int .i64 cut] G g3 X k0 k1 ta tn tc la ln lc) → Gro V w8 V.heap.size (.slice a8 (p + 1 + J.length) c8) (p + 1 + J.length) (encL 9 X ++ J) → p + 1 ≤ 12582912 → Calls Tryd.prog 5 #[.slice a8 (p + 1 + J.length) c8] w8 fun e w' => ∃ (k0 k1 : Int) (ta : Option Addr) (tn tc : Nat) (la : Option Addr) (ln lc : Nat), e = .returned (.tuple #[.agg #[.int .i64 k0, .int .i64 k1, .slice ta tn tc, .slice la ln lc], .int .i64 ((p : Int) + 1), .int .i64 0]) ∧ Hid (Below w8.heap.size w8 w' ∧ DrAt w' 9 (fun b => w8.heap.size ≤ b) X (.int .i64 k0) (.int .i64 k1) (.slice ta tn tc) (.slice la ln lc))) := hide (fun V w8 a8 c8 G g3 k0 k1 ta tn tc la ln lc h hg hpl => by
    have hl := hg.len
    have hrow := hg.row
    have hES : Small (encL 9 X) := encL_small h.dr
    have hin : DecIn w8 a8 (p + 1 + J.length) c8 (encL 9 X ++ J) := by
      obtain ⟨a3, c3, e3, hB3, _⟩ := Rws.bytes (l := encL 9 X ++ J) (by rw [← hl]; exact hrow)
      rw [← hl] at e3
      cases e3
      rcases hrow with ⟨e, e0⟩ | ⟨g, cap, cur, e, hgb, hnc, hcm, _⟩
      · omega
      · cases e
        exact ⟨hB3, hES.app hJs, hl, hnc, by simp only [maxLen] at hcm; omega, by omega, fun b' off' e _ => by cases e; exact block_lt hgb⟩
    exact dec_ok hin (UOk.below _ _ hU h.bel) p (rep_back 9 X J (by omega) q5' q4') rfl)
  have CQ : Hid (∀ V G g3 k0 k1 ta tn tc la ln lc, Bk2 W V #[v0, v1, v2, v3, .slice ja J.length jc, .int .i64 cut] G g3 X k0 k1 ta tn tc la ln lc → ∀ (S : Nat → Prop) (r0 r1 : Int) (xa : Option Addr) (xn xc : Nat) (za : Option Addr) (zn zc : Nat), DrAt V 9 S X (.int .i64 r0) (.int .i64 r1) (.slice xa xn xc) (.slice za zn zc) → Calls Tryd.prog 11 #[.agg #[.int .i64 r0, .int .i64 r1, .slice xa xn xc, .slice za zn zc], .agg #[.int .i64 k0, .int .i64 k1, .slice ta tn tc, .slice la ln lc]] V fun e w' => e = .returned (.bool true) ∧ Hid (Below V.heap.size V w')) := hide (fun V G g3 k0 k1 ta tn tc la ln lc h S r0 r1 xa xn xc za zn zc h2 => eqr_any 9 X V V _ _ _ _ _ _ _ _ (h2.rp 0 q5' q4') (h.dr.rp 0 q5' q4') (Below.refl _ _))
  have CS : Hid (∀ V va vc q G g3 k0 k1 ta tn tc la ln lc, Bk2 W V #[v0, v1, v2, v3, .slice ja J.length jc, .int .i64 cut] G g3 X k0 k1 ta tn tc la ln lc → Rws V 5 1 (.slice va (p + 1) vc) (p + 1) (byV (encL 9 X)) → q < p + 1 → p + 1 ≤ 12582912 → Calls Tryd.prog 5 #[.slice va q vc] V fun e w' => ∃ (tc lc : Nat), e = .returned (.tuple #[.agg #[.int .i64 0, .int .i64 0, .slice none 0 tc, .slice none 0 lc], .int .i64 0, .int .i64 86]) ∧ Hid (Below V.heap.size V w')) := hide (fun V va vc q G g3 k0 k1 ta tn tc la ln lc h hr hq hpl => by
    have hES : Small (encL 9 X) := encL_small h.dr
    obtain ⟨a3, c3, e3, hB3, _⟩ := Rws.bytes (l := encL 9 X) (by rw [hp]; exact hr)
    rw [hp] at e3
    cases e3
    rcases hr with ⟨e, e0⟩ | ⟨g, cap, cur, e, hgb, hnc, hcm, _⟩
    · omega
    · cases e
      have hin : DecIn V (some ⟨g, 0, none⟩) (p + 1) vc (encL 9 X) := ⟨hB3, hES, hp.symm, hnc, by simp only [maxLen] at hcm; omega, by omega, fun b' off' e _ => by cases e; exact block_lt hgb⟩
      refine dec_zero (hin.first q (by omega)) (UOk.below _ _ hU h.bel) ?_
      refine (repP_grows 9).cut (b := (encL 9 X).take q) (c := (encL 9 X).drop q) (x := X) (r := []) ?_ (by rw [List.length_drop]; simp; omega)
      rw [List.take_append_drop]
      have := rep_back 9 X [] (by omega) q5' q4'
      rw [List.append_nil] at this
      exact this)
  have CW : Hid (∀ V, p + 1 ≤ 12582912 → Calls Tryd.prog 12 #[.int .i64 cut, .int .i64 ((p : Int) + 1)] V fun e w' => ∃ q : Nat, e = .returned (.int .i64 (q : Nat)) ∧ q < p + 1 ∧ V = w') := hide (fun V hpl => by
    have h := within_any V cut (p + 1) (by omega) (by omega) hc1 hc2
    rw [show (((p + 1 : Nat) : Int)) = (p : Int) + 1 by omega] at h
    exact h)
  have CZ : Hid (∀ V tc lc, Calls Tryd.prog 11 #[.agg #[.int .i64 0, .int .i64 0, .slice none 0 tc, .slice none 0 lc], .agg #[.int .i64 0, .int .i64 0, .slice none 0 0, .slice none 0 0]] V fun e w' => e = .returned (.bool true) ∧ Hid (Below V.heap.size V w')) := hide (fun V tc lc => eqr_zero V tc lc)
  have LV : Hid (∀ V va vc, Rws V 5 1 (.slice va (p + 1) vc) (p + 1) (byV (encL 9 X)) → p + 1 ≤ vc) := hide (fun V va vc h => by
    rcases h with ⟨e, e0⟩ | ⟨_, _, _, e, _, hnc, _⟩
    · omega
    · cases e; exact hnc)
  have CN : Hid (∀ V (y : Int), Calls Tryd.prog 6 #[.int .i64 y] V fun e w' => e = .returned (.int .i64 y) ∧ V = w') := hide (fun V y => (num_any V y).mono (fun e w' h => ⟨h.1, h.2.symm⟩))
  obtain ⟨i5, hi5, hz5, hs5, hb5⟩ := info_partsS Tryd.info5s
  have g1 : decide ((p : Int) + 1 < 3) = false := decide_eq_false (by omega)
  unfold FtEnd at CF
  clear hU hT hx hs hJ hJs hc1 hc2 q5' q4' qs' hfs hs10 hp hEU B0
  go_enter Tryd.func4, Tryd.ntmps4
  go_wp2_with (first
    | (go_at_call 10; with_reducible refine (unhide CF).mono ?_; rintro e w3 ⟨k0, k1, ta, tn, tc, la, ln, lc, rfl, h3⟩; have K3 := hide (Bk2.start (unhide h3).1 (unhide h3).2))
    | (go_at_call 6; with_reducible refine (unhide CN _ _).mono ?_; rintro e w6 ⟨rfl, h6⟩; subst h6)
    | (go_at_call 7; with_reducible refine (unhide CE _ _ _ _ _ _ _ _ _ _ _ (unhide K3)).mono ?_; rintro e w7 ⟨va, vc, rfl, h7⟩; have K7 := hide ((unhide K3).next (unhide h7).2.bel); have j7 := (unhide K7).c 4 _ rfl; have pl := (unhide h7).1)
    | (at_builtin; refine append_keep rfl _ _ 22 rfl i5 Tryd.underlying22 hi5 hz5 hs5 hb5 (.slice va (p + 1) vc) (p + 1) (byV (encL 9 X)) rfl (unhide h7).2.row ja jc J rfl (unhide CJ _ _ _ _ _ _ _ _ _ _ _ (unhide K7)) (by omega) ?_; intro v8 w8 q1 q2 q3; have H8 := hide (unhide AP _ _ _ _ _ _ _ _ _ _ _ _ _ _ _ _ (unhide K3) (unhide h7).2 q1 q2 q3); obtain ⟨a8, c8, rfl⟩ := q1.shape; clear q1 q2 q3)
    | (go_at_call 5; with_reducible refine (unhide CD _ _ _ _ _ _ _ _ _ _ _ _ _ _ (unhide H8).1 (unhide H8).2.1 pl).mono ?_; rintro e w9 ⟨r0, r1, xa, xn, xc, za, zn, zc, rfl, h9⟩; have K9 := hide ((unhide H8).1.nextA (unhide h9).1 (.cells #[.int .i64 r0, .int .i64 r1, .slice xa xn xc, .slice za zn zc] 27)); have D9 := hide ((unhide h9).2.same (w' := w9.alloc (.cells #[.int .i64 r0, .int .i64 r1, .slice xa xn xc, .slice za zn zc] 27)) (fun b _ hb => heap_alloc_old _ _ hb)); have R9 := hide (((unhide H8).2.2.below (unhide h9).1).below ((Below.refl _ _).alloc (Nat.le_refl _) (.cells #[.int .i64 r0, .int .i64 r1, .slice xa xn xc, .slice za zn zc] 27))); have m0 := (unhide K9).d 0 _ rfl; have m1 := (unhide K9).d 1 _ rfl; have m2 := (unhide K9).d 2 _ rfl; have m3 := (unhide K9).d 3 _ rfl)
    | (go_at_call 11; with_reducible refine (unhide CQ _ _ _ _ _ _ _ _ _ _ _ (unhide K9) _ _ _ _ _ _ _ _ _ (unhide D9)).mono ?_; rintro e w11 ⟨rfl, h11⟩; have K11 := hide ((unhide K9).next (unhide h11)); have R11 := hide ((unhide R9).below (unhide h11)); have j11 := (unhide K11).c 5 _ rfl; have lv := unhide LV _ _ _ (unhide R11))
    | (go_at_call 12; with_reducible refine (unhide CW _ pl).mono ?_; rintro e w12 ⟨q, rfl, hq, h12⟩; subst h12; have hq1 : (0 : Int) ≤ (q : Int) := (by omega); have hq2 : (q : Int) ≤ (vc : Int) := (by omega))
    | (go_at_call 5; with_reducible refine (unhide CS _ _ _ _ _ _ _ _ _ _ _ _ _ _ (unhide K11) (unhide R11) hq pl).mono ?_; rintro e w13 ⟨sc, tc2, rfl, h13⟩; have K13 := hide ((unhide K11).nextA (unhide h13) (.cells #[.int .i64 0, .int .i64 0, .slice none 0 sc, .slice none 0 tc2] 27)))
    | (go_at_call 11; with_reducible refine (unhide CZ _ _ _).mono ?_; rintro e w14 ⟨rfl, h14⟩; have K14 := hide ((unhide K13).next (unhide h14))))
  go_ret
  exact ⟨rfl, hide (unhide K14).bel⟩
end Go.Proofs.YtfgemcmiilbodaaDoor
