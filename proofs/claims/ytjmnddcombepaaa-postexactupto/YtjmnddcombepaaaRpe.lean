/- Pieces. -/
import Derived.Test.YtjmnddcombepaaaRpd
namespace Go.Proofs.Ytjmnddcombepaaa
open Go.ChangeShapes Go.WideShapes Go.ChangeAt Go.RowKit
set_option linter.unusedVariables false
set_option maxRecDepth 20000
set_option maxHeartbeats 2000000

/-- the pieces that have been read so far -/
structure Pr (w W : World) (lv : Value) (L : List (Option (Nat → Bool))) : Prop where
  bel : Below w.heap.size w W
  own : ∃ xs, W.ownsRow w.heap.size 128 257 lv L.length xs ∧ Larder.PsL xs L
/-- one more -/
theorem Pr.more {w W w1 w2 : World} {g : Nat} {C : Array Value} {lv v' : Value} {L : List (Option (Nat → Bool))} {xs : List Value} {s : Bool} {f : Nat → Bool} (h : Pst w W g C lv L.length xs) (hx : Larder.PsL xs L) (hC : IsP C s f) (x : Option (Nat → Bool)) (hn : x.isNone = s) (hf : ∀ g, x = some g → ∀ c, c < 256 → f c = g c)
    (h1 : w1.heap[W.heap.size]? = some (.cells C 128 (0, 0)) ∧ w1.heap.size = W.heap.size + 1 ∧ Below W.heap.size W w1) (h2 : w2.ownsRow w.heap.size 128 257 v' (L.length + 1) (xs ++ C.toList)) (h3 : w1.grownBy w2 lv.ownBlock) : Pr w w2 v' (L ++ [x]) := by
  have hb := h.bel.size
  have hb1 : Below w.heap.size w w1 := h.bel.trans (h1.2.2.mono hb)
  refine ⟨hb1.grown h3 (by have := h1.2.1; omega) (fun k hk => (own_lt h.own k hk).2), xs ++ C.toList, ?_, psl_snoc hx hC x hn hf⟩
  rw [List.length_append]
  exact h2
theorem Pst.box {w W w1 : World} {g : Nat} {C : Array Value} {lv : Value} {n : Nat} {xs : List Value} (h : Pst w W g C lv n xs) (h1 : w1.heap[W.heap.size]? = some (.cells C 128 (0, 0)) ∧ w1.heap.size = W.heap.size + 1 ∧ Below W.heap.size W w1) : w1.ownsRow w.heap.size 128 257 lv n xs ∧ w.heap.size ≤ w1.heap.size :=
  ⟨own_same h.own (fun k hk => h1.2.2.block k (own_lt h.own k hk).1), by have := h.bel.size; have := h1.2.1; omega⟩
theorem parse_min (p : List Nat) (n N : Nat) : Larder.parseK p n (min N p.length) = Larder.parseK p n N := by
  by_cases h : N ≤ p.length
  · rw [Nat.min_eq_left h]
  · rw [Nat.min_eq_right (by omega), Larder.parseK_done p n p.length (Nat.lt_irrefl _), Larder.parseK_done p n N (by omega)]

theorem rpieces_in (b off : Nat) (cap : Nat) (w : World) (p : List Nat) (hl : p.length ≤ 1073741824) (hs : Small p) (hb : b < w.heap.size) (hc : ∀ i, i < p.length → w.cell? ⟨b, off + i, none⟩ = some (.int .u8 (p.getD i 0 : Nat))) :
    Calls Try.prog 74 #[.slice (some ⟨b, off, none⟩) p.length cap] w fun e w' => ∃ v, e = .returned v ∧ Pr w w' v (Larder.parse p) := by
  have HP := hide hc
  have HS := hide hs
  have BY : Hid (∀ W, Below w.heap.size w W → Bytes W (some ⟨b, off, none⟩) p) := hide (fun W h => Bytes.at_below hb hc h)
  have CL : Hid (∀ W k, Hid (Below w.heap.size w W) → k < p.length → Calls Try.prog 89 #[.slice (some ⟨b, off, none⟩) p.length cap, .int .i64 (k : Nat)] W fun e w' => ∃ (C : Array Value) (N : Nat), e = .returned (.tuple #[.agg C, .int .i64 (N : Nat)]) ∧ Hid (IsP C false (Larder.clsAt p (k + 1)).1 ∧ min N p.length = (Larder.clsAt p (k + 1)).2 ∧ k < N ∧ N ≤ p.length + 1 ∧ Below W.heap.size W w')) := hide (fun W k h hk => rclass_any b off cap W p k hl hs (Nat.lt_of_lt_of_le hb (unhide h).size) (fun i hi => ((unhide h).cell (p := ⟨b, off + i, none⟩) hb).trans (hc i hi)) hk)
  obtain ⟨R, hR⟩ : ∃ R, Larder.parse p = R := ⟨_, rfl⟩
  have HR : Hid (Larder.parseK p p.length 0 = R) := hide hR
  rw [hR]
  clear hR hc hs
  go_enter Try.func74, Try.ntmps74
  go_wp2_with fail
  go_loopw [3, 4, 5, 6, 7, 8, 9, 10, 11] (fun lv jv _ _ _ _ _ _ _ wr => ∃ (k n : Nat) (L : List (Option (Nat → Bool))), k ≤ p.length + 1 ∧ p.length - k ≤ n ∧ L ++ Larder.parseK p n k = R ∧ L.length ≤ k ∧ jv = .int .i64 (k : Nat) ∧ Hid (Pr w wr lv L)) (fun _ jv _ _ _ _ _ _ _ _ => p.length + 1 - (intOf jv).toNat)
  case atStart => exact ⟨0, p.length, [], by omega, by omega, unhide HR, Nat.le_refl _, rfl, hide ⟨Below.refl _ _, [], World.ownsRow_nil w _ 128 257, Larder.PsL.nil⟩⟩
  case round =>
    rename World => wo
    obtain ⟨k, n, L, hk, hn, hM, hLk, rfl, PR⟩ := hrel
    have HB := hide (unhide PR).bel
    obtain ⟨xs, hown, hps⟩ := (unhide PR).own
    obtain ⟨la, lc, rfl, -⟩ := own_shape hown
    have HO := hide hown
    have HX := hide hps
    clear hown hps
    by_cases hlt : k < p.length
    · have c0 := ((unhide HB).cell (p := ⟨b, off + k, none⟩) hb).trans (unhide HP k hlt)
      have dk : decide ((k : Int) < (p.length : Int)) = true := decide_eq_true (by omega)
      obtain ⟨n, rfl⟩ : ∃ m, n = m + 1 := ⟨n - 1, by omega⟩
      rw [Larder.parseK_step p n k hlt] at hM
      have hM0 := hM
      unfold Larder.pieceAt at hM
      by_cases h42 : p.getD k 0 = 42
      · rw [if_pos h42] at hM
        have HM := hide hM
        rw [h42] at c0
        clear hM hM0 h42
        go_wp2_with (first
          | (refine wpList_buildTo rfl 128 _ rfl (some 32) rfl zp (by as_aux_lemma => kernel_rfl) ?_)
          | (refine wpList_alloc91 rfl rfl wo.heap.size rfl ?_; intro w2 k2)
          | (refine wpList_store91 rfl _ _ rfl rfl wo.heap.size zp rfl rfl zp (unhide k2).1 zp_size zp_size IsP.zero.one ?_; intro w3 k3; have s0 := hide (Pst.start (unhide HO) (unhide HB) rfl (unhide k2) (unhide k3)); obtain ⟨a0, af, -⟩ := (unhide s0).at IsP.zero; have af0 := af 0; clear af; have x3 := ((unhide s0).bel.cell (p := ⟨b, off + k, none⟩) hb).trans (((unhide HB).cell (p := ⟨b, off + k, none⟩) hb).symm.trans c0); have q1 := hide (And.intro ((unhide s0).set 0 (.bool true)) (IsP.zero.setStar true)))
          | (refine wpList_load91 rfl _ rfl wo.heap.size rfl _ (unhide q1).1.blk (unhide q1).2.size ?_)
          | (refine wpList_box91 rfl _ rfl _ rfl (unhide q1).2.size ?_; intro w8 k8)
          | (at_builtin; refine wpList_append91 rfl _ _ rfl w.heap.size (.slice la L.length lc) L.length xs rfl ((unhide q1).1.box (unhide k8)).1 _ rfl _ _ _ (unhide k8).1 (unhide q1).2 (by omega) ((unhide q1).1.box (unhide k8)).2 ?_; intro v9 w9 h1 h2; obtain ⟨va, vc, rfl, -⟩ := own_shape h1; have p9 := hide (Pr.more (unhide q1).1 (unhide HX) (unhide q1).2 none rfl (fun g h => by cases h) (unhide k8) h1 h2); clear h1 h2))
        all_goals go_roundw
        all_goals first | exact ⟨k + 1, n, _, by omega, by omega, by rw [List.append_assoc]; exact unhide HM, by simp; omega, by first | rfl | simp | (simp; omega), p9⟩ | (simp only [intOf]; omega)
      · rw [if_neg h42] at hM
        by_cases h91 : p.getD k 0 = 91
        · rw [if_pos h91] at hM
          rw [h91] at c0
          have HM0 := hide hM
          clear hM hM0 h42 h91
          go_wp2_with (first
            | (go_at_call 89; refine (unhide CL wo k HB hlt).mono ?_; rintro e w1 ⟨C, N, rfl, k1⟩; have HB1 := hide ((unhide HB).trans ((unhide k1).2.2.2.2.mono (unhide HB).size)); have HO1 := hide (own_same (unhide HO) (fun j hj => (unhide k1).2.2.2.2.block j (own_lt (unhide HO) j hj).1)); have kN := (unhide k1).2.2.1; have kN2 := (unhide k1).2.2.2.1; have HM : Hid (L ++ [some (Larder.clsAt p (k + 1)).1] ++ Larder.parseK p n N = R) := hide (by rw [← parse_min p n N, (unhide k1).2.1, List.append_assoc]; exact unhide HM0))
            | (refine wpList_alloc91 rfl rfl w1.heap.size rfl ?_; intro w2 k2)
            | (refine wpList_store91 rfl _ _ rfl rfl w1.heap.size C rfl rfl zp (unhide k2).1 (unhide k1).1.size zp_size (unhide k1).1.one ?_; intro w3 k3; have q1 := hide (And.intro (Pst.start (unhide HO1) (unhide HB1) rfl (unhide k2) (unhide k3)) (unhide k1).1))
            | (refine wpList_load91 rfl _ rfl w1.heap.size rfl _ (unhide q1).1.blk (unhide q1).2.size ?_)
            | (refine wpList_box91 rfl _ rfl _ rfl (unhide q1).2.size ?_; intro w8 k8)
            | (at_builtin; refine wpList_append91 rfl _ _ rfl w.heap.size (.slice la L.length lc) L.length xs rfl ((unhide q1).1.box (unhide k8)).1 _ rfl _ _ _ (unhide k8).1 (unhide q1).2 (by omega) ((unhide q1).1.box (unhide k8)).2 ?_; intro v9 w9 h1 h2; obtain ⟨va, vc, rfl, -⟩ := own_shape h1; have p9 := hide (Pr.more (unhide q1).1 (unhide HX) (unhide q1).2 (some (Larder.clsAt p (k + 1)).1) rfl (fun g h => by cases h; exact fun c _ => rfl) (unhide k8) h1 h2); clear h1 h2))
          all_goals go_roundw
          all_goals first | exact ⟨N, n, _, by omega, by omega, unhide HM, by simp; omega, rfl, p9⟩ | (simp only [intOf]; omega)
        · rw [if_neg h91] at hM
          by_cases h63 : p.getD k 0 = 63
          · rw [if_pos h63] at hM
            have HM := hide hM
            rw [h63] at c0
            clear hM hM0 h42 h91 h63
            go_wp2_with (first
              | (refine wpList_buildTo rfl 128 _ rfl (some 32) rfl zp (by as_aux_lemma => kernel_rfl) ?_)
              | (refine wpList_alloc91 rfl rfl wo.heap.size rfl ?_; intro w2 k2)
              | (refine wpList_store91 rfl _ _ rfl rfl wo.heap.size zp rfl rfl zp (unhide k2).1 zp_size zp_size IsP.zero.one ?_; intro w3 k3; have s0 := hide (Pst.start (unhide HO) (unhide HB) rfl (unhide k2) (unhide k3)); have x3 := ((unhide s0).bel.cell (p := ⟨b, off + k, none⟩) hb).trans (((unhide HB).cell (p := ⟨b, off + k, none⟩) hb).symm.trans c0)))
            go_loopw [9] (fun kv wr => ∃ (j : Nat) (D : Array Value), kv = .int .i64 (j : Nat) ∧ j ≤ 256 ∧ Hid (Pst w wr wo.heap.size D (.slice la L.length lc) L.length xs ∧ IsP D false (fun c => decide (c < j)))) (fun kv _ => 256 - (intOf kv).toNat)
            case atStart => exact ⟨0, zp, rfl, Nat.zero_le _, hide ⟨unhide s0, IsP.zero.congr (fun c hc => by simp)⟩⟩
            case round =>
              obtain ⟨j, D, rfl, hj, HD⟩ := hrel
              by_cases hjl : j < 256
              · have dj : decide ((j : Int) < 256) = true := decide_eq_true (by omega)
                obtain ⟨-, af, ac⟩ := (unhide HD).1.at (unhide HD).2
                have fj := af (1 + j)
                have cj := ac j hjl
                clear af ac
                generalize decide (j < j) = vj at cj
                have hy : Hid (Pst w (wr.setCell ⟨wo.heap.size, 1 + j, none⟩ (.bool true)) wo.heap.size (D.setIfInBounds (1 + j) (.bool true)) (.slice la L.length lc) L.length xs ∧ IsP (D.setIfInBounds (1 + j) (.bool true)) false (fun c => decide (c < j + 1))) := hide ⟨(unhide HD).1.set _ _, ((unhide HD).2.set j hjl true).congr (fun c hc => by
                  show (if c = j then true else decide (c < j)) = _
                  by_cases e : c = j
                  · subst e; rw [if_pos rfl, decide_eq_true (by omega : c < c + 1)]
                  · rw [if_neg e]
                    by_cases e2 : c < j
                    · rw [decide_eq_true e2, decide_eq_true (by omega : c < j + 1)]
                    · rw [decide_eq_false e2, decide_eq_false (by omega : ¬ c < j + 1)])⟩
                go_wp2
                all_goals go_roundw
                all_goals first | exact ⟨j + 1, _, by simp, by omega, hy⟩ | (simp only [intOf]; omega)
              · have hjj : j = 256 := by omega
                subst hjj
                rw [show ((256 : Nat) : Int) = 256 from rfl]
                have dj : decide ((256 : Int) < 256) = false := decide_eq_false (by omega)
                have q1 := hide (And.intro (unhide HD).1 ((unhide HD).2.congr (g := fun _ => true) (fun c hc => decide_eq_true hc)))
                clear hj HD
                go_wp2_with (first
                | (refine wpList_load91 rfl _ rfl wo.heap.size rfl _ (unhide q1).1.blk (unhide q1).2.size ?_)
                  | (refine wpList_box91 rfl _ rfl _ rfl (unhide q1).2.size ?_; intro w8 k8)
                  | (at_builtin; refine wpList_append91 rfl _ _ rfl w.heap.size (.slice la L.length lc) L.length xs rfl ((unhide q1).1.box (unhide k8)).1 _ rfl _ _ _ (unhide k8).1 (unhide q1).2 (by omega) ((unhide q1).1.box (unhide k8)).2 ?_; intro v9 w9 h1 h2; obtain ⟨va, vc, rfl, -⟩ := own_shape h1; have p9 := hide (Pr.more (unhide q1).1 (unhide HX) (unhide q1).2 (some (fun _ => true)) rfl (fun g h => by cases h; exact fun c _ => rfl) (unhide k8) h1 h2); clear h1 h2))
                all_goals go_roundw
                all_goals first | exact ⟨k + 1, n, _, by omega, by omega, by rw [List.append_assoc]; exact unhide HM, by simp; omega, by first | rfl | simp | (simp; omega), p9⟩ | (simp only [intOf]; omega)
          · rw [if_neg h63] at hM
            have hpr := Larder.byteAt_prog p k hlt
            have hsm := Larder.byteAt_small p k (getD_small (unhide HS))
            have B1 := rbyteAt_any (some ⟨b, off, none⟩) cap wo p k (by omega) (unhide HS) (unhide BY _ (unhide HB)) hlt
            have BQ : Hid (∀ W, Hid (Below w.heap.size w W) → Calls Try.prog 90 #[.slice (some ⟨b, off, none⟩) p.length cap, .int .i64 (k : Nat)] W fun e w' => e = .returned (.tuple #[.int .i64 ((Larder.byteAt p k).1 : Nat), .int .i64 (((Larder.byteAt p k).2 - k : Nat) : Nat)]) ∧ w' = W) := hide (fun W h => rbyteAt_any (some ⟨b, off, none⟩) cap W p k (by omega) (unhide HS) (unhide BY _ (unhide h)) hlt)
            obtain ⟨m, hm⟩ : ∃ m, (Larder.byteAt p k).2 = k + m := ⟨(Larder.byteAt p k).2 - k, by omega⟩
            rw [hm] at hM BQ hpr
            rw [Nat.add_sub_cancel_left] at BQ
            generalize (Larder.byteAt p k).1 = xa at *
            have HM := hide hM
            clear B1 hM hM0 hm
            generalize p.getD k 0 = x0 at *
            have d42 : ((x0 : Int) == 42) = false := by rw [beq_eq_false_iff_ne]; omega
            have d91 : ((x0 : Int) == 91) = false := by rw [beq_eq_false_iff_ne]; omega
            have d63 : ((x0 : Int) == 63) = false := by rw [beq_eq_false_iff_ne]; omega
            clear h42 h91 h63
            have g0 : (0 : Int) ≤ (xa : Int) := by omega
            have g1 : (xa : Int) < 256 := by omega
            go_wp2_with (first
              | (refine wpList_buildTo rfl 128 _ rfl (some 32) rfl zp (by as_aux_lemma => kernel_rfl) ?_)
              | (refine wpList_alloc91 rfl rfl wo.heap.size rfl ?_; intro w2 k2)
              | (refine wpList_store91 rfl _ _ rfl rfl wo.heap.size zp rfl rfl zp (unhide k2).1 zp_size zp_size IsP.zero.one ?_; intro w3 k3; have s0 := hide (Pst.start (unhide HO) (unhide HB) rfl (unhide k2) (unhide k3)); have HB3 := hide (unhide s0).bel; obtain ⟨-, af, ac⟩ := (unhide s0).at IsP.zero; have fj := af (1 + xa); have cj := ac xa hsm; clear af ac; have x3 := ((unhide s0).bel.cell (p := ⟨b, off + k, none⟩) hb).trans (((unhide HB).cell (p := ⟨b, off + k, none⟩) hb).symm.trans c0); have q1 := hide (And.intro ((unhide s0).set (1 + xa) (.bool true)) (IsP.zero.set xa hsm true)))
              | (go_at_call 90; refine (unhide BQ _ HB3).mono ?_; rintro e w5 ⟨rfl, h⟩; obtain rfl := h.symm)
              | (refine wpList_load91 rfl _ rfl wo.heap.size rfl _ (unhide q1).1.blk (unhide q1).2.size ?_)
              | (refine wpList_box91 rfl _ rfl _ rfl (unhide q1).2.size ?_; intro w8 k8)
              | (at_builtin; refine wpList_append91 rfl _ _ rfl w.heap.size (.slice la L.length lc) L.length xs rfl ((unhide q1).1.box (unhide k8)).1 _ rfl _ _ _ (unhide k8).1 (unhide q1).2 (by omega) ((unhide q1).1.box (unhide k8)).2 ?_; intro v9 w9 h1 h2; obtain ⟨va, vc, rfl, -⟩ := own_shape h1; have p9 := hide (Pr.more (unhide q1).1 (unhide HX) (unhide q1).2 (some (Larder.between xa xa)) rfl (fun g h => by cases h; exact fun c _ => by unfold Larder.between; by_cases e : c = xa <;> simp [e] <;> omega) (unhide k8) h1 h2); clear h1 h2))
            all_goals go_roundw
            all_goals first | exact ⟨k + m, n, _, by omega, by omega, by rw [List.append_assoc]; exact unhide HM, by simp; omega, by first | rfl | simp | (simp; omega), p9⟩ | (simp only [intOf]; omega)
    · have dk : decide ((k : Int) < (p.length : Int)) = false := decide_eq_false (by omega)
      rw [Larder.parseK_done p n k hlt, List.append_nil] at hM
      subst hM
      go_wp2
      all_goals go_ret
      all_goals exact ⟨_, rfl, unhide PR⟩
end Go.Proofs.Ytjmnddcombepaaa
