/- MatchSplit: the walk of the law. -/
import Derived.Test.YtidfbelckdlbhaaWrf
namespace Go.Proofs.Ytidfbelckdlbhaa
open Go.ChangeShapes Go.WideShapes Go.ChangeAt Go.RowKit
set_option linter.unusedVariables false
set_option linter.unusedSimpArgs false
set_option maxRecDepth 20000
set_option maxHeartbeats 2000000

theorem split_some (w : World) (aP aQ : Option Addr) (xT : Addr) (cP cQ cT nP nQ nT n1 n2 : Nat) (p q : List Nat) (pm qm : Nat → Bool) (G0 : World → Prop) (GP : World → Option Addr → Nat → Prop) (G : World → Nat → Option Addr → Nat → Option Addr → Nat → Prop)
    (h60 : nP + nQ ≤ 60) (h100 : nT ≤ 100) (hcT : nT ≤ cT) (hcm : cT ≤ 9223372036854775807) (h5 : n1 + n2 ≤ 5000) (hn1 : n1 = p.length) (hn2 : n2 = q.length)
    (CW : Hid (Calls Try.prog 8 #[] (w.alloc (.cells #[.slice aP nP cP, .slice aQ nQ cQ, .slice (some xT) nT cT] 35)) fun e w' => e = .returned (.bool true) ∧ Hid (G0 w') ∧ w'.cell? ⟨w.heap.size, 0, none⟩ = some (.slice aP nP cP) ∧ w'.cell? ⟨w.heap.size, 1, none⟩ = some (.slice aQ nQ cQ) ∧ w'.cell? ⟨w.heap.size, 2, none⟩ = some (.slice (some xT) nT cT)))
    (CP : Hid (∀ W, Hid (G0 W) → Calls Try.prog 13 #[.slice aP nP cP] W fun e w' => ∃ a1 c1, e = .returned (.slice a1 n1 c1) ∧ Hid (GP w' a1 c1) ∧ w'.cell? ⟨w.heap.size, 0, none⟩ = some (.slice aP nP cP) ∧ w'.cell? ⟨w.heap.size, 1, none⟩ = some (.slice aQ nQ cQ) ∧ w'.cell? ⟨w.heap.size, 2, none⟩ = some (.slice (some xT) nT cT)))
    (CQ : Hid (∀ W a1 c1, Hid (GP W a1 c1) → Calls Try.prog 13 #[.slice aQ nQ cQ] W fun e w' => ∃ a2 c2, e = .returned (.slice a2 n2 c2) ∧ Hid (G w' 0 a1 c1 a2 c2) ∧ w'.cell? ⟨w.heap.size, 0, none⟩ = some (.slice aP nP cP) ∧ w'.cell? ⟨w.heap.size, 1, none⟩ = some (.slice aQ nQ cQ) ∧ w'.cell? ⟨w.heap.size, 2, none⟩ = some (.slice (some xT) nT cT)))
    (CE : Hid (∀ W g a1 c1 a2 c2, Hid (G W g a1 c1 a2 c2) → W.cell? ⟨w.heap.size, 0, none⟩ = some (.slice aP nP cP) ∧ W.cell? ⟨w.heap.size, 1, none⟩ = some (.slice aQ nQ cQ) ∧ W.cell? ⟨w.heap.size, 2, none⟩ = some (.slice (some xT) nT cT)))
    (CT : Hid (∀ W g a1 c1 a2 c2, Hid (G W g a1 c1 a2 c2) → Calls Try.prog 13 #[.slice aP nP cP] W fun e w' => ∃ a c, e = .returned (.slice a n1 c) ∧ Hid (OwnB w' W.heap.size (.slice a n1 c) p ∧ Below W.heap.size W w' ∧ Bytes w' a2 q ∧ (a2 = none → c2 = 0))))
    (KG : Hid (∀ W W' g a1 c1 a2 c2, Hid (G W g a1 c1 a2 c2) → Below W.heap.size W W' → Hid (G W' g a1 c1 a2 c2)))
    (GL : Hid (∀ W g a1 c1 a2 c2 i cc, Hid (G W g a1 c1 a2 c2) → i ≤ nT → Calls Try.prog 11 #[.slice a1 n1 c1, .slice (some xT) i cc] W fun e w' => e = .returned (.bool (pm i)) ∧ Hid (Below W.heap.size W w')))
    (GR : Hid (∀ W g a1 c1 a2 c2 i cc, Hid (G W g a1 c1 a2 c2) → i ≤ nT → Calls Try.prog 11 #[.slice a2 n2 c2, .slice (some (xT.add i)) (nT - i) cc] W fun e w' => e = .returned (.bool (qm i)) ∧ Hid (Below W.heap.size W w')))
    (GZ : Hid (∀ W g a1 c1 a2 c2 i cc, Hid (G W g a1 c1 a2 c2) → i = nT → Calls Try.prog 11 #[.slice a2 n2 c2, .slice (some xT) (nT - i) cc] W fun e w' => e = .returned (.bool (qm i)) ∧ Hid (Below W.heap.size W w')))
    (GB : Hid (∀ W a c a1 c1 a2 c2, Hid (Bytes W a (p ++ q)) → Hid (G W 0 a1 c1 a2 c2) → Calls Try.prog 11 #[.slice a (p.length + q.length) c, .slice (some xT) nT cT] W fun e w' => e = .returned (.bool (Larder.canB pm qm (nT + 1))) ∧ Hid (Below W.heap.size W w')))
    (G1 : Hid (∀ L W a c a1 c1 a2 c2, Hid (L = p ++ [42] ++ q) → Hid (Bytes W a L) → Hid (G W 0 a1 c1 a2 c2) → Calls Try.prog 11 #[.slice a (List.length L) c, .slice (some xT) nT cT] W fun e w' => e = .returned (.bool (Larder.gapB pm qm nT (nT + 1))) ∧ Hid (Below W.heap.size W w')))
    (G3 : Hid (∀ L W a c a1 c1 a2 c2, Hid (L = p ++ [42, 42, 42] ++ q) → Hid (Bytes W a L) → Hid (G W 0 a1 c1 a2 c2) → Calls Try.prog 11 #[.slice a (List.length L) c, .slice (some xT) nT cT] W fun e w' => e = .returned (.bool (Larder.gapB pm qm nT (nT + 1))) ∧ Hid (Below W.heap.size W w')))
    (QB : Hid (∀ W g a1 c1 a2 c2, Hid (G W g a1 c1 a2 c2) → Bytes W a2 q ∧ (a2 = none → c2 = 0))) : 
    Calls Try.prog 5 #[.agg #[.slice aP nP cP, .slice aQ nQ cQ, .slice (some xT) nT cT]] w fun e w' => e = .returned (.bool true) ∧ Hid (∃ a1 c1 a2 c2, G w' 0 a1 c1 a2 c2) := by
  have d1 : decide ((60 : Int) < (nP : Int) + (nQ : Int)) = false := decide_eq_false (by omega)
  have d2 : decide ((100 : Int) < (nT : Int)) = false := decide_eq_false (by omega)
  have d3 : decide ((5000 : Int) < (n1 : Int) + (n2 : Int)) = false := decide_eq_false (by omega)
  have HN1 := hide hn1
  have HN2 := hide hn2
  clear hn1 hn2
  go_enter Try.func5, Try.ntmps5
  go_wp2_with (first | (go_at_call 8; refine (unhide CW).mono ?_; rintro e w1 ⟨rfl, k1, x0, x1, x2⟩) | (go_at_call 13; with_reducible refine (unhide CP _ k1).mono ?_; rintro e w2 ⟨a1, c1, rfl, k2, y0, y1, y2⟩) | (go_at_call 13; with_reducible refine (unhide CQ _ _ _ k2).mono ?_; rintro e w3 ⟨a2, c2, rfl, k3, z0, z1, z2⟩) | (go_at_call 13; with_reducible refine (unhide CT _ _ _ _ _ _ k3).mono ?_; rintro e w4 ⟨a4, c4, rfl, k4⟩) | (at_builtin; go_loud (refine wpList_app rfl _ _ rfl w3.heap.size _ p q a2 n2 c2 rfl rfl (unhide k4).1 (unhide HN2) (unhide k4).2.2.1 (unhide k4).2.2.2 (by rw [← unhide HN1, ← unhide HN2]; omega) (unhide k4).2.1.size ?_; intro v5 w5 h1 h2; have k5 := hide (And.intro h1 ((unhide k4).2.1.trans h2)); obtain ⟨a5, c5, rfl, -, -⟩ := h1.shape; clear h1 h2)))
  have g5 := unhide KG _ _ _ _ _ _ _ k3 (unhide k5).2
  obtain ⟨z0, z1, z2⟩ := unhide CE _ _ _ _ _ _ g5
  have HG5 := hide g5
  go_loopw [6, 7] (fun cv iv wr => ∃ i : Nat, iv = .int .i64 (i : Nat) ∧ cv = .bool (Larder.canB pm qm i) ∧ i ≤ nT + 1 ∧ Hid (Below w5.heap.size w5 wr)) (fun _ iv _ => nT + 1 - (intOf iv).toNat)
  case atStart => exact ⟨0, rfl, rfl, Nat.zero_le _, hide (Below.refl _ _)⟩
  case round =>
    rename World => wr
    obtain ⟨i, rfl, rfl, hi, K⟩ := hrel
    have gr := unhide KG _ _ _ _ _ _ _ (unhide HG5) (unhide K)
    obtain ⟨t0, t1, t2⟩ := unhide CE _ _ _ _ _ _ gr
    by_cases hle : i ≤ nT
    · have di : decide ((i : Int) ≤ (nT : Int)) = true := decide_eq_true (by omega)
      have HS := hide (Larder.canB_succ pm qm i)
      have L1 := hide (fun cc => unhide GL wr 0 _ _ _ _ i cc gr hle)
      have R1 := hide (fun W cc (h : Hid (G W 0 a1 c1 a2 c2)) => unhide GR W 0 _ _ _ _ i cc h hle)
      have Z1 := hide (fun W cc (h : Hid (G W 0 a1 c1 a2 c2)) (hz : i = nT) => unhide GZ W 0 _ _ _ _ i cc h hz)
      generalize hN : Larder.canB pm qm (i + 1) = N at HS
      have HQ := hide hN
      clear hN
      generalize Larder.canB pm qm i = C at HS ⊢
      generalize pm i = x at HS L1
      generalize qm i = y at HS R1 Z1
      have i1 : (0 : Int) ≤ (i : Int) := by omega
      have i2 : (i : Int) ≤ (cT : Int) := by omega
      cases C with
      | true =>
        have hN : N = true := by rw [unhide HS]; rfl
        go_wp2
        all_goals go_roundw
        all_goals first | exact ⟨i + 1, by simp, by rw [unhide HQ, hN], by omega, K⟩ | (simp only [intOf]; omega)
      | false =>
        cases x with
        | false =>
          have hN : N = false := by rw [unhide HS]; rfl
          go_wp2_with (go_at_call 11; with_reducible refine (unhide L1 _).mono ?_; rintro e w6 ⟨rfl, k6⟩)
          all_goals go_roundw
          all_goals first | exact ⟨i + 1, by simp, by rw [unhide HQ, hN], by omega, hide ((unhide K).trans ((unhide k6).mono (unhide K).size))⟩ | (simp only [intOf]; omega)
        | true =>
          have hN : N = y := by rw [unhide HS]; rfl
          by_cases hci : cT = i
          · have i3 : (cT = i) = True := eq_true hci
            have Z2 := hide (fun W cc h => unhide Z1 W cc h (by omega))
            clear Z1 R1 hci
            go_wp2_with (first | (go_at_call 11; with_reducible refine (unhide L1 _).mono ?_; rintro e w6 ⟨rfl, k6⟩; have g6 := unhide KG _ _ _ _ _ _ _ gr (unhide k6); obtain ⟨u0, u1, u2⟩ := unhide CE _ _ _ _ _ _ g6) | (go_at_call 11; go_loud (refine (unhide Z2 _ _ g6).mono ?_; rintro e w7 ⟨rfl, k7⟩)))
            all_goals go_roundw
            all_goals first | exact ⟨i + 1, by simp, by rw [unhide HQ, hN], by omega, hide (((unhide K).trans ((unhide k6).mono (unhide K).size)).trans ((unhide k7).mono (Nat.le_trans (unhide K).size (unhide k6).size)))⟩ | (simp only [intOf]; omega)
          · have i3 : (cT = i) = False := eq_false hci
            clear Z1 hci
            go_wp2_with (first | (go_at_call 11; with_reducible refine (unhide L1 _).mono ?_; rintro e w6 ⟨rfl, k6⟩; have g6 := unhide KG _ _ _ _ _ _ _ gr (unhide k6); obtain ⟨u0, u1, u2⟩ := unhide CE _ _ _ _ _ _ g6) | (go_at_call 11; go_loud (refine (unhide R1 _ _ g6).mono ?_; rintro e w7 ⟨rfl, k7⟩)))
            all_goals go_roundw
            all_goals first | exact ⟨i + 1, by simp, by rw [unhide HQ, hN], by omega, hide (((unhide K).trans ((unhide k6).mono (unhide K).size)).trans ((unhide k7).mono (Nat.le_trans (unhide K).size (unhide k6).size)))⟩ | (simp only [intOf]; omega)
    · obtain rfl : i = nT + 1 := by omega
      have di : decide (((nT + 1 : Nat) : Int) ≤ (nT : Int)) = false := decide_eq_false (by omega)
      have b5 : Hid (Bytes wr a5 (p ++ q)) := hide (by
        obtain ⟨a', c', e', hb', _⟩ := (unhide k5).1.shape
        cases e'
        exact hb'.below (unhide K))
      obtain ⟨L9, hL9⟩ : ∃ L9, L9 = p ++ [42] := ⟨_, rfl⟩
      obtain ⟨L10, hL10⟩ : ∃ L10, L10 = L9 ++ q := ⟨_, rfl⟩
      have l9 : L9.length ≤ 5001 := by rw [hL9, List.length_append, ← unhide HN1]; simp; omega
      have HL9 := hide hL9
      have HL10 := hide hL10
      clear hL9 hL10
      generalize Larder.canB pm qm (nT + 1) = C at GB ⊢
      go_wp2_with (first | (go_at_call 11; with_reducible refine (unhide GB _ _ _ _ _ _ _ b5 gr).mono ?_; rintro e w6 ⟨rfl, k6⟩; have g6 := unhide KG _ _ _ _ _ _ _ gr (unhide k6); obtain ⟨u0, u1, u2⟩ := unhide CE _ _ _ _ _ _ g6) | (go_at_call 13; with_reducible refine (unhide CT _ _ _ _ _ _ g6).mono ?_; rintro e w8 ⟨a8, c8, rfl, k8⟩) | (at_builtin; go_loud (refine wpList_app rfl _ _ rfl w6.heap.size _ p [42] (some ⟨w8.heap.size, 0, none⟩) 1 1 rfl rfl ((unhide k8).1.below ((Below.refl _ _).alloc (Nat.le_refl _) _)) rfl (lit1_bytes _ 42) (fun h => by cases h) (by rw [← unhide HN1]; simp; omega) (by have := (unhide k8).2.1.size; simp; omega) ?_; intro v9 w9 h1 h2; rw [← unhide HL9] at h1; have k9 := hide (And.intro h1 (((unhide k8).2.1.alloc (unhide k8).2.1.size _).trans h2)); obtain ⟨a9, c9, rfl, -, -⟩ := h1.shape; have g9 := unhide KG _ _ _ _ _ _ _ g6 (unhide k9).2; clear h1 h2)) | (at_builtin; go_loud (refine wpList_app rfl _ _ rfl w6.heap.size _ L9 q a2 n2 c2 rfl rfl (unhide k9).1 (unhide HN2) (unhide QB _ _ _ _ _ _ g9).1 (unhide QB _ _ _ _ _ _ g9).2 (by rw [← unhide HN2]; omega) (unhide k9).2.size ?_; intro v10 w10 h1 h2; rw [← unhide HL10] at h1; have k10 := hide (And.intro h1 ((unhide k9).2.trans h2)); obtain ⟨a10, c10, rfl, -, -⟩ := h1.shape; have g10 := unhide KG _ _ _ _ _ _ _ g6 (unhide k10).2; obtain ⟨r0, r1, r2⟩ := unhide CE _ _ _ _ _ _ g10; clear h1 h2)))
      obtain ⟨L11, hL11⟩ : ∃ L11, L11 = p ++ [42, 42, 42] := ⟨_, rfl⟩
      obtain ⟨L12, hL12⟩ : ∃ L12, L12 = L11 ++ q := ⟨_, rfl⟩
      have l11 : L11.length ≤ 5003 := by rw [hL11, List.length_append, ← unhide HN1]; simp; omega
      have HL11 := hide hL11
      have HL12 := hide hL12
      clear hL11 hL12
      go_wp2_with (first | (go_at_call 13; with_reducible refine (unhide CT _ _ _ _ _ _ g10).mono ?_; rintro e w11 ⟨a11, c11, rfl, k11⟩) | (at_builtin; refine wpList_app rfl _ _ rfl w10.heap.size _ p [42, 42, 42] (some ⟨w11.heap.size, 0, none⟩) 3 3 rfl rfl ((unhide k11).1.below ((Below.refl _ _).alloc (Nat.le_refl _) _)) rfl (lit_bytes w11 [42, 42, 42] (0, 0)) (fun h => by cases h) (by rw [← unhide HN1]; simp; omega) (by have := (unhide k11).2.1.size; simp; omega) ?_; intro v12 w12 h1 h2; rw [← unhide HL11] at h1; have k12 := hide (And.intro h1 (((unhide k11).2.1.alloc (unhide k11).2.1.size _).trans h2)); obtain ⟨a12, c12, rfl, -, -⟩ := h1.shape; have g12 := unhide KG _ _ _ _ _ _ _ g10 (unhide k12).2; clear h1 h2) | (at_builtin; refine wpList_app rfl _ _ rfl w10.heap.size _ L11 q a2 n2 c2 rfl rfl (unhide k12).1 (unhide HN2) (unhide QB _ _ _ _ _ _ g12).1 (unhide QB _ _ _ _ _ _ g12).2 (by rw [← unhide HN2]; omega) (unhide k12).2.size ?_; intro v13 w13 h1 h2; rw [← unhide HL12] at h1; have k13 := hide (And.intro h1 ((unhide k12).2.trans h2)); obtain ⟨a13, c13, rfl, -, -⟩ := h1.shape; have g13 := unhide KG _ _ _ _ _ _ _ g10 (unhide k13).2; obtain ⟨s0, s1, s2⟩ := unhide CE _ _ _ _ _ _ g13; clear h1 h2))
      have HG13 := hide g13
      clear K
      go_loopw [10, 11, 12] (fun gv iv _ wr => ∃ i : Nat, iv = .int .i64 (i : Nat) ∧ gv = .bool (Larder.gapB pm qm nT i) ∧ i ≤ nT + 1 ∧ Hid (Below w13.heap.size w13 wr)) (fun _ iv _ _ => nT + 1 - (intOf iv).toNat)
      case atStart => exact ⟨0, rfl, rfl, Nat.zero_le _, hide (Below.refl _ _)⟩
      case round =>
        rename World => ws
        obtain ⟨i, rfl, rfl, hi2, K⟩ := hrel
        have gs := unhide KG _ _ _ _ _ _ _ (unhide HG13) (unhide K)
        obtain ⟨f0, f1, f2⟩ := unhide CE _ _ _ _ _ _ gs
        by_cases hle : i ≤ nT
        · have dj : decide ((i : Int) ≤ (nT : Int)) = true := decide_eq_true (by omega)
          have HS := hide (Larder.gapB_succ pm qm nT i)
          have L1 := hide (fun cc => unhide GL ws 0 _ _ _ _ i cc gs hle)
          generalize pm i = x at HS L1
          have i1 : (0 : Int) ≤ (i : Int) := by omega
          have i2 : (i : Int) ≤ (cT : Int) := by omega
          cases x with
          | false =>
            go_wp2_with (go_at_call 11; with_reducible refine (unhide L1 _).mono ?_; rintro e w14 ⟨rfl, k14⟩)
            all_goals go_roundw
            all_goals first | exact ⟨i + 1, by simp, by rw [unhide HS]; simp, by omega, hide ((unhide K).trans ((unhide k14).mono (unhide K).size))⟩ | (simp only [intOf]; omega)
          | true =>
            go_wp2_with (go_at_call 11; with_reducible refine (unhide L1 _).mono ?_; rintro e w14 ⟨rfl, k14⟩)
            have K14 := hide ((unhide K).trans ((unhide k14).mono (unhide K).size))
            clear K k14 gs f0 f1 f2 L1
            go_loopw [10, 12] (fun gv kv wr => ∃ k : Nat, kv = .int .i64 (k : Nat) ∧ gv = .bool (Larder.gapB pm qm nT i || Larder.gapK qm i (k - i)) ∧ i ≤ k ∧ k ≤ nT + 1 ∧ Hid (Below w13.heap.size w13 wr)) (fun _ kv _ => nT + 1 - (intOf kv).toNat)
            case atStart => exact ⟨i, rfl, by simp [Larder.gapK], Nat.le_refl _, by omega, K14⟩
            case round =>
              rename World => wt
              obtain ⟨k, rfl, rfl, hik, hk, K⟩ := hrel
              have gt := unhide KG _ _ _ _ _ _ _ (unhide HG13) (unhide K)
              obtain ⟨f0, f1, f2⟩ := unhide CE _ _ _ _ _ _ gt
              by_cases hlk : k ≤ nT
              · have dk : decide ((k : Int) ≤ (nT : Int)) = true := decide_eq_true (by omega)
                have HS2 : Hid (Larder.gapK qm i (k + 1 - i) = (Larder.gapK qm i (k - i) || qm k)) := hide (by
                  have := Larder.gapK_succ qm i (k - i)
                  rw [show k - i + 1 = k + 1 - i by omega, show i + (k - i) = k by omega] at this
                  exact this)
                have R1 := hide (fun cc => unhide GR wt 0 _ _ _ _ k cc gt hlk)
                have Z1 := hide (fun cc (hz : k = nT) => unhide GZ wt 0 _ _ _ _ k cc gt hz)
                have j1 : (0 : Int) ≤ (k : Int) := by omega
                have j2 : (k : Int) ≤ (cT : Int) := by omega
                generalize qm k = y at HS2 R1 Z1
                generalize hC : (Larder.gapB pm qm nT i || Larder.gapK qm i (k - i)) = C
                have HC := hide hC
                clear hC
                have HN : Hid ((Larder.gapB pm qm nT i || Larder.gapK qm i (k + 1 - i)) = (C || y)) := hide (by rw [unhide HS2, ← unhide HC, Bool.or_assoc])
                clear HS2 HC
                cases C with
                | true =>
                  go_wp2
                  all_goals go_roundw
                  all_goals first | exact ⟨k + 1, by simp, by rw [unhide HN]; simp, by omega, by omega, K⟩ | (simp only [intOf]; omega)
                | false =>
                  by_cases hck : cT = k
                  · have j3 : (cT = k) = True := eq_true hck
                    have Z2 := hide (fun cc => unhide Z1 cc (by omega))
                    clear Z1 R1 hck
                    go_wp2_with (go_at_call 11; refine (unhide Z2 _).mono ?_; rintro e w15 ⟨rfl, k15⟩)
                    all_goals go_roundw
                    all_goals first | exact ⟨k + 1, by simp, by rw [unhide HN]; simp, by omega, by omega, hide ((unhide K).trans ((unhide k15).mono (unhide K).size))⟩ | (simp only [intOf]; omega)
                  · have j3 : (cT = k) = False := eq_false hck
                    clear Z1 hck
                    go_wp2_with (go_at_call 11; refine (unhide R1 _).mono ?_; rintro e w15 ⟨rfl, k15⟩)
                    all_goals go_roundw
                    all_goals first | exact ⟨k + 1, by simp, by rw [unhide HN]; simp, by omega, by omega, hide ((unhide K).trans ((unhide k15).mono (unhide K).size))⟩ | (simp only [intOf]; omega)
              · obtain rfl : k = nT + 1 := by omega
                have dk : decide (((nT + 1 : Nat) : Int) ≤ (nT : Int)) = false := decide_eq_false (by omega)
                go_wp2
                all_goals go_roundw
                all_goals first | exact ⟨i + 1, by simp, by rw [unhide HS]; simp, by omega, K⟩ | (simp only [intOf]; omega)
        · obtain rfl : i = nT + 1 := by omega
          have dj : decide (((nT + 1 : Nat) : Int) ≤ (nT : Int)) = false := decide_eq_false (by omega)
          generalize Larder.gapB pm qm nT (nT + 1) = C at G1 G3 ⊢
          have b10 : Hid (Bytes ws a10 L10) := hide (by
            obtain ⟨a', c', e', hb', _⟩ := (unhide k10).1.shape
            cases e'
            exact (hb'.below (unhide k13).2).below (unhide K))
          have b13 : Hid (Bytes ws a13 L12) := hide (by
            obtain ⟨a', c', e', hb', _⟩ := (unhide k13).1.shape
            cases e'
            exact hb'.below (unhide K))
          have e10 : Hid (L10 = p ++ [42] ++ q) := hide (by rw [unhide HL10, unhide HL9])
          have e12 : Hid (L12 = p ++ [42, 42, 42] ++ q) := hide (by rw [unhide HL12, unhide HL11])
          go_wp2_with (first | (go_at_call 11; with_reducible refine (unhide G1 L10 ws _ _ _ _ _ _ e10 b10 gs).mono ?_; rintro e w16 ⟨rfl, k16⟩; have g16 := unhide KG _ _ _ _ _ _ _ gs (unhide k16); obtain ⟨m0, m1, m2⟩ := unhide CE _ _ _ _ _ _ g16; have b16 := hide ((unhide b13).below (unhide k16))) | (go_at_call 11; with_reducible refine (unhide G3 L12 w16 _ _ _ _ _ _ e12 b16 g16).mono ?_; rintro e w17 ⟨rfl, k17⟩; have g17 := unhide KG _ _ _ _ _ _ _ g16 (unhide k17)))
          all_goals go_ret
          all_goals exact ⟨by simp, hide ⟨_, _, _, _, unhide g17⟩⟩
end Go.Proofs.Ytidfbelckdlbhaa
