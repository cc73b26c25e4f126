/- The law WordApart, out of the contracts; the row. -/
import Derived.Test.YtochdajeocganaaHash
import Derived.Test.YtochdajeocganaaChanged
import Derived.Test.YtochdajeocganaaOpen
namespace Go.Proofs.Ytochdajeocganaa.WordApart
open Go.ChangeShapes Go.WideShapes Go.ChangeAt Go.RowKit Go.Joins
set_option linter.unusedVariables false

theorem fields5 {w wx : World} {v0 v1 v2 v3 v4 : Value} {t : TypeId} (hb : Below (w.alloc (.cells #[v0, v1, v2, v3, v4] t)).heap.size (w.alloc (.cells #[v0, v1, v2, v3, v4] t)) wx) :
    wx.cell? ⟨w.heap.size, 0, none⟩ = some v0 ∧ wx.cell? ⟨w.heap.size, 1, none⟩ = some v1 ∧ wx.cell? ⟨w.heap.size, 2, none⟩ = some v2 ∧ wx.cell? ⟨w.heap.size, 3, none⟩ = some v3 ∧ wx.cell? ⟨w.heap.size, 4, none⟩ = some v4 := by
  refine ⟨?_, ?_, ?_, ?_, ?_⟩
  all_goals (rw [hb.cell (by simp)]; simp)

theorem chain {B : Nat} {a b c : World} (h : Below B a b) (k : Below b.heap.size b c) (hB : B ≤ b.heap.size) : Below B a c := h.trans (k.mono hB)

theorem int_beq_nat (a b : Nat) : ((a : Int) == (b : Int)) = decide (a = b) := by
  rw [Bool.eq_iff_iff, beq_iff_eq, decide_eq_true_iff]; omega

theorem near_apart {l m : List Nat} (hs : Small l) (h : Near l m) (seed : Nat) (he : Larder.hashN seed m = Larder.hashN seed l) : m = l := by
  obtain ⟨h1, h2, a, h3⟩ := h
  exact Larder.hash_apart h2 hs h1 a seed (fun i _ hi => h3 i hi) he

set_option maxHeartbeats 1000000 in
theorem law (a : Option Addr) (cap : Nat) (w : World) (l : List Nat) (s1 s2 : Nat) (A : Int) (x : Nat) (hs1 : s1 < 18446744073709551616) (hs2 : s2 < 18446744073709551616) (hx : x < 18446744073709551616) (hl : l.length ≤ 140737488351232) (hB : Bytes w a l) (hnil : a = none → cap = 0) (hs : Small l) :
    Calls Try.prog 6 #[.agg #[.int .u64 s1, .int .u64 s2, .slice a l.length cap, .int .i64 A, .int .u64 x]] w fun e w' => e = .returned (.bool true) ∧ Below w.heap.size w w' := by
  have hb0 : Below w.heap.size w (w.alloc (.cells #[.int .u64 s1, .int .u64 s2, .slice a l.length cap, .int .i64 A, .int .u64 x] 49)) := (Below.refl _ _).alloc (Nat.le_refl _) _
  have hB0 := hB.below hb0
  have hl2 : l.length ≤ 140737488355328 := by omega
  have hseeds : s2 ≠ s1 → Larder.hashN s2 l ≠ Larder.hashN s1 l := fun h e => h (Larder.hash_seeds hs hs2 hs1 e)
  have hnear : ∀ m, Near l m → Larder.hashN s1 m = Larder.hashN s1 l → m = l := fun m hm he => near_apart hs hm s1 he
  obtain ⟨Hs, hHs⟩ : ∃ f : Nat → List Nat → Nat, f = Larder.hashN := ⟨_, rfl⟩
  have hcall : ∀ (sd : Nat) (a' : Option Addr) (cap' : Nat) (w' : World) (m : List Nat), sd < 18446744073709551616 → m.length ≤ 140737488355328 → Bytes w' a' m → Small m → Calls Try.prog 20 #[.int .u64 sd, .slice a' m.length cap'] w' fun e w'' => e = .returned (.int .u64 (Hs sd m : Int)) ∧ Below w'.heap.size w' w'' := by
    rw [hHs]; exact fun sd a' cap' w' m h1 h2 h3 h4 => hash_any sd a' cap' w' m h1 h2 h3 h4
  rw [← hHs] at hseeds hnear
  clear hHs
  have HC := hide hcall
  have HS := hide hseeds
  have HN := hide hnear
  clear hcall hseeds hnear
  go_enter Try.func6, Try.ntmps6
  go_wp2_with fail
  refine (unhide HC s1 a cap _ l hs1 hl2 hB0 hs).mono ?_
  rintro e w1 ⟨rfl, hb1⟩
  obtain ⟨f0, f1, f2, f3, f4⟩ := fields5 hb1
  have hB1 := hB0.below hb1
  by_cases he : s2 = s1
  · subst he
    have hne : ((s2 : Int) == (s2 : Int)) = true := by simp
    go_wp2_with fail
    refine (changed_any a cap w1 l A x hx hl2 hB1 hnil hs).mono ?_
    rintro e w3 ⟨v3, m, rfl, hown3, hb3, hnr⟩
    obtain ⟨a3, cap3, rfl, hB3, hn3⟩ := hown3.shape
    have hB3l := hB1.below hb3
    have hb03 := chain hb1 hb3 hb1.size
    obtain ⟨g0, g1, g2, g3, g4⟩ := fields5 hb03
    have hmle : m.length ≤ 140737488355328 := by rw [hnr.1]; exact hl2
    have hms := hnr.2.1
    have HNR := hide hnr
    clear f0 f1 f2 f3 f4 hnr
    go_wp2_with fail
    refine (same_any a3 a cap3 cap w3 m l hB3 hB3l hms hs).mono ?_
    rintro e w' ⟨rfl, hw'⟩
    obtain rfl := hw'.symm
    by_cases hml : m = l
    · have hd : decide (m = l) = true := by simp [hml]
      have hq : ((Hs s2 m : Int) == (Hs s2 l : Int)) = true := by rw [hml]; simp
      clear hml
      go_wp2_with fail
      refine (unhide HC s2 a3 cap3 w3 m hs1 hmle hB3 hms).mono ?_
      rintro e w4 ⟨rfl, hb4⟩
      go_wp2
      go_ret
      exact ⟨rfl, chain hb0 (chain hb03 hb4 hb03.size) hb0.size⟩
    · have hd : decide (m = l) = false := by simp [hml]
      have hq : ((Hs s2 m : Int) == (Hs s2 l : Int)) = false := by
        rw [int_beq_nat, decide_eq_false_iff_not]
        exact fun h => hml (unhide HN m (unhide HNR) h)
      clear hml
      go_wp2_with fail
      refine (unhide HC s2 a3 cap3 w3 m hs1 hmle hB3 hms).mono ?_
      rintro e w4 ⟨rfl, hb4⟩
      go_wp2
      go_ret
      exact ⟨ret_bool (by rw [bne, hq]; rfl), chain hb0 (chain hb03 hb4 hb03.size) hb0.size⟩
  · have hne : ((s2 : Int) != (s1 : Int)) = true := by rw [bne, int_beq_nat]; simp [he]
    have hq0 : ((Hs s2 l : Int) == (Hs s1 l : Int)) = false := by
      rw [int_beq_nat, decide_eq_false_iff_not]; exact unhide HS he
    clear he
    go_wp2_with fail
    refine (unhide HC s2 a cap w1 l hs2 hl2 hB1 hs).mono ?_
    rintro e w2 ⟨rfl, hb2⟩
    have hb02 := chain hb1 hb2 hb1.size
    have hB2 := hB1.below hb2
    clear f0 f1 f2 f3 f4
    obtain ⟨f0, f1, f2, f3, f4⟩ := fields5 hb02
    go_wp2_with fail
    refine (changed_any a cap w2 l A x hx hl2 hB2 hnil hs).mono ?_
    rintro e w3 ⟨v3, m, rfl, hown3, hb3, hnr⟩
    obtain ⟨a3, cap3, rfl, hB3, hn3⟩ := hown3.shape
    have hB3l := hB2.below hb3
    have hb03 := chain hb02 hb3 hb02.size
    obtain ⟨g0, g1, g2, g3, g4⟩ := fields5 hb03
    have hmle : m.length ≤ 140737488355328 := by rw [hnr.1]; exact hl2
    have hms := hnr.2.1
    have HNR := hide hnr
    clear f0 f1 f2 f3 f4 hnr
    go_wp2_with fail
    refine (same_any a3 a cap3 cap w3 m l hB3 hB3l hms hs).mono ?_
    rintro e w' ⟨rfl, hw'⟩
    obtain rfl := hw'.symm
    by_cases hml : m = l
    · have hd : decide (m = l) = true := by simp [hml]
      have hq : ((Hs s1 m : Int) == (Hs s1 l : Int)) = true := by rw [hml]; simp
      clear hml
      go_wp2_with fail
      refine (unhide HC s1 a3 cap3 w3 m hs1 hmle hB3 hms).mono ?_
      rintro e w4 ⟨rfl, hb4⟩
      go_wp2
      go_ret
      exact ⟨rfl, chain hb0 (chain hb03 hb4 hb03.size) hb0.size⟩
    · have hd : decide (m = l) = false := by simp [hml]
      have hq : ((Hs s1 m : Int) == (Hs s1 l : Int)) = false := by
        rw [int_beq_nat, decide_eq_false_iff_not]
        exact fun h => hml (unhide HN m (unhide HNR) h)
      clear hml
      go_wp2_with fail
      refine (unhide HC s1 a3 cap3 w3 m hs1 hmle hB3 hms).mono ?_
      rintro e w4 ⟨rfl, hb4⟩
      go_wp2
      go_ret
      exact ⟨ret_bool (by rw [bne, hq]; rfl), chain hb0 (chain hb03 hb4 hb03.size) hb0.size⟩

set_option maxRecDepth 100000 in
theorem lifted (os : Os) (started : os.Started) (H : Type) (enc : TypeId × Value → H) :
    ReturnsInHanded {} Try.checked os 6 .any (Rows.wordApartSpec.pre6 enc Try.prog Try.f6 Rows.wordApartRow.domain false) (Rows.wordApartSpec.post enc Try.prog Try.f6 false true false false) := by
  refine returnsInHanded_of_change_sized (C := Try.checked) own started (by kernel_rfl) Try.func6
    (ChangeSpec.witness6 (enc := enc) (C := Try.checked) false ⟨#[], #[.agg #[.int .u64 0, .int .u64 0, .slice none 0 0, .int .i64 0, .int .u64 0]], []⟩ 8 (by kernel_rfl) (by kernel_rfl) (by kernel_rfl) (by kernel_rfl)) ?_
  intro W base args ds gs before hval0 hW hcnd hsz0 _
  have hval : ∀ (j : Nat) t v, Try.f6.params[j]? = some t → args[j]? = some v → Value.okWide Try.prog W .any base t v := hval0
  have hsz : (DataW.weightsEach Try.prog (Try.f6.params.toList ++ Rows.wordApartSpec.plain.varTypes Try.prog) (ds ++ gs)).all (· ≤ reachBytes) = true := hsz0
  have hW' := hW
  obtain ⟨p, q, hA0, hV, rfl, hfz, hnd⟩ := hW
  have hA : DataW.TrodAll enc Try.prog W 0 (fun _ => true) true Try.f6.params.toList args.toList ds p := hA0
  rw [Try.params6] at hA hval hsz
  obtain ⟨v0, vs0, d0, ds0, p0, q0, hargs, rfl, rfl, h0, r0⟩ := trodAll_cons hA
  obtain ⟨rfl, rfl, rfl⟩ := trodAll_nil r0
  obtain rfl : args = #[v0] := by cases args; simp_all
  obtain ⟨rfl, rfl⟩ := trodVars_none hV
  have k0 := h0
  have lt0 : ∀ x ∈ p0, x.block < W.heap.size := by obtain ⟨m, hm⟩ := k0; exact DataW.trod_lt m _ _ _ hm
  obtain ⟨c0, c1, c2, c3, c4, y0, y1, y2, y3, y4, m, rfl, hd, hy0, hy1, hy2, hy3, hy4⟩ := open_agg5 Try.underlying49 (by kernel_rfl) (by kernel_rfl) (hval 0 49 v0 rfl rfl) h0
  subst hd
  obtain ⟨a, cap, l, rfl, hB, hnil, hs, hlen⟩ := open_bytes hy2
  obtain ⟨s1, e0, _, hw0⟩ := DataW.trod_int Try.underlying27 hy0
  obtain ⟨s2, e1, _, hw1⟩ := DataW.trod_int Try.underlying27 hy1
  obtain ⟨at', e3, _, hw3⟩ := DataW.trod_int Try.underlying3 hy3
  obtain ⟨x, e4, _, hw4⟩ := DataW.trod_int Try.underlying27 hy4
  cases e0
  cases e1
  cases e3
  cases e4
  have hl : l.length ≤ 140737488351232 := by
    rcases hlen with rfl | ⟨el, sp, he, hn⟩
    · simp
    · rw [← hn]; exact field_sized (j := 2) (spare := sp) hsz Try.underlying49 rfl (by rw [he]; rfl)
  clear hA0 hval0 hsz0
  obtain ⟨a1, b1⟩ := bounds_u64 hw0
  obtain ⟨a2, b2⟩ := bounds_u64 hw1
  obtain ⟨a4, b4⟩ := bounds_u64 hw4
  obtain ⟨s1, rfl⟩ := Int.eq_ofNat_of_zero_le a1
  obtain ⟨s2, rfl⟩ := Int.eq_ofNat_of_zero_le a2
  obtain ⟨x, rfl⟩ := Int.eq_ofNat_of_zero_le a4
  refine (law a cap W l s1 s2 at' x (by omega) (by omega) (by omega) hl hB hnil hs).mono fun e W' ⟨he, bel⟩ => ?_
  subst he
  exact ⟨_, rfl, _, _, _, [], _, [], hW', trodAll_mk1 (shut_bool Try.underlying4 _), (trodAll_cons_mk (Below.trod laidOut (by kernel_rfl) (of_decide_eq_true (by kernel_rfl)) k0 bel lt0) trodAll_mk0), rfl, bel.frame _, fun h => by cases h⟩

theorem over : Rows.wordApartRow.holds Try.pinned (OpenSpec.ofChange Rows.wordApartSpec) :=
  OpenClaim.holds_of_wide 6 Try.f6 rfl rfl rfl rfl rfl rfl rfl ⟨rfl, rfl, rfl, rfl, rfl⟩ rfl rfl rfl rfl rfl (by kernel_rfl) Try.func6 (by kernel_rfl)
    (of_decide_eq_true (by kernel_rfl)) (by unfold Func.isWrapper; first | (rw [if_pos (by decide +kernel)]; kernel_rfl) | (rw [if_neg (by decide +kernel)]; exact ⟨rfl, rfl⟩))
    (fun os started H enc _ => lifted os started H enc)
end Go.Proofs.Ytochdajeocganaa.WordApart
namespace Go.Proofs.Ytochdajeocganaa
theorem wordApart_holds : Rows.WordApartSaid := WordApart.over
end Go.Proofs.Ytochdajeocganaa
