/- refused. -/
import Derived.Test.YtdgdnpgjbphgaaaThree
import Derived.Deep.RegionHeld3
namespace Go.Proofs.Ytdgdnpgjbphgaaa
open Go.ChangeShapes Go.WideShapes Go.ChangeAt Go.RowKit
set_option linter.unusedVariables false
set_option maxRecDepth 100000
set_option maxHeartbeats 4000000

theorem refused_any (P : Nat → Nat × Nat × Nat) (S : Nat → List Nat × List Bool × Nat) (hP : Apart3 P) (K X Y A B C : Int) (V : Nat) (aD : Option Addr) (l : List Nat) (cD : Nat) (w : World) (h : Three w P S) (hV : V < 18446744073709551616) (hB1 : B ≤ 9223372036854775807) (hB2 : -9223372036854775808 ≤ B) (hD : Bytes w aD l) (hl : Small l) :
    Calls Try.prog 23 #[.agg #[.pointer (some ⟨(P 0).1, 0, none⟩), .pointer (some ⟨(P 1).1, 0, none⟩), .pointer (some ⟨(P 2).1, 0, none⟩)], .agg #[.int .i64 K, .int .i64 X, .int .i64 Y, .int .i64 A, .int .i64 B, .int .i64 C, .int .u64 V, .slice aD l.length cD]] w
      fun e w' => ∃ (no : Bool) (S' : Nat → List Nat × List Bool × Nat), e = .returned (.bool no) ∧ Three w' P S' ∧ But (all3 P) w w' ∧ Effect S S' no (t3 X) (t3 Y) K A := by
  obtain ⟨W, hW⟩ : ∃ W, W = ((w.alloc (.cells #[.pointer (some ⟨(P 0).1, 0, none⟩), .pointer (some ⟨(P 1).1, 0, none⟩), .pointer (some ⟨(P 2).1, 0, none⟩)] 64)).alloc (.cells #[.int .i64 K, .int .i64 X, .int .i64 Y, .int .i64 A, .int .i64 B, .int .i64 C, .int .u64 V, .slice aD l.length cD] 68)) := ⟨_, rfl⟩
  have hb0 : Below w.heap.size w W := by rw [hW]; exact ((Below.refl w.heap.size w).alloc (Nat.le_refl _) _).alloc (by simp) _
  have hs0 : W.heap.size = w.heap.size + 2 := by rw [hW]; simp
  have hc0 : W.heap[w.heap.size]? = some (.cells #[.pointer (some ⟨(P 0).1, 0, none⟩), .pointer (some ⟨(P 1).1, 0, none⟩), .pointer (some ⟨(P 2).1, 0, none⟩)] 64 (0, 0)) := by
    have h1 := heap_alloc_new w (.cells #[.pointer (some ⟨(P 0).1, 0, none⟩), .pointer (some ⟨(P 1).1, 0, none⟩), .pointer (some ⟨(P 2).1, 0, none⟩)] 64)
    rw [hW, ((Below.refl (w.heap.size + 1) (w.alloc (.cells #[.pointer (some ⟨(P 0).1, 0, none⟩), .pointer (some ⟨(P 1).1, 0, none⟩), .pointer (some ⟨(P 2).1, 0, none⟩)] 64))).alloc (by simp) _).block w.heap.size (by omega)]
    exact h1
  have hc1 : W.heap[w.heap.size + 1]? = some (.cells #[.int .i64 K, .int .i64 X, .int .i64 Y, .int .i64 A, .int .i64 B, .int .i64 C, .int .u64 V, .slice aD l.length cD] 68 (0, 0)) := by
    have h1 := heap_alloc_new (w.alloc (.cells #[.pointer (some ⟨(P 0).1, 0, none⟩), .pointer (some ⟨(P 1).1, 0, none⟩), .pointer (some ⟨(P 2).1, 0, none⟩)] 64)) (.cells #[.int .i64 K, .int .i64 X, .int .i64 Y, .int .i64 A, .int .i64 B, .int .i64 C, .int .u64 V, .slice aD l.length cD] 68)
    have s1 : (w.alloc (.cells #[.pointer (some ⟨(P 0).1, 0, none⟩), .pointer (some ⟨(P 1).1, 0, none⟩), .pointer (some ⟨(P 2).1, 0, none⟩)] 64)).heap.size = w.heap.size + 1 := by simp
    rw [s1] at h1
    rw [hW]
    exact h1
  have hpx : ∀ i, i < 3 → W.cell? ⟨w.heap.size, i, none⟩ = some (.pointer (some ⟨(P i).1, 0, none⟩)) := fun i hi => by
    match i, hi with
    | 0, _ => simp [World.cell?, hc0]
    | 1, _ => simp [World.cell?, hc0]
    | 2, _ => simp [World.cell?, hc0]
  have hx := t3_lt X
  have hy := t3_lt Y
  have px := hpx _ hx
  have py := hpx _ hy
  have HCE : Hid (∀ w', Below W.heap.size W w' → w'.cell? ⟨w.heap.size + 1, 0, none⟩ = some (.int .i64 K) ∧ w'.cell? ⟨w.heap.size + 1, 1, none⟩ = some (.int .i64 X) ∧ w'.cell? ⟨w.heap.size + 1, 2, none⟩ = some (.int .i64 Y) ∧ w'.cell? ⟨w.heap.size + 1, 3, none⟩ = some (.int .i64 A) ∧ w'.cell? ⟨w.heap.size + 1, 4, none⟩ = some (.int .i64 B) ∧ w'.cell? ⟨w.heap.size + 1, 5, none⟩ = some (.int .i64 C) ∧ w'.cell? ⟨w.heap.size + 1, 6, none⟩ = some (.int .u64 V) ∧ w'.cell? ⟨w.heap.size + 1, 7, none⟩ = some (.slice aD l.length cD)) := hide (fun w' hb => by
    have hh := (hb.block (w.heap.size + 1) (by omega)).trans hc1
    refine ⟨?_, ?_, ?_, ?_, ?_, ?_, ?_, ?_⟩ <;> simp [World.cell?, hh])
  have k1 := (unhide HCE W (Below.refl _ _)).2.1
  have k2 := (unhide HCE W (Below.refl _ _)).2.2.1
  have hTh : Three W.drew P S := h.below hb0.drew
  have hbd : Bytes W.drew aD l := hD.below hb0.drew
  have HTh := hide hTh
  have HBD := hide hbd
  have HB0 := hide hb0
  have HWE := hide hW
  obtain ⟨x, hxe⟩ : ∃ x, x = t3 X := ⟨_, rfl⟩
  obtain ⟨y, hye⟩ : ∃ y, y = t3 Y := ⟨_, rfl⟩
  rw [← hxe, ← hye]
  have HXE := hide hxe
  have HYE := hide hye
  clear h hD hb0 hc0 hc1 hpx hTh hbd hW hxe hye
  go_enter Try.func23, Try.ntmps23
  go_wp2_with fail
  rw [← unhide HWE]
  have z0 : (0 : Int) ≤ (t3 X : Int) := by omega
  have z1 : (t3 X : Int) < 3 := by omega
  have z2 : (0 : Int) ≤ (t3 Y : Int) := by omega
  have z3 : (t3 Y : Int) < 3 := by omega
  go_region_held3 (fun w' => w'.cell? ⟨w.heap.size + 1, 1, none⟩ = some (.int .i64 X) ∧ w'.cell? ⟨w.heap.size + 1, 2, none⟩ = some (.int .i64 Y) ∧ w'.cell? ⟨w.heap.size, t3 X, none⟩ = some (.pointer (some ⟨(P (t3 X)).1, 0, none⟩)) ∧ w'.cell? ⟨w.heap.size, t3 Y, none⟩ = some (.pointer (some ⟨(P (t3 Y)).1, 0, none⟩))) (first | exact ⟨k1, k2, px, py⟩ | assumption)
    (first
      | (go_at_call 24; refine (three_nat _ _).mono ?_; rintro e w9 ⟨rfl, hw9⟩; obtain rfl := hw9.symm))
  rw [← unhide HXE, ← unhide HYE]
  rw [← unhide HXE] at hx
  rw [← unhide HYE] at hy
  clear HXE HYE
  obtain ⟨a0, a1, a2, a3, a4, a5, a6, a7⟩ := unhide HCE W.drew (Below.refl W.heap.size W).drew
  clear k1 k2 px py z0 z1 z2 z3
  by_cases hK2 : K = 2
  · subst hK2
    have HC := hide (alloc_step A B C W.drew ((unhide HTh).ar x hx) ((unhide HTh).sound x hx))
    go_wp2_with fail
    refine (unhide HC).mono ?_
    rintro e w1 ⟨u, f, ws', hs', us', rfl, hst⟩
    obtain ⟨r1, r2, r3⟩ := three_step (unhide HTh) hP (y := y) (A := A) hx (K := 2) (.inl (by decide)) hst
    have HR1 := hide r1
    have HR2 := hide ((But.of_below (unhide HB0).drew).trans r2)
    have HR3 := hide r3
    clear hst r1 r2 r3 HTh HBD HB0 HCE
    go_wp2_with (go_at_call 13; refine (num_any _ _).mono ?_; rintro e w' ⟨rfl, hw'⟩; obtain rfl := hw'.symm)
    go_ret
    exact ⟨_, _, rfl, unhide HR1, unhide HR2, unhide HR3⟩
  · have n2 : (K == 2) = false := by rw [beq_eq_false_iff_ne]; exact hK2
    by_cases hK5 : K = 5
    · subst hK5
      have HC := hide (set_step A B V hV W.drew ((unhide HTh).ar x hx) ((unhide HTh).sound x hx))
      clear hK2 n2
      go_wp2_with fail
      refine (unhide HC).mono ?_
      rintro e w1 ⟨f, ws', rfl, hst⟩
      obtain ⟨r1, r2, r3⟩ := three_step (unhide HTh) hP (y := y) (A := A) hx (K := 5) (.inl (by decide)) hst
      have HR1 := hide r1
      have HR2 := hide ((But.of_below (unhide HB0).drew).trans r2)
      have HR3 := hide r3
      clear hst r1 r2 r3 HTh HBD HB0 HCE
      go_wp2_with (go_at_call 13; refine (num_any _ _).mono ?_; rintro e w' ⟨rfl, hw'⟩; obtain rfl := hw'.symm)
      go_ret
      exact ⟨_, _, rfl, unhide HR1, unhide HR2, unhide HR3⟩
    · have n5 : (K == 5) = false := by rw [beq_eq_false_iff_ne]; exact hK5
      by_cases hK7 : K = 7
      · subst hK7
        have HC := hide (setbytes_step A B l aD cD W.drew hB1 hB2 ((unhide HTh).ar x hx) ((unhide HTh).sound x hx) (unhide HBD) hl)
        clear hK2 n2 hK5 n5
        go_wp2_with fail
        refine (unhide HC).mono ?_
        rintro e w1 ⟨f, ws', rfl, hst⟩
        obtain ⟨r1, r2, r3⟩ := three_step (unhide HTh) hP (y := y) (A := A) hx (K := 7) (.inl (by decide)) hst
        have HR1 := hide r1
        have HR2 := hide ((But.of_below (unhide HB0).drew).trans r2)
        have HR3 := hide r3
        clear hst r1 r2 r3 HTh HBD HB0 HCE
        go_wp2_with (go_at_call 13; refine (num_any _ _).mono ?_; rintro e w' ⟨rfl, hw'⟩; obtain rfl := hw'.symm)
        go_ret
        exact ⟨_, _, rfl, unhide HR1, unhide HR2, unhide HR3⟩
      · have n7 : (K == 7) = false := by rw [beq_eq_false_iff_ne]; exact hK7
        by_cases hK8 : K = 8
        · subst hK8
          by_cases hxy : y = x
          · subst hxy
            have HC := hide (take_self_step A W.drew ((unhide HTh).ar y hy) ((unhide HTh).sound y hy))
            clear hK2 n2 hK5 n5 hK7 n7
            go_wp2_with fail
            refine (unhide HC).mono ?_
            rintro e w1 ⟨u, f, ws', hs', us', rfl, hst⟩
            obtain ⟨r1, r2, r3⟩ := three_step (unhide HTh) hP (y := y) (A := A) hx (K := 8) (.inr rfl) hst
            have HR1 := hide r1
            have HR2 := hide ((But.of_below (unhide HB0).drew).trans r2)
            have HR3 := hide r3
            clear hst r1 r2 r3 HTh HBD HB0 HCE
            go_wp2_with (go_at_call 13; refine (num_any _ _).mono ?_; rintro e w' ⟨rfl, hw'⟩; obtain rfl := hw'.symm)
            go_ret
            exact ⟨_, _, rfl, unhide HR1, unhide HR2, unhide HR3⟩
          · have ap := hP y x hy hx hxy
            have key : ∀ z ∈ own3 P y, z ∉ [(P x).1, (P x).2.2, (P x).2.1] := fun z hz hm => by
              have a1 := ap z hz
              simp [own3] at a1 hm
              omega
            have HC := hide (take_step A W.drew ((unhide HTh).ar x hx) ((unhide HTh).sound x hx) ((unhide HTh).ar y hy) ((unhide HTh).sound y hy) (key _ (by simp [own3])) (key _ (by simp [own3])) (key _ (by simp [own3])))
            clear hK2 n2 hK5 n5 hK7 n7 ap key
            go_wp2_with fail
            refine (unhide HC).mono ?_
            rintro e w1 ⟨u, f, wd', hd', ud', ws', rfl, g1, g2, g3, g4, g5, g6, g7⟩
            obtain ⟨r1, r2, r3⟩ := three_take (unhide HTh) hP hx hy hxy (K := 8) (A := A) rfl g1 g2 g3 g4 g5 g6 g7
            have HR1 := hide r1
            have HR2 := hide ((But.of_below (unhide HB0).drew).trans r2)
            have HR3 := hide r3
            clear g1 g2 g3 g4 g5 g6 g7 r1 r2 r3 HTh HBD HB0 HCE
            go_wp2_with (go_at_call 13; refine (num_any _ _).mono ?_; rintro e w' ⟨rfl, hw'⟩; obtain rfl := hw'.symm)
            go_ret
            exact ⟨_, _, rfl, unhide HR1, unhide HR2, unhide HR3⟩
        · have n8 : (K == 8) = false := by rw [beq_eq_false_iff_ne]; exact hK8
          have HA1 := hide (object_any A W.drew ((unhide HTh).ar x hx) ((unhide HTh).sound x hx).heads)
          have HAK := hide (fun w' hb => movedcall_any A w' (((unhide HTh).ar x hx).below hb))
          have HAG := hide (fun w' hb => get_ask A B w' (((unhide HTh).ar x hx).below hb) ((unhide HTh).sound x hx))
          have HAB := hide (fun w' hb => bytes_ask A B C w' hB1 hB2 (((unhide HTh).ar x hx).below hb) ((unhide HTh).sound x hx))
          have HEN : Hid (∀ w', Below W.drew.heap.size W.drew w' → Three w' P S ∧ But (all3 P) w w' ∧ Effect S S true x y K A) := hide (fun w' hb => ⟨(unhide HTh).below hb, But.of_below ((unhide HB0).drew.trans (hb.mono (unhide HB0).drew.size)), effect_none S x y K A hK8⟩)
          have HCE2 : Hid (∀ w', Below W.drew.heap.size W.drew w' → w'.cell? ⟨w.heap.size + 1, 3, none⟩ = some (.int .i64 A) ∧ w'.cell? ⟨w.heap.size + 1, 4, none⟩ = some (.int .i64 B) ∧ w'.cell? ⟨w.heap.size + 1, 5, none⟩ = some (.int .i64 C)) := hide (fun w' hb => by
            have := unhide HCE w' ((Below.refl W.heap.size W).drew.trans hb)
            exact ⟨this.2.2.2.1, this.2.2.2.2.1, this.2.2.2.2.2.1⟩)
          clear hK2 hK5 hK7 hK8 HTh HBD HB0 HCE
          go_wp2_with fail
          refine (unhide HA1).mono ?_
          rintro e w1 ⟨rfl, hb1⟩
          obtain ⟨v3, v4, v5⟩ := unhide HCE2 w1 hb1
          have HC := hide (unhide HAK w1 hb1)
          have HB1 := hide hb1
          clear hb1 a0 a1 a2 a3 a4 a5 a6 a7
          go_wp2_with fail
          refine (unhide HC).mono ?_
          rintro e w' ⟨rfl, hw'⟩
          obtain rfl := hw'.symm
          have HC := hide (unhide HAG w1 (unhide HB1))
          go_wp2_with fail
          refine (unhide HC).mono ?_
          rintro e w2 ⟨⟨vv, rfl⟩, hb2⟩
          have hb2' := (unhide HB1).trans (hb2.mono (unhide HB1).size)
          obtain ⟨t3', t4, t5⟩ := unhide HCE2 w2 hb2'
          have HC := hide (unhide HAB w2 hb2')
          have HB2 := hide hb2'
          clear hb2 hb2' v3 v4 v5
          go_wp2_with fail
          refine (unhide HC).mono ?_
          rintro e w3 ⟨⟨vv2, rfl⟩, hb3⟩
          have HB3 := hide ((unhide HB2).trans (hb3.mono (unhide HB2).size))
          clear hb3 t3' t4 t5
          go_wp2
          go_ret
          exact ⟨true, S, rfl, unhide HEN w3 (unhide HB3)⟩
end Go.Proofs.Ytdgdnpgjbphgaaa
