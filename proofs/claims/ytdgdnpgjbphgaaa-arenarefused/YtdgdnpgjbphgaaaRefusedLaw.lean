/- ArenaRefused: the walk. -/
import Derived.Test.YtdgdnpgjbphgaaaSnap
namespace Go.Proofs.Ytdgdnpgjbphgaaa
open Go.ChangeShapes Go.WideShapes Go.ChangeAt Go.RowKit
set_option linter.unusedVariables false
set_option maxRecDepth 100000
set_option maxHeartbeats 8000000
theorem mem_three (G : Nat → Nat) (m : Nat) (h : m < 3) : G m ∈ [G 0, G 1, G 2] := by
  match m, h with
  | 0, _ => simp
  | 1, _ => simp
  | 2, _ => simp
theorem below_drawn {B : Nat} {a w : World} (h : Below B a w) (n : Nat) : Below B a (w.drewN n) := ⟨h.os, h.tape, h.output, h.size, h.block⟩
theorem refused_law (z0 z1 z2 : Int) (aS : Option Addr) (n cS : Nat) (w : World) (hS : Script w aS n) (hn : n ≤ 140737488355328) :
    Calls Try.prog 6 #[.agg #[.int .i64 z0, .int .i64 z1, .int .i64 z2, .slice aS n cS]] w fun e w' => e = .returned (.bool true) ∧ Below w.heap.size w w' := by
  have HS := hide hS
  have hB0 := (Below.refl w.heap.size w).alloc (Nat.le_refl _) (.cells #[.int .i64 z0, .int .i64 z1, .int .i64 z2, .slice aS n cS] 62)
  have hc0 := heap_alloc_new w (.cells #[.int .i64 z0, .int .i64 z1, .int .i64 z2, .slice aS n cS] 62)
  have hs0 : (w.alloc (.cells #[.int .i64 z0, .int .i64 z1, .int .i64 z2, .slice aS n cS] 62)).heap.size = w.heap.size + 1 := by simp
  obtain ⟨W, hW⟩ : ∃ W, W = w.alloc (.cells #[.int .i64 z0, .int .i64 z1, .int .i64 z2, .slice aS n cS] 62) := ⟨_, rfl⟩
  rw [← hW] at hB0 hc0 hs0
  have c3 : W.cell? ⟨w.heap.size, 3, none⟩ = some (.slice aS n cS) := by simp [World.cell?, hc0]
  have HBG := hide (begun_any W)
  have HB0 := hide hB0
  have HC0 := hide hc0
  have HWE := hide hW
  clear hS hB0 hc0 hW
  go_enter Try.func6, Try.ntmps6
  go_upto_region 1 with fail
  rw [← unhide HWE]
  go_wp2_with fail
  refine (unhide HBG).mono ?_
  rintro e w1 ⟨rfl, hb1⟩
  have HB1 := hide ((unhide HB0).trans (hb1.mono (unhide HB0).size))
  have HC1 : Hid (w1.heap[w.heap.size]? = some (.cells #[.int .i64 z0, .int .i64 z1, .int .i64 z2, .slice aS n cS] 62 (0, 0))) := hide ((hb1.block w.heap.size (by omega)).trans (unhide HC0))
  have hs1 : w.heap.size + 1 ≤ w1.heap.size := by have := hb1.size; omega
  clear hb1 HBG HB0 HC0 HWE c3 hs0
  go_wp2_with fail
  obtain ⟨w2, hw2⟩ : ∃ w2, w2 = w1.alloc (.cells #[.pointer none, .pointer none, .pointer none] 64) := ⟨_, rfl⟩
  rw [← hw2]
  have hg2 : w2.heap[w1.heap.size]? = some (.cells #[.pointer none, .pointer none, .pointer none] 64 (0, 0)) := by rw [hw2]; exact heap_alloc_new w1 _
  have hs2 : w2.heap.size = w1.heap.size + 1 := by rw [hw2]; simp
  have hb2 : Below w.heap.size w w2 := by rw [hw2]; exact (unhide HB1).alloc (by omega) _
  have HB2 := hide hb2
  have HC2 : Hid (∀ w', But [w1.heap.size] w2 w' → ∀ k : Nat, k < 3 → ∃ z, w'.cell? ⟨w.heap.size, k, none⟩ = some (.int .i64 z)) := hide (fun w' h k hk => by
    have hh : w'.heap[w.heap.size]? = some (.cells #[.int .i64 z0, .int .i64 z1, .int .i64 z2, .slice aS n cS] 62 (0, 0)) := by
      rw [h.block w.heap.size (by omega) (by simp; omega), hw2, ((Below.refl w1.heap.size w1).alloc (Nat.le_refl _) _).block w.heap.size (by omega)]
      exact unhide HC1
    match k, hk with
    | 0, _ => exact ⟨z0, by simp [World.cell?, hh]⟩
    | 1, _ => exact ⟨z1, by simp [World.cell?, hh]⟩
    | 2, _ => exact ⟨z2, by simp [World.cell?, hh]⟩)
  have HST : Hid (NewTo w2.heap.size w1.heap.size 0 w2 w2 (fun _ => (0, 0, 0)) (fun _ => 0)) := hide ⟨fun j hj => by omega, fun j hj => by omega, fun i j hi => by omega, fun j hj => by omega, fun j hj => by
      match j, hj with
      | 0, _ => exact ⟨⟨.pointer none, by simp [World.cell?, hg2]⟩, by simp [World.frozen?, hg2]⟩
      | 1, _ => exact ⟨⟨.pointer none, by simp [World.cell?, hg2]⟩, by simp [World.frozen?, hg2]⟩
      | 2, _ => exact ⟨⟨.pointer none, by simp [World.cell?, hg2]⟩, by simp [World.frozen?, hg2]⟩, But.refl _ _⟩
  obtain ⟨gp, hgp⟩ : ∃ gp, gp = w1.heap.size := ⟨_, rfl⟩
  rw [← hgp] at HC2 HST hs2 ⊢
  have hgp1 : w.heap.size + 1 ≤ gp := by omega
  clear hw2 hg2 hb2 HB1 HC1 hgp hs1
  go_loopw [5] (fun i wr => ∃ (k : Nat) (P : Nat → Nat × Nat × Nat) (N : Nat → Nat), k ≤ 3 ∧ i = .int .i64 k ∧ NewTo w2.heap.size gp k w2 wr P N) (fun i _ => 3 - (intOf i).toNat)
  case atStart => exact ⟨0, _, _, by omega, rfl, unhide HST⟩
  case round =>
    obtain ⟨k, P, N, hk, rfl, hnew⟩ := hrel
    by_cases hlt : k < 3
    · obtain ⟨z, hz⟩ := unhide HC2 wr hnew.but k hlt
      obtain ⟨q, hq⟩ : ∃ q : Nat, q = (z % ((400 : Nat) : Int)).toNat := ⟨_, rfl⟩
      have hq4 : q ≤ 399 := by omega
      have HWI : Hid (Calls Try.prog 11 #[.int .i64 z, .int .i64 400] wr fun e w' => e = .returned (.int .i64 (q : Nat)) ∧ w' = wr) := hide (by
        have h := within_any z 400 (by decide) (by decide) wr
        rw [← hq] at h
        exact h)
      have HNW : Hid (Calls Try.prog 22 #[.int .i64 (1 + (q : Int))] wr fun e w' => ∃ p bw bh, e = .returned (.tuple #[.pointer (some ⟨p, 0, none⟩), .int .i64 0]) ∧ Ar w' p bw bh (List.replicate (1 + q) 0) (List.replicate (1 + q) false) 1 ∧ wr.heap.size ≤ p ∧ wr.heap.size ≤ bw ∧ wr.heap.size ≤ bh ∧ Below wr.heap.size wr w') := hide (by
        have h := new_yes (1 + q) (by omega) (by omega) wr
        rw [show ((1 + q : Nat) : Int) = 1 + (q : Int) from by omega] at h
        exact h)
      have HNX := hide (fun (w' : World) (p bw bh : Nat) => NewTo.next (w' := w') (p := p) (bw := bw) (bh := bh) (m := 1 + q) hnew hlt (by omega) (Nat.le_refl _) (by omega))
      have hrm := hnew.room k hlt
      obtain ⟨⟨v0, hv0⟩, hf0⟩ := hrm
      have hgr : gp < wr.heap.size := by have := hnew.but.size; omega
      have e3 : decide ((k : Int) < 3) = true := decide_eq_true (by omega)
      have y0 : (0 : Int) ≤ (k : Int) := by omega
      have y1 : (k : Int) < 3 := by omega
      clear hnew hq
      go_wp2_with fail
      refine (unhide HWI).mono ?_
      rintro e w' ⟨rfl, hw'⟩
      obtain rfl := hw'.symm
      go_wp2_with fail
      refine (unhide HNW).mono ?_
      rintro e w3 ⟨p, bw, bh, rfl, hA, p1, p2, p3, hb3⟩
      have HN3 := hide (unhide HNX w3 p bw bh hA p1 p2 p3 hb3)
      have c3 := (hb3.cell (p := ⟨gp, k, none⟩) hgr).trans hv0
      have f3 : w3.frozen? ⟨gp, k, none⟩ = false := by
        unfold World.frozen? at hf0 ⊢
        rw [hb3.block gp hgr]; exact hf0
      clear hA p1 p2 p3 hb3 hv0 hf0 hz HNX HNW HWI
      go_wp2_with (go_at_call 13; refine (num_any _ _).mono ?_; rintro e w' ⟨rfl, hw'⟩; obtain rfl := hw'.symm)
      go_roundw
      case rel => exact ⟨k + 1, _, _, by omega, by go_num, unhide HN3⟩
      case measure => simp [intOf]; omega
    · have hk3 : k = 3 := by omega
      subst hk3
      rw [show ((3 : Nat) : Int) = 3 from rfl]
      have hwsz := (unhide HB2).size
      have hap : Apart3 P := fun i j hi hj hij => hnew.apart i j hi hj hij
      have hth : Three wr P (fun i => (List.replicate (N i) 0, List.replicate (N i) false, 1)) := ⟨fun i hi => (hnew.ar i hi).1, fun i hi => Sound.start (N i) (hnew.ar i hi).2⟩
      have hall : ∀ x ∈ all3 P, w2.heap.size ≤ x ∧ x < wr.heap.size := fun x hx => by
        unfold all3 at hx
        rcases List.mem_append.1 hx with hx | hx
        · rcases List.mem_append.1 hx with hx | hx
          · exact hnew.low 0 (by decide) x hx
          · exact hnew.low 1 (by decide) x hx
        · exact hnew.low 2 (by decide) x hx
      have hgr : gp < wr.heap.size := by have := hnew.but.size; omega
      have hgn : gp ∉ all3 P := fun h => by have := hall gp h; omega
      have HPC : Hid (∀ w', But (all3 P) wr w' → ∀ j, j < 3 → w'.cell? ⟨gp, j, none⟩ = some (.pointer (some ⟨(P j).1, 0, none⟩))) := hide (fun w' h j hj => (h.cell (q := ⟨gp, j, none⟩) hgr hgn).trans (hnew.cells j hj))
      have HBW : Hid (Below w.heap.size w wr) := hide (hnew.but.below (unhide HB2) (fun j hj => by simp at hj; omega) (unhide HB2).size)
      have HALL := hide hall
      have HTH := hide hth
      have hwr2 := hnew.but.size
      clear hnew hth hall HST HC2 HB2
      go_wp2_with fail
      go_loopw [8] (fun i wq => ∃ (k : Nat) (S : Nat → List Nat × List Bool × Nat), k ≤ n ∧ i = .int .i64 k ∧ Three wq P S ∧ But (all3 P) wr wq) (fun i _ => n - (intOf i).toNat)
      case atStart => exact ⟨0, _, by omega, rfl, unhide HTH, But.refl _ _⟩
      case round =>
        obtain ⟨k, S, hk, rfl, hthr, hbut⟩ := hrel
        rename World => wq
        by_cases hlt : k < n ∧ k < 4096
        · obtain ⟨hkl, hk4⟩ := hlt
          have hcells : ∃ b off, aS = some ⟨b, off, none⟩ ∧ b < w.heap.size ∧ ∀ i, i < n → ∃ q, OpAt w b (off + i * 8) q ∧ OpOk w q := by
            rcases unhide HS with h | h
            · omega
            · exact h
          obtain ⟨b, off, rfl, hb, hOP⟩ := hcells
          obtain ⟨⟨K, X, Y, A, B, C, V, aD, l, cD⟩, hop, hok⟩ := hOP k hkl
          have hbw : Below w.heap.size w wq := hbut.below (unhide HBW) (fun j hj => by have := unhide HALL j hj; omega) (unhide HBW).size
          obtain ⟨o0, o1, o2, o3, o4, o5, o6, o7⟩ := hop
          obtain ⟨v1, v2, v3, v4, v5⟩ := hok
          dsimp only at o0 o1 o2 o3 o4 o5 o6 o7 v1 v2 v3 v4 v5
          have d0 := (hbw.cell (p := ⟨b, off + k * 8, none⟩) hb).trans o0
          have d1 := (hbw.cell (p := ⟨b, off + k * 8 + 1, none⟩) hb).trans o1
          have d2 := (hbw.cell (p := ⟨b, off + k * 8 + 2, none⟩) hb).trans o2
          have d3 := (hbw.cell (p := ⟨b, off + k * 8 + 3, none⟩) hb).trans o3
          have d4 := (hbw.cell (p := ⟨b, off + k * 8 + 4, none⟩) hb).trans o4
          have d5 := (hbw.cell (p := ⟨b, off + k * 8 + 5, none⟩) hb).trans o5
          have d6 := (hbw.cell (p := ⟨b, off + k * 8 + 6, none⟩) hb).trans o6
          have d7 := (hbw.cell (p := ⟨b, off + k * 8 + 7, none⟩) hb).trans o7
          have z0' : (0 : Int) ≤ (k : Int) := by omega
          have z1' : (k : Int) < (n : Int) := by omega
          have z2' : decide ((k : Int) < 4096) = true := decide_eq_true (by omega)
          have HTR := hide hthr
          have HBU := hide hbut
          have hbwq := hbw
          clear o0 o1 o2 o3 o4 o5 o6 o7 hOP hthr hbut hbw
          obtain ⟨Y0, hY0⟩ : ∃ Y0, Y0 = (wq.alloc (.cells #[.int .i64 K, .int .i64 X, .int .i64 Y, .int .i64 A, .int .i64 B, .int .i64 C, .int .u64 V, .slice aD l.length cD] 68)).alloc (.cells #[.slice none 0 0, .slice none 0 0, .slice none 0 0] 69) := ⟨_, rfl⟩
          have s1 : (wq.alloc (.cells #[.int .i64 K, .int .i64 X, .int .i64 Y, .int .i64 A, .int .i64 B, .int .i64 C, .int .u64 V, .slice aD l.length cD] 68)).heap.size = wq.heap.size + 1 := by simp
          have hYs : Y0.heap.size = wq.heap.size + 2 := by rw [hY0]; simp
          have hYb : Below wq.heap.size wq Y0 := by rw [hY0]; exact ((Below.refl wq.heap.size wq).alloc (Nat.le_refl _) _).alloc (by simp) _
          have hYo : Y0.heap[wq.heap.size]? = some (.cells #[.int .i64 K, .int .i64 X, .int .i64 Y, .int .i64 A, .int .i64 B, .int .i64 C, .int .u64 V, .slice aD l.length cD] 68 (0, 0)) := by
            rw [hY0, ((Below.refl (wq.heap.size + 1) (wq.alloc (.cells #[.int .i64 K, .int .i64 X, .int .i64 Y, .int .i64 A, .int .i64 B, .int .i64 C, .int .u64 V, .slice aD l.length cD] 68))).alloc (by simp) _).block wq.heap.size (by omega)]
            exact heap_alloc_new wq _
          have hYw : Y0.heap[wq.heap.size + 1]? = some (.cells #[.slice none 0 0, .slice none 0 0, .slice none 0 0] 69 (0, 0)) := by
            have h1 := heap_alloc_new (wq.alloc (.cells #[.int .i64 K, .int .i64 X, .int .i64 Y, .int .i64 A, .int .i64 B, .int .i64 C, .int .u64 V, .slice aD l.length cD] 68)) (.cells #[.slice none 0 0, .slice none 0 0, .slice none 0 0] 69)
            rw [s1] at h1
            rw [hY0]
            exact h1
          have hsq := (unhide HBU).size
          have hallq : ∀ x ∈ all3 P, x < wq.heap.size := fun x hx => by have := unhide HALL x hx; omega
          have HSN : Hid (Snap (wq.heap.size + 2) (wq.heap.size + 1) 0 Y0 Y0 S (fun _ => 0)) := hide ⟨fun j hj => by omega, fun i j hi => by omega, fun j hj => by omega, fun j hj => by omega, fun j hj => by
              match j, hj with
              | 0, _ => exact ⟨⟨.slice none 0 0, by simp [World.cell?, hYw]⟩, by simp [World.frozen?, hYw]⟩
              | 1, _ => exact ⟨⟨.slice none 0 0, by simp [World.cell?, hYw]⟩, by simp [World.frozen?, hYw]⟩
              | 2, _ => exact ⟨⟨.slice none 0 0, by simp [World.cell?, hYw]⟩, by simp [World.frozen?, hYw]⟩, But.refl _ _⟩
          have HTY : Hid (∀ w', But [wq.heap.size + 1] Y0 w' → Three w' P S) := hide (fun w' h => ⟨fun i hi => by
              have ha := ((unhide HTR).ar i hi).below hYb
              have k1 := hallq _ (all3_mem P i hi (P i).1 (by simp [own3]))
              have k2 := hallq _ (all3_mem P i hi (P i).2.1 (by simp [own3]))
              have k3 := hallq _ (all3_mem P i hi (P i).2.2 (by simp [own3]))
              exact ha.but h (by simp; omega) (by simp; omega) (by simp; omega), (unhide HTR).sound⟩)
          have hgq : gp < wq.heap.size := by omega
          have HPY : Hid (∀ w', But [wq.heap.size + 1] Y0 w' → ∀ j, j < 3 → w'.cell? ⟨gp, j, none⟩ = some (.pointer (some ⟨(P j).1, 0, none⟩))) := hide (fun w' h j hj => by
            rw [h.cell (q := ⟨gp, j, none⟩) (by show gp < _; omega) (by simp; omega), hYb.cell (p := ⟨gp, j, none⟩) hgq]
            exact unhide HPC wq (unhide HBU) j hj)
          have HOY : Hid (∀ w' : World, w'.heap[wq.heap.size]? = Y0.heap[wq.heap.size]? → w'.cell? ⟨wq.heap.size, 0, none⟩ = some (.int .i64 K) ∧ w'.cell? ⟨wq.heap.size, 1, none⟩ = some (.int .i64 X) ∧ w'.cell? ⟨wq.heap.size, 2, none⟩ = some (.int .i64 Y) ∧ w'.cell? ⟨wq.heap.size, 3, none⟩ = some (.int .i64 A) ∧ w'.cell? ⟨wq.heap.size, 4, none⟩ = some (.int .i64 B) ∧ w'.cell? ⟨wq.heap.size, 5, none⟩ = some (.int .i64 C) ∧ w'.cell? ⟨wq.heap.size, 6, none⟩ = some (.int .u64 V) ∧ w'.cell? ⟨wq.heap.size, 7, none⟩ = some (.slice aD l.length cD)) := hide (fun w' h => by
            rw [hYo] at h
            refine ⟨?_, ?_, ?_, ?_, ?_, ?_, ?_, ?_⟩ <;> simp [World.cell?, h])
          have HBY : Hid (Below w.heap.size w Y0) := hide (hbwq.trans (hYb.mono hbwq.size))
          have HYB := hide hYb
          have HYE := hide hY0
          have HV4 := hide v4
          have HV5 := hide v5
          clear hYo hYw s1 hYb hY0 v4 v5 hbwq
          go_wp2_with fail
          rw [← unhide HYE]
          obtain ⟨go, hgo⟩ : ∃ go, go = wq.heap.size := ⟨_, rfl⟩
          rw [← hgo] at HSN HTY HPY HOY hYs hgq hsq HYB ⊢
          have HGO := hide hgo
          clear hgo HYE d0 d1 d2 d3 d4 d5 d6 d7
          go_loopw [11] (fun i wz => ∃ (m : Nat) (G : Nat → Nat), m ≤ 3 ∧ i = .int .i64 m ∧ Snap (go + 2) (go + 1) m Y0 wz S G) (fun i _ => 3 - (intOf i).toNat)
          case atStart => exact ⟨0, _, by omega, rfl, unhide HSN⟩
          case round =>
            obtain ⟨m, G, hm, rfl, hsn⟩ := hrel
            rename World => wz
            by_cases hlt3 : m < 3
            · have HIM := hide (image_more wz ((unhide HTY wz hsn.but).ar m hlt3))
              have pm := unhide HPY wz hsn.but m hlt3
              have HNX := hide (fun w' => Snap.next (w' := w') hsn hlt3 (by omega) (by omega))
              obtain ⟨⟨vr, hvr⟩, hfr⟩ := hsn.room m hlt3
              have hgwz : go + 1 < wz.heap.size := by have := hsn.but.size; omega
              have e3 : decide ((m : Int) < 3) = true := decide_eq_true (by omega)
              have y0 : (0 : Int) ≤ (m : Int) := by omega
              have y1 : (m : Int) < 3 := by omega
              clear hsn
              go_wp2_with fail
              refine (unhide HIM).mono ?_
              rintro e w5 ⟨rfl, i1, i2, i3, i4⟩
              have HN5 := hide (unhide HNX w5 i1 i2 i3 i4)
              have c5 := (i4.cell (p := ⟨go + 1, m, none⟩) hgwz).trans hvr
              have f5 : w5.frozen? ⟨go + 1, m, none⟩ = false := by
                unfold World.frozen? at hfr ⊢
                rw [i4.block (go + 1) hgwz]; exact hfr
              clear i1 i2 i3 i4 hvr hfr pm HNX HIM
              go_wp2_with fail
              go_roundw
              case rel => exact ⟨m + 1, _, by omega, by go_num, unhide HN5⟩
              case measure => simp [intOf]; omega
            · have hm3 : m = 3 := by omega
              subst hm3
              rw [show ((3 : Nat) : Int) = 3 from rfl]
              have p0 := unhide HPY wz hsn.but 0 (by decide)
              have p1 := unhide HPY wz hsn.but 1 (by decide)
              have p2 := unhide HPY wz hsn.but 2 (by decide)
              obtain ⟨o0, o1, o2, o3, o4, o5, o6, o7⟩ := unhide HOY wz (hsn.but.block go (by omega) (by simp))
              have hbz : Below w.heap.size w wz := hsn.but.below (unhide HBY) (fun j hj => by simp at hj; omega) (unhide HBY).size
              have HRF := hide (refused_any P S hap K X Y A B C V aD l cD wz (unhide HTY wz hsn.but) v1 v2 v3 ((unhide HV4).below hbz) (unhide HV5))
              have HSNZ := hide hsn
              have HBZ := hide hbz
              clear hsn hbz
              go_wp2_with fail
              refine (unhide HRF).mono ?_
              rintro e w6 ⟨no, S', rfl, hth6, hbut6, heff⟩
              have hsn := unhide HSNZ
              have hszz := hsn.but.size
              have hGlow : ∀ j, j < 3 → go + 2 ≤ G j ∧ G j < wz.heap.size := hsn.low
              have hall6 : ∀ x ∈ all3 P, x < go := fun x hx => by have := unhide HGO; have := hallq x hx; omega
              have hg0 := hGlow 0 (by decide)
              have hg1 := hGlow 1 (by decide)
              have hg2 := hGlow 2 (by decide)
              have hs6 := hbut6.size
              have HFA : Hid (∀ w', But [G 0, G 1, G 2] w6 w' → (∀ j, j < 3 → w'.cell? ⟨gp, j, none⟩ = some (.pointer (some ⟨(P j).1, 0, none⟩)) ∧ w'.cell? ⟨go + 1, j, none⟩ = some (.slice (some ⟨G j, 0, none⟩) (S j).2.2 (S j).2.2)) ∧ w'.cell? ⟨go, 0, none⟩ = some (.int .i64 K) ∧ w'.cell? ⟨go, 1, none⟩ = some (.int .i64 X) ∧ w'.cell? ⟨go, 2, none⟩ = some (.int .i64 Y) ∧ w'.cell? ⟨go, 3, none⟩ = some (.int .i64 A) ∧ Three w' P S') := hide (fun w' h => by
                have hGn : ∀ z, z < go + 2 → z ∉ [G 0, G 1, G 2] := fun z hz hm => by simp at hm; omega
                have hcc : ∀ (qa : Addr), qa.block < go + 2 → qa.block ∉ all3 P → w'.cell? qa = wz.cell? qa := fun qa h1 h2 => (h.cell (q := qa) (by omega) (hGn _ h1)).trans (hbut6.cell (q := qa) (by omega) h2)
                have n1 : gp ∉ all3 P := hgn
                have n2 : go ∉ all3 P := fun hx => by have := hall6 go hx; omega
                have n3 : go + 1 ∉ all3 P := fun hx => by have := hall6 (go + 1) hx; omega
                obtain ⟨o0, o1, o2, o3, _⟩ := unhide HOY wz (hsn.but.block go (by omega) (by simp))
                refine ⟨fun j hj => ⟨?_, ?_⟩, (hcc ⟨go, 0, none⟩ (by show go < go + 2; omega) n2).trans o0, (hcc ⟨go, 1, none⟩ (by show go < go + 2; omega) n2).trans o1, (hcc ⟨go, 2, none⟩ (by show go < go + 2; omega) n2).trans o2, (hcc ⟨go, 3, none⟩ (by show go < go + 2; omega) n2).trans o3, ⟨fun i hi => ?_, hth6.sound⟩⟩
                · exact (hcc ⟨gp, j, none⟩ (by show gp < go + 2; omega) n1).trans (unhide HPY wz hsn.but j hj)
                · exact (hcc ⟨go + 1, j, none⟩ (by show go + 1 < go + 2; omega) n3).trans (hsn.cells j hj)
                · have k1 := hall6 _ (all3_mem P i hi (P i).1 (by simp [own3]))
                  have k2 := hall6 _ (all3_mem P i hi (P i).2.1 (by simp [own3]))
                  have k3 := hall6 _ (all3_mem P i hi (P i).2.2 (by simp [own3]))
                  exact (hth6.ar i hi).but h (hGn _ (by omega)) (hGn _ (by omega)) (hGn _ (by omega)))
              have HW6 : Hid (∀ j, 0 ≤ j → j < 3 → ∀ q, q < (S j).2.2 → w6.cell? ⟨G j, q, none⟩ = some (.int .u64 ((S j).1.getD q 0 : Nat)) ∧ w6.frozen? ⟨G j, q, none⟩ = false) := hide (fun j _ hj q hq => by
                have hl := hGlow j hj
                have hn : G j ∉ all3 P := fun hx => by have := hall6 (G j) hx; omega
                obtain ⟨a1, a2⟩ := hsn.words j hj q hq
                exact ⟨(hbut6.cell (q := ⟨G j, q, none⟩) hl.2 hn).trans a1, (hbut6.frozen (q := ⟨G j, q, none⟩) hl.2 hn).trans a2⟩)
              have HNE : Hid (∀ i j, i < 3 → j < 3 → i ≠ j → G i ≠ G j) := hide hsn.ne
              have HUS : Hid (∀ j, j < 3 → (S j).2.2 ≤ (S j).1.length ∧ (S j).1.length ≤ 1048576) := hide (fun j hj => by
                have := (unhide HTY wz hsn.but).ar j hj
                exact ⟨this.u2, this.sz⟩)
              have HEF := hide heff
              have HGM : Hid (∀ j, j < 3 → go + 2 ≤ G j) := hide (fun j hj => (hGlow j hj).1)
              have HG3 : Hid (∀ j, j < 3 → G j < w6.heap.size) := hide (fun j hj => by have := hGlow j hj; omega)
              have HB6 : Hid (∀ w', But [G 0, G 1, G 2] w6 w' → Three w' P S' ∧ But (all3 P) wr w') := hide (fun w' h => ⟨(unhide HFA w' h).2.2.2.2.2, by
                have hq := unhide HGO
                have hyb := unhide HYB
                have hub := unhide HBU
                refine ⟨h.os.trans (hbut6.os.trans (hsn.but.os.trans (hyb.os.trans hub.os))), h.tape.trans (hbut6.tape.trans (hsn.but.tape.trans (hyb.tape.trans hub.tape))), h.output.trans (hbut6.output.trans (hsn.but.output.trans (hyb.output.trans hub.output))), ?_, fun j hj hn => ?_⟩
                · have := h.size
                  have := hub.size
                  omega
                · have hjq : j < go := by have := hub.size; omega
                  rw [h.block j (by omega) (by simp; omega), hbut6.block j (by omega) hn, hsn.but.block j (by omega) (by simp; omega), hyb.block j (by omega)]
                  exact hub.block j hj hn⟩)
              clear hsn heff hth6 hbut6 p0 p1 p2 o0 o1 o2 o3 o4 o5 o6 o7 HRF HSNZ HSN HTY HPY HOY
              go_wp2_with fail
              go_loopw [13] (fun i wy => ∃ m : Nat, m ≤ 3 ∧ i = .int .i64 m ∧ But [G 0, G 1, G 2] w6 wy ∧ ∀ j, m ≤ j → j < 3 → ∀ q, q < (S j).2.2 → wy.cell? ⟨G j, q, none⟩ = some (.int .u64 ((S j).1.getD q 0 : Nat)) ∧ wy.frozen? ⟨G j, q, none⟩ = false) (fun i _ => 3 - (intOf i).toNat)
              case atStart => exact ⟨0, by omega, rfl, But.refl _ _, unhide HW6⟩
              case round =>
                obtain ⟨m, hm, rfl, hby, hwd⟩ := hrel
                rename World => wy
                by_cases hlt3 : m < 3
                · obtain ⟨hpj, q0, q1, q2, q3, hthy⟩ := unhide HFA wy hby
                  have HIM := hide (image_more wy (hthy.ar m hlt3))
                  have pm := (hpj m hlt3).1
                  have e3 : decide ((m : Int) < 3) = true := decide_eq_true (by omega)
                  have y0 : (0 : Int) ≤ (m : Int) := by omega
                  have y1 : (m : Int) < 3 := by omega
                  have HBYY := hide hby
                  have HWD := hide hwd
                  have HTHY := hide hthy
                  clear hby hwd hpj hthy
                  go_wp2_with fail
                  refine (unhide HIM).mono ?_
                  rintro e w7 ⟨rfl, i1, i2, i3, i4⟩
                  have hby7 : But [G 0, G 1, G 2] w6 w7 := (unhide HBYY).trans (But.of_below i4)
                  obtain ⟨hpj, q0, q1, q2, q3, hth7⟩ := unhide HFA w7 hby7
                  obtain ⟨pm7, wm7⟩ := hpj m hlt3
                  have HRL : Hid (∀ w', Below w7.heap.size w7 w' → But [G 0, G 1, G 2] w6 w' ∧ ∀ j, m + 1 ≤ j → j < 3 → ∀ q, q < (S j).2.2 → w'.cell? ⟨G j, q, none⟩ = some (.int .u64 ((S j).1.getD q 0 : Nat)) ∧ w'.frozen? ⟨G j, q, none⟩ = false) := hide (fun w' h => by
                    have hb := i4.trans (h.mono i4.size)
                    refine ⟨(unhide HBYY).trans (But.of_below hb), fun j h1 h2 q hq => ?_⟩
                    have hl : G j < wy.heap.size := by have := unhide HG3 j h2; have := (unhide HBYY).size; omega
                    obtain ⟨a1, a2⟩ := unhide HWD j (by omega) h2 q hq
                    refine ⟨(hb.cell (p := ⟨G j, q, none⟩) hl).trans a1, ?_⟩
                    unfold World.frozen? at a2 ⊢
                    rw [hb.block (G j) hl]; exact a2)
                  have HSW0 : Hid (S' m = S m → ∀ w', Below w7.heap.size w7 w' → Calls Try.prog 26 #[.slice (some ⟨wy.heap.size, 0, none⟩) (S' m).2.2 (S' m).2.2, .slice (some ⟨G m, 0, none⟩) (S m).2.2 (S m).2.2] w' fun e w'' => e = .returned (.bool true) ∧ Below w'.heap.size w' w'') := hide (fun he w' h => by
                    have hu := unhide HUS m hlt3
                    have hl : G m < wy.heap.size := by have := unhide HG3 m hlt3; have := (unhide HBYY).size; omega
                    have hb := i4.trans (h.mono i4.size)
                    rw [he] at i2 ⊢
                    have h7 := h.size
                    refine same_words wy.heap.size (G m) _ _ (S m).2.2 (fun q => (S m).1.getD q 0) w' (by omega) (by omega) (by omega) (fun q hq => ?_) (fun q hq => ?_)
                    · exact (h.cell (p := ⟨wy.heap.size, q, none⟩) i1).trans (i2 q hq)
                    · exact (hb.cell (p := ⟨G m, q, none⟩) hl).trans (unhide HWD m (by omega) hlt3 q hq).1)
                  have hxm := t3_lt X
                  have hef := unhide HEF
                  by_cases hca : m = t3 X ∧ no = false
                  · obtain ⟨hmx, rfl⟩ := hca
                    have g1 : ((m : Int) == (t3 X : Int)) = true := by rw [hmx]; simp
                    have g2 : (m == t3 X) = true := by rw [hmx]; simp
                    have HEN := hide (unhide HRL w7 (Below.refl _ _))
                    clear i1 i2 i3 i4 hby7 hpj hth7 hef hmx
                    go_wp2_with (go_at_call 24; refine (three_nat _ _).mono ?_; rintro e w9 ⟨rfl, hw9⟩; obtain rfl := hw9.symm)
                    go_roundw
                    case rel => exact ⟨m + 1, by omega, by go_num, unhide HEN⟩
                    case measure => simp [intOf]; omega
                  · cases no with
                    | true =>
                      have HSW := hide (unhide HSW0 (hef.same m hlt3 (.inl rfl)))
                      clear i1 i2 i3 i4 hby7 hpj hth7 hef HSW0
                      by_cases hmx : m = t3 X
                      · have g1 : ((m : Int) == (t3 X : Int)) = true := by rw [hmx]; simp
                        have g2 : (m == t3 X) = true := by rw [hmx]; simp
                        clear hmx
                        by_cases hK8 : K = 8
                        · have g3 : (K == 8) = true := by rw [hK8]; rfl
                          clear hK8
                          go_wp2_with (go_at_call 24; refine (three_nat _ _).mono ?_; rintro e w9 ⟨rfl, hw9⟩; obtain rfl := hw9.symm)
                          go_quiet (first | (go_at_call 24; exact Calls.quiet_of_same (three_nat _ _)))
                          go_wp2_with fail
                          refine (unhide HSW _ (below_drawn (Below.refl w7.heap.size w7) _)).mono ?_
                          rintro e w10 ⟨rfl, hb10⟩
                          have HEN := hide (unhide HRL w10 ((below_drawn (Below.refl w7.heap.size w7) _).trans hb10))
                          clear hb10
                          go_wp2_with fail
                          go_roundw
                          case rel => exact ⟨m + 1, by omega, by go_num, unhide HEN⟩
                          case measure => simp [intOf]; omega
                        · have g3 : (K == 8) = false := by rw [beq_eq_false_iff_ne]; exact hK8
                          clear hK8
                          go_wp2_with (go_at_call 24; refine (three_nat _ _).mono ?_; rintro e w9 ⟨rfl, hw9⟩; obtain rfl := hw9.symm)
                          go_quiet (first | (go_at_call 24; exact Calls.quiet_of_same (three_nat _ _)))
                          go_wp2_with fail
                          refine (unhide HSW _ (below_drawn (Below.refl w7.heap.size w7) _)).mono ?_
                          rintro e w10 ⟨rfl, hb10⟩
                          have HEN := hide (unhide HRL w10 ((below_drawn (Below.refl w7.heap.size w7) _).trans hb10))
                          clear hb10
                          go_wp2_with fail
                          go_roundw
                          case rel => exact ⟨m + 1, by omega, by go_num, unhide HEN⟩
                          case measure => simp [intOf]; omega
                      · have g1 : ((m : Int) == (t3 X : Int)) = false := by rw [beq_eq_false_iff_ne]; omega
                        have g2 : (m == t3 X) = false := by rw [beq_eq_false_iff_ne]; exact hmx
                        clear hmx
                        by_cases hK8 : K = 8
                        · have g3 : (K == 8) = true := by rw [hK8]; rfl
                          clear hK8
                          go_wp2_with (go_at_call 24; refine (three_nat _ _).mono ?_; rintro e w9 ⟨rfl, hw9⟩; obtain rfl := hw9.symm)
                          go_quiet (first | (go_at_call 24; exact Calls.quiet_of_same (three_nat _ _)))
                          go_wp2_with fail
                          refine (unhide HSW _ (below_drawn (Below.refl w7.heap.size w7) _)).mono ?_
                          rintro e w10 ⟨rfl, hb10⟩
                          have HEN := hide (unhide HRL w10 ((below_drawn (Below.refl w7.heap.size w7) _).trans hb10))
                          clear hb10
                          go_wp2_with fail
                          go_roundw
                          case rel => exact ⟨m + 1, by omega, by go_num, unhide HEN⟩
                          case measure => simp [intOf]; omega
                        · have g3 : (K == 8) = false := by rw [beq_eq_false_iff_ne]; exact hK8
                          clear hK8
                          go_wp2_with (go_at_call 24; refine (three_nat _ _).mono ?_; rintro e w9 ⟨rfl, hw9⟩; obtain rfl := hw9.symm)
                          go_quiet (first | (go_at_call 24; exact Calls.quiet_of_same (three_nat _ _)))
                          go_wp2_with fail
                          refine (unhide HSW _ (below_drawn (Below.refl w7.heap.size w7) _)).mono ?_
                          rintro e w10 ⟨rfl, hb10⟩
                          have HEN := hide (unhide HRL w10 ((below_drawn (Below.refl w7.heap.size w7) _).trans hb10))
                          clear hb10
                          go_wp2_with fail
                          go_roundw
                          case rel => exact ⟨m + 1, by omega, by go_num, unhide HEN⟩
                          case measure => simp [intOf]; omega
                    | false =>
                      have hmx : m ≠ t3 X := fun h => hca ⟨h, rfl⟩
                      have g1 : ((m : Int) == (t3 X : Int)) = false := by rw [beq_eq_false_iff_ne]; omega
                      have g2 : (m == t3 X) = false := by rw [beq_eq_false_iff_ne]; exact hmx
                      by_cases hK8 : K = 8
                      · have g3 : (K == 8) = true := by rw [hK8]; rfl
                        by_cases hmy : m = t3 Y
                        · obtain ⟨⟨k0, v, hA0, k1, k2, k3, k4, k5, hS1⟩, hS2⟩ := hef.took hK8 rfl (fun e => hmx (hmy.trans e))
                          rw [← hmy] at k2 k3 hS1 hS2
                          subst hA0
                          obtain ⟨u, rfl⟩ := Nat.exists_eq_add_of_le k4
                          have hus := unhide HUS m hlt3
                          have hl : G m < wy.heap.size := by have := unhide HG3 m hlt3; have := (unhide HBYY).size; omega
                          have HMV : Hid (∀ w', Below w7.heap.size w7 w' → Calls Try.prog 25 #[.pointer (some ⟨(P m).1, 0, none⟩), .int .i64 k0] w' fun e w'' => e = .returned (.tuple #[.int .i64 u, .bool true, .int .i64 0]) ∧ w'' = w') := hide (fun w' h => by
                            have h1 := movedcall_any (k0 : Int) w' ((hth7.ar m hlt3).below h)
                            have h2 : movedRes (S' m).1 (S' m).2.1 (S' m).2.2 (k0 : Int) = (u, true, 0) := by
                              unfold movedRes
                              rw [hS2, hS1, if_pos ⟨by omega, by omega, by rw [Int.toNat_natCast]; exact k3⟩, Int.toNat_natCast, getD_set _ _ _ _ (by omega), if_pos rfl, if_pos (by omega), Nat.add_sub_cancel_left]
                            rw [h2] at h1
                            exact h1)
                          have g4 : ((m : Int) == (t3 Y : Int)) = true := by rw [hmy]; simp
                          have g5 : (m == t3 Y) = true := by rw [hmy]; simp
                          have g6 : decide ((0 : Int) < (k0 : Int)) = true := decide_eq_true (by omega)
                          have g7 : decide ((k0 : Int) < ((S m).2.2 : Int)) = true := decide_eq_true (by omega)
                          have g8 : decide (0 < k0) = true := decide_eq_true (by omega)
                          have g9 : decide (k0 < (S m).2.2) = true := decide_eq_true (by omega)
                          have y2 : (0 : Int) ≤ (k0 : Int) := by omega
                          have y3 : (k0 : Int) < ((S m).2.2 : Int) := by omega
                          obtain ⟨ck, cf⟩ : w7.cell? ⟨G m, k0, none⟩ = some (.int .u64 ((S m).1.getD k0 0 : Nat)) ∧ w7.frozen? ⟨G m, k0, none⟩ = false := by
                            obtain ⟨a1, a2⟩ := unhide HWD m (by omega) hlt3 k0 k2
                            refine ⟨(i4.cell (p := ⟨G m, k0, none⟩) hl).trans a1, ?_⟩
                            unfold World.frozen? at a2 ⊢
                            rw [i4.block (G m) hl]; exact a2
                          have HSW2 : Hid (∀ w', But [G m] w7 w' → (∀ q, q < (S m).2.2 → w'.cell? ⟨G m, q, none⟩ = if q = k0 then some (.int .u64 ((9223372036854775808 + u : Nat) : Int)) else w7.cell? ⟨G m, q, none⟩) → Calls Try.prog 26 #[.slice (some ⟨wy.heap.size, 0, none⟩) (S' m).2.2 (S' m).2.2, .slice (some ⟨G m, 0, none⟩) (S m).2.2 (S m).2.2] w' fun e w'' => e = .returned (.bool true) ∧ Below w'.heap.size w' w'') := hide (fun w' h hq => by
                            have hsz := h.size
                            have hs7 := i4.size
                            have e2 : (S' m).2.2 = (S m).2.2 := by rw [hS2]
                            rw [e2] at i2 ⊢
                            rw [hS1] at i2
                            refine same_words wy.heap.size (G m) _ _ (S m).2.2 (fun q => ((S m).1.set k0 (9223372036854775808 + u)).getD q 0) w' (by omega) (by omega) (by omega) (fun q hq2 => ?_) (fun q hq2 => ?_)
                            · exact (h.cell (q := ⟨wy.heap.size, q, none⟩) i1 (by simp; omega)).trans (i2 q hq2)
                            · rw [hq q hq2, getD_set _ _ _ _ (by omega)]
                              by_cases e : q = k0
                              · rw [if_pos e, if_pos e]
                              · rw [if_neg e, if_neg e]
                                exact (i4.cell (p := ⟨G m, q, none⟩) hl).trans (unhide HWD m (by omega) hlt3 q hq2).1)
                          have HRL2 : Hid (∀ w', But [G m] w7 w' → But [G 0, G 1, G 2] w6 w' ∧ ∀ j, m + 1 ≤ j → j < 3 → ∀ q, q < (S j).2.2 → w'.cell? ⟨G j, q, none⟩ = some (.int .u64 ((S j).1.getD q 0 : Nat)) ∧ w'.frozen? ⟨G j, q, none⟩ = false) := hide (fun w' h => by
                            obtain ⟨b1, b2⟩ := unhide HRL w7 (Below.refl _ _)
                            refine ⟨b1.trans (h.over (fun z hz => ?_)), fun j j1 j2 q hq => ?_⟩
                            · simp at hz
                              subst hz
                              exact mem_three G m hlt3
                            · obtain ⟨a1, a2⟩ := b2 j j1 j2 q hq
                              have hlj : G j < w7.heap.size := by have := unhide HG3 j j2; have := hby7.size; omega
                              have hne : G j ∉ [G m] := by simp; exact unhide HNE j m j2 hlt3 (by omega)
                              exact ⟨(h.cell (q := ⟨G j, q, none⟩) hlj hne).trans a1, (h.frozen (q := ⟨G j, q, none⟩) hlj hne).trans a2⟩)
                          have hgneq : G m ≠ go := by have := unhide HGM m hlt3; omega
                          have hgneq2 : G m ≠ go + 1 := by have := unhide HGM m hlt3; omega
                          have hu63 : u < 9223372036854775808 := by omega
                          clear i1 i2 i3 i4 hby7 hpj hth7 hef HSW0 hS1 hS2 k3 k4 k5 hmy hmx hK8 hca
                          generalize (S m).1.getD k0 0 = old at *
                          go_wp2_with (go_at_call 24; refine (three_nat _ _).mono ?_; rintro e w9 ⟨rfl, hw9⟩; obtain rfl := hw9.symm)
                          go_quiet (first | (go_at_call 24; exact Calls.quiet_of_same (three_nat _ _)))
                          have pm8 : (w7.drewN nq).cell? ⟨gp, m, none⟩ = some (.pointer (some ⟨(P m).1, 0, none⟩)) := pm7
                          have wm8 : (w7.drewN nq).cell? ⟨go + 1, m, none⟩ = some (.slice (some ⟨G m, 0, none⟩) (S m).2.2 (S m).2.2) := wm7
                          have q38 : (w7.drewN nq).cell? ⟨go, 3, none⟩ = some (.int .i64 (k0 : Int)) := q3
                          have ck8 : (w7.drewN nq).cell? ⟨G m, k0, none⟩ = some (.int .u64 (old : Nat)) := ck
                          have cf8 : (w7.drewN nq).frozen? ⟨G m, k0, none⟩ = false := cf
                          have HMV8 : Hid (∀ n, Calls Try.prog 25 #[.pointer (some ⟨(P m).1, 0, none⟩), .int .i64 k0] ((w7.drewN nq).drewN n) fun e w'' => e = .returned (.tuple #[.int .i64 u, .bool true, .int .i64 0]) ∧ w'' = (w7.drewN nq).drewN n) := hide (fun n => unhide HMV _ (below_drawn (below_drawn (Below.refl w7.heap.size w7) _) _))
                          have HSW8 : Hid (∀ w', But [G m] (w7.drewN nq) w' → (∀ q, q < (S m).2.2 → w'.cell? ⟨G m, q, none⟩ = if q = k0 then some (.int .u64 ((9223372036854775808 + u : Nat) : Int)) else (w7.drewN nq).cell? ⟨G m, q, none⟩) → Calls Try.prog 26 #[.slice (some ⟨wy.heap.size, 0, none⟩) (S' m).2.2 (S' m).2.2, .slice (some ⟨G m, 0, none⟩) (S m).2.2 (S m).2.2] w' fun e w'' => e = .returned (.bool true) ∧ Below w'.heap.size w' w'') := hide (fun w' h1 h2 => unhide HSW2 w' ⟨h1.os, h1.tape, h1.output, h1.size, h1.block⟩ h2)
                          have HRL8 : Hid (∀ w', But [G m] (w7.drewN nq) w' → But [G 0, G 1, G 2] w6 w' ∧ ∀ j, m + 1 ≤ j → j < 3 → ∀ q, q < (S j).2.2 → w'.cell? ⟨G j, q, none⟩ = some (.int .u64 ((S j).1.getD q 0 : Nat)) ∧ w'.frozen? ⟨G j, q, none⟩ = false) := hide (fun w' h1 => unhide HRL2 w' ⟨h1.os, h1.tape, h1.output, h1.size, h1.block⟩)
                          clear HMV HSW2 HRL2 HRL pm7 wm7 q0 q1 q2 q3 ck cf HIM pm
                          generalize w7.drewN nq = w8 at *
                          go_wp2_with fail
                          go_quiet (first | (go_at_call 25; exact Calls.quiet_of_same (unhide HMV8 _)))
                          have wm9 : (w8.drewN nq).cell? ⟨go + 1, m, none⟩ = some (.slice (some ⟨G m, 0, none⟩) (S m).2.2 (S m).2.2) := wm8
                          have q39 : (w8.drewN nq).cell? ⟨go, 3, none⟩ = some (.int .i64 (k0 : Int)) := q38
                          have ck9 : (w8.drewN nq).cell? ⟨G m, k0, none⟩ = some (.int .u64 (old : Nat)) := ck8
                          have cf9 : (w8.drewN nq).frozen? ⟨G m, k0, none⟩ = false := cf8
                          have HSW9 : Hid (∀ w', But [G m] (w8.drewN nq) w' → (∀ q, q < (S m).2.2 → w'.cell? ⟨G m, q, none⟩ = if q = k0 then some (.int .u64 ((9223372036854775808 + u : Nat) : Int)) else (w8.drewN nq).cell? ⟨G m, q, none⟩) → Calls Try.prog 26 #[.slice (some ⟨wy.heap.size, 0, none⟩) (S' m).2.2 (S' m).2.2, .slice (some ⟨G m, 0, none⟩) (S m).2.2 (S m).2.2] w' fun e w'' => e = .returned (.bool true) ∧ Below w'.heap.size w' w'') := hide (fun w' h1 h2 => unhide HSW8 w' ⟨h1.os, h1.tape, h1.output, h1.size, h1.block⟩ h2)
                          have HRL9 : Hid (∀ w', But [G m] (w8.drewN nq) w' → But [G 0, G 1, G 2] w6 w' ∧ ∀ j, m + 1 ≤ j → j < 3 → ∀ q, q < (S j).2.2 → w'.cell? ⟨G j, q, none⟩ = some (.int .u64 ((S j).1.getD q 0 : Nat)) ∧ w'.frozen? ⟨G j, q, none⟩ = false) := hide (fun w' h1 => unhide HRL8 w' ⟨h1.os, h1.tape, h1.output, h1.size, h1.block⟩)
                          clear HMV8 HSW8 HRL8 pm8 wm8 q38 ck8 cf8
                          generalize w8.drewN nq = w9 at *
                          go_wp2_with (go_at_call 13; refine (num_any _ _).mono ?_; rintro e w' ⟨rfl, hw'⟩; obtain rfl := hw'.symm)
                          go_region_held3 (fun w' => w'.cell? ⟨go + 1, m, none⟩ = some (.slice (some ⟨G m, 0, none⟩) (S m).2.2 (S m).2.2) ∧ w'.cell? ⟨go, 3, none⟩ = some (.int .i64 (k0 : Int)))
                            (first | exact ⟨wm9, q39⟩ | assumption | exact ⟨(World.cell?_setCell_other _ _ _ _ (fun e' => hgneq2 (by injection e' with e1 e2))).trans wm9, (World.cell?_setCell_other _ _ _ _ (fun e' => hgneq (by injection e' with e1 e2))).trans q39⟩)
                            (fail)
                          have ew : IntKind.u64.wrap (9223372036854775808 + IntKind.u64.wrap (u : Int)) = ((9223372036854775808 + u : Nat) : Int) := by
                            have e1 : IntKind.u64.wrap (u : Int) = (u : Int) := by rw [IntKind.wrap_u64]; omega
                            rw [e1, IntKind.wrap_u64]; omega
                          rw [ew]
                          have hB10 : But [G m] w9 (w9.setCell ⟨G m, k0, none⟩ (.int .u64 ((9223372036854775808 + u : Nat) : Int))).drew := by
                            have h1 := (But.refl [G m] w9).set ⟨G m, k0, none⟩ (by simp) (.int .u64 ((9223372036854775808 + u : Nat) : Int))
                            exact ⟨h1.os, h1.tape, h1.output, h1.size, h1.block⟩
                          have hC10 : ∀ q, q < (S m).2.2 → (w9.setCell ⟨G m, k0, none⟩ (.int .u64 ((9223372036854775808 + u : Nat) : Int))).drew.cell? ⟨G m, q, none⟩ = if q = k0 then some (.int .u64 ((9223372036854775808 + u : Nat) : Int)) else w9.cell? ⟨G m, q, none⟩ := fun q hq => by
                            by_cases e : q = k0
                            · rw [if_pos e]
                              subst e
                              exact World.cell?_setCell_same' w9 _ _ (by rw [ck9]; rfl)
                            · rw [if_neg e]
                              exact World.cell?_setCell_other _ _ _ _ (fun e' => e (by injection e' with e1 e2; exact e2.symm))
                          have wm10 : (w9.setCell ⟨G m, k0, none⟩ (.int .u64 ((9223372036854775808 + u : Nat) : Int))).drew.cell? ⟨go + 1, m, none⟩ = some (.slice (some ⟨G m, 0, none⟩) (S m).2.2 (S m).2.2) := (World.cell?_setCell_other _ _ _ _ (fun e' => hgneq2 (by injection e' with e1 e2))).trans wm9
                          have HC := hide (unhide HSW9 _ hB10 hC10)
                          have HB10 := hide hB10
                          clear hB10 hC10 wm9 q39 ck9 cf9 ew
                          generalize (w9.setCell ⟨G m, k0, none⟩ (.int .u64 ((9223372036854775808 + u : Nat) : Int))).drew = w10 at *
                          go_wp2_with fail
                          refine (unhide HC).mono ?_
                          rintro e w11 ⟨rfl, hb11⟩
                          have HEN := hide (unhide HRL9 w11 ((unhide HB10).trans (But.of_below hb11)))
                          clear hb11
                          go_wp2_with fail
                          go_roundw
                          case rel => exact ⟨m + 1, by omega, by go_num, unhide HEN⟩
                          case measure => simp [intOf]; omega
                        · have HSW := hide (unhide HSW0 (hef.same m hlt3 (.inr ⟨hmx, fun h => hmy h.2⟩)))
                          have g4 : ((m : Int) == (t3 Y : Int)) = false := by rw [beq_eq_false_iff_ne]; omega
                          have g5 : (m == t3 Y) = false := by rw [beq_eq_false_iff_ne]; exact hmy
                          clear i1 i2 i3 i4 hby7 hpj hth7 hef HSW0 hmx hmy hK8
                          go_wp2_with (go_at_call 24; refine (three_nat _ _).mono ?_; rintro e w9 ⟨rfl, hw9⟩; obtain rfl := hw9.symm)
                          go_quiet (first | (go_at_call 24; exact Calls.quiet_of_same (three_nat _ _)))
                          go_wp2_with fail
                          refine (unhide HSW _ (below_drawn (Below.refl w7.heap.size w7) _)).mono ?_
                          rintro e w10 ⟨rfl, hb10⟩
                          have HEN := hide (unhide HRL w10 ((below_drawn (Below.refl w7.heap.size w7) _).trans hb10))
                          clear hb10
                          go_wp2_with fail
                          go_roundw
                          case rel => exact ⟨m + 1, by omega, by go_num, unhide HEN⟩
                          case measure => simp [intOf]; omega
                      · have g3 : (K == 8) = false := by rw [beq_eq_false_iff_ne]; exact hK8
                        have HSW := hide (unhide HSW0 (hef.same m hlt3 (.inr ⟨hmx, fun h => hK8 h.1⟩)))
                        clear i1 i2 i3 i4 hby7 hpj hth7 hef HSW0 hmx hK8
                        go_wp2_with (go_at_call 24; refine (three_nat _ _).mono ?_; rintro e w9 ⟨rfl, hw9⟩; obtain rfl := hw9.symm)
                        go_quiet (first | (go_at_call 24; exact Calls.quiet_of_same (three_nat _ _)))
                        go_wp2_with fail
                        refine (unhide HSW _ (below_drawn (Below.refl w7.heap.size w7) _)).mono ?_
                        rintro e w10 ⟨rfl, hb10⟩
                        have HEN := hide (unhide HRL w10 ((below_drawn (Below.refl w7.heap.size w7) _).trans hb10))
                        clear hb10
                        go_wp2_with fail
                        go_roundw
                        case rel => exact ⟨m + 1, by omega, by go_num, unhide HEN⟩
                        case measure => simp [intOf]; omega
                · have hm3 : m = 3 := by omega
                  subst hm3
                  have HEN := hide (unhide HB6 wy hby)
                  clear hby hwd
                  go_wp2_with fail
                  go_roundw
                  case rel => exact ⟨k + 1, S', by omega, by go_num, unhide HEN⟩
                  case measure => simp [intOf]; omega
        · have hsub : (k < n ∧ 4096 ≤ k) ∨ n ≤ k := by omega
          have HEN : Hid (Below w.heap.size w wq) := hide (hbut.below (unhide HBW) (fun j hj => by have := unhide HALL j hj; omega) (unhide HBW).size)
          clear hthr hbut hlt
          rcases hsub with ⟨h1, h2⟩ | h1
          · have f1 : decide ((k : Int) < (n : Int)) = true := decide_eq_true (by omega)
            have f2 : decide ((k : Int) < 4096) = false := decide_eq_false (by omega)
            go_wp2
            go_ret
            exact ⟨rfl, unhide HEN⟩
          · have f1 : decide ((k : Int) < (n : Int)) = false := decide_eq_false (by omega)
            go_wp2
            go_ret
            exact ⟨rfl, unhide HEN⟩
end Go.Proofs.Ytdgdnpgjbphgaaa
