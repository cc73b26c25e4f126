/- The book looks at what it keeps. -/
import Derived.Test.YtecfgbjnjgjkoaaGreatDoorBookMid
import Derived.Deep.RegionHeld3
import Derived.BigQuiet
namespace Go.Proofs.YtecfgbjnjgjkoaaGreatDoor.Bk
open Go.ChangeShapes Go.WideShapes Go.ChangeAt Go.RowKit
set_option linter.unusedVariables false
set_option maxRecDepth 100000
set_option maxHeartbeats 8000000

/-- nothing has changed in memory -/
structure Still (w w' : World) : Prop where
  os : w'.os = w.os
  tape : w'.tape = w.tape
  output : w'.output = w.output
  heap : w'.heap = w.heap
theorem Still.refl (w : World) : Still w w := ⟨rfl, rfl, rfl, rfl⟩
theorem Still.trans {a b c : World} (h : Still a b) (k : Still b c) : Still a c := ⟨k.os.trans h.os, k.tape.trans h.tape, k.output.trans h.output, k.heap.trans h.heap⟩
theorem Still.drew {w w' : World} (h : Still w w') (n : Nat) : Still w (w'.drewN n) := ⟨h.os, h.tape, h.output, h.heap⟩
theorem Still.cell {w w' : World} (h : Still w w') (a : Addr) : w'.cell? a = w.cell? a := by simp only [World.cell?, h.heap]
theorem BookAt.still {w w' : World} {pb o : Nat} {tag : Nat → Nat} {S : BookSt} (h : BookAt w pb o tag S) (k : Still w w') : BookAt w' pb o tag S := by
  have hs : w'.heap.size = w.heap.size := by rw [k.heap]
  have hb : ∀ g : Nat, w'.heap[g]? = w.heap[g]? := fun g => by rw [k.heap]
  exact ⟨h.fl.same (hb pb) (by omega), h.hb.same (fun g _ => hb g) (Nat.le_refl _), h.hu.same (fun g _ => hb g) (Nat.le_refl _), fun g hg => by rw [hs]; exact h.un g hg, h.tp, h.eb, h.eu, h.nb, h.nu, h.cnt, h.us, h.tn⟩
theorem Still.noted {w w' : World} (k : Still w w') (pb o : Nat) (tag : Nat → Nat) : Noted pb o tag tag w w' := by
  have hs : w'.heap.size = w.heap.size := by rw [k.heap]
  have hb : ∀ g : Nat, w'.heap[g]? = w.heap[g]? := fun g => by rw [k.heap]
  exact ⟨k.os, k.tape, k.output, by omega, fun _ _ => rfl, fun g _ _ _ => hb g, fun j _ => ⟨World.cell?_of_block (a := ⟨pb, j, none⟩) (hb pb), World.frozen?_of_block (a := ⟨pb, j, none⟩) (hb pb)⟩⟩
theorem bookplain_any {w : World} {pb o : Nat} {tag : Nat → Nat} {S : BookSt} (h : BookAt w pb o tag S) :
    Calls Tryz.prog 97 #[.pointer (some ⟨pb, o, none⟩)] w fun e w' => e = .returned (.bool true) ∧ Still w w' := by
  have HB : Hid (∀ wq, Still w wq → BookAt wq pb o tag S) := hide (fun wq k => h.still k)
  have hml : S.b.M.length ≤ 200000 := by have h1 := h.cnt; have h2 := h.us; have h3 := h.nb; have h4 := h.nu; omega
  have htn := h.tn
  obtain ⟨a0, cp0, hv0⟩ := h.hb.rl.shape
  rw [h.eb] at hv0
  have HC0 : Hid (∀ wq, Still w wq → wq.cell? ⟨pb, o, none⟩ = some (.slice a0 S.b.M.length cp0) ∧ wq.cell? ⟨pb, o + 3, none⟩ = some (.slice none 0 0)) := hide (fun wq k => ⟨by rw [← hv0]; exact (h.still k).fl.c 0 (by decide), (h.still k).fl.c 3 (by decide)⟩)
  clear h hv0
  go_enter Tryz.func97, Tryz.ntmps97
  go_wp2_with fail
  go_loopw [3, 4] (fun i _ wq => ∃ ii : Nat, ii ≤ S.b.M.length ∧ i = .int .i64 ii ∧ Still w wq) (fun i _ _ => S.b.M.length - (intOf i).toNat)
  case atStart => exact ⟨0, by omega, rfl, Still.refl _⟩
  case round =>
    obtain ⟨ii, hi1, rfl, hst⟩ := hrel
    rename World => wq
    obtain ⟨c0, c3⟩ := unhide HC0 wq hst
    by_cases hlt : ii < S.b.M.length
    · have d1 : decide ((ii : Int) < (S.b.M.length : Int)) = true := decide_eq_true (by omega)
      have d1' : decide (ii < S.b.M.length) = true := decide_eq_true hlt
      have hb := unhide HB wq hst
      obtain ⟨e1, e2, e3, e4⟩ := hb.hb.ent ii hlt
      obtain ⟨gL, capL, hvL, _, hcL⟩ := hb.hb.rl.at (by have := hb.eb; omega)
      obtain ⟨gM, capM, hvM, _, hcM⟩ := hb.hb.ro.at (by omega)
      obtain ⟨ag, cg, hg0⟩ := e1.shape
      have hlz : lenOf (S.b.L.getD ii undef) ≤ 33554432 := e3
      generalize hlen : lenOf (S.b.L.getD ii undef) = n at *
      generalize hmm : S.b.M.getD ii 0 = m at *
      have HF : Hid (∀ wz, Still w wz → wz.cell? ⟨pb, o, none⟩ = some (.slice (some ⟨gL, 0, none⟩) S.b.M.length capL) ∧ wz.cell? ⟨pb, o + 1, none⟩ = some (.slice (some ⟨gM, 0, none⟩) S.b.M.length capM) ∧ wz.cell? ⟨gL, ii, none⟩ = some (.slice ag n cg) ∧ wz.cell? ⟨gM, ii, none⟩ = some (.int .i64 (m : Nat))) := hide (fun wz k => by
        have hz := unhide HB wz k
        have hst' : Still wq wz := ⟨k.os.trans hst.os.symm, k.tape.trans hst.tape.symm, k.output.trans hst.output.symm, k.heap.trans hst.heap.symm⟩
        refine ⟨?_, ?_, ?_, ?_⟩
        · rw [← hb.eb, ← hvL]; exact hz.fl.c 0 (by decide)
        · rw [← hvM]; exact hz.fl.c 1 (by decide)
        · rw [hst'.cell, (hcL ii (by have := hb.eb; omega)).1, hg0]
        · rw [hst'.cell, (hcM ii hlt).1, hmm]; rfl)
      have HL : Hid (∀ wz, Still w wz → ∀ j, j < n → ∃ g, ag = some ⟨g, 0, none⟩ ∧ wz.cell? ⟨g, j, none⟩ = some (.int .u8 (atN m j : Nat))) := hide (fun wz k j hj => by
        have hst' : Still wq wz := ⟨k.os.trans hst.os.symm, k.tape.trans hst.tape.symm, k.output.trans hst.output.symm, k.heap.trans hst.heap.symm⟩
        obtain ⟨g, cap, hv, _, hcc⟩ := e1.at (by omega)
        rw [hg0] at hv
        simp only [Value.slice.injEq] at hv
        exact ⟨g, hv.1, by rw [hst'.cell]; exact (hcc j hj).1⟩)
      have hm4 : m ≤ 1000000 := by omega
      have HST := hide hst
      clear hb e1 e2 e3 e4 hvL hcL hvM hcM hg0 hlen hmm hst
      go_wp2_with fail
      go_loopw [4] (fun k wz => ∃ j : Nat, j ≤ n ∧ k = .int .i64 j ∧ Still w wz) (fun k _ => n - (intOf k).toNat)
      case atStart => exact ⟨0, by omega, rfl, unhide HST⟩
      case round =>
        obtain ⟨j, hj1, rfl, hsz⟩ := hrel
        rename World => wz
        obtain ⟨z0, z1, z2, z3⟩ := unhide HF wz hsz
        have y0 : (0 : Int) ≤ (ii : Int) := by omega
        have y1 : (ii : Int) < (S.b.M.length : Int) := by omega
        by_cases hjl : j < n
        · have d2 : decide ((j : Int) < (n : Int)) = true := decide_eq_true (by omega)
          have d2' : decide (j < n) = true := decide_eq_true hjl
          obtain ⟨g, rfl, hcell⟩ := unhide HL wz hsz j hjl
          have x0 : (0 : Int) ≤ (j : Int) := by omega
          have x1 : (j : Int) < (n : Int) := by omega
          have HAT := hide (fun w' => at_any m j w' (by omega) (by omega))
          have hlt256 := atN_lt m j
          generalize atN m j = b8 at *
          have HSZ := hide hsz
          clear hsz c0 c3
          go_wp2_with fail
          go_quiet (first | (go_at_call 63; exact Calls.quiet_of_same (unhide HAT _)))
          have HS9 := hide ((unhide HSZ).drew nq)
          clear HSZ z0 z1 z2 z3 hcell
          generalize wz.drewN nq = w9 at *
          go_wp2_with fail
          go_roundw
          case rel => exact ⟨j + 1, by omega, by go_num, unhide HS9⟩
          case measure => simp [intOf]; omega
        · have d2 : decide ((j : Int) < (n : Int)) = false := decide_eq_false (by omega)
          have d2' : decide (j < n) = false := decide_eq_false hjl
          have HSZ := hide hsz
          clear hsz c0 c3
          go_wp2_with fail
          go_roundw
          case rel => exact ⟨ii + 1, by omega, by go_num, unhide HSZ⟩
          case measure => simp [intOf]; omega
    · have d1 : decide ((ii : Int) < (S.b.M.length : Int)) = false := decide_eq_false (by omega)
      have d1' : decide (ii < S.b.M.length) = false := decide_eq_false hlt
      have HST := hide hst
      clear hst
      go_wp2_with fail
      go_loopw [5, 6] (fun i _ wz => i = .int .i64 0 ∧ wz = wq) (fun _ _ _ => 0)
      case atStart => exact ⟨rfl, rfl⟩
      case round =>
        obtain ⟨rfl, hww⟩ := hrel
        obtain rfl := hww.symm
        go_wp2
        go_ret
        exact ⟨rfl, unhide HST⟩
theorem bookkept_any {w : World} {pb o : Nat} {tag : Nat → Nat} {S : BookSt} (h : BookAt w pb o tag S) :
    Calls Tryz.prog 98 #[.pointer (some ⟨pb, o, none⟩)] w fun e w' => e = .returned (.bool true) ∧ Still w w' := by
  have HB : Hid (∀ wq, Still w wq → BookAt wq pb o tag S) := hide (fun wq k => h.still k)
  have hml : S.u.M.length ≤ 200000 := by have h1 := h.cnt; have h2 := h.us; have h3 := h.nb; have h4 := h.nu; omega
  have htn := h.tn
  obtain ⟨a0, cp0, hv0⟩ := h.hu.rl.shape
  rw [h.eu] at hv0
  have HC0 : Hid (∀ wq, Still w wq → wq.cell? ⟨pb, o + 6, none⟩ = some (.slice a0 S.u.M.length cp0) ∧ wq.cell? ⟨pb, o + 9, none⟩ = some (.slice none 0 0) ∧ wq.cell? ⟨pb, o + 12, none⟩ = some (.slice none 0 0) ∧ wq.cell? ⟨pb, o + 15, none⟩ = some (.slice none 0 0)) := hide (fun wq k => ⟨by rw [← hv0]; exact (h.still k).fl.c 6 (by decide), (h.still k).fl.c 9 (by decide), (h.still k).fl.c 12 (by decide), (h.still k).fl.c 15 (by decide)⟩)
  clear h hv0
  go_enter Tryz.func98, Tryz.ntmps98
  go_wp2_with fail
  go_loopw [3, 4] (fun i _ wq => ∃ ii : Nat, ii ≤ S.u.M.length ∧ i = .int .i64 ii ∧ Still w wq) (fun i _ _ => S.u.M.length - (intOf i).toNat)
  case atStart => exact ⟨0, by omega, rfl, Still.refl _⟩
  case round =>
    obtain ⟨ii, hi1, rfl, hst⟩ := hrel
    rename World => wq
    obtain ⟨c0, c9, c12, c15⟩ := unhide HC0 wq hst
    by_cases hlt : ii < S.u.M.length
    · have d1 : decide ((ii : Int) < (S.u.M.length : Int)) = true := decide_eq_true (by omega)
      have d1' : decide (ii < S.u.M.length) = true := decide_eq_true hlt
      have hb := unhide HB wq hst
      obtain ⟨e1, e2, e3, e4⟩ := hb.hu.ent ii hlt
      obtain ⟨gL, capL, hvL, _, hcL⟩ := hb.hu.rl.at (by have := hb.eu; omega)
      obtain ⟨gM, capM, hvM, _, hcM⟩ := hb.hu.ro.at (by omega)
      obtain ⟨ag, cg, hg0⟩ := e1.shape
      have hlz : lenOf (S.u.L.getD ii undef) ≤ 33554432 := e3
      generalize hlen : lenOf (S.u.L.getD ii undef) = n at *
      generalize hmm : S.u.M.getD ii 0 = m at *
      have HF : Hid (∀ wz, Still w wz → wz.cell? ⟨pb, o + 6, none⟩ = some (.slice (some ⟨gL, 0, none⟩) S.u.M.length capL) ∧ wz.cell? ⟨pb, o + 7, none⟩ = some (.slice (some ⟨gM, 0, none⟩) S.u.M.length capM) ∧ wz.cell? ⟨gL, ii, none⟩ = some (.slice ag n cg) ∧ wz.cell? ⟨gM, ii, none⟩ = some (.int .i64 (m : Nat))) := hide (fun wz k => by
        have hz := unhide HB wz k
        have hst' : Still wq wz := ⟨k.os.trans hst.os.symm, k.tape.trans hst.tape.symm, k.output.trans hst.output.symm, k.heap.trans hst.heap.symm⟩
        refine ⟨?_, ?_, ?_, ?_⟩
        · rw [← hb.eu, ← hvL]; exact hz.fl.c 6 (by decide)
        · rw [← hvM]; exact hz.fl.c 7 (by decide)
        · rw [hst'.cell, (hcL ii (by have := hb.eu; omega)).1, hg0]
        · rw [hst'.cell, (hcM ii hlt).1, hmm]; rfl)
      have HL : Hid (∀ wz, Still w wz → ∀ j, j < n → ∃ g, ag = some ⟨g, 0, none⟩ ∧ wz.cell? ⟨g, j, none⟩ = some (.int .u64 (wmN m : Nat))) := hide (fun wz k j hj => by
        have hst' : Still wq wz := ⟨k.os.trans hst.os.symm, k.tape.trans hst.tape.symm, k.output.trans hst.output.symm, k.heap.trans hst.heap.symm⟩
        obtain ⟨g, cap, hv, _, hcc⟩ := e1.at (by omega)
        rw [hg0] at hv
        simp only [Value.slice.injEq] at hv
        exact ⟨g, hv.1, by rw [hst'.cell]; exact (hcc j hj).1⟩)
      have hm4 : m ≤ 1000000 := by omega
      have HST := hide hst
      clear hb e1 e2 e3 e4 hvL hcL hvM hcM hg0 hlen hmm hst
      go_wp2_with fail
      go_loopw [4] (fun k wz => ∃ j : Nat, j ≤ n ∧ k = .int .i64 j ∧ Still w wz) (fun k _ => n - (intOf k).toNat)
      case atStart => exact ⟨0, by omega, rfl, unhide HST⟩
      case round =>
        obtain ⟨j, hj1, rfl, hsz⟩ := hrel
        rename World => wz
        obtain ⟨z0, z1, z2, z3⟩ := unhide HF wz hsz
        have y0 : (0 : Int) ≤ (ii : Int) := by omega
        have y1 : (ii : Int) < (S.u.M.length : Int) := by omega
        by_cases hjl : j < n
        · have d2 : decide ((j : Int) < (n : Int)) = true := decide_eq_true (by omega)
          have d2' : decide (j < n) = true := decide_eq_true hjl
          obtain ⟨g, rfl, hcell⟩ := unhide HL wz hsz j hjl
          have x0 : (0 : Int) ≤ (j : Int) := by omega
          have x1 : (j : Int) < (n : Int) := by omega
          have HAT := hide (fun w' => wm_any m w' (by omega))
          have hlt64 : wmN m < 18446744073709551616 := by unfold wmN; omega
          generalize wmN m = b8 at *
          have HSZ := hide hsz
          clear hsz c0 c9 c12 c15
          go_wp2_with fail
          go_quiet (first | (go_at_call 122; exact Calls.quiet_of_same (unhide HAT _)))
          have HS9 := hide ((unhide HSZ).drew nq)
          clear HSZ z0 z1 z2 z3 hcell
          generalize wz.drewN nq = w9 at *
          go_wp2_with fail
          go_roundw
          case rel => exact ⟨j + 1, by omega, by go_num, unhide HS9⟩
          case measure => simp [intOf]; omega
        · have d2 : decide ((j : Int) < (n : Int)) = false := decide_eq_false (by omega)
          have d2' : decide (j < n) = false := decide_eq_false hjl
          have HSZ := hide hsz
          clear hsz c0 c9 c12 c15
          go_wp2_with fail
          go_roundw
          case rel => exact ⟨ii + 1, by omega, by go_num, unhide HSZ⟩
          case measure => simp [intOf]; omega
    · have d1 : decide ((ii : Int) < (S.u.M.length : Int)) = false := decide_eq_false (by omega)
      have d1' : decide (ii < S.u.M.length) = false := decide_eq_false hlt
      have HST := hide hst
      clear hst
      go_wp2_with fail
      go_loopw [5, 7] (fun i _ wz => i = .int .i64 0 ∧ wz = wq) (fun _ _ _ => 0)
      case atStart => exact ⟨rfl, rfl⟩
      case round =>
        obtain ⟨rfl, hww⟩ := hrel
        obtain rfl := hww.symm
        go_wp2_with fail
        go_loopw [9, 11] (fun i _ wz => i = .int .i64 0 ∧ wz = wq) (fun _ _ _ => 0)
        case atStart => exact ⟨rfl, rfl⟩
        case round =>
          obtain ⟨rfl, hww⟩ := hrel
          obtain rfl := hww.symm
          go_wp2_with fail
          go_loopw [13, 15] (fun i _ wz => i = .int .i64 0 ∧ wz = wq) (fun _ _ _ => 0)
          case atStart => exact ⟨rfl, rfl⟩
          case round =>
            obtain ⟨rfl, hww⟩ := hrel
            obtain rfl := hww.symm
            go_wp2
            go_ret
            exact ⟨rfl, unhide HST⟩
theorem booktold_any {w : World} {pb o : Nat} {tag : Nat → Nat} {S : BookSt} (h : BookAt w pb o tag S) :
    Calls Tryz.prog 99 #[.pointer (some ⟨pb, o, none⟩)] w fun e w' => e = .returned (.bool true) ∧ Still w w' := by
  have c18 : w.cell? ⟨pb, o + 18, none⟩ = some (.slice none 0 0) := h.fl.c 18 (by decide)
  have c21 : w.cell? ⟨pb, o + 21, none⟩ = some (.slice none 0 0) := h.fl.c 21 (by decide)
  have c24 : w.cell? ⟨pb, o + 24, none⟩ = some (.slice none 0 0) := h.fl.c 24 (by decide)
  have c27 : w.cell? ⟨pb, o + 27, none⟩ = some (.slice none 0 0) := h.fl.c 27 (by decide)
  clear h
  go_enter Tryz.func99, Tryz.ntmps99
  go_wp2_with fail
  go_loopw [3, 5] (fun i _ wz => i = .int .i64 0 ∧ wz = w) (fun _ _ _ => 0)
  case atStart => exact ⟨rfl, rfl⟩
  case round =>
    obtain ⟨rfl, hww⟩ := hrel
    obtain rfl := hww.symm
    go_wp2_with fail
    go_loopw [7, 9] (fun i _ wz => i = .int .i64 0 ∧ wz = w) (fun _ _ _ => 0)
    case atStart => exact ⟨rfl, rfl⟩
    case round =>
      obtain ⟨rfl, hww⟩ := hrel
      obtain rfl := hww.symm
      go_wp2_with fail
      go_loopw [11, 13] (fun i _ wz => i = .int .i64 0 ∧ wz = w) (fun _ _ _ => 0)
      case atStart => exact ⟨rfl, rfl⟩
      case round =>
        obtain ⟨rfl, hww⟩ := hrel
        obtain rfl := hww.symm
        go_wp2_with fail
        go_loopw [15, 17] (fun i _ wz => i = .int .i64 0 ∧ wz = w) (fun _ _ _ => 0)
        case atStart => exact ⟨rfl, rfl⟩
        case round =>
          obtain ⟨rfl, hww⟩ := hrel
          obtain rfl := hww.symm
          go_wp2
          go_ret
          exact ⟨rfl, Still.refl _⟩
theorem bookholds_any {w : World} {pb o : Nat} {tag : Nat → Nat} {S : BookSt} (h : BookAt w pb o tag S) :
    Calls Tryz.prog 75 #[.pointer (some ⟨pb, o, none⟩)] w fun e w' => e = .returned (.bool true) ∧ Still w w' := by
  have H1 := hide (bookplain_any h)
  have H2 := hide (fun w' (k : Still w w') => bookkept_any (h.still k))
  have H3 := hide (fun w' (k : Still w w') => booktold_any (h.still k))
  clear h
  go_enter Tryz.func75, Tryz.ntmps75
  go_wp2_with fail
  refine (unhide H1).mono ?_
  rintro e w1 ⟨rfl, k1⟩
  have H2' := hide (unhide H2 w1 k1)
  go_wp2_with fail
  refine (unhide H2').mono ?_
  rintro e w2 ⟨rfl, k2⟩
  have k12 := k1.trans k2
  have H3' := hide (unhide H3 w2 k12)
  clear k1 k2
  go_wp2_with fail
  refine (unhide H3').mono ?_
  rintro e w3 ⟨rfl, k3⟩
  have k13 := k12.trans k3
  go_wp2
  go_ret
  exact ⟨rfl, k13⟩
end Go.Proofs.YtecfgbjnjgjkoaaGreatDoor.Bk
