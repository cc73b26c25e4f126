/- The Look of the book with replies. -/
import Derived.Test.YtecfgbjnjgjkoaaGreatDoorBpe
import Derived.Test.YtecfgbjnjgjkoaaGreatDoorBookHold
import Derived.Deep.RegionHeld3
import Derived.BigQuiet
import Derived.Test.YtecfgbjnjgjkoaaGreatDoorApb
namespace Go.Proofs.YtecfgbjnjgjkoaaGreatDoor.Bp
open Go.ChangeShapes Go.WideShapes Go.ChangeAt Go.RowKit Go.Proofs.YtecfgbjnjgjkoaaGreatDoor.Bk
set_option linter.unusedVariables false
set_option maxRecDepth 100000
set_option maxHeartbeats 8000000

theorem BookAt.still {w w' : World} {pb o : Nat} {tag : Nat → Nat} {S : BookSt} (h : BookAt w pb o tag S) (k : Bk.Still w w') : BookAt w' pb o tag S := by
  have hs : w'.heap.size = w.heap.size := by rw [k.heap]
  have hb : ∀ g : Nat, w'.heap[g]? = w.heap[g]? := fun g => by rw [k.heap]
  exact ⟨h.fl.same (hb pb) (by omega), h.hb.same (fun g _ => hb g) (Nat.le_refl _), h.hu.same (fun g _ => hb g) (Nat.le_refl _), fun g hg => by rw [hs]; exact h.un g hg, h.tp, h.eb, h.eu, h.nb, h.nu, h.cnt, h.us, h.tn⟩
theorem BookAt.below {w w' : World} {pb o : Nat} {tag : Nat → Nat} {S : BookSt} (h : BookAt w pb o tag S) (k : Below w.heap.size w w') : BookAt w' pb o tag S := by
  have hm := h.mid.below k
  exact ⟨hm.fl, hm.hb, hm.hu, hm.un, hm.tp, h.eb, h.eu, h.nb, h.nu, h.cnt, h.us, h.tn⟩
theorem still_below {w w' : World} (k : Bk.Still w w') : Below w.heap.size w w' := ⟨k.os, k.tape, k.output, by rw [k.heap]; exact Nat.le_refl _, fun g _ => by rw [k.heap]⟩
theorem below_noted {w w' : World} (k : Below w.heap.size w w') {pb : Nat} (hp : pb < w.heap.size) (o : Nat) (tag : Nat → Nat) : Noted pb o tag tag w w' :=
  ⟨k.os, k.tape, k.output, k.size, fun _ _ => rfl, fun g hg _ _ => k.block g hg, fun j _ => ⟨World.cell?_of_block (a := ⟨pb, j, none⟩) (k.block pb hp), World.frozen?_of_block (a := ⟨pb, j, none⟩) (k.block pb hp)⟩⟩
theorem bookplain_any {w : World} {pb o : Nat} {tag : Nat → Nat} {S : BookSt} (h : BookAt w pb o tag S) :
    Calls Tryz.prog 97 #[.pointer (some ⟨pb, o, none⟩)] w fun e w' => e = .returned (.bool true) ∧ Bk.Still w w' := by
  have HB : Hid (∀ wq, Bk.Still w wq → BookAt wq pb o tag S) := hide (fun wq k => h.still k)
  have hml : S.b.M.length ≤ 200000 := by have h1 := h.cnt; have h2 := h.us; have h3 := h.nb; have h4 := h.nu; omega
  have htn := h.tn
  obtain ⟨a0, cp0, hv0⟩ := h.hb.rl.shape
  rw [h.eb] at hv0
  have HC0 : Hid (∀ wq, Bk.Still w wq → wq.cell? ⟨pb, o, none⟩ = some (.slice a0 S.b.M.length cp0) ∧ wq.cell? ⟨pb, o + 3, none⟩ = some (.slice none 0 0)) := hide (fun wq k => ⟨by rw [← hv0]; exact (h.still k).fl.c 0 (by decide), (h.still k).fl.c 3 (by decide)⟩)
  clear h hv0
  go_enter Tryz.func97, Tryz.ntmps97
  go_wp2_with fail
  go_loopw [3, 4] (fun i _ wq => ∃ ii : Nat, ii ≤ S.b.M.length ∧ i = .int .i64 ii ∧ Bk.Still w wq) (fun i _ _ => S.b.M.length - (intOf i).toNat)
  case atStart => exact ⟨0, by omega, rfl, Bk.Still.refl _⟩
  case round =>
    obtain ⟨ii, hi1, rfl, hst⟩ := hrel
    rename World => wq
    obtain ⟨c0, c3⟩ := unhide HC0 wq hst
    by_cases hlt : ii < S.b.M.length
    · have d1 : decide ((ii : Int) < (S.b.M.length : Int)) = true := decide_eq_true (by omega)
      have d1' : decide (ii < S.b.M.length) = true := decide_eq_true hlt
      have hb := unhide HB wq hst
      obtain ⟨e1, e2, e3, e4⟩ := hb.hb.ent ii hlt
      obtain ⟨gL, capL, hvL, _, hcL⟩ := hb.hb.rl.at (by have := hb.eb; omega)
      obtain ⟨gM, capM, hvM, _, hcM⟩ := hb.hb.ro.at (by omega)
      obtain ⟨ag, cg, hg0⟩ := e1.shape
      have hlz : lenOf (S.b.L.getD ii undef) ≤ 33554432 := e3
      generalize hlen : lenOf (S.b.L.getD ii undef) = n at *
      generalize hmm : S.b.M.getD ii 0 = m at *
      have HF : Hid (∀ wz, Bk.Still w wz → wz.cell? ⟨pb, o, none⟩ = some (.slice (some ⟨gL, 0, none⟩) S.b.M.length capL) ∧ wz.cell? ⟨pb, o + 1, none⟩ = some (.slice (some ⟨gM, 0, none⟩) S.b.M.length capM) ∧ wz.cell? ⟨gL, ii, none⟩ = some (.slice ag n cg) ∧ wz.cell? ⟨gM, ii, none⟩ = some (.int .i64 (m : Nat))) := hide (fun wz k => by
        have hz := unhide HB wz k
        have hst' : Bk.Still wq wz := ⟨k.os.trans hst.os.symm, k.tape.trans hst.tape.symm, k.output.trans hst.output.symm, k.heap.trans hst.heap.symm⟩
        refine ⟨?_, ?_, ?_, ?_⟩
        · rw [← hb.eb, ← hvL]; exact hz.fl.c 0 (by decide)
        · rw [← hvM]; exact hz.fl.c 1 (by decide)
        · rw [hst'.cell, (hcL ii (by have := hb.eb; omega)).1, hg0]
        · rw [hst'.cell, (hcM ii hlt).1, hmm]; rfl)
      have HL : Hid (∀ wz, Bk.Still w wz → ∀ j, j < n → ∃ g, ag = some ⟨g, 0, none⟩ ∧ wz.cell? ⟨g, j, none⟩ = some (.int .u8 (atN m j : Nat))) := hide (fun wz k j hj => by
        have hst' : Bk.Still wq wz := ⟨k.os.trans hst.os.symm, k.tape.trans hst.tape.symm, k.output.trans hst.output.symm, k.heap.trans hst.heap.symm⟩
        obtain ⟨g, cap, hv, _, hcc⟩ := e1.at (by omega)
        rw [hg0] at hv
        simp only [Value.slice.injEq] at hv
        exact ⟨g, hv.1, by rw [hst'.cell]; exact (hcc j hj).1⟩)
      have hm4 : m ≤ 1000000 := by omega
      have HST := hide hst
      clear hb e1 e2 e3 e4 hvL hcL hvM hcM hg0 hlen hmm hst
      go_wp2_with fail
      go_loopw [4] (fun k wz => ∃ j : Nat, j ≤ n ∧ k = .int .i64 j ∧ Bk.Still w wz) (fun k _ => n - (intOf k).toNat)
      case atStart => exact ⟨0, by omega, rfl, unhide HST⟩
      case round =>
        obtain ⟨j, hj1, rfl, hsz⟩ := hrel
        rename World => wz
        obtain ⟨z0, z1, z2, z3⟩ := unhide HF wz hsz
        have y0 : (0 : Int) ≤ (ii : Int) := by omega
        have y1 : (ii : Int) < (S.b.M.length : Int) := by omega
        by_cases hjl : j < n
        · have d2 : decide ((j : Int) < (n : Int)) = true := decide_eq_true (by omega)
          have d2' : decide (j < n) = true := decide_eq_true hjl
          obtain ⟨g, rfl, hcell⟩ := unhide HL wz hsz j hjl
          have x0 : (0 : Int) ≤ (j : Int) := by omega
          have x1 : (j : Int) < (n : Int) := by omega
          have HAT := hide (fun w' => at_any m j w' (by omega) (by omega))
          have hlt256 := atN_lt m j
          generalize atN m j = b8 at *
          have HSZ := hide hsz
          clear hsz c0 c3
          go_wp2_with fail
          go_quiet (first | (go_at_call 63; exact Calls.quiet_of_same (unhide HAT _)))
          have HS9 := hide ((unhide HSZ).drew nq)
          clear HSZ z0 z1 z2 z3 hcell
          generalize wz.drewN nq = w9 at *
          go_wp2_with fail
          go_roundw
          case rel => exact ⟨j + 1, by omega, by go_num, unhide HS9⟩
          case measure => simp [intOf]; omega
        · have d2 : decide ((j : Int) < (n : Int)) = false := decide_eq_false (by omega)
          have d2' : decide (j < n) = false := decide_eq_false hjl
          have HSZ := hide hsz
          clear hsz c0 c3
          go_wp2_with fail
          go_roundw
          case rel => exact ⟨ii + 1, by omega, by go_num, unhide HSZ⟩
          case measure => simp [intOf]; omega
    · have d1 : decide ((ii : Int) < (S.b.M.length : Int)) = false := decide_eq_false (by omega)
      have d1' : decide (ii < S.b.M.length) = false := decide_eq_false hlt
      have HST := hide hst
      clear hst
      go_wp2_with fail
      go_loopw [5, 6] (fun i _ wz => i = .int .i64 0 ∧ wz = wq) (fun _ _ _ => 0)
      case atStart => exact ⟨rfl, rfl⟩
      case round =>
        obtain ⟨rfl, hww⟩ := hrel
        obtain rfl := hww.symm
        go_wp2
        go_ret
        exact ⟨rfl, unhide HST⟩
theorem booktold_any {w : World} {pb o : Nat} {tag : Nat → Nat} {S : BookSt} (h : BookAt w pb o tag S) :
    Calls Tryz.prog 99 #[.pointer (some ⟨pb, o, none⟩)] w fun e w' => e = .returned (.bool true) ∧ Bk.Still w w' := by
  have c18 : w.cell? ⟨pb, o + 18, none⟩ = some (.slice none 0 0) := h.fl.c 18 (by decide)
  have c21 : w.cell? ⟨pb, o + 21, none⟩ = some (.slice none 0 0) := h.fl.c 21 (by decide)
  have c24 : w.cell? ⟨pb, o + 24, none⟩ = some (.slice none 0 0) := h.fl.c 24 (by decide)
  have c27 : w.cell? ⟨pb, o + 27, none⟩ = some (.slice none 0 0) := h.fl.c 27 (by decide)
  clear h
  go_enter Tryz.func99, Tryz.ntmps99
  go_wp2_with fail
  go_loopw [3, 5] (fun i _ wz => i = .int .i64 0 ∧ wz = w) (fun _ _ _ => 0)
  case atStart => exact ⟨rfl, rfl⟩
  case round =>
    obtain ⟨rfl, hww⟩ := hrel
    obtain rfl := hww.symm
    go_wp2_with fail
    go_loopw [7, 9] (fun i _ wz => i = .int .i64 0 ∧ wz = w) (fun _ _ _ => 0)
    case atStart => exact ⟨rfl, rfl⟩
    case round =>
      obtain ⟨rfl, hww⟩ := hrel
      obtain rfl := hww.symm
      go_wp2_with fail
      go_loopw [11, 13] (fun i _ wz => i = .int .i64 0 ∧ wz = w) (fun _ _ _ => 0)
      case atStart => exact ⟨rfl, rfl⟩
      case round =>
        obtain ⟨rfl, hww⟩ := hrel
        obtain rfl := hww.symm
        go_wp2_with fail
        go_loopw [15, 17] (fun i _ wz => i = .int .i64 0 ∧ wz = w) (fun _ _ _ => 0)
        case atStart => exact ⟨rfl, rfl⟩
        case round =>
          obtain ⟨rfl, hww⟩ := hrel
          obtain rfl := hww.symm
          go_wp2
          go_ret
          exact ⟨rfl, Bk.Still.refl _⟩
theorem bookkept_any {w : World} {pb o : Nat} {tag : Nat → Nat} {S : BookSt} (h : BookAt w pb o tag S) :
    Calls Tryz.prog 98 #[.pointer (some ⟨pb, o, none⟩)] w fun e w' => e = .returned (.bool true) ∧ Below w.heap.size w w' := by
  have HB : Hid (∀ wq, Below w.heap.size w wq → BookAt wq pb o tag S) := hide (fun wq k => h.below k)
  have hml : S.u.M.length ≤ 200000 := by have h1 := h.cnt; have h2 := h.us; have h3 := h.nb; have h4 := h.nu; omega
  have htn := h.tn
  have c6 : w.cell? ⟨pb, o + 6, none⟩ = some (.slice none 0 0) := h.fl.c 6 (by decide)
  have c9 : w.cell? ⟨pb, o + 9, none⟩ = some (.slice none 0 0) := h.fl.c 9 (by decide)
  have c12 : w.cell? ⟨pb, o + 12, none⟩ = some (.slice none 0 0) := h.fl.c 12 (by decide)
  obtain ⟨a0, cp0, hv0⟩ := h.hu.rl.shape
  rw [h.eu] at hv0
  have HC0 : Hid (∀ wq, Below w.heap.size w wq → wq.cell? ⟨pb, o + 15, none⟩ = some (.slice a0 S.u.M.length cp0)) := hide (fun wq k => by rw [← hv0]; exact (h.below k).fl.c 15 (by decide))
  clear h hv0
  go_enter Tryz.func98, Tryz.ntmps98
  go_wp2_with fail
  go_loopw [3, 4] (fun i _ wz => i = .int .i64 0 ∧ wz = w) (fun _ _ _ => 0)
  case atStart => exact ⟨rfl, rfl⟩
  case round =>
   obtain ⟨rfl, hww⟩ := hrel
   obtain rfl := hww.symm
   go_wp2_with fail
   go_loopw [5, 7] (fun i _ wz => i = .int .i64 0 ∧ wz = w) (fun _ _ _ => 0)
   case atStart => exact ⟨rfl, rfl⟩
   case round =>
    obtain ⟨rfl, hww⟩ := hrel
    obtain rfl := hww.symm
    go_wp2_with fail
    go_loopw [9, 11] (fun i _ wz => i = .int .i64 0 ∧ wz = w) (fun _ _ _ => 0)
    case atStart => exact ⟨rfl, rfl⟩
    case round =>
      obtain ⟨rfl, hww⟩ := hrel
      obtain rfl := hww.symm
      go_wp2_with fail
      clear c6 c9 c12
      go_loopw [13, 15] (fun i _ wq => ∃ ii : Nat, ii ≤ S.u.M.length ∧ i = .int .i64 ii ∧ Below w.heap.size w wq) (fun i _ _ => S.u.M.length - (intOf i).toNat)
      case atStart => exact ⟨0, by omega, rfl, Below.refl _ _⟩
      case round =>
        obtain ⟨ii, hi1, rfl, hst⟩ := hrel
        rename World => wq
        have c15 := unhide HC0 wq hst
        by_cases hlt : ii < S.u.M.length
        · have d1 : decide ((ii : Int) < (S.u.M.length : Int)) = true := decide_eq_true (by omega)
          have d1' : decide (ii < S.u.M.length) = true := decide_eq_true hlt
          have hb := unhide HB wq hst
          obtain ⟨e1, e2, e3, e4⟩ := hb.hu.ent ii hlt
          obtain ⟨gL, capL, hvL, hoL, hcL⟩ := hb.hu.rl.at (by have := hb.eu; omega)
          obtain ⟨gM, capM, hvM, hoM, hcM⟩ := hb.hu.ro.at (by omega)
          obtain ⟨ag, cg, hg0⟩ := e1.shape
          have hlz : lenOf (S.u.L.getD ii undef) ≤ 33554432 := e3
          generalize hlen : lenOf (S.u.L.getD ii undef) = n at *
          generalize hmm : S.u.M.getD ii 0 = m at *
          have lL := hb.hu.rl.lt gL hoL
          have lM := hb.hu.ro.lt gM hoM
          have HF : Hid (∀ wz, Below wq.heap.size wq wz → wz.cell? ⟨pb, o + 15, none⟩ = some (.slice (some ⟨gL, 0, none⟩) S.u.M.length capL) ∧ wz.cell? ⟨pb, o + 16, none⟩ = some (.slice (some ⟨gM, 0, none⟩) S.u.M.length capM) ∧ wz.cell? ⟨gL, ii, none⟩ = some (.slice ag n cg) ∧ wz.cell? ⟨gM, ii, none⟩ = some (.int .i64 (m : Nat))) := hide (fun wz k => by
            have hz := hb.below k
            refine ⟨?_, ?_, ?_, ?_⟩
            · rw [← hb.eu, ← hvL]; exact hz.fl.c 15 (by decide)
            · rw [← hvM]; exact hz.fl.c 16 (by decide)
            · rw [k.cell (show gL < _ from lL), (hcL ii (by have := hb.eu; omega)).1, hg0]
            · rw [k.cell (show gM < _ from lM), (hcM ii hlt).1, hmm]; rfl)
          have HL : Hid (∀ wz, Below wq.heap.size wq wz → ∀ j, j < n → ∃ g, ag = some ⟨g, 0, none⟩ ∧ wz.cell? ⟨g, j * 4, none⟩ = some (.int .i64 0) ∧ wz.cell? ⟨g, j * 4 + 1, none⟩ = some (.int .i64 ((m : Int) * 1048576)) ∧ wz.cell? ⟨g, j * 4 + 2, none⟩ = some (.slice none 0 0) ∧ wz.cell? ⟨g, j * 4 + 3, none⟩ = some (.slice none 0 0)) := hide (fun wz k j hj => by
            obtain ⟨g, cap, hv, hgo, hcc⟩ := rws_at e1 (by omega)
            have lg := e1.lt g hgo
            rw [hg0] at hv
            simp only [Value.slice.injEq] at hv
            refine ⟨g, hv.1, ?_, ?_, ?_, ?_⟩
            · rw [k.cell (show g < _ from lg), (hcc (j * 4) (by omega)).1]
              unfold rmk
              rw [if_pos (by omega)]
            · rw [k.cell (show g < _ from lg), (hcc (j * 4 + 1) (by omega)).1]
              unfold rmk
              rw [if_neg (by omega), if_pos (by omega)]
            · rw [k.cell (show g < _ from lg), (hcc (j * 4 + 2) (by omega)).1]
              unfold rmk
              rw [if_neg (by omega), if_neg (by omega)]
            · rw [k.cell (show g < _ from lg), (hcc (j * 4 + 3) (by omega)).1]
              unfold rmk
              rw [if_neg (by omega), if_neg (by omega)])
          have hm4 : m ≤ 1000000 := by omega
          have HST := hide hst
          obtain ⟨z0, z1, z2, z3⟩ := unhide HF wq (Below.refl _ _)
          clear hb e1 e2 e3 e4 hvL hcL hvM hcM hg0 hlen hmm hst hoL hoM lL lM
          clear c15
          go_wp2_with fail
          clear z0 z1 z2 z3
          go_loopw [15] (fun k wz => ∃ j : Nat, j ≤ n ∧ k = .int .i64 j ∧ Hid (Below wq.heap.size wq wz)) (fun k _ => n - (intOf k).toNat)
          case atStart => exact ⟨0, by omega, rfl, hide (Below.refl _ _)⟩
          case round =>
            obtain ⟨j, hj1, rfl, hsz⟩ := hrel
            rename World => wz
            obtain ⟨z0, z1, z2, z3⟩ := unhide HF wz (unhide hsz)
            have y0 : (0 : Int) ≤ (ii : Int) := by omega
            have y1 : (ii : Int) < (S.u.M.length : Int) := by omega
            by_cases hjl : j < n
            · have d2 : decide ((j : Int) < (n : Int)) = true := decide_eq_true (by omega)
              have d2' : decide (j < n) = true := decide_eq_true hjl
              obtain ⟨g, rfl, k0, k1, k2, k3⟩ := unhide HL wz (unhide hsz) j hjl
              have x0 : (0 : Int) ≤ (j : Int) := by omega
              have x1 : (j : Int) < (n : Int) := by omega
              have HEN : Hid (∀ o', Below wq.heap.size wq (wz.alloc o')) := hide (fun o' => (unhide hsz).alloc (unhide hsz).size o')
              clear hsz
              go_wp2_with fail
              go_roundw
              case rel => exact ⟨j + 1, by omega, by go_num, hide (unhide HEN _)⟩
              case measure => simp [intOf]; omega
            · have d2 : decide ((j : Int) < (n : Int)) = false := decide_eq_false (by omega)
              have d2' : decide (j < n) = false := decide_eq_false hjl
              have HEN : Hid (Below w.heap.size w wz) := hide ((unhide HST).trans ((unhide hsz).mono (unhide HST).size))
              clear hsz
              go_wp2_with fail
              go_roundw
              case rel => exact ⟨ii + 1, by omega, by go_num, unhide HEN⟩
              case measure => simp [intOf]; omega
        · have d1 : decide ((ii : Int) < (S.u.M.length : Int)) = false := decide_eq_false (by omega)
          have d1' : decide (ii < S.u.M.length) = false := decide_eq_false hlt
          have HST := hide hst
          clear hst
          go_wp2
          go_ret
          exact ⟨rfl, unhide HST⟩
theorem bookholds_any {w : World} {pb o : Nat} {tag : Nat → Nat} {S : BookSt} (h : BookAt w pb o tag S) :
    Calls Tryz.prog 75 #[.pointer (some ⟨pb, o, none⟩)] w fun e w' => e = .returned (.bool true) ∧ Below w.heap.size w w' := by
  have H1 := hide (bookplain_any h)
  have H2 := hide (fun w' (k : Bk.Still w w') => bookkept_any (h.still k))
  have H3 := hide (fun w' (k : Below w.heap.size w w') => booktold_any (h.below k))
  clear h
  go_enter Tryz.func75, Tryz.ntmps75
  go_wp2_with fail
  refine (unhide H1).mono ?_
  rintro e w1 ⟨rfl, k1⟩
  have H2' := hide (unhide H2 w1 k1)
  go_wp2_with fail
  refine (unhide H2').mono ?_
  rintro e w2 ⟨rfl, k2⟩
  have k12 : Below w.heap.size w w2 := (still_below k1).trans (k2.mono (still_below k1).size)
  have H3' := hide (unhide H3 w2 k12)
  clear k1 k2
  go_wp2_with fail
  refine (unhide H3').mono ?_
  rintro e w3 ⟨rfl, k3⟩
  have k13 : Below w.heap.size w w3 := k12.trans ((still_below k3).mono k12.size)
  go_wp2
  go_ret
  exact ⟨rfl, k13⟩
end Go.Proofs.YtecfgbjnjgjkoaaGreatDoor.Bp
namespace Go.Proofs.YtecfgbjnjgjkoaaGreatDoor.Bp
open Go.ChangeShapes Go.WideShapes Go.ChangeAt Go.RowKit Go.Proofs.YtecfgbjnjgjkoaaGreatDoor.Bk
set_option linter.unusedVariables false
set_option maxRecDepth 100000
set_option maxHeartbeats 8000000

/-- a field that is set to what it was -/
theorem BookAt.again {w : World} {pb o : Nat} {tag : Nat → Nat} {S : BookSt} (h : BookAt w pb o tag S) (i : Nat) (hi : i < 33) (v : Value) (hv : S.flds.set i v = S.flds) : BookAt (w.setCell ⟨pb, o + i, none⟩ v) pb o tag S ∧ Noted pb o tag tag w (w.setCell ⟨pb, o + i, none⟩ v) := by
  have hm := h.mid.set i hi v
  rw [hv] at hm
  exact ⟨⟨hm.fl, hm.hb, hm.hu, hm.un, hm.tp, h.eb, h.eu, h.nb, h.nu, h.cnt, h.us, h.tn⟩, hm.no⟩
theorem growR_any {w : World} {pb o : Nat} {tag : Nat → Nat} {S : BookSt} (h : BookAt w pb o tag S) :
    Calls Tryz.prog 101 #[.pointer (some ⟨pb, o, none⟩)] w fun e w' => e = .returned (.tuple #[]) ∧ BookAt w' pb o tag S ∧ Noted pb o tag tag w w' := by
  have c0 : w.cell? ⟨pb, o + 3, none⟩ = some (.slice none 0 0) := h.fl.c 3 (by decide)
  have c2 : w.cell? ⟨pb, o + 5, none⟩ = some (.int .i64 0) := h.fl.c 5 (by decide)
  have f2 := h.fl.f 5 (by decide)
  have HEN := hide (h.again 5 (by decide) (.int .i64 0) rfl)
  clear h
  go_enter Tryz.func101, Tryz.ntmps101
  go_wp2_with fail
  go_loopw [3, 4] (fun i _ wz => i = .int .i64 0 ∧ wz = w) (fun _ _ _ => 0)
  case atStart => exact ⟨rfl, rfl⟩
  case round =>
    obtain ⟨rfl, hww⟩ := hrel
    obtain rfl := hww.symm
    go_wp2
    go_end0
    exact ⟨rfl, unhide HEN⟩
theorem growW_any {w : World} {pb o : Nat} {tag : Nat → Nat} {S : BookSt} (h : BookAt w pb o tag S) :
    Calls Tryz.prog 102 #[.pointer (some ⟨pb, o, none⟩)] w fun e w' => e = .returned (.tuple #[]) ∧ BookAt w' pb o tag S ∧ Noted pb o tag tag w w' := by
  have c0 : w.cell? ⟨pb, o + 6, none⟩ = some (.slice none 0 0) := h.fl.c 6 (by decide)
  have c2 : w.cell? ⟨pb, o + 8, none⟩ = some (.int .i64 0) := h.fl.c 8 (by decide)
  have f2 := h.fl.f 8 (by decide)
  have HEN := hide (h.again 8 (by decide) (.int .i64 0) rfl)
  clear h
  go_enter Tryz.func102, Tryz.ntmps102
  go_wp2_with fail
  go_loopw [3, 4] (fun i _ wz => i = .int .i64 0 ∧ wz = w) (fun _ _ _ => 0)
  case atStart => exact ⟨rfl, rfl⟩
  case round =>
    obtain ⟨rfl, hww⟩ := hrel
    obtain rfl := hww.symm
    go_wp2
    go_end0
    exact ⟨rfl, unhide HEN⟩
theorem grow81_any {w : World} {pb o : Nat} {tag : Nat → Nat} {S : BookSt} (h : BookAt w pb o tag S) :
    Calls Tryz.prog 103 #[.pointer (some ⟨pb, o, none⟩)] w fun e w' => e = .returned (.tuple #[]) ∧ BookAt w' pb o tag S ∧ Noted pb o tag tag w w' := by
  have c0 : w.cell? ⟨pb, o + 9, none⟩ = some (.slice none 0 0) := h.fl.c 9 (by decide)
  have c2 : w.cell? ⟨pb, o + 11, none⟩ = some (.int .i64 0) := h.fl.c 11 (by decide)
  have f2 := h.fl.f 11 (by decide)
  have HEN := hide (h.again 11 (by decide) (.int .i64 0) rfl)
  clear h
  go_enter Tryz.func103, Tryz.ntmps103
  go_wp2_with fail
  go_loopw [3, 4] (fun i _ wz => i = .int .i64 0 ∧ wz = w) (fun _ _ _ => 0)
  case atStart => exact ⟨rfl, rfl⟩
  case round =>
    obtain ⟨rfl, hww⟩ := hrel
    obtain rfl := hww.symm
    go_wp2
    go_end0
    exact ⟨rfl, unhide HEN⟩
theorem grow82_any {w : World} {pb o : Nat} {tag : Nat → Nat} {S : BookSt} (h : BookAt w pb o tag S) :
    Calls Tryz.prog 104 #[.pointer (some ⟨pb, o, none⟩)] w fun e w' => e = .returned (.tuple #[]) ∧ BookAt w' pb o tag S ∧ Noted pb o tag tag w w' := by
  have c0 : w.cell? ⟨pb, o + 12, none⟩ = some (.slice none 0 0) := h.fl.c 12 (by decide)
  have c2 : w.cell? ⟨pb, o + 14, none⟩ = some (.int .i64 0) := h.fl.c 14 (by decide)
  have f2 := h.fl.f 14 (by decide)
  have HEN := hide (h.again 14 (by decide) (.int .i64 0) rfl)
  clear h
  go_enter Tryz.func104, Tryz.ntmps104
  go_wp2_with fail
  go_loopw [3, 4] (fun i _ wz => i = .int .i64 0 ∧ wz = w) (fun _ _ _ => 0)
  case atStart => exact ⟨rfl, rfl⟩
  case round =>
    obtain ⟨rfl, hww⟩ := hrel
    obtain rfl := hww.symm
    go_wp2
    go_end0
    exact ⟨rfl, unhide HEN⟩
theorem grow84_any {w : World} {pb o : Nat} {tag : Nat → Nat} {S : BookSt} (h : BookAt w pb o tag S) :
    Calls Tryz.prog 106 #[.pointer (some ⟨pb, o, none⟩)] w fun e w' => e = .returned (.tuple #[]) ∧ BookAt w' pb o tag S ∧ Noted pb o tag tag w w' := by
  have c0 : w.cell? ⟨pb, o + 18, none⟩ = some (.slice none 0 0) := h.fl.c 18 (by decide)
  have c2 : w.cell? ⟨pb, o + 20, none⟩ = some (.int .i64 0) := h.fl.c 20 (by decide)
  have f2 := h.fl.f 20 (by decide)
  have HEN := hide (h.again 20 (by decide) (.int .i64 0) rfl)
  clear h
  go_enter Tryz.func106, Tryz.ntmps106
  go_wp2_with fail
  go_loopw [3, 4] (fun i _ wz => i = .int .i64 0 ∧ wz = w) (fun _ _ _ => 0)
  case atStart => exact ⟨rfl, rfl⟩
  case round =>
    obtain ⟨rfl, hww⟩ := hrel
    obtain rfl := hww.symm
    go_wp2
    go_end0
    exact ⟨rfl, unhide HEN⟩
theorem grow85_any {w : World} {pb o : Nat} {tag : Nat → Nat} {S : BookSt} (h : BookAt w pb o tag S) :
    Calls Tryz.prog 107 #[.pointer (some ⟨pb, o, none⟩)] w fun e w' => e = .returned (.tuple #[]) ∧ BookAt w' pb o tag S ∧ Noted pb o tag tag w w' := by
  have c0 : w.cell? ⟨pb, o + 21, none⟩ = some (.slice none 0 0) := h.fl.c 21 (by decide)
  have c2 : w.cell? ⟨pb, o + 23, none⟩ = some (.int .i64 0) := h.fl.c 23 (by decide)
  have f2 := h.fl.f 23 (by decide)
  have HEN := hide (h.again 23 (by decide) (.int .i64 0) rfl)
  clear h
  go_enter Tryz.func107, Tryz.ntmps107
  go_wp2_with fail
  go_loopw [3, 4] (fun i _ wz => i = .int .i64 0 ∧ wz = w) (fun _ _ _ => 0)
  case atStart => exact ⟨rfl, rfl⟩
  case round =>
    obtain ⟨rfl, hww⟩ := hrel
    obtain rfl := hww.symm
    go_wp2
    go_end0
    exact ⟨rfl, unhide HEN⟩
theorem grow86_any {w : World} {pb o : Nat} {tag : Nat → Nat} {S : BookSt} (h : BookAt w pb o tag S) :
    Calls Tryz.prog 108 #[.pointer (some ⟨pb, o, none⟩)] w fun e w' => e = .returned (.tuple #[]) ∧ BookAt w' pb o tag S ∧ Noted pb o tag tag w w' := by
  have c0 : w.cell? ⟨pb, o + 24, none⟩ = some (.slice none 0 0) := h.fl.c 24 (by decide)
  have c2 : w.cell? ⟨pb, o + 26, none⟩ = some (.int .i64 0) := h.fl.c 26 (by decide)
  have f2 := h.fl.f 26 (by decide)
  have HEN := hide (h.again 26 (by decide) (.int .i64 0) rfl)
  clear h
  go_enter Tryz.func108, Tryz.ntmps108
  go_wp2_with fail
  go_loopw [3, 4] (fun i _ wz => i = .int .i64 0 ∧ wz = w) (fun _ _ _ => 0)
  case atStart => exact ⟨rfl, rfl⟩
  case round =>
    obtain ⟨rfl, hww⟩ := hrel
    obtain rfl := hww.symm
    go_wp2
    go_end0
    exact ⟨rfl, unhide HEN⟩
theorem grow87_any {w : World} {pb o : Nat} {tag : Nat → Nat} {S : BookSt} (h : BookAt w pb o tag S) :
    Calls Tryz.prog 109 #[.pointer (some ⟨pb, o, none⟩)] w fun e w' => e = .returned (.tuple #[]) ∧ BookAt w' pb o tag S ∧ Noted pb o tag tag w w' := by
  have c0 : w.cell? ⟨pb, o + 27, none⟩ = some (.slice none 0 0) := h.fl.c 27 (by decide)
  have c2 : w.cell? ⟨pb, o + 29, none⟩ = some (.int .i64 0) := h.fl.c 29 (by decide)
  have f2 := h.fl.f 29 (by decide)
  have HEN := hide (h.again 29 (by decide) (.int .i64 0) rfl)
  clear h
  go_enter Tryz.func109, Tryz.ntmps109
  go_wp2_with fail
  go_loopw [3, 4] (fun i _ wz => i = .int .i64 0 ∧ wz = w) (fun _ _ _ => 0)
  case atStart => exact ⟨rfl, rfl⟩
  case round =>
    obtain ⟨rfl, hww⟩ := hrel
    obtain rfl := hww.symm
    go_wp2
    go_end0
    exact ⟨rfl, unhide HEN⟩
theorem BookAt.done {w : World} {pb o : Nat} {tag : Nat → Nat} {S : BookSt} (h : BookAt w pb o tag S) : BookAt (w.setCell ⟨pb, o + 31, none⟩ (intV S.turn)) pb o tag { S with done := S.turn } ∧ Noted pb o tag tag w (w.setCell ⟨pb, o + 31, none⟩ (intV S.turn)) := by
  have hm := h.mid.set 31 (by decide) (intV S.turn)
  exact ⟨⟨hm.fl, hm.hb, hm.hu, hm.un, hm.tp, h.eb, h.eu, h.nb, h.nu, h.cnt, h.us, h.tn⟩, hm.no⟩
theorem grow_any {w : World} {pb o : Nat} {tag : Nat → Nat} {S : BookSt} (h : BookAt w pb o tag S) :
    Calls Tryz.prog 76 #[.pointer (some ⟨pb, o, none⟩)] w fun e w' => e = .returned (.tuple #[]) ∧ ∃ tag' S', BookAt w' pb o tag' S' ∧ S'.turn = S.turn ∧ Noted pb o tag tag' w w' := by
  have H0 := hide (growBytes_any h)
  clear h
  go_enter Tryz.func76, Tryz.ntmps76
  go_wp2_with fail
  refine (unhide H0).mono ?_
  rintro e w0 ⟨rfl, t0, S0, b0, q0, _, n0⟩
  have HQ := hide q0
  clear q0 H0
  have H1 := hide (growR_any b0)
  have HN1 := hide n0
  clear b0 n0
  go_wp2_with fail
  refine (unhide H1).mono ?_
  rintro e w1 ⟨rfl, b1, m1⟩
  have n1 := (unhide HN1).trans m1
  clear HN1 H1 m1
  have H2 := hide (growW_any b1)
  have HN2 := hide n1
  clear b1 n1
  go_wp2_with fail
  refine (unhide H2).mono ?_
  rintro e w2 ⟨rfl, b2, m2⟩
  have n2 := (unhide HN2).trans m2
  clear HN2 H2 m2
  have H3 := hide (grow81_any b2)
  have HN3 := hide n2
  clear b2 n2
  go_wp2_with fail
  refine (unhide H3).mono ?_
  rintro e w3 ⟨rfl, b3, m3⟩
  have n3 := (unhide HN3).trans m3
  clear HN3 H3 m3
  have H4 := hide (grow82_any b3)
  have HN4 := hide n3
  clear b3 n3
  go_wp2_with fail
  refine (unhide H4).mono ?_
  rintro e w4 ⟨rfl, b4, m4⟩
  have n4 := (unhide HN4).trans m4
  clear HN4 H4 m4
  have H5 := hide (growRepl_any b4)
  have HN5 := hide n4
  clear b4 n4
  go_wp2_with fail
  refine (unhide H5).mono ?_
  rintro e w5 ⟨rfl, t5, S5, b5, q5, _, m5⟩
  have n5 := (unhide HN5).trans m5
  have HR := hide (q5.trans (unhide HQ))
  clear HN5 H5 m5 q5 HQ
  have H6 := hide (grow84_any b5)
  have HN6 := hide n5
  clear b5 n5
  go_wp2_with fail
  refine (unhide H6).mono ?_
  rintro e w6 ⟨rfl, b6, m6⟩
  have n6 := (unhide HN6).trans m6
  clear HN6 H6 m6
  have H7 := hide (grow85_any b6)
  have HN7 := hide n6
  clear b6 n6
  go_wp2_with fail
  refine (unhide H7).mono ?_
  rintro e w7 ⟨rfl, b7, m7⟩
  have n7 := (unhide HN7).trans m7
  clear HN7 H7 m7
  have H8 := hide (grow86_any b7)
  have HN8 := hide n7
  clear b7 n7
  go_wp2_with fail
  refine (unhide H8).mono ?_
  rintro e w8 ⟨rfl, b8, m8⟩
  have n8 := (unhide HN8).trans m8
  clear HN8 H8 m8
  have H9 := hide (grow87_any b8)
  have HN9 := hide n8
  clear b8 n8
  go_wp2_with fail
  refine (unhide H9).mono ?_
  rintro e w9 ⟨rfl, b9, m9⟩
  have n9 := (unhide HN9).trans m9
  clear HN9 H9 m9
  have c30 : w9.cell? ⟨pb, o + 30, none⟩ = some (.int .i64 (S5.turn : Nat)) := b9.fl.c 30 (by decide)
  have c31 : w9.cell? ⟨pb, o + 31, none⟩ = some (.int .i64 (S5.done : Nat)) := b9.fl.c 31 (by decide)
  have f31 := b9.fl.f 31 (by decide)
  have HEN : Hid (∃ tag' S', BookAt (w9.setCell ⟨pb, o + 31, none⟩ (.int .i64 (S5.turn : Nat))) pb o tag' S' ∧ S'.turn = S.turn ∧ Noted pb o tag tag' w (w9.setCell ⟨pb, o + 31, none⟩ (.int .i64 (S5.turn : Nat)))) := hide ⟨_, _, b9.done.1, unhide HR, n9.trans b9.done.2⟩
  clear b9 n9
  go_wp2
  go_end0
  exact ⟨rfl, unhide HEN⟩
theorem look_any {w : World} {pb o : Nat} {tag : Nat → Nat} {S : BookSt} (h : BookAt w pb o tag S) :
    Calls Tryz.prog 56 #[.pointer (some ⟨pb, o, none⟩)] w fun e w' => e = .returned (.bool true) ∧ ∃ tag' S', BookAt w' pb o tag' S' ∧ S'.turn = S.turn ∧ Noted pb o tag tag' w w' := by
  have H1 := hide (bookholds_any h)
  have HB := hide (fun w' (k : Below w.heap.size w w') => h.below k)
  have hpl := h.fl.lt
  clear h
  go_enter Tryz.func56, Tryz.ntmps56
  go_wp2_with fail
  refine (unhide H1).mono ?_
  rintro e w1 ⟨rfl, k1⟩
  have b1 := unhide HB w1 k1
  have c30 : w1.cell? ⟨pb, o + 30, none⟩ = some (.int .i64 (S.turn : Nat)) := b1.fl.c 30 (by decide)
  have c31 : w1.cell? ⟨pb, o + 31, none⟩ = some (.int .i64 (S.done : Nat)) := b1.fl.c 31 (by decide)
  have HK1 := hide k1
  clear b1 k1 H1
  by_cases hd : S.done = S.turn
  · have d1 : ((S.done : Int) == (S.turn : Int)) = true := by rw [hd]; simp
    have d1' : (S.done == S.turn) = true := by rw [hd]; simp
    clear hd
    go_wp2_with fail
    go_quiet (fail)
    have k2 : Below w.heap.size w (w1.drewN nq) := (unhide HK1).trans ⟨rfl, rfl, rfl, Nat.le_refl _, fun _ _ => rfl⟩
    have HE : Hid (∃ tag' S', BookAt (w1.drewN nq) pb o tag' S' ∧ S'.turn = S.turn ∧ Noted pb o tag tag' w (w1.drewN nq)) := hide ⟨tag, S, unhide HB _ k2, rfl, below_noted k2 hpl o tag⟩
    clear k2 HK1 c30 c31
    generalize w1.drewN nq = w2 at *
    go_wp2
    go_ret
    exact ⟨rfl, unhide HE⟩
  · have d1 : ((S.done : Int) == (S.turn : Int)) = false := by rw [beq_eq_false_iff_ne]; omega
    have d1' : (S.done == S.turn) = false := by rw [beq_eq_false_iff_ne]; exact hd
    clear hd
    go_wp2_with fail
    go_quiet (fail)
    have k2 : Below w.heap.size w (w1.drewN nq) := (unhide HK1).trans ⟨rfl, rfl, rfl, Nat.le_refl _, fun _ _ => rfl⟩
    have H2 := hide (grow_any (unhide HB _ k2))
    have HN1 := hide (below_noted k2 hpl o tag)
    clear k2 HK1 c30 c31
    generalize w1.drewN nq = w8 at *
    go_wp2_with fail
    refine (unhide H2).mono ?_
    rintro e w2 ⟨rfl, t2, S2, b2, q2, n2⟩
    have n12 := (unhide HN1).trans n2
    have H3 := hide (bookholds_any b2)
    have HB2 := hide b2
    have HN2 := hide n12
    have HQ2 := hide q2
    clear b2 n2 n12 q2 HN1 H2
    go_wp2_with fail
    refine (unhide H3).mono ?_
    rintro e w3 ⟨rfl, k3⟩
    have b3 := (unhide HB2).below k3
    have n3 := (unhide HN2).trans (below_noted k3 (unhide HB2).fl.lt o t2)
    have HE : Hid (∃ tag' S', BookAt w3 pb o tag' S' ∧ S'.turn = S.turn ∧ Noted pb o tag tag' w w3) := hide ⟨t2, S2, b3, unhide HQ2, n3⟩
    clear b3 n3 k3
    go_wp2
    go_ret
    exact ⟨rfl, unhide HE⟩
end Go.Proofs.YtecfgbjnjgjkoaaGreatDoor.Bp
