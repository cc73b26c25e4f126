/- The book appends to its lists of words. -/
import Derived.Test.YtecfgbjnjgjkoaaGreatDoorBookGrow
namespace Go.Proofs.YtecfgbjnjgjkoaaGreatDoor.Bk
open Go.ChangeShapes Go.WideShapes Go.ChangeAt Go.RowKit
set_option linter.unusedVariables false
set_option maxRecDepth 100000
set_option maxHeartbeats 8000000

structure GrowingU (pb o : Nat) (S : BookSt) (t0 : Nat → Nat) (w0 : World) (tag : Nat → Nat) (w : World) (B : HalfSt) (more : Nat) : Prop where
  mid : Mid pb o t0 w0 tag w ((S.flds.set 6 B.v).set 7 B.o) S.turn S.b B
  lenL : B.L.length = S.u.M.length + more
  lenM : B.M.length = S.u.M.length + more
  n : B.n = 1000000000000
  preL : ∀ j, j < S.u.M.length → B.L.getD j undef = S.u.L.getD j undef
  preM : ∀ j, j < S.u.M.length → B.M.getD j 0 = S.u.M.getD j 0
theorem growU_start {pb o : Nat} {S : BookSt} {tag : Nat → Nat} {w : World} (h : BookAt w pb o tag S) (hl : S.u.M.length ≤ 1000000000000) : GrowingU pb o S tag w tag w { S.u with n := 1000000000000 } 0 :=
  ⟨⟨h.fl, rfl, h.hb, h.hu.over _ hl, h.un, h.tp, Noted.refl _ _ _ _⟩, h.eu, rfl, rfl, fun _ _ => rfl, fun _ _ => rfl⟩
theorem GrowingU.more {pb o : Nat} {S : BookSt} {t0 : Nat → Nat} {w0 : World} {tag : Nat → Nat} {w w' : World} {B : HalfSt} {more : Nat} (h : GrowingU pb o S t0 w0 tag w B more) {m n : Nat} {g g' : Value} {f : Nat → Value} (hg : Grew 153 n (wmk m n) w w' g g') (hv : ∀ q, g.ownBlock = some q → tag q = 10 + 2 * m + 1) (hl : Line w 153 g n f) : GrowingU pb o S t0 w0 (tagAt tag g' (10 + 2 * m + 1)) w' B more :=
  ⟨h.mid.growU hg hv hl, h.lenL, h.lenM, h.n, h.preL, h.preM⟩
theorem GrowingU.alloc {pb o : Nat} {S : BookSt} {t0 : Nat → Nat} {w0 : World} {tag : Nat → Nat} {w : World} {B : HalfSt} {more : Nat} (h : GrowingU pb o S t0 w0 tag w B more) (x : Obj) : GrowingU pb o S t0 w0 tag (w.alloc x) B more :=
  ⟨h.mid.alloc x, h.lenL, h.lenM, h.n, h.preL, h.preM⟩
/-- a list and its mark more in the two rows -/
theorem GrowingU.keep {pb o : Nat} {S : BookSt} {t0 : Nat → Nat} {w0 : World} {tag : Nat → Nat} {w w5 w7 : World} {B : HalfSt} {more m n : Nat} {x v' o' : Value} (h : GrowingU pb o S t0 w0 tag w B more) (hx : Line w 153 x n (wmk m)) (hxt : ∀ q, x.ownBlock = some q → tag q = 10 + 2 * m + 1) (hn : n ≤ 33554432) (hm : m ≤ S.turn) (hlen : lenOf x = n) (hsm : B.M.length < 1000000000000)
    (hg : Grew 152 B.L.length x w w5 B.v v') (hl : Line w5 152 v' (B.L.length + 1) (fun j => if j < B.L.length then B.L.getD j undef else x)) (y : Obj)
    (hg2 : Grew 3 B.M.length (intV m) ((w5.setCell ⟨pb, o + 6, none⟩ v').alloc y) w7 B.o o') (hl2 : Line w7 3 o' (B.M.length + 1) (fun j => if j < B.M.length then intV (B.M.getD j 0) else intV m)) :
    GrowingU pb o S t0 w0 (tagAt (tagAt tag v' 3) o' 4) (w7.setCell ⟨pb, o + 7, none⟩ o') { B with v := v', o := o', L := B.L ++ [x], M := B.M ++ [m] } (more + 1) ∧ Line (w7.setCell ⟨pb, o + 7, none⟩ o') 153 x n (wmk m) ∧ (∀ q, x.ownBlock = some q → tagAt (tagAt tag v' 3) o' 4 q = 10 + 2 * m + 1) := by
  have h5 := h.mid.addU hg hl
  have h6 := (h5.set 6 (by decide) v').alloc y
  have lx5 := hg.apart hx h.mid.hu.tl' hxt (by omega)
  have tx5 : ∀ q, x.ownBlock = some q → tagAt tag v' 3 q = 10 + 2 * m + 1 := fun q hq => by
    have := tagAt_old hg h.mid.hu.tl' q (hx.lt q hq)
    exact this.trans (hxt q hq)
  have npb : ∀ q, x.ownBlock = some q → q ≠ pb := fun q hq e => by
    have h1 := hxt q hq
    rw [e, h.mid.tp] at h1
    omega
  have lx6 : Line ((w5.setCell ⟨pb, o + 6, none⟩ v').alloc y) 153 x n (wmk m) := lx5.same (fun q hq => by
    have h1 := lx5.lt q hq
    exact (heap_alloc_old _ _ (by simpa using h1)).trans (setCell_else w5 pb (o + 6) q v' (npb q hq)))
  have hLM : B.L.length = B.M.length := by rw [h.lenL, h.lenM]
  have h7 := h6.addUo (m := m) (by simp; omega) hg2 hl2 (by
      show Line _ 153 ((B.L ++ [x]).getD B.M.length undef) (lenOf ((B.L ++ [x]).getD B.M.length undef)) _
      rw [getD_last _ _ _ _ hLM, hlen]
      exact lx6) (fun g hgg => by
      have hg' : ((B.L ++ [x]).getD B.M.length undef).ownBlock = some g := hgg
      rw [getD_last _ _ _ _ hLM] at hg'
      exact tx5 g hg') (by
      show lenOf ((B.L ++ [x]).getD B.M.length undef) ≤ _
      rw [getD_last _ _ _ _ hLM, hlen]
      exact hn) hm (fun hh => by
      have h1 : B.n ≤ B.M.length := hh
      rw [h.n] at h1
      omega)
  have h8 := h7.set 7 (by decide) o'
  have lx7 := hg2.apart lx6 h6.hu.to' tx5 (by omega)
  refine ⟨⟨h8, ?_, ?_, h.n, fun j hj => ?_, fun j hj => ?_⟩, lx7.same (fun q hq => setCell_else w7 pb (o + 7) q o' (npb q hq)), fun q hq => ?_⟩
  · have := h.lenL; simp; omega
  · have := h.lenM; simp; omega
  · show (B.L ++ [x]).getD j undef = _
    rw [getD_old _ _ _ _ (by rw [h.lenL]; omega)]
    exact h.preL j hj
  · show (B.M ++ [m]).getD j 0 = _
    rw [getD_old _ _ _ _ (by rw [h.lenM]; omega)]
    exact h.preM j hj
  · have := tagAt_old hg2 h6.hu.to' q (lx6.lt q hq)
    exact this.trans (tx5 q hq)
theorem Tryz.info153 : (Tryz.prog.info? 153).map (fun i => (i.zero, i.size, i.bytes)) = some (some (.int .u64 0), 1, 8) := by kernel_rfl
theorem growWords_any {w : World} {pb o : Nat} {tag : Nat → Nat} {S : BookSt} (h : BookAt w pb o tag S) :
    Calls Tryz.prog 102 #[.pointer (some ⟨pb, o, none⟩)] w fun e w' => e = .returned (.tuple #[]) ∧ ∃ tag' S', BookAt w' pb o tag' S' ∧ S'.turn = S.turn ∧ S'.done = S.done ∧ Noted pb o tag tag' w w' := by
  obtain ⟨i0, hi, hy0, hy1, hy2⟩ := info_parts Tryz.info152
  obtain ⟨i3, hi3, hz0, hz1, hz2⟩ := info_parts Tryz.info3
  obtain ⟨i5, hi5, hx0, hx1, hx2⟩ := info_parts Tryz.info153
  have c0 : w.cell? ⟨pb, o + 6, none⟩ = some S.u.v := h.fl.c 6 (by decide)
  have c2 : w.cell? ⟨pb, o + 8, none⟩ = some (.int .i64 (S.u.n : Nat)) := h.fl.c 8 (by decide)
  have hcnt := h.cnt
  have hus := h.us
  have hnb := h.nu
  have hnu := h.nb
  have htn := h.tn
  have hml : S.u.M.length ≤ 200000 := by omega
  have hbig : 10 * S.u.M.length ≤ 9 * S.u.n + 139900 := by omega
  have HS := hide h
  have HST := hide (growU_start h (by omega))
  obtain ⟨a0, cp0, hv0⟩ := h.hu.rl.shape
  rw [h.eu] at hv0
  rw [hv0] at c0
  clear h hcnt hus hnu hv0
  generalize hN : S.u.M.length = N at *
  generalize hnn : S.u.n = nb at *
  have HN := hide hN
  have HNN := hide hnn
  clear hN hnn
  go_enter Tryz.func102, Tryz.ntmps102
  go_wp2_with fail
  go_loopw [3, 4] (fun k g wq => ∃ (kk : Nat) (B : HalfSt) (tg : Nat → Nat), nb ≤ kk ∧ kk ≤ N ∧ k = .int .i64 kk ∧ GrowingU pb o S tag w tg wq B (5 * (kk - nb))) (fun k _ _ => N - (intOf k).toNat)
  case atStart => exact ⟨nb, _, tag, by omega, by omega, rfl, by rw [Nat.sub_self]; exact unhide HST⟩
  case round =>
    obtain ⟨kk, B, tg, hk1, hk2, rfl, hgr⟩ := hrel
    rename World => wq
    by_cases hlt : kk < N
    · have d1 : decide ((kk : Int) < (N : Int)) = true := decide_eq_true (by omega)
      have d1' : decide (kk < N) = true := decide_eq_true hlt
      have hlL : B.L.length = N + 5 * (kk - nb) := by rw [hgr.lenL, unhide HN]
      have hlM : B.M.length = N + 5 * (kk - nb) := by rw [hgr.lenM, unhide HN]
      obtain ⟨e1, e2, e3, e4⟩ := hgr.mid.hu.ent kk (by omega)
      have hfr : lenOf (B.L.getD kk undef) ≤ 16777216 := by
        rw [hgr.preL kk (by rw [unhide HN]; exact hlt)]
        exact (unhide HS).hu.fresh kk (by rw [unhide HNN]; exact hk1) (by rw [unhide HN]; exact hlt)
      obtain ⟨gL, capL, hvL, _, hcL⟩ := hgr.mid.hu.rl.at (by omega)
      obtain ⟨gM, capM, hvM, _, hcM⟩ := hgr.mid.hu.ro.at (by omega)
      have ckL := (hcL kk (by omega)).1
      have ckM := (hcM kk (by omega)).1
      have c0' : wq.cell? ⟨pb, o + 6, none⟩ = some B.v := hgr.mid.fl.c 6 (by decide)
      have c1' : wq.cell? ⟨pb, o + 7, none⟩ = some B.o := hgr.mid.fl.c 7 (by decide)
      rw [hvL] at c0'
      rw [hvM] at c1'
      obtain ⟨ag, cg, hg0⟩ := e1.shape
      have HGR := hide hgr
      clear hvL hvM hcL hcM
      generalize B.L.getD kk undef = g0 at *
      generalize hm0 : B.M.getD kk 0 = m at *
      generalize lenOf g0 = len0 at *
      subst hg0
      have HE1 := hide e1
      have HE2 := hide e2
      have y0 : (0 : Int) ≤ (kk : Int) := by omega
      have y1 : (kk : Int) < (B.L.length : Int) := by omega
      have y2 : (kk : Int) < (B.M.length : Int) := by omega
      have ckM' : wq.cell? ⟨gM, kk, none⟩ = some (.int .i64 (m : Nat)) := ckM
      have hm4 : m ≤ 1000000 := by omega
      have hmT := hide e4
      clear e1 e2 e3 e4 hgr hm0 ckM
      have HlL := hide hlL
      have HlM := hide hlM
      have hb1 : B.L.length ≤ 140000 := by omega
      clear hlL hlM
      go_wp2_with fail
      go_loopw [4, 6] (fun g i wz => ∃ (c : Nat) (B' : HalfSt) (tg' : Nat → Nat), 1 ≤ c ∧ c ≤ 33 ∧ i = .int .i64 c ∧ GrowingU pb o S tag w tg' wz B' (5 * (kk - nb) + keptN (c - 1)) ∧ Line wz 153 g (len0 + (c - 1)) (wmk m) ∧ (∀ q, g.ownBlock = some q → tg' q = 10 + 2 * m + 1)) (fun _ i _ => 33 - (intOf i).toNat)
      case atStart => exact ⟨1, B, tg, by omega, by omega, rfl, unhide HGR, unhide HE1, unhide HE2⟩
      case round =>
        clear HGR HE1 HE2 c0' c1' ckL ckM' y1 y2 hb1 HlL HlM
        obtain ⟨c, B', tg', hc1, hc2, rfl, hgz, hlz, htz⟩ := hrel
        rename World => wz
        obtain ⟨az, cz, rfl⟩ := hlz.shape
        by_cases hc3 : c ≤ 32
        · have d2 : decide ((c : Int) ≤ 32) = true := decide_eq_true (by omega)
          have d2' : decide (c ≤ 32) = true := decide_eq_true hc3
          have hkn := keptN_le (c - 1) (by omega)
          have hlL : B'.L.length = N + (5 * (kk - nb) + keptN (c - 1)) := by rw [hgz.lenL, unhide HN]
          have hlM : B'.M.length = N + (5 * (kk - nb) + keptN (c - 1)) := by rw [hgz.lenM, unhide HN]
          have hb1 : B'.L.length ≤ 140000 := by omega
          have hb2 : B'.M.length ≤ 140000 := by omega
          have HGZ := hide hgz
          have HLZ := hide hlz
          have HTZ := hide htz
          obtain ⟨n, hn⟩ : ∃ n, n = len0 + (c - 1) := ⟨_, rfl⟩
          have hn2 : n ≤ 16777400 := by omega
          have HNE := hide hn
          rw [← hn] at HLZ HTZ ⊢
          have HAT := hide (wm_any m wz (by omega))
          have hwmb : wmN m < 18446744073709551616 := by unfold wmN; omega
          clear hgz hlz htz hn hlL hlM hkn
          go_wp2_with fail
          refine (unhide HAT).mono ?_
          rintro e w' ⟨rfl, hw'⟩
          obtain rfl := hw'.symm
          go_wp2_with (at_builtin; refine append_line rfl _ _ 152 rfl 153 i5 (.int .u64 0) 8 Tryz.underlying152 hi5 hx0 hx1 hx2 rfl _ _ _ rfl ((unhide HLZ).same (fun q hq => heap_alloc_old wz _ ((unhide HLZ).lt q hq))) wz.heap.size rfl (.int .u64 (wmN m : Nat)) ?p1 rfl ?p2 ?p3 ?_)
          case p1 => exact cell_made rfl _ _
          case p2 => omega
          case p3 => omega
          intro g' w4 hl4 hg4
          have hlz' := (unhide HLZ).same (w' := wz.alloc (.cells #[.int .u64 (wmN m : Nat)] 153)) (fun q hq => heap_alloc_old wz _ ((unhide HLZ).lt q hq))
          have hgz4 := ((unhide HGZ).alloc _).more (m := m) hg4 (unhide HTZ) hlz'
          have hl4' : Line w4 153 g' (n + 1) (wmk m) := hl4.congr (fun j hj => by
            by_cases e1 : j < n
            · rw [if_pos e1]
            · have : j = n := by omega
              subst this
              rw [if_neg e1]; rfl)
          have ht4 : ∀ q, g'.ownBlock = some q → tagAt tg' g' (10 + 2 * m + 1) q = 10 + 2 * m + 1 := fun q hq => tagAt_self tg' g' _ q hq
          obtain ⟨a4, cp4, rfl⟩ := hl4.shape
          have HG4 := hide hgz4
          have HL4 := hide hl4'
          have HT4 := hide ht4
          generalize tagAt tg' (.slice a4 (n + 1) cp4) (10 + 2 * m + 1) = tg4 at *
          clear hl4 hg4 hgz4 hl4' ht4 hlz' HGZ HLZ HTZ HAT
          by_cases hkp : c < 4 ∨ c % 16 = 0
          · have HKN := hide (keptN_yes c hc1 hkp)
            have e16 : (c : Int).tmod 16 = ((c % 16 : Nat) : Int) := rfl
            have c40 : w4.cell? ⟨pb, o + 6, none⟩ = some B'.v := (unhide HG4).mid.fl.c 6 (by decide)
            have f40 : w4.frozen? ⟨pb, o + 6, none⟩ = false := (unhide HG4).mid.fl.f 6 (by decide)
            have HLE := hide (show lenOf (Value.slice a4 (n + 1) cp4) = n + 1 from rfl)
            have hlb := hfr
            have HMT := hmT
            by_cases h4 : c < 4
            · have d4 : decide ((c : Int) < 4) = true := decide_eq_true (by omega)
              have d4' : decide (c < 4) = true := decide_eq_true h4
              clear hkp e16
              go_wp2_with (at_builtin; refine append_line rfl _ _ 39 rfl 152 i0 (.slice none 0 0) 24 Tryz.underlying39 hi hy0 hy1 hy2 rfl _ _ _ rfl ((unhide HG4).alloc _).mid.hu.rl w4.heap.size rfl (.slice a4 (n + 1) cp4) ?q1 rfl ?q2 ?q3 ?_)
              case q1 => exact cell_made rfl _ _
              case q2 => omega
              case q3 => omega
              intro v5 w5 hl5 hg5
              obtain ⟨a5, cp5, rfl⟩ := hl5.shape
              have hM5 := ((unhide HG4).alloc _).mid.addU hg5 hl5
              have c50 : w5.cell? ⟨pb, o + 6, none⟩ = some B'.v := hM5.fl.c 6 (by decide)
              have f50 : w5.frozen? ⟨pb, o + 6, none⟩ = false := hM5.fl.f 6 (by decide)
              have c51 : w5.cell? ⟨pb, o + 7, none⟩ = some B'.o := hM5.fl.c 7 (by decide)
              have f51 := hM5.fl.f 7 (by decide)
              have HM6 := hide (hM5.set 6 (by decide) (.slice a5 (B'.L.length + 1) cp5))
              have HG5 := hide hg5
              have HL5 := hide hl5
              clear hM5 hg5 hl5 c40 f40
              go_wp2_with (at_builtin; refine append_line rfl _ _ 37 rfl 3 i3 (.int .i64 0) 8 Tryz.underlying37 hi3 hz0 hz1 hz2 rfl _ _ _ rfl ((unhide HM6).alloc _).hu.ro w5.heap.size rfl (.int .i64 (m : Nat)) ?r1 rfl ?r2 ?r3 ?_)
              case r1 => exact cell_made (by simp) _ _
              case r2 => omega
              case r3 => omega
              intro o7 w7 hl7 hg7
              obtain ⟨a7, cp7, rfl⟩ := hl7.shape
              have hF7 := Grew.flds ((unhide HM6).alloc _).fl hg7 (unhide HM6).hu.to' (by decide) (unhide HM6).tp
              have c71 : w7.cell? ⟨pb, o + 7, none⟩ = some B'.o := hF7.c 7 (by decide)
              have f71 := hF7.f 7 (by decide)
              have hk := GrowingU.keep (m := m) ((unhide HG4).alloc _) ((unhide HL4).same (fun q hq => heap_alloc_old w4 _ ((unhide HL4).lt q hq))) (unhide HT4) (by omega) (unhide hmT) rfl (by omega) (unhide HG5) (unhide HL5) _ hg7 hl7
              have HEN : Hid (∃ (Bf : HalfSt) (tf : Nat → Nat), GrowingU pb o S tag w tf (w7.setCell ⟨pb, o + 7, none⟩ (.slice a7 (B'.M.length + 1) cp7)) Bf (5 * (kk - nb) + keptN c) ∧ Line (w7.setCell ⟨pb, o + 7, none⟩ (.slice a7 (B'.M.length + 1) cp7)) 153 (.slice a4 (n + 1) cp4) (len0 + c) (wmk m) ∧ (∀ q, Value.ownBlock (.slice a4 (n + 1) cp4) = some q → tf q = 10 + 2 * m + 1)) := hide (by
                rw [unhide HKN, ← Nat.add_assoc]
                have e1 : len0 + c = n + 1 := by have := unhide HNE; omega
                rw [e1]
                exact ⟨_, _, hk.1, hk.2.1, hk.2.2⟩)
              clear hk hF7 hl7 hg7 HM6 HG5 HL5 HG4 HL4 HT4 c50 f50 c51 f51
              go_wp2_with fail
              obtain ⟨Bf, tf, k1, k2, k3⟩ := unhide HEN
              go_roundw
              case rel => exact ⟨c + 1, Bf, tf, by omega, by omega, by go_num, k1, k2, k3⟩
              case measure => simp [intOf]; omega
            · have d4 : decide ((c : Int) < 4) = false := decide_eq_false (by omega)
              have d4' : decide (c < 4) = false := decide_eq_false h4
              have h16 : c % 16 = 0 := by omega
              rw [h16] at e16
              have e16' : (c : Int).tmod 16 = 0 := e16
              clear hkp e16 h16
              go_wp2_with (at_builtin; refine append_line rfl _ _ 39 rfl 152 i0 (.slice none 0 0) 24 Tryz.underlying39 hi hy0 hy1 hy2 rfl _ _ _ rfl ((unhide HG4).alloc _).mid.hu.rl w4.heap.size rfl (.slice a4 (n + 1) cp4) ?q1 rfl ?q2 ?q3 ?_)
              case q1 => exact cell_made rfl _ _
              case q2 => omega
              case q3 => omega
              intro v5 w5 hl5 hg5
              obtain ⟨a5, cp5, rfl⟩ := hl5.shape
              have hM5 := ((unhide HG4).alloc _).mid.addU hg5 hl5
              have c50 : w5.cell? ⟨pb, o + 6, none⟩ = some B'.v := hM5.fl.c 6 (by decide)
              have f50 : w5.frozen? ⟨pb, o + 6, none⟩ = false := hM5.fl.f 6 (by decide)
              have c51 : w5.cell? ⟨pb, o + 7, none⟩ = some B'.o := hM5.fl.c 7 (by decide)
              have f51 := hM5.fl.f 7 (by decide)
              have HM6 := hide (hM5.set 6 (by decide) (.slice a5 (B'.L.length + 1) cp5))
              have HG5 := hide hg5
              have HL5 := hide hl5
              clear hM5 hg5 hl5 c40 f40
              go_wp2_with (at_builtin; refine append_line rfl _ _ 37 rfl 3 i3 (.int .i64 0) 8 Tryz.underlying37 hi3 hz0 hz1 hz2 rfl _ _ _ rfl ((unhide HM6).alloc _).hu.ro w5.heap.size rfl (.int .i64 (m : Nat)) ?r1 rfl ?r2 ?r3 ?_)
              case r1 => exact cell_made (by simp) _ _
              case r2 => omega
              case r3 => omega
              intro o7 w7 hl7 hg7
              obtain ⟨a7, cp7, rfl⟩ := hl7.shape
              have hF7 := Grew.flds ((unhide HM6).alloc _).fl hg7 (unhide HM6).hu.to' (by decide) (unhide HM6).tp
              have c71 : w7.cell? ⟨pb, o + 7, none⟩ = some B'.o := hF7.c 7 (by decide)
              have f71 := hF7.f 7 (by decide)
              have hk := GrowingU.keep (m := m) ((unhide HG4).alloc _) ((unhide HL4).same (fun q hq => heap_alloc_old w4 _ ((unhide HL4).lt q hq))) (unhide HT4) (by omega) (unhide hmT) rfl (by omega) (unhide HG5) (unhide HL5) _ hg7 hl7
              have HEN : Hid (∃ (Bf : HalfSt) (tf : Nat → Nat), GrowingU pb o S tag w tf (w7.setCell ⟨pb, o + 7, none⟩ (.slice a7 (B'.M.length + 1) cp7)) Bf (5 * (kk - nb) + keptN c) ∧ Line (w7.setCell ⟨pb, o + 7, none⟩ (.slice a7 (B'.M.length + 1) cp7)) 153 (.slice a4 (n + 1) cp4) (len0 + c) (wmk m) ∧ (∀ q, Value.ownBlock (.slice a4 (n + 1) cp4) = some q → tf q = 10 + 2 * m + 1)) := hide (by
                rw [unhide HKN, ← Nat.add_assoc]
                have e1 : len0 + c = n + 1 := by have := unhide HNE; omega
                rw [e1]
                exact ⟨_, _, hk.1, hk.2.1, hk.2.2⟩)
              clear hk hF7 hl7 hg7 HM6 HG5 HL5 HG4 HL4 HT4 c50 f50 c51 f51
              go_wp2_with fail
              obtain ⟨Bf, tf, k1, k2, k3⟩ := unhide HEN
              go_roundw
              case rel => exact ⟨c + 1, Bf, tf, by omega, by omega, by go_num, k1, k2, k3⟩
              case measure => simp [intOf]; omega
          · have HKN := hide (keptN_no c hc1 hkp)
            have e16 : (c : Int).tmod 16 = ((c % 16 : Nat) : Int) := rfl
            have h4 : ¬ c < 4 := fun h => hkp (.inl h)
            have h16 : ¬ c % 16 = 0 := fun h => hkp (.inr h)
            have d4 : decide ((c : Int) < 4) = false := decide_eq_false (by omega)
            have d4' : decide (c < 4) = false := decide_eq_false h4
            generalize c % 16 = r at *
            have d5 : ((r : Int) == 0) = false := by rw [beq_eq_false_iff_ne]; omega
            have d5' : (r == 0) = false := by rw [beq_eq_false_iff_ne]; exact h16
            have HEN : Hid (GrowingU pb o S tag w tg4 w4 B' (5 * (kk - nb) + keptN c) ∧ Line w4 153 (.slice a4 (n + 1) cp4) (len0 + c) (wmk m)) := hide (by
              rw [unhide HKN]
              have e1 : len0 + c = n + 1 := by have := unhide HNE; omega
              rw [e1]
              exact ⟨unhide HG4, unhide HL4⟩)
            clear hkp h16
            go_wp2_with fail
            go_roundw
            case rel => exact ⟨c + 1, B', tg4, by omega, by omega, by go_num, (unhide HEN).1, (unhide HEN).2, unhide HT4⟩
            case measure => simp [intOf]; omega
        · have d2 : decide ((c : Int) ≤ 32) = false := decide_eq_false (by omega)
          have d2' : decide (c ≤ 32) = false := decide_eq_false hc3
          have hce : c = 33 := by omega
          subst hce
          have HEN : Hid (GrowingU pb o S tag w tg' wz B' (5 * (kk + 1 - nb))) := hide (by
            have e1 : 5 * (kk + 1 - nb) = 5 * (kk - nb) + keptN (33 - 1) := by
              have : keptN (33 - 1) = 5 := rfl
              omega
            rw [e1]
            exact hgz)
          clear hgz hlz htz
          go_wp2_with fail
          go_roundw
          case rel => exact ⟨kk + 1, B', tg', by omega, by omega, by go_num, unhide HEN⟩
          case measure => simp [intOf]; omega
    · have d1 : decide ((kk : Int) < (N : Int)) = false := decide_eq_false (by omega)
      have d1' : decide (kk < N) = false := decide_eq_false hlt
      have hke : kk = N := by omega
      have c0' : wq.cell? ⟨pb, o + 6, none⟩ = some B.v := hgr.mid.fl.c 6 (by decide)
      have c2' : wq.cell? ⟨pb, o + 8, none⟩ = some (.int .i64 (nb : Nat)) := by rw [← unhide HNN]; exact hgr.mid.fl.c 8 (by decide)
      have f2' := hgr.mid.fl.f 8 (by decide)
      have hset := hgr.mid.set 8 (by decide) (intV B.L.length)
      have HEN : Hid (∃ tag' S', BookAt (wq.setCell ⟨pb, o + 8, none⟩ (.int .i64 (B.L.length : Nat))) pb o tag' S' ∧ S'.turn = S.turn ∧ S'.done = S.done ∧ Noted pb o tag tag' w (wq.setCell ⟨pb, o + 8, none⟩ (.int .i64 (B.L.length : Nat)))) := hide (by
        have hh := unhide HS
        have h1 := hh.cnt
        have h2 := hh.nb
        have h3 := hgr.lenL
        have h4 := hgr.lenM
        rw [unhide HN] at h3 h4
        rw [unhide HN, unhide HNN] at h1
        refine ⟨tg, { S with u := { B with n := B.L.length } }, ⟨hset.fl, hset.hb, hset.hu.over _ (by omega), hset.un, hset.tp, hh.eb, ?_, hh.nb, ?_, ?_, hh.us, hh.tn⟩, rfl, rfl, hset.no⟩
        · show B.L.length = B.M.length
          omega
        · show B.L.length ≤ B.M.length
          omega
        · show 1200 * S.b.M.length + 1200 * B.M.length ≤ S.used + 1080 * S.b.n + 1080 * B.L.length
          rw [h3, h4]
          omega)
      obtain ⟨a1, cp1, hv1⟩ := hgr.mid.hu.rl.shape
      rw [hv1] at c0'
      have hll : B.L.length ≤ 2000000 := by have := hgr.lenL; rw [unhide HN] at this; omega
      clear hgr hset hv1
      go_wp2
      go_end0
      exact ⟨rfl, unhide HEN⟩
end Go.Proofs.YtecfgbjnjgjkoaaGreatDoor.Bk
