/- The book takes a list. -/
import Derived.Test.YtcnlikojbkegiaaGreatDoorBookMid
namespace Go.Proofs.YtcnlikojbkegiaaGreatDoor.Bk
open Go.ChangeShapes Go.WideShapes Go.ChangeAt Go.RowKit
set_option linter.unusedVariables false
set_option maxRecDepth 100000
set_option maxHeartbeats 8000000

theorem Tryz.info25 : (Tryz.prog.info? 25).map (fun i => (i.zero, i.size, i.bytes)) = some (some (.slice none 0 0), 1, 24) := by kernel_rfl
theorem Tryz.info152 : (Tryz.prog.info? 152).map (fun i => (i.zero, i.size, i.bytes)) = some (some (.slice none 0 0), 1, 24) := by kernel_rfl
/-- a list is written full: nothing else changes -/
structure Wrote (v : Value) (w w' : World) : Prop where
  os : w'.os = w.os
  tape : w'.tape = w.tape
  output : w'.output = w.output
  size : w'.heap.size = w.heap.size
  blk : ∀ g, v.ownBlock ≠ some g → w'.heap[g]? = w.heap[g]?
theorem Wrote.refl (v : Value) (w : World) : Wrote v w w := ⟨rfl, rfl, rfl, rfl, fun _ _ => rfl⟩
theorem Wrote.set {v : Value} {w w' : World} (h : Wrote v w w') {g : Nat} (hg : v.ownBlock = some g) (k : Nat) (u : Value) : Wrote v w (w'.setCell ⟨g, k, none⟩ u) :=
  ⟨h.os, h.tape, h.output, by simpa using h.size, fun j hj => (setCell_else w' g k j u (fun e => hj (by rw [hg, e]))).trans (h.blk j hj)⟩
theorem Grew.apart {e e2 : TypeId} {n n2 k k2 : Nat} {u : Value} {w w' : World} {v v' v2 : Value} {f2 : Nat → Value} {tag : Nat → Nat} (h : Grew e n u w w' v v') (h2 : Line w e2 v2 n2 f2) (hv : ∀ q, v.ownBlock = some q → tag q = k) (hv2 : ∀ q, v2.ownBlock = some q → tag q = k2) (hne : k ≠ k2) : Line w' e2 v2 n2 f2 :=
  h2.same (fun q hq => h.other q (h2.lt q hq) (fun e => hne ((hv q e).symm.trans (hv2 q hq))))
theorem getD_last {α : Type} (l : List α) (x d : α) (n : Nat) (h : l.length = n) : (l ++ [x]).getD n d = x := by
  subst h
  simp [List.getD_eq_getElem?_getD]
theorem cell_made {w : World} {b : Nat} (hb : w.heap.size = b) (x : Value) (t : TypeId) : (w.alloc (.cells #[x] t)).cell? ⟨b, 0, none⟩ = some x := by
  subst hb
  have h := heap_alloc_new w (.cells #[x] t)
  simp only [World.cell?, h]
  rfl
theorem tagAt_self (tag : Nat → Nat) (v : Value) (k g : Nat) (h : v.ownBlock = some g) : tagAt tag v k g = k := by unfold tagAt; rw [if_pos h]
/-- behind the writing: the book is as it was, but for the turn -/
theorem mid_wrote {w wq : World} {pb o : Nat} {tag : Nat → Nat} {S : BookSt} (h : BookAt w pb o tag S) {v : Value} (hg : ∀ g, v.ownBlock = some g → tag g = 0 ∧ g ≠ pb ∧ g < w.heap.size) (m k : Nat) (hk : k ≠ 0) (hT : S.turn ≤ m) (hw : Wrote v (w.setCell ⟨pb, o + 30, none⟩ (intV m)) wq) :
    Mid pb o (tagAt tag v k) w (tagAt tag v k) wq (S.flds.set 30 (intV m)) m S.b S.u := by
  have h1 := h.mid.set 30 (by decide) (intV m)
  have hpb : wq.heap[pb]? = (w.setCell ⟨pb, o + 30, none⟩ (intV m)).heap[pb]? := hw.blk pb (fun e => (hg pb e).2.1 rfl)
  have hb : ∀ g, tag g ≠ 0 → wq.heap[g]? = (w.setCell ⟨pb, o + 30, none⟩ (intV m)).heap[g]? := fun g hn => hw.blk g (fun e => hn (hg g e).1)
  have ht : ∀ g, tag g ≠ 0 → tagAt tag v k g = tag g := fun g hn => by
    unfold tagAt
    rw [if_neg (fun e => hn (hg g e).1)]
  have hs : wq.heap.size = w.heap.size := by rw [hw.size]; simp
  refine ⟨h1.fl.same hpb (by rw [hw.size]; exact Nat.le_refl _), h1.len, (h1.hb.same hb hT).tags ht, (h1.hu.same hb hT).tags ht, fun g hn => ?_, ?_, ⟨hw.os, hw.tape, hw.output, by omega, fun _ _ => rfl, fun g h2 h3 h4 => ?_, fun j hj => ?_⟩⟩
  · unfold tagAt at hn
    by_cases e : v.ownBlock = some g
    · rw [hs]; exact (hg g e).2.2
    · rw [if_neg e] at hn
      rw [hs]; exact h.un g hn
  · unfold tagAt
    rw [if_neg (fun e => (hg pb e).2.1 rfl)]
    exact h.tp
  · have hv : v.ownBlock ≠ some g := fun e => by unfold tagAt at h3; rw [if_pos e] at h3; exact hk h3
    rw [hw.blk g hv]
    exact setCell_else w pb (o + 30) g _ h4
  · have := (Noted.set (pb := pb) (o := o) (tag := tag) (w := w) 30 (by decide) (intV m)).rest j hj
    exact ⟨(World.cell?_of_block (a := ⟨pb, j, none⟩) hpb).trans this.1, (World.frozen?_of_block (a := ⟨pb, j, none⟩) hpb).trans this.2⟩
theorem take_bytes {w : World} {pb o : Nat} {tag : Nat → Nat} {S : BookSt} (h : BookAt w pb o tag S) (ht : S.turn < 1000000) (v : Value) (n : Nat) (f : Nat → Value) (hl : Line w 5 v n f) (hg : ∀ g, v.ownBlock = some g → tag g = 0 ∧ g ≠ pb) (hn : n ≤ 281474976710656) :
    Calls Tryz.prog 48 #[.pointer (some ⟨pb, o, none⟩), v] w fun e w' => e = .returned (.tuple #[]) ∧ ∃ tag' S', BookAt w' pb o tag' S' ∧ S'.turn = S.turn + 1 ∧ Noted pb o (tagAt tag v (10 + 2 * (S.turn + 1))) tag' w w' := by
  obtain ⟨i0, hi, hy0, hy1, hy2⟩ := info_parts Tryz.info25
  obtain ⟨i3, hi3, hz0, hz1, hz2⟩ := info_parts Tryz.info3
  have hg' : ∀ g, v.ownBlock = some g → tag g = 0 ∧ g ≠ pb ∧ g < w.heap.size := fun g hgg => ⟨(hg g hgg).1, (hg g hgg).2, hl.lt g hgg⟩
  have c30 : w.cell? ⟨pb, o + 30, none⟩ = some (.int .i64 (S.turn : Nat)) := h.fl.c 30 (by decide)
  have f30 := h.fl.f 30 (by decide)
  obtain ⟨m, hm⟩ : ∃ m, m = S.turn + 1 := ⟨_, rfl⟩
  have em : ((m : Nat) : Int) = (S.turn : Int) + 1 := by omega
  obtain ⟨w1, hw1⟩ : ∃ w1, w1 = w.setCell ⟨pb, o + 30, none⟩ (.int .i64 ((S.turn : Int) + 1)) := ⟨_, rfl⟩
  have hw1' : w1 = w.setCell ⟨pb, o + 30, none⟩ (intV m) := by unfold intV; rw [em]; exact hw1
  have c301 : w1.cell? ⟨pb, o + 30, none⟩ = some (.int .i64 (m : Nat)) := by rw [hw1', World.cell?_setCell_same _ _ _ c30]; rfl
  have hl1 : Line w1 5 v n f := hl.same (fun g hgg => by rw [hw1']; exact setCell_else w pb (o + 30) g _ (hg g hgg).2)
  have HM : Hid (∀ wq, Wrote v w1 wq → Mid pb o (tagAt tag v (10 + 2 * m)) w (tagAt tag v (10 + 2 * m)) wq (S.flds.set 30 (intV m)) m S.b S.u) := hide (fun wq hq => mid_wrote h hg' m (10 + 2 * m) (by omega) (by omega) (by rw [← hw1']; exact hq))
  have HW := hide hw1
  have HS := hide h
  have hm2 : m ≤ 1000000 := by omega
  have hus := h.us
  rw [← hm]
  obtain ⟨a0, cap0, hv0⟩ := hl.shape
  have HL1 := hide hl1
  have HMT := hide hm
  clear hl hg h hg' hw1 hw1' hm em hl1
  subst hv0
  go_enter Tryz.func48, Tryz.ntmps48
  go_upto_region 1 with fail
  rw [← unhide HW]
  clear HW c30 f30
  go_wp2_with fail
  go_loopw [5] (fun i wq => ∃ k : Nat, k ≤ n ∧ i = .int .i64 k ∧ Line wq 5 (.slice a0 n cap0) n (fun j => if j < k then bmk m j else f j) ∧ Wrote (.slice a0 n cap0) w1 wq) (fun i _ => n - (intOf i).toNat)
  case atStart => exact ⟨0, by omega, rfl, (unhide HL1).congr (fun j hj => by rw [if_neg (by omega)]), Wrote.refl _ _⟩
  case round =>
    obtain ⟨k, hk, rfl, hlq, hwq⟩ := hrel
    rename World => wq
    by_cases hlt : k < n
    · have d1 : decide ((k : Int) < (n : Int)) = true := decide_eq_true (by omega)
      have d1' : decide (k < n) = true := decide_eq_true hlt
      have y0 : (0 : Int) ≤ (k : Int) := by omega
      have y1 : (k : Int) < (n : Int) := by omega
      obtain ⟨g, cap, hv, hgb, hcells⟩ := hlq.at (by omega)
      obtain ⟨ck, fk⟩ := hcells k hlt
      simp only [Value.slice.injEq] at hv
      obtain ⟨rfl, _, rfl⟩ := hv
      have HAT := hide (at_any m k wq (by omega) (by omega))
      have HEN : Hid (Line (wq.setCell ⟨g, k, none⟩ (.int .u8 (atN m k : Nat))) 5 (.slice (some ⟨g, 0, none⟩) n cap0) n (fun j => if j < k + 1 then bmk m j else f j) ∧ Wrote (.slice (some ⟨g, 0, none⟩) n cap0) w1 (wq.setCell ⟨g, k, none⟩ (.int .u8 (atN m k : Nat)))) := hide ⟨(hlq.put hgb k _ hlt).congr (fun j hj => by
          show (if j = k then _ else if j < k then bmk m j else f j) = _
          by_cases e1 : j = k
          · subst e1; rw [if_pos rfl, if_pos (by omega)]; rfl
          · rw [if_neg e1]
            by_cases e2 : j < k
            · rw [if_pos e2, if_pos (by omega)]
            · rw [if_neg e2, if_neg (by omega)]), hwq.set hgb k _⟩
      clear hlq hwq hcells
      go_wp2_with fail
      refine (unhide HAT).mono ?_
      rintro e w' ⟨rfl, hw'⟩
      obtain rfl := hw'.symm
      go_wp2_with fail
      go_roundw
      case rel => exact ⟨k + 1, by omega, by go_num, (unhide HEN).1, (unhide HEN).2⟩
      case measure => simp [intOf]; omega
    · have d1 : decide ((k : Int) < (n : Int)) = false := decide_eq_false (by omega)
      have d1' : decide (k < n) = false := decide_eq_false hlt
      have hlq' : Line wq 5 (.slice a0 n cap0) n (bmk m) := hlq.congr (fun j hj => by rw [if_pos (by omega)])
      have hmq := unhide HM wq hwq
      have hfl : Flds wq pb o ({ S with turn := m } : BookSt).flds := hmq.fl
      have HTI := hide (tight_any hfl (1200 + 3 * n) hus (by omega))
      have e1200 : ((1200 + 3 * n : Nat) : Int) = 1200 + 3 * (n : Int) := by omega
      rw [e1200] at HTI
      have HMQ := hide hmq
      have HLQ := hide hlq'
      clear hlq hlq' hwq hmq hfl HM HL1
      go_wp2_with fail
      refine (unhide HTI).mono ?_
      rintro e w2 (⟨hfull, rfl, hw2⟩ | ⟨hroom, rfl, hw2⟩)
      · obtain rfl := hw2.symm
        have HEN : Hid (∃ tag' S', BookAt wq pb o tag' S' ∧ S'.turn = m ∧ Noted pb o (tagAt tag (.slice a0 n cap0) (10 + 2 * m)) tag' w wq) := hide (by
          have hh := unhide HS
          have hq := unhide HMQ
          exact ⟨_, { S with turn := m }, ⟨hq.fl, hq.hb, hq.hu, hq.un, hq.tp, hh.eb, hh.eu, hh.nb, hh.nu, hh.cnt, hh.us, hm2⟩, rfl, hq.no⟩)
        clear hfull HTI
        go_wp2
        (try simp only [Exit.inBlock, Exit.then])
        refine bodyPost_ret (results_none rfl _ _ _) rfl ?_
        exact ⟨rfl, unhide HEN⟩
      · have hus2 := hroom
        have hcnt := (unhide HS).cnt
        have heb := (unhide HS).eb
        have hnb := (unhide HS).nb
        have hnu := (unhide HS).nu
        have hM2 := (unhide HMQ).set 32 (by decide) (intV (S.used + (1200 + 3 * n)))
        have hl2 : Line w2 5 (.slice a0 n cap0) n (bmk m) := (unhide HLQ).same (fun g hg => by
          rw [hw2]
          refine setCell_else wq pb (o + 32) g _ (fun e => ?_)
          have := (unhide HMQ).tp
          unfold tagAt at this
          rw [← e, if_pos hg] at this
          omega)
        rw [← hw2] at hM2
        have c0 : w2.cell? ⟨pb, o, none⟩ = some S.b.v := hM2.fl.c 0 (by decide)
        have hbl : S.b.M.length ≤ 200000 := by omega
        have hbl2 : S.b.L.length ≤ 200000 := by omega
        have HEB := hide heb
        have HM2 := hide hM2
        have HL2 := hide hl2
        clear hw2 hM2 hl2 HTI HMQ HLQ hcnt hnb hnu hroom c301 heb
        go_wp2_with (at_builtin; refine append_line rfl _ _ 36 rfl 25 i0 (.slice none 0 0) 24 Tryz.underlying36 hi hy0 hy1 hy2 rfl _ _ _ rfl ((unhide HM2).alloc _).hb.rl w2.heap.size rfl (.slice a0 n cap0) ?c1 rfl ?c2 ?c3 ?_)
        case c1 => simp
        case c2 => omega
        case c3 => omega
        intro v' w4 hl4 hg4
        obtain ⟨a4, cp4, hv4⟩ := hl4.shape
        obtain ⟨V4, hV4⟩ : ∃ V4, V4 = Value.slice a4 (S.b.L.length + 1) cp4 := ⟨_, rfl⟩
        rw [← hV4] at hv4
        subst hv4
        have hM4 := ((unhide HM2).alloc _).addB hg4 hl4
        have hL4 := hg4.apart ((unhide HL2).same (fun g hg => heap_alloc_old w2 _ ((unhide HL2).lt g hg))) (unhide HM2).hb.tl' (fun q hq => tagAt_self tag _ (10 + 2 * m) q hq) (by omega)
        have hM5 := hM4.set 0 (by decide) v'
        have c40 : w4.cell? ⟨pb, o, none⟩ = some S.b.v := hM4.fl.c 0 (by decide)
        have f40 : w4.frozen? ⟨pb, o, none⟩ = false := hM4.fl.f 0 (by decide)
        have c41 : w4.cell? ⟨pb, o + 1, none⟩ = some S.b.o := hM4.fl.c 1 (by decide)
        have f41 := hM4.fl.f 1 (by decide)
        have hL5 : Line (w4.setCell ⟨pb, o, none⟩ v') 5 (.slice a0 n cap0) n (bmk m) := hL4.same (fun g hg => setCell_else w4 pb o g v' (fun e => by
          have h1 := hM4.tp
          have h2 : tagAt (tagAt tag (.slice a0 n cap0) (10 + 2 * m)) v' 1 g = tagAt tag (.slice a0 n cap0) (10 + 2 * m) g := tagAt_old hg4 (unhide HM2).hb.tl' g (by have := (unhide HL2).lt g hg; simp; omega)
          rw [tagAt_self tag _ (10 + 2 * m) g hg, e] at h2
          omega))
        have HT4 : Hid (∀ q, Value.ownBlock (.slice a0 n cap0) = some q → tagAt (tagAt tag (.slice a0 n cap0) (10 + 2 * m)) v' 1 q = 10 + 2 * m) := hide (fun q hq => by
          have h2 : tagAt (tagAt tag (.slice a0 n cap0) (10 + 2 * m)) v' 1 q = tagAt tag (.slice a0 n cap0) (10 + 2 * m) q := tagAt_old hg4 (unhide HM2).hb.tl' q (by have := (unhide HL2).lt q hq; simp; omega)
          rw [h2]
          exact tagAt_self tag _ (10 + 2 * m) q hq)
        have HM5 := hide hM5
        have HL5 := hide hL5
        clear hM4 hM5 hL4 hL5 hl4 hg4 HM2 HL2 c0
        subst hV4
        go_wp2_with (at_builtin; refine append_line rfl _ _ 37 rfl 3 i3 (.int .i64 0) 8 Tryz.underlying37 hi3 hz0 hz1 hz2 rfl _ _ _ rfl ((unhide HM5).alloc _).hb.ro w4.heap.size rfl (.int .i64 (m : Nat)) ?d1 rfl ?d2 ?d3 ?_)
        case d1 => exact cell_made (by simp) _ _
        case d2 => omega
        case d3 => omega
        intro o' w7 hl7 hg7
        obtain ⟨a7, cp7, rfl⟩ := hl7.shape
        have heb := unhide HEB
        have hM7 := ((unhide HM5).alloc _).addBo (m := m) (by simp; omega) hg7 hl7 (by
            show Line _ 5 ((S.b.L ++ [_]).getD S.b.M.length undef) (lenOf ((S.b.L ++ [_]).getD S.b.M.length undef)) _
            rw [getD_last _ _ _ _ heb]
            exact (unhide HL5).same (fun g hg => heap_alloc_old _ _ ((unhide HL5).lt g hg))) (fun g hg => by
            have hg' : ((S.b.L ++ [_]).getD S.b.M.length undef).ownBlock = some g := hg
            rw [getD_last _ _ _ _ heb] at hg'
            exact unhide HT4 g hg') (by
            show lenOf ((S.b.L ++ [_]).getD S.b.M.length undef) ≤ _
            rw [getD_last _ _ _ _ heb]
            show n ≤ _
            omega) (Nat.le_refl _) (fun _ => by
            show lenOf ((S.b.L ++ [_]).getD S.b.M.length undef) ≤ _
            rw [getD_last _ _ _ _ heb]
            show n ≤ _
            omega)
        have hM8 := hM7.set 1 (by decide) (.slice a7 (S.b.M.length + 1) cp7)
        have c71 : w7.cell? ⟨pb, o + 1, none⟩ = some S.b.o := hM7.fl.c 1 (by decide)
        have f71 := hM7.fl.f 1 (by decide)
        have HEN : Hid (∃ tag' S', BookAt (w7.setCell ⟨pb, o + 1, none⟩ (.slice a7 (S.b.M.length + 1) cp7)) pb o tag' S' ∧ S'.turn = m ∧ Noted pb o (tagAt tag (.slice a0 n cap0) (10 + 2 * m)) tag' w (w7.setCell ⟨pb, o + 1, none⟩ (.slice a7 (S.b.M.length + 1) cp7))) := hide (by
          have hh := unhide HS
          have h1 := hh.cnt
          have h2 := hh.nb
          refine ⟨_, { S with turn := m, used := S.used + (1200 + 3 * n), b := { v := _, o := _, L := S.b.L ++ [.slice a0 n cap0], M := S.b.M ++ [m], n := S.b.n } }, ⟨hM8.fl, hM8.hb, hM8.hu, hM8.un, hM8.tp, ?_, hh.eu, ?_, hh.nu, ?_, hus2, hm2⟩, rfl, hM8.no⟩
          · simp; omega
          · simp; omega
          · simp; omega)
        clear heb hM7 hM8 hl7 hg7 HM5 HL5 HT4 c40 f40 c41 f41
        go_wp2
        go_end0
        exact ⟨rfl, unhide HEN⟩
end Go.Proofs.YtcnlikojbkegiaaGreatDoor.Bk
