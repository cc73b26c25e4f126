/- The book appends to its lists. -/
import Derived.Test.YtecfgbjnjgjkoaaGreatDoorBookMid
namespace Go.Proofs.YtecfgbjnjgjkoaaGreatDoor.Bk
open Go.ChangeShapes Go.WideShapes Go.ChangeAt Go.RowKit
set_option linter.unusedVariables false
set_option maxRecDepth 100000
set_option maxHeartbeats 8000000

theorem Tryz.info25 : (Tryz.prog.info? 25).map (fun i => (i.zero, i.size, i.bytes)) = some (some (.slice none 0 0), 1, 24) := by kernel_rfl
theorem Tryz.info152 : (Tryz.prog.info? 152).map (fun i => (i.zero, i.size, i.bytes)) = some (some (.slice none 0 0), 1, 24) := by kernel_rfl
/-- a list is written full: nothing else changes -/
structure Wrote (v : Value) (w w' : World) : Prop where
  os : w'.os = w.os
  tape : w'.tape = w.tape
  output : w'.output = w.output
  size : w'.heap.size = w.heap.size
  blk : ∀ g, v.ownBlock ≠ some g → w'.heap[g]? = w.heap[g]?
theorem Wrote.refl (v : Value) (w : World) : Wrote v w w := ⟨rfl, rfl, rfl, rfl, fun _ _ => rfl⟩
theorem Wrote.set {v : Value} {w w' : World} (h : Wrote v w w') {g : Nat} (hg : v.ownBlock = some g) (k : Nat) (u : Value) : Wrote v w (w'.setCell ⟨g, k, none⟩ u) :=
  ⟨h.os, h.tape, h.output, by simpa using h.size, fun j hj => (setCell_else w' g k j u (fun e => hj (by rw [hg, e]))).trans (h.blk j hj)⟩
theorem Grew.apart {e e2 : TypeId} {n n2 k k2 : Nat} {u : Value} {w w' : World} {v v' v2 : Value} {f2 : Nat → Value} {tag : Nat → Nat} (h : Grew e n u w w' v v') (h2 : Line w e2 v2 n2 f2) (hv : ∀ q, v.ownBlock = some q → tag q = k) (hv2 : ∀ q, v2.ownBlock = some q → tag q = k2) (hne : k ≠ k2) : Line w' e2 v2 n2 f2 :=
  h2.same (fun q hq => h.other q (h2.lt q hq) (fun e => hne ((hv q e).symm.trans (hv2 q hq))))
theorem getD_last {α : Type} (l : List α) (x d : α) (n : Nat) (h : l.length = n) : (l ++ [x]).getD n d = x := by
  subst h
  simp [List.getD_eq_getElem?_getD]
theorem cell_made {w : World} {b : Nat} (hb : w.heap.size = b) (x : Value) (t : TypeId) : (w.alloc (.cells #[x] t)).cell? ⟨b, 0, none⟩ = some x := by
  subst hb
  have h := heap_alloc_new w (.cells #[x] t)
  simp only [World.cell?, h]
  rfl
theorem tagAt_self (tag : Nat → Nat) (v : Value) (k g : Nat) (h : v.ownBlock = some g) : tagAt tag v k g = k := by unfold tagAt; rw [if_pos h]
/-- behind the writing: the book is as it was, but for the turn -/
theorem mid_wrote {w wq : World} {pb o : Nat} {tag : Nat → Nat} {S : BookSt} (h : BookAt w pb o tag S) {v : Value} (hg : ∀ g, v.ownBlock = some g → tag g = 0 ∧ g ≠ pb ∧ g < w.heap.size) (m k : Nat) (hk : k ≠ 0) (hT : S.turn ≤ m) (hw : Wrote v (w.setCell ⟨pb, o + 30, none⟩ (intV m)) wq) :
    Mid pb o (tagAt tag v k) w (tagAt tag v k) wq (S.flds.set 30 (intV m)) m S.b S.u := by
  have h1 := h.mid.set 30 (by decide) (intV m)
  have hpb : wq.heap[pb]? = (w.setCell ⟨pb, o + 30, none⟩ (intV m)).heap[pb]? := hw.blk pb (fun e => (hg pb e).2.1 rfl)
  have hb : ∀ g, tag g ≠ 0 → wq.heap[g]? = (w.setCell ⟨pb, o + 30, none⟩ (intV m)).heap[g]? := fun g hn => hw.blk g (fun e => hn (hg g e).1)
  have ht : ∀ g, tag g ≠ 0 → tagAt tag v k g = tag g := fun g hn => by
    unfold tagAt
    rw [if_neg (fun e => hn (hg g e).1)]
  have hs : wq.heap.size = w.heap.size := by rw [hw.size]; simp
  refine ⟨h1.fl.same hpb (by rw [hw.size]; exact Nat.le_refl _), h1.len, (h1.hb.same hb hT).tags ht, (h1.hu.same hb hT).tags ht, fun g hn => ?_, ?_, ⟨hw.os, hw.tape, hw.output, by omega, fun _ _ => rfl, fun g h2 h3 h4 => ?_, fun j hj => ?_⟩⟩
  · unfold tagAt at hn
    by_cases e : v.ownBlock = some g
    · rw [hs]; exact (hg g e).2.2
    · rw [if_neg e] at hn
      rw [hs]; exact h.un g hn
  · unfold tagAt
    rw [if_neg (fun e => (hg pb e).2.1 rfl)]
    exact h.tp
  · have hv : v.ownBlock ≠ some g := fun e => by unfold tagAt at h3; rw [if_pos e] at h3; exact hk h3
    rw [hw.blk g hv]
    exact setCell_else w pb (o + 30) g _ h4
  · have := (Noted.set (pb := pb) (o := o) (tag := tag) (w := w) 30 (by decide) (intV m)).rest j hj
    exact ⟨(World.cell?_of_block (a := ⟨pb, j, none⟩) hpb).trans this.1, (World.frozen?_of_block (a := ⟨pb, j, none⟩) hpb).trans this.2⟩
theorem take_bytes {w : World} {pb o : Nat} {tag : Nat → Nat} {S : BookSt} (h : BookAt w pb o tag S) (ht : S.turn < 1000000) (v : Value) (n : Nat) (f : Nat → Value) (hl : Line w 5 v n f) (hg : ∀ g, v.ownBlock = some g → tag g = 0 ∧ g ≠ pb) (hn : n ≤ 281474976710656) :
    Calls Tryz.prog 48 #[.pointer (some ⟨pb, o, none⟩), v] w fun e w' => e = .returned (.tuple #[]) ∧ ∃ tag' S', BookAt w' pb o tag' S' ∧ S'.turn = S.turn + 1 ∧ Noted pb o (tagAt tag v (10 + 2 * (S.turn + 1))) tag' w w' := by
  obtain ⟨i0, hi, hy0, hy1, hy2⟩ := info_parts Tryz.info25
  obtain ⟨i3, hi3, hz0, hz1, hz2⟩ := info_parts Tryz.info3
  have hg' : ∀ g, v.ownBlock = some g → tag g = 0 ∧ g ≠ pb ∧ g < w.heap.size := fun g hgg => ⟨(hg g hgg).1, (hg g hgg).2, hl.lt g hgg⟩
  have c30 : w.cell? ⟨pb, o + 30, none⟩ = some (.int .i64 (S.turn : Nat)) := h.fl.c 30 (by decide)
  have f30 := h.fl.f 30 (by decide)
  obtain ⟨m, hm⟩ : ∃ m, m = S.turn + 1 := ⟨_, rfl⟩
  have em : ((m : Nat) : Int) = (S.turn : Int) + 1 := by omega
  obtain ⟨w1, hw1⟩ : ∃ w1, w1 = w.setCell ⟨pb, o + 30, none⟩ (.int .i64 ((S.turn : Int) + 1)) := ⟨_, rfl⟩
  have hw1' : w1 = w.setCell ⟨pb, o + 30, none⟩ (intV m) := by unfold intV; rw [em]; exact hw1
  have c301 : w1.cell? ⟨pb, o + 30, none⟩ = some (.int .i64 (m : Nat)) := by rw [hw1', World.cell?_setCell_same _ _ _ c30]; rfl
  have hl1 : Line w1 5 v n f := hl.same (fun g hgg => by rw [hw1']; exact setCell_else w pb (o + 30) g _ (hg g hgg).2)
  have HM : Hid (∀ wq, Wrote v w1 wq → Mid pb o (tagAt tag v (10 + 2 * m)) w (tagAt tag v (10 + 2 * m)) wq (S.flds.set 30 (intV m)) m S.b S.u) := hide (fun wq hq => mid_wrote h hg' m (10 + 2 * m) (by omega) (by omega) (by rw [← hw1']; exact hq))
  have HW := hide hw1
  have HS := hide h
  have hm2 : m ≤ 1000000 := by omega
  have hus := h.us
  rw [← hm]
  obtain ⟨a0, cap0, hv0⟩ := hl.shape
  have HL1 := hide hl1
  have HMT := hide hm
  clear hl hg h hg' hw1 hw1' hm em hl1
  subst hv0
  go_enter Tryz.func48, Tryz.ntmps48
  go_upto_region 1 with fail
  rw [← unhide HW]
  clear HW c30 f30
  go_wp2_with fail
  go_loopw [5] (fun i wq => ∃ k : Nat, k ≤ n ∧ i = .int .i64 k ∧ Line wq 5 (.slice a0 n cap0) n (fun j => if j < k then bmk m j else f j) ∧ Wrote (.slice a0 n cap0) w1 wq) (fun i _ => n - (intOf i).toNat)
  case atStart => exact ⟨0, by omega, rfl, (unhide HL1).congr (fun j hj => by rw [if_neg (by omega)]), Wrote.refl _ _⟩
  case round =>
    obtain ⟨k, hk, rfl, hlq, hwq⟩ := hrel
    rename World => wq
    by_cases hlt : k < n
    · have d1 : decide ((k : Int) < (n : Int)) = true := decide_eq_true (by omega)
      have d1' : decide (k < n) = true := decide_eq_true hlt
      have y0 : (0 : Int) ≤ (k : Int) := by omega
      have y1 : (k : Int) < (n : Int) := by omega
      obtain ⟨g, cap, hv, hgb, hcells⟩ := hlq.at (by omega)
      obtain ⟨ck, fk⟩ := hcells k hlt
      simp only [Value.slice.injEq] at hv
      obtain ⟨rfl, _, rfl⟩ := hv
      have HAT := hide (at_any m k wq (by omega) (by omega))
      have HEN : Hid (Line (wq.setCell ⟨g, k, none⟩ (.int .u8 (atN m k : Nat))) 5 (.slice (some ⟨g, 0, none⟩) n cap0) n (fun j => if j < k + 1 then bmk m j else f j) ∧ Wrote (.slice (some ⟨g, 0, none⟩) n cap0) w1 (wq.setCell ⟨g, k, none⟩ (.int .u8 (atN m k : Nat)))) := hide ⟨(hlq.put hgb k _ hlt).congr (fun j hj => by
          show (if j = k then _ else if j < k then bmk m j else f j) = _
          by_cases e1 : j = k
          · subst e1; rw [if_pos rfl, if_pos (by omega)]; rfl
          · rw [if_neg e1]
            by_cases e2 : j < k
            · rw [if_pos e2, if_pos (by omega)]
            · rw [if_neg e2, if_neg (by omega)]), hwq.set hgb k _⟩
      clear hlq hwq hcells
      go_wp2_with fail
      refine (unhide HAT).mono ?_
      rintro e w' ⟨rfl, hw'⟩
      obtain rfl := hw'.symm
      go_wp2_with fail
      go_roundw
      case rel => exact ⟨k + 1, by omega, by go_num, (unhide HEN).1, (unhide HEN).2⟩
      case measure => simp [intOf]; omega
    · have d1 : decide ((k : Int) < (n : Int)) = false := decide_eq_false (by omega)
      have d1' : decide (k < n) = false := decide_eq_false hlt
      have hlq' : Line wq 5 (.slice a0 n cap0) n (bmk m) := hlq.congr (fun j hj => by rw [if_pos (by omega)])
      have hmq := unhide HM wq hwq
      have hfl : Flds wq pb o ({ S with turn := m } : BookSt).flds := hmq.fl
      have HTI := hide (tight_any hfl (1200 + 3 * n) hus (by omega))
      have e1200 : ((1200 + 3 * n : Nat) : Int) = 1200 + 3 * (n : Int) := by omega
      rw [e1200] at HTI
      have HMQ := hide hmq
      have HLQ := hide hlq'
      clear hlq hlq' hwq hmq hfl HM HL1
      go_wp2_with fail
      refine (unhide HTI).mono ?_
      rintro e w2 (⟨hfull, rfl, hw2⟩ | ⟨hroom, rfl, hw2⟩)
      · obtain rfl := hw2.symm
        have HEN : Hid (∃ tag' S', BookAt wq pb o tag' S' ∧ S'.turn = m ∧ Noted pb o (tagAt tag (.slice a0 n cap0) (10 + 2 * m)) tag' w wq) := hide (by
          have hh := unhide HS
          have hq := unhide HMQ
          exact ⟨_, { S with turn := m }, ⟨hq.fl, hq.hb, hq.hu, hq.un, hq.tp, hh.eb, hh.eu, hh.nb, hh.nu, hh.cnt, hh.us, hm2⟩, rfl, hq.no⟩)
        clear hfull HTI
        go_wp2
        (try simp only [Exit.inBlock, Exit.then])
        refine bodyPost_ret (results_none rfl _ _ _) rfl ?_
        exact ⟨rfl, unhide HEN⟩
      · have hus2 := hroom
        have hcnt := (unhide HS).cnt
        have heb := (unhide HS).eb
        have hnb := (unhide HS).nb
        have hnu := (unhide HS).nu
        have hM2 := (unhide HMQ).set 32 (by decide) (intV (S.used + (1200 + 3 * n)))
        have hl2 : Line w2 5 (.slice a0 n cap0) n (bmk m) := (unhide HLQ).same (fun g hg => by
          rw [hw2]
          refine setCell_else wq pb (o + 32) g _ (fun e => ?_)
          have := (unhide HMQ).tp
          unfold tagAt at this
          rw [← e, if_pos hg] at this
          omega)
        rw [← hw2] at hM2
        have c0 : w2.cell? ⟨pb, o, none⟩ = some S.b.v := hM2.fl.c 0 (by decide)
        have hbl : S.b.M.length ≤ 200000 := by omega
        have hbl2 : S.b.L.length ≤ 200000 := by omega
        have HEB := hide heb
        have HM2 := hide hM2
        have HL2 := hide hl2
        clear hw2 hM2 hl2 HTI HMQ HLQ hcnt hnb hnu hroom c301 heb
        go_wp2_with (at_builtin; refine append_line rfl _ _ 36 rfl 25 i0 (.slice none 0 0) 24 Tryz.underlying36 hi hy0 hy1 hy2 rfl _ _ _ rfl ((unhide HM2).alloc _).hb.rl w2.heap.size rfl (.slice a0 n cap0) ?c1 rfl ?c2 ?c3 ?_)
        case c1 => simp
        case c2 => omega
        case c3 => omega
        intro v' w4 hl4 hg4
        obtain ⟨a4, cp4, hv4⟩ := hl4.shape
        obtain ⟨V4, hV4⟩ : ∃ V4, V4 = Value.slice a4 (S.b.L.length + 1) cp4 := ⟨_, rfl⟩
        rw [← hV4] at hv4
        subst hv4
        have hM4 := ((unhide HM2).alloc _).addB hg4 hl4
        have hL4 := hg4.apart ((unhide HL2).same (fun g hg => heap_alloc_old w2 _ ((unhide HL2).lt g hg))) (unhide HM2).hb.tl' (fun q hq => tagAt_self tag _ (10 + 2 * m) q hq) (by omega)
        have hM5 := hM4.set 0 (by decide) v'
        have c40 : w4.cell? ⟨pb, o, none⟩ = some S.b.v := hM4.fl.c 0 (by decide)
        have f40 : w4.frozen? ⟨pb, o, none⟩ = false := hM4.fl.f 0 (by decide)
        have c41 : w4.cell? ⟨pb, o + 1, none⟩ = some S.b.o := hM4.fl.c 1 (by decide)
        have f41 := hM4.fl.f 1 (by decide)
        have hL5 : Line (w4.setCell ⟨pb, o, none⟩ v') 5 (.slice a0 n cap0) n (bmk m) := hL4.same (fun g hg => setCell_else w4 pb o g v' (fun e => by
          have h1 := hM4.tp
          have h2 : tagAt (tagAt tag (.slice a0 n cap0) (10 + 2 * m)) v' 1 g = tagAt tag (.slice a0 n cap0) (10 + 2 * m) g := tagAt_old hg4 (unhide HM2).hb.tl' g (by have := (unhide HL2).lt g hg; simp; omega)
          rw [tagAt_self tag _ (10 + 2 * m) g hg, e] at h2
          omega))
        have HT4 : Hid (∀ q, Value.ownBlock (.slice a0 n cap0) = some q → tagAt (tagAt tag (.slice a0 n cap0) (10 + 2 * m)) v' 1 q = 10 + 2 * m) := hide (fun q hq => by
          have h2 : tagAt (tagAt tag (.slice a0 n cap0) (10 + 2 * m)) v' 1 q = tagAt tag (.slice a0 n cap0) (10 + 2 * m) q := tagAt_old hg4 (unhide HM2).hb.tl' q (by have := (unhide HL2).lt q hq; simp; omega)
          rw [h2]
          exact tagAt_self tag _ (10 + 2 * m) q hq)
        have HM5 := hide hM5
        have HL5 := hide hL5
        clear hM4 hM5 hL4 hL5 hl4 hg4 HM2 HL2 c0
        subst hV4
        go_wp2_with (at_builtin; refine append_line rfl _ _ 37 rfl 3 i3 (.int .i64 0) 8 Tryz.underlying37 hi3 hz0 hz1 hz2 rfl _ _ _ rfl ((unhide HM5).alloc _).hb.ro w4.heap.size rfl (.int .i64 (m : Nat)) ?d1 rfl ?d2 ?d3 ?_)
        case d1 => exact cell_made (by simp) _ _
        case d2 => omega
        case d3 => omega
        intro o' w7 hl7 hg7
        obtain ⟨a7, cp7, rfl⟩ := hl7.shape
        have heb := unhide HEB
        have hM7 := ((unhide HM5).alloc _).addBo (m := m) (by simp; omega) hg7 hl7 (by
            show Line _ 5 ((S.b.L ++ [_]).getD S.b.M.length undef) (lenOf ((S.b.L ++ [_]).getD S.b.M.length undef)) _
            rw [getD_last _ _ _ _ heb]
            exact (unhide HL5).same (fun g hg => heap_alloc_old _ _ ((unhide HL5).lt g hg))) (fun g hg => by
            have hg' : ((S.b.L ++ [_]).getD S.b.M.length undef).ownBlock = some g := hg
            rw [getD_last _ _ _ _ heb] at hg'
            exact unhide HT4 g hg') (by
            show lenOf ((S.b.L ++ [_]).getD S.b.M.length undef) ≤ _
            rw [getD_last _ _ _ _ heb]
            show n ≤ _
            omega) (Nat.le_refl _) (fun _ => by
            show lenOf ((S.b.L ++ [_]).getD S.b.M.length undef) ≤ _
            rw [getD_last _ _ _ _ heb]
            show n ≤ _
            omega)
        have hM8 := hM7.set 1 (by decide) (.slice a7 (S.b.M.length + 1) cp7)
        have c71 : w7.cell? ⟨pb, o + 1, none⟩ = some S.b.o := hM7.fl.c 1 (by decide)
        have f71 := hM7.fl.f 1 (by decide)
        have HEN : Hid (∃ tag' S', BookAt (w7.setCell ⟨pb, o + 1, none⟩ (.slice a7 (S.b.M.length + 1) cp7)) pb o tag' S' ∧ S'.turn = m ∧ Noted pb o (tagAt tag (.slice a0 n cap0) (10 + 2 * m)) tag' w (w7.setCell ⟨pb, o + 1, none⟩ (.slice a7 (S.b.M.length + 1) cp7))) := hide (by
          have hh := unhide HS
          have h1 := hh.cnt
          have h2 := hh.nb
          refine ⟨_, { S with turn := m, used := S.used + (1200 + 3 * n), b := { v := _, o := _, L := S.b.L ++ [.slice a0 n cap0], M := S.b.M ++ [m], n := S.b.n } }, ⟨hM8.fl, hM8.hb, hM8.hu, hM8.un, hM8.tp, ?_, hh.eu, ?_, hh.nu, ?_, hus2, hm2⟩, rfl, hM8.no⟩
          · simp; omega
          · simp; omega
          · simp; omega)
        clear heb hM7 hM8 hl7 hg7 HM5 HL5 HT4 c40 f40 c41 f41
        go_wp2
        go_end0
        exact ⟨rfl, unhide HEN⟩
end Go.Proofs.YtecfgbjnjgjkoaaGreatDoor.Bk
namespace Go.Proofs.YtecfgbjnjgjkoaaGreatDoor.Bk
open Go.ChangeShapes Go.WideShapes Go.ChangeAt Go.RowKit
set_option linter.unusedVariables false
set_option maxRecDepth 100000
set_option maxHeartbeats 8000000

theorem Half.over {c : Nat} {te tl : TypeId} {mk : Nat → Nat → Value} {w : World} {tag : Nat → Nat} {T : Nat} {H : HalfSt} (h : Half c te tl mk w tag T H) (n' : Nat) (hn : H.M.length ≤ n') : Half c te tl mk w tag T { H with n := n' } :=
  ⟨h.rl, h.ro, h.tl', h.to', h.ent, fun j h1 h2 => by have h1' : n' ≤ j := h1; have h2' : j < H.M.length := h2; omega, h.le⟩
/-- how many of the first c were kept -/
def keptN (c : Nat) : Nat := min c 3 + c / 16
structure Growing (pb o : Nat) (S : BookSt) (t0 : Nat → Nat) (w0 : World) (tag : Nat → Nat) (w : World) (B : HalfSt) (more : Nat) : Prop where
  mid : Mid pb o t0 w0 tag w ((S.flds.set 0 B.v).set 1 B.o) S.turn B S.u
  lenL : B.L.length = S.b.M.length + more
  lenM : B.M.length = S.b.M.length + more
  n : B.n = 1000000000000
  preL : ∀ j, j < S.b.M.length → B.L.getD j undef = S.b.L.getD j undef
  preM : ∀ j, j < S.b.M.length → B.M.getD j 0 = S.b.M.getD j 0
theorem getD_old {α : Type} (l : List α) (x d : α) (j : Nat) (h : j < l.length) : (l ++ [x]).getD j d = l.getD j d := by
  rw [List.getD_eq_getElem?_getD, List.getElem?_append_left h, ← List.getD_eq_getElem?_getD]
theorem grow_start {pb o : Nat} {S : BookSt} {tag : Nat → Nat} {w : World} (h : BookAt w pb o tag S) (hl : S.b.M.length ≤ 1000000000000) : Growing pb o S tag w tag w { S.b with n := 1000000000000 } 0 :=
  ⟨⟨h.fl, rfl, h.hb.over _ hl, h.hu, h.un, h.tp, Noted.refl _ _ _ _⟩, h.eb, rfl, rfl, fun _ _ => rfl, fun _ _ => rfl⟩
theorem Growing.more {pb o : Nat} {S : BookSt} {t0 : Nat → Nat} {w0 : World} {tag : Nat → Nat} {w w' : World} {B : HalfSt} {more : Nat} (h : Growing pb o S t0 w0 tag w B more) {m n : Nat} {g g' : Value} {f : Nat → Value} (hg : Grew 5 n (bmk m n) w w' g g') (hv : ∀ q, g.ownBlock = some q → tag q = 10 + 2 * m) (hl : Line w 5 g n f) : Growing pb o S t0 w0 (tagAt tag g' (10 + 2 * m)) w' B more :=
  ⟨h.mid.growB hg hv hl, h.lenL, h.lenM, h.n, h.preL, h.preM⟩
theorem Growing.alloc {pb o : Nat} {S : BookSt} {t0 : Nat → Nat} {w0 : World} {tag : Nat → Nat} {w : World} {B : HalfSt} {more : Nat} (h : Growing pb o S t0 w0 tag w B more) (x : Obj) : Growing pb o S t0 w0 tag (w.alloc x) B more :=
  ⟨h.mid.alloc x, h.lenL, h.lenM, h.n, h.preL, h.preM⟩
/-- a list and its mark more in the two rows -/
theorem Growing.keep {pb o : Nat} {S : BookSt} {t0 : Nat → Nat} {w0 : World} {tag : Nat → Nat} {w w5 w7 : World} {B : HalfSt} {more m n : Nat} {x v' o' : Value} (h : Growing pb o S t0 w0 tag w B more) (hx : Line w 5 x n (bmk m)) (hxt : ∀ q, x.ownBlock = some q → tag q = 10 + 2 * m) (hn : n ≤ 33554432) (hm : m ≤ S.turn) (hlen : lenOf x = n) (hsm : B.M.length < 1000000000000)
    (hg : Grew 25 B.L.length x w w5 B.v v') (hl : Line w5 25 v' (B.L.length + 1) (fun j => if j < B.L.length then B.L.getD j undef else x)) (y : Obj)
    (hg2 : Grew 3 B.M.length (intV m) ((w5.setCell ⟨pb, o, none⟩ v').alloc y) w7 B.o o') (hl2 : Line w7 3 o' (B.M.length + 1) (fun j => if j < B.M.length then intV (B.M.getD j 0) else intV m)) :
    Growing pb o S t0 w0 (tagAt (tagAt tag v' 1) o' 2) (w7.setCell ⟨pb, o + 1, none⟩ o') { B with v := v', o := o', L := B.L ++ [x], M := B.M ++ [m] } (more + 1) ∧ Line (w7.setCell ⟨pb, o + 1, none⟩ o') 5 x n (bmk m) ∧ (∀ q, x.ownBlock = some q → tagAt (tagAt tag v' 1) o' 2 q = 10 + 2 * m) := by
  have h5 := h.mid.addB hg hl
  have h6 := (h5.set 0 (by decide) v').alloc y
  have lx5 := hg.apart hx h.mid.hb.tl' hxt (by omega)
  have tx5 : ∀ q, x.ownBlock = some q → tagAt tag v' 1 q = 10 + 2 * m := fun q hq => by
    have := tagAt_old hg h.mid.hb.tl' q (hx.lt q hq)
    exact this.trans (hxt q hq)
  have npb : ∀ q, x.ownBlock = some q → q ≠ pb := fun q hq e => by
    have h1 := hxt q hq
    rw [e, h.mid.tp] at h1
    omega
  have lx6 : Line ((w5.setCell ⟨pb, o, none⟩ v').alloc y) 5 x n (bmk m) := lx5.same (fun q hq => by
    have h1 := lx5.lt q hq
    exact (heap_alloc_old _ _ (by simpa using h1)).trans (setCell_else w5 pb o q v' (npb q hq)))
  have hLM : B.L.length = B.M.length := by rw [h.lenL, h.lenM]
  have h7 := h6.addBo (m := m) (by simp; omega) hg2 hl2 (by
      show Line _ 5 ((B.L ++ [x]).getD B.M.length undef) (lenOf ((B.L ++ [x]).getD B.M.length undef)) _
      rw [getD_last _ _ _ _ hLM, hlen]
      exact lx6) (fun g hgg => by
      have hg' : ((B.L ++ [x]).getD B.M.length undef).ownBlock = some g := hgg
      rw [getD_last _ _ _ _ hLM] at hg'
      exact tx5 g hg') (by
      show lenOf ((B.L ++ [x]).getD B.M.length undef) ≤ _
      rw [getD_last _ _ _ _ hLM, hlen]
      exact hn) hm (fun hh => by
      have h1 : B.n ≤ B.M.length := hh
      rw [h.n] at h1
      omega)
  have h8 := h7.set 1 (by decide) o'
  have lx7 := hg2.apart lx6 h6.hb.to' tx5 (by omega)
  refine ⟨⟨h8, ?_, ?_, h.n, fun j hj => ?_, fun j hj => ?_⟩, lx7.same (fun q hq => setCell_else w7 pb (o + 1) q o' (npb q hq)), fun q hq => ?_⟩
  · have := h.lenL; simp; omega
  · have := h.lenM; simp; omega
  · show (B.L ++ [x]).getD j undef = _
    rw [getD_old _ _ _ _ (by rw [h.lenL]; omega)]
    exact h.preL j hj
  · show (B.M ++ [m]).getD j 0 = _
    rw [getD_old _ _ _ _ (by rw [h.lenM]; omega)]
    exact h.preM j hj
  · have := tagAt_old hg2 h6.hb.to' q (lx6.lt q hq)
    exact this.trans (tx5 q hq)
theorem keptN_yes (c : Nat) (h1 : 1 ≤ c) (h : c < 4 ∨ c % 16 = 0) : keptN c = keptN (c - 1) + 1 := by unfold keptN; omega
theorem keptN_no (c : Nat) (h1 : 1 ≤ c) (h : ¬ (c < 4 ∨ c % 16 = 0)) : keptN c = keptN (c - 1) := by unfold keptN; omega
theorem keptN_le (c : Nat) (h : c ≤ 96) : keptN c ≤ 9 := by unfold keptN; omega
theorem growBytes_any {w : World} {pb o : Nat} {tag : Nat → Nat} {S : BookSt} (h : BookAt w pb o tag S) :
    Calls Tryz.prog 100 #[.pointer (some ⟨pb, o, none⟩)] w fun e w' => e = .returned (.tuple #[]) ∧ ∃ tag' S', BookAt w' pb o tag' S' ∧ S'.turn = S.turn ∧ S'.done = S.done ∧ Noted pb o tag tag' w w' := by
  obtain ⟨i0, hi, hy0, hy1, hy2⟩ := info_parts Tryz.info25
  obtain ⟨i3, hi3, hz0, hz1, hz2⟩ := info_parts Tryz.info3
  obtain ⟨i5, hi5, hx0, hx1, hx2⟩ := info_parts Tryz.info5
  have c0 : w.cell? ⟨pb, o, none⟩ = some S.b.v := h.fl.c 0 (by decide)
  have c2 : w.cell? ⟨pb, o + 2, none⟩ = some (.int .i64 (S.b.n : Nat)) := h.fl.c 2 (by decide)
  have hcnt := h.cnt
  have hus := h.us
  have hnb := h.nb
  have hnu := h.nu
  have htn := h.tn
  have hml : S.b.M.length ≤ 200000 := by omega
  have hbig : 10 * S.b.M.length ≤ 9 * S.b.n + 139900 := by omega
  have HS := hide h
  have HST := hide (grow_start h (by omega))
  obtain ⟨a0, cp0, hv0⟩ := h.hb.rl.shape
  rw [h.eb] at hv0
  rw [hv0] at c0
  clear h hcnt hus hnu hv0
  generalize hN : S.b.M.length = N at *
  generalize hnn : S.b.n = nb at *
  have HN := hide hN
  have HNN := hide hnn
  clear hN hnn
  go_enter Tryz.func100, Tryz.ntmps100
  go_wp2_with fail
  go_loopw [3, 4] (fun k g wq => ∃ (kk : Nat) (B : HalfSt) (tg : Nat → Nat), nb ≤ kk ∧ kk ≤ N ∧ k = .int .i64 kk ∧ Growing pb o S tag w tg wq B (9 * (kk - nb))) (fun k _ _ => N - (intOf k).toNat)
  case atStart => exact ⟨nb, _, tag, by omega, by omega, rfl, by rw [Nat.sub_self]; exact unhide HST⟩
  case round =>
    obtain ⟨kk, B, tg, hk1, hk2, rfl, hgr⟩ := hrel
    rename World => wq
    by_cases hlt : kk < N
    · have d1 : decide ((kk : Int) < (N : Int)) = true := decide_eq_true (by omega)
      have d1' : decide (kk < N) = true := decide_eq_true hlt
      have hlL : B.L.length = N + 9 * (kk - nb) := by rw [hgr.lenL, unhide HN]
      have hlM : B.M.length = N + 9 * (kk - nb) := by rw [hgr.lenM, unhide HN]
      obtain ⟨e1, e2, e3, e4⟩ := hgr.mid.hb.ent kk (by omega)
      have hfr : lenOf (B.L.getD kk undef) ≤ 16777216 := by
        rw [hgr.preL kk (by rw [unhide HN]; exact hlt)]
        exact (unhide HS).hb.fresh kk (by rw [unhide HNN]; exact hk1) (by rw [unhide HN]; exact hlt)
      obtain ⟨gL, capL, hvL, _, hcL⟩ := hgr.mid.hb.rl.at (by omega)
      obtain ⟨gM, capM, hvM, _, hcM⟩ := hgr.mid.hb.ro.at (by omega)
      have ckL := (hcL kk (by omega)).1
      have ckM := (hcM kk (by omega)).1
      have c0' : wq.cell? ⟨pb, o, none⟩ = some B.v := hgr.mid.fl.c 0 (by decide)
      have c1' : wq.cell? ⟨pb, o + 1, none⟩ = some B.o := hgr.mid.fl.c 1 (by decide)
      rw [hvL] at c0'
      rw [hvM] at c1'
      obtain ⟨ag, cg, hg0⟩ := e1.shape
      have HGR := hide hgr
      clear hvL hvM hcL hcM
      generalize B.L.getD kk undef = g0 at *
      generalize hm0 : B.M.getD kk 0 = m at *
      generalize lenOf g0 = len0 at *
      subst hg0
      have HE1 := hide e1
      have HE2 := hide e2
      have y0 : (0 : Int) ≤ (kk : Int) := by omega
      have y1 : (kk : Int) < (B.L.length : Int) := by omega
      have y2 : (kk : Int) < (B.M.length : Int) := by omega
      have ckM' : wq.cell? ⟨gM, kk, none⟩ = some (.int .i64 (m : Nat)) := ckM
      have hm4 : m ≤ 1000000 := by omega
      have hmT := hide e4
      clear e1 e2 e3 e4 hgr hm0 ckM
      have HlL := hide hlL
      have HlM := hide hlM
      have hb1 : B.L.length ≤ 140000 := by omega
      clear hlL hlM
      go_wp2_with fail
      go_loopw [4, 6] (fun g i wz => ∃ (c : Nat) (B' : HalfSt) (tg' : Nat → Nat), 1 ≤ c ∧ c ≤ 97 ∧ i = .int .i64 c ∧ Growing pb o S tag w tg' wz B' (9 * (kk - nb) + keptN (c - 1)) ∧ Line wz 5 g (len0 + (c - 1)) (bmk m) ∧ (∀ q, g.ownBlock = some q → tg' q = 10 + 2 * m)) (fun _ i _ => 97 - (intOf i).toNat)
      case atStart => exact ⟨1, B, tg, by omega, by omega, rfl, unhide HGR, unhide HE1, unhide HE2⟩
      case round =>
        clear HGR HE1 HE2 c0' c1' ckL ckM' y1 y2 hb1 HlL HlM
        obtain ⟨c, B', tg', hc1, hc2, rfl, hgz, hlz, htz⟩ := hrel
        rename World => wz
        obtain ⟨az, cz, rfl⟩ := hlz.shape
        by_cases hc3 : c ≤ 96
        · have d2 : decide ((c : Int) ≤ 96) = true := decide_eq_true (by omega)
          have d2' : decide (c ≤ 96) = true := decide_eq_true hc3
          have hkn := keptN_le (c - 1) (by omega)
          have hlL : B'.L.length = N + (9 * (kk - nb) + keptN (c - 1)) := by rw [hgz.lenL, unhide HN]
          have hlM : B'.M.length = N + (9 * (kk - nb) + keptN (c - 1)) := by rw [hgz.lenM, unhide HN]
          have hb1 : B'.L.length ≤ 140000 := by omega
          have hb2 : B'.M.length ≤ 140000 := by omega
          have HGZ := hide hgz
          have HLZ := hide hlz
          have HTZ := hide htz
          obtain ⟨n, hn⟩ : ∃ n, n = len0 + (c - 1) := ⟨_, rfl⟩
          have hn2 : n ≤ 16777400 := by omega
          have HNE := hide hn
          rw [← hn] at HLZ HTZ ⊢
          have HAT := hide (at_any m n wz (by omega) (by omega))
          clear hgz hlz htz hn hlL hlM hkn
          go_wp2_with fail
          refine (unhide HAT).mono ?_
          rintro e w' ⟨rfl, hw'⟩
          obtain rfl := hw'.symm
          go_wp2_with (at_builtin; refine append_line rfl _ _ 25 rfl 5 i5 (.int .u8 0) 1 Tryz.underlying25 hi5 hx0 hx1 hx2 rfl _ _ _ rfl ((unhide HLZ).same (fun q hq => heap_alloc_old wz _ ((unhide HLZ).lt q hq))) wz.heap.size rfl (.int .u8 (atN m n : Nat)) ?p1 rfl ?p2 ?p3 ?_)
          case p1 => exact cell_made rfl _ _
          case p2 => omega
          case p3 => omega
          intro g' w4 hl4 hg4
          have hlz' := (unhide HLZ).same (w' := wz.alloc (.cells #[.int .u8 (atN m n : Nat)] 5)) (fun q hq => heap_alloc_old wz _ ((unhide HLZ).lt q hq))
          have hgz4 := ((unhide HGZ).alloc _).more (m := m) hg4 (unhide HTZ) hlz'
          have hl4' : Line w4 5 g' (n + 1) (bmk m) := hl4.congr (fun j hj => by
            by_cases e1 : j < n
            · rw [if_pos e1]
            · have : j = n := by omega
              subst this
              rw [if_neg e1]; rfl)
          have ht4 : ∀ q, g'.ownBlock = some q → tagAt tg' g' (10 + 2 * m) q = 10 + 2 * m := fun q hq => tagAt_self tg' g' _ q hq
          obtain ⟨a4, cp4, rfl⟩ := hl4.shape
          have HG4 := hide hgz4
          have HL4 := hide hl4'
          have HT4 := hide ht4
          generalize tagAt tg' (.slice a4 (n + 1) cp4) (10 + 2 * m) = tg4 at *
          clear hl4 hg4 hgz4 hl4' ht4 hlz' HGZ HLZ HTZ HAT
          by_cases hkp : c < 4 ∨ c % 16 = 0
          · have HKN := hide (keptN_yes c hc1 hkp)
            have e16 : (c : Int).tmod 16 = ((c % 16 : Nat) : Int) := rfl
            have c40 : w4.cell? ⟨pb, o, none⟩ = some B'.v := (unhide HG4).mid.fl.c 0 (by decide)
            have f40 : w4.frozen? ⟨pb, o, none⟩ = false := (unhide HG4).mid.fl.f 0 (by decide)
            have HLE := hide (show lenOf (Value.slice a4 (n + 1) cp4) = n + 1 from rfl)
            have hlb := hfr
            have HMT := hmT
            by_cases h4 : c < 4
            · have d4 : decide ((c : Int) < 4) = true := decide_eq_true (by omega)
              have d4' : decide (c < 4) = true := decide_eq_true h4
              clear hkp e16
              go_wp2_with (at_builtin; refine append_line rfl _ _ 36 rfl 25 i0 (.slice none 0 0) 24 Tryz.underlying36 hi hy0 hy1 hy2 rfl _ _ _ rfl ((unhide HG4).alloc _).mid.hb.rl w4.heap.size rfl (.slice a4 (n + 1) cp4) ?q1 rfl ?q2 ?q3 ?_)
              case q1 => exact cell_made rfl _ _
              case q2 => omega
              case q3 => omega
              intro v5 w5 hl5 hg5
              obtain ⟨a5, cp5, rfl⟩ := hl5.shape
              have hM5 := ((unhide HG4).alloc _).mid.addB hg5 hl5
              have c50 : w5.cell? ⟨pb, o, none⟩ = some B'.v := hM5.fl.c 0 (by decide)
              have f50 : w5.frozen? ⟨pb, o, none⟩ = false := hM5.fl.f 0 (by decide)
              have c51 : w5.cell? ⟨pb, o + 1, none⟩ = some B'.o := hM5.fl.c 1 (by decide)
              have f51 := hM5.fl.f 1 (by decide)
              have HM6 := hide (hM5.set 0 (by decide) (.slice a5 (B'.L.length + 1) cp5))
              have HG5 := hide hg5
              have HL5 := hide hl5
              clear hM5 hg5 hl5 c40 f40
              go_wp2_with (at_builtin; refine append_line rfl _ _ 37 rfl 3 i3 (.int .i64 0) 8 Tryz.underlying37 hi3 hz0 hz1 hz2 rfl _ _ _ rfl ((unhide HM6).alloc _).hb.ro w5.heap.size rfl (.int .i64 (m : Nat)) ?r1 rfl ?r2 ?r3 ?_)
              case r1 => exact cell_made (by simp) _ _
              case r2 => omega
              case r3 => omega
              intro o7 w7 hl7 hg7
              obtain ⟨a7, cp7, rfl⟩ := hl7.shape
              have hF7 := Grew.flds ((unhide HM6).alloc _).fl hg7 (unhide HM6).hb.to' (by decide) (unhide HM6).tp
              have c71 : w7.cell? ⟨pb, o + 1, none⟩ = some B'.o := hF7.c 1 (by decide)
              have f71 := hF7.f 1 (by decide)
              have hk := Growing.keep (m := m) ((unhide HG4).alloc _) ((unhide HL4).same (fun q hq => heap_alloc_old w4 _ ((unhide HL4).lt q hq))) (unhide HT4) (by omega) (unhide hmT) rfl (by omega) (unhide HG5) (unhide HL5) _ hg7 hl7
              have HEN : Hid (∃ (Bf : HalfSt) (tf : Nat → Nat), Growing pb o S tag w tf (w7.setCell ⟨pb, o + 1, none⟩ (.slice a7 (B'.M.length + 1) cp7)) Bf (9 * (kk - nb) + keptN c) ∧ Line (w7.setCell ⟨pb, o + 1, none⟩ (.slice a7 (B'.M.length + 1) cp7)) 5 (.slice a4 (n + 1) cp4) (len0 + c) (bmk m) ∧ (∀ q, Value.ownBlock (.slice a4 (n + 1) cp4) = some q → tf q = 10 + 2 * m)) := hide (by
                rw [unhide HKN, ← Nat.add_assoc]
                have e1 : len0 + c = n + 1 := by have := unhide HNE; omega
                rw [e1]
                exact ⟨_, _, hk.1, hk.2.1, hk.2.2⟩)
              clear hk hF7 hl7 hg7 HM6 HG5 HL5 HG4 HL4 HT4 c50 f50 c51 f51
              go_wp2_with fail
              obtain ⟨Bf, tf, k1, k2, k3⟩ := unhide HEN
              go_roundw
              case rel => exact ⟨c + 1, Bf, tf, by omega, by omega, by go_num, k1, k2, k3⟩
              case measure => simp [intOf]; omega
            · have d4 : decide ((c : Int) < 4) = false := decide_eq_false (by omega)
              have d4' : decide (c < 4) = false := decide_eq_false h4
              have h16 : c % 16 = 0 := by omega
              rw [h16] at e16
              have e16' : (c : Int).tmod 16 = 0 := e16
              clear hkp e16 h16
              go_wp2_with (at_builtin; refine append_line rfl _ _ 36 rfl 25 i0 (.slice none 0 0) 24 Tryz.underlying36 hi hy0 hy1 hy2 rfl _ _ _ rfl ((unhide HG4).alloc _).mid.hb.rl w4.heap.size rfl (.slice a4 (n + 1) cp4) ?q1 rfl ?q2 ?q3 ?_)
              case q1 => exact cell_made rfl _ _
              case q2 => omega
              case q3 => omega
              intro v5 w5 hl5 hg5
              obtain ⟨a5, cp5, rfl⟩ := hl5.shape
              have hM5 := ((unhide HG4).alloc _).mid.addB hg5 hl5
              have c50 : w5.cell? ⟨pb, o, none⟩ = some B'.v := hM5.fl.c 0 (by decide)
              have f50 : w5.frozen? ⟨pb, o, none⟩ = false := hM5.fl.f 0 (by decide)
              have c51 : w5.cell? ⟨pb, o + 1, none⟩ = some B'.o := hM5.fl.c 1 (by decide)
              have f51 := hM5.fl.f 1 (by decide)
              have HM6 := hide (hM5.set 0 (by decide) (.slice a5 (B'.L.length + 1) cp5))
              have HG5 := hide hg5
              have HL5 := hide hl5
              clear hM5 hg5 hl5 c40 f40
              go_wp2_with (at_builtin; refine append_line rfl _ _ 37 rfl 3 i3 (.int .i64 0) 8 Tryz.underlying37 hi3 hz0 hz1 hz2 rfl _ _ _ rfl ((unhide HM6).alloc _).hb.ro w5.heap.size rfl (.int .i64 (m : Nat)) ?r1 rfl ?r2 ?r3 ?_)
              case r1 => exact cell_made (by simp) _ _
              case r2 => omega
              case r3 => omega
              intro o7 w7 hl7 hg7
              obtain ⟨a7, cp7, rfl⟩ := hl7.shape
              have hF7 := Grew.flds ((unhide HM6).alloc _).fl hg7 (unhide HM6).hb.to' (by decide) (unhide HM6).tp
              have c71 : w7.cell? ⟨pb, o + 1, none⟩ = some B'.o := hF7.c 1 (by decide)
              have f71 := hF7.f 1 (by decide)
              have hk := Growing.keep (m := m) ((unhide HG4).alloc _) ((unhide HL4).same (fun q hq => heap_alloc_old w4 _ ((unhide HL4).lt q hq))) (unhide HT4) (by omega) (unhide hmT) rfl (by omega) (unhide HG5) (unhide HL5) _ hg7 hl7
              have HEN : Hid (∃ (Bf : HalfSt) (tf : Nat → Nat), Growing pb o S tag w tf (w7.setCell ⟨pb, o + 1, none⟩ (.slice a7 (B'.M.length + 1) cp7)) Bf (9 * (kk - nb) + keptN c) ∧ Line (w7.setCell ⟨pb, o + 1, none⟩ (.slice a7 (B'.M.length + 1) cp7)) 5 (.slice a4 (n + 1) cp4) (len0 + c) (bmk m) ∧ (∀ q, Value.ownBlock (.slice a4 (n + 1) cp4) = some q → tf q = 10 + 2 * m)) := hide (by
                rw [unhide HKN, ← Nat.add_assoc]
                have e1 : len0 + c = n + 1 := by have := unhide HNE; omega
                rw [e1]
                exact ⟨_, _, hk.1, hk.2.1, hk.2.2⟩)
              clear hk hF7 hl7 hg7 HM6 HG5 HL5 HG4 HL4 HT4 c50 f50 c51 f51
              go_wp2_with fail
              obtain ⟨Bf, tf, k1, k2, k3⟩ := unhide HEN
              go_roundw
              case rel => exact ⟨c + 1, Bf, tf, by omega, by omega, by go_num, k1, k2, k3⟩
              case measure => simp [intOf]; omega
          · have HKN := hide (keptN_no c hc1 hkp)
            have e16 : (c : Int).tmod 16 = ((c % 16 : Nat) : Int) := rfl
            have h4 : ¬ c < 4 := fun h => hkp (.inl h)
            have h16 : ¬ c % 16 = 0 := fun h => hkp (.inr h)
            have d4 : decide ((c : Int) < 4) = false := decide_eq_false (by omega)
            have d4' : decide (c < 4) = false := decide_eq_false h4
            generalize c % 16 = r at *
            have d5 : ((r : Int) == 0) = false := by rw [beq_eq_false_iff_ne]; omega
            have d5' : (r == 0) = false := by rw [beq_eq_false_iff_ne]; exact h16
            have HEN : Hid (Growing pb o S tag w tg4 w4 B' (9 * (kk - nb) + keptN c) ∧ Line w4 5 (.slice a4 (n + 1) cp4) (len0 + c) (bmk m)) := hide (by
              rw [unhide HKN]
              have e1 : len0 + c = n + 1 := by have := unhide HNE; omega
              rw [e1]
              exact ⟨unhide HG4, unhide HL4⟩)
            clear hkp h16
            go_wp2_with fail
            go_roundw
            case rel => exact ⟨c + 1, B', tg4, by omega, by omega, by go_num, (unhide HEN).1, (unhide HEN).2, unhide HT4⟩
            case measure => simp [intOf]; omega
        · have d2 : decide ((c : Int) ≤ 96) = false := decide_eq_false (by omega)
          have d2' : decide (c ≤ 96) = false := decide_eq_false hc3
          have hce : c = 97 := by omega
          subst hce
          have HEN : Hid (Growing pb o S tag w tg' wz B' (9 * (kk + 1 - nb))) := hide (by
            have e1 : 9 * (kk + 1 - nb) = 9 * (kk - nb) + keptN (97 - 1) := by
              have : keptN (97 - 1) = 9 := rfl
              omega
            rw [e1]
            exact hgz)
          clear hgz hlz htz
          go_wp2_with fail
          go_roundw
          case rel => exact ⟨kk + 1, B', tg', by omega, by omega, by go_num, unhide HEN⟩
          case measure => simp [intOf]; omega
    · have d1 : decide ((kk : Int) < (N : Int)) = false := decide_eq_false (by omega)
      have d1' : decide (kk < N) = false := decide_eq_false hlt
      have hke : kk = N := by omega
      have c0' : wq.cell? ⟨pb, o, none⟩ = some B.v := hgr.mid.fl.c 0 (by decide)
      have c2' : wq.cell? ⟨pb, o + 2, none⟩ = some (.int .i64 (nb : Nat)) := by rw [← unhide HNN]; exact hgr.mid.fl.c 2 (by decide)
      have f2' := hgr.mid.fl.f 2 (by decide)
      have hset := hgr.mid.set 2 (by decide) (intV B.L.length)
      have HEN : Hid (∃ tag' S', BookAt (wq.setCell ⟨pb, o + 2, none⟩ (.int .i64 (B.L.length : Nat))) pb o tag' S' ∧ S'.turn = S.turn ∧ S'.done = S.done ∧ Noted pb o tag tag' w (wq.setCell ⟨pb, o + 2, none⟩ (.int .i64 (B.L.length : Nat)))) := hide (by
        have hh := unhide HS
        have h1 := hh.cnt
        have h2 := hh.nu
        have h3 := hgr.lenL
        have h4 := hgr.lenM
        rw [unhide HN] at h3 h4
        rw [unhide HN, unhide HNN] at h1
        refine ⟨tg, { S with b := { B with n := B.L.length } }, ⟨hset.fl, hset.hb.over _ (by omega), hset.hu, hset.un, hset.tp, ?_, hh.eu, ?_, hh.nu, ?_, hh.us, hh.tn⟩, rfl, rfl, hset.no⟩
        · show B.L.length = B.M.length
          omega
        · show B.L.length ≤ B.M.length
          omega
        · show 1200 * B.M.length + 1200 * S.u.M.length ≤ S.used + 1080 * B.L.length + 1080 * S.u.n
          rw [h3, h4]
          omega)
      obtain ⟨a1, cp1, hv1⟩ := hgr.mid.hb.rl.shape
      rw [hv1] at c0'
      have hll : B.L.length ≤ 2000000 := by have := hgr.lenL; rw [unhide HN] at this; omega
      clear hgr hset hv1
      go_wp2
      go_end0
      exact ⟨rfl, unhide HEN⟩
end Go.Proofs.YtecfgbjnjgjkoaaGreatDoor.Bk
