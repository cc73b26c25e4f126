/- The book with rows takes a list of lists of bytes. -/
import Derived.Test.YtcnlikojbkegiaaGreatDoorBre
namespace Go.Proofs.YtcnlikojbkegiaaGreatDoor.Br
open Go.ChangeShapes Go.WideShapes Go.ChangeAt Go.RowKit Go.Proofs.YtcnlikojbkegiaaGreatDoor.Bk
set_option linter.unusedVariables false
set_option maxRecDepth 100000
set_option maxHeartbeats 8000000

/-- the turn is counted, the mark is made, the row is written full -/
theorem mid_rows {w wq : World} {pb o : Nat} {tag : Nat → Nat} {S : BookSt} (h : BookAt w pb o tag S) {v : Value} (hg : ∀ g, v.ownBlock = some g → tag g = 0 ∧ g ≠ pb ∧ g < w.heap.size) (m k : Nat) (hk : k ≠ 0) (hk5 : k ≠ 5) (hT : S.turn ≤ m) (hw : Wrote v ((w.setCell ⟨pb, o + 30, none⟩ (intV m)).alloc (.cells #[bmk m 0, bmk m 1] 5)) wq) :
    ∃ tgt, Mid pb o (tagAt tag v k) w tgt wq (S.flds.set 30 (intV m)) m S.b S.u ∧ Good wq tgt m (.slice (some ⟨w.heap.size, 0, none⟩) 2 2) ∧ ∀ g, v.ownBlock = some g → tgt g = k := by
  have h0 := h.mid.set 30 (by decide) (intV m)
  obtain ⟨h1, hgd⟩ := h0.mark m
  have hN : (w.setCell ⟨pb, o + 30, none⟩ (intV m)).heap.size = w.heap.size := by simp
  rw [hN] at h1 hgd
  obtain ⟨tagm, htm⟩ : ∃ tagm, tagm = (fun g => if g = w.heap.size then 5 else tag g) := ⟨_, rfl⟩
  rw [← htm] at h1 hgd
  have hm1 : ∀ g, g < w.heap.size → tagm g = tag g := fun g hlt => by
    rw [htm]
    show (if g = w.heap.size then 5 else tag g) = tag g
    rw [if_neg (by omega)]
  have hv0 : ∀ g, v.ownBlock = some g → tagm g = 0 := fun g e => (hm1 g (hg g e).2.2).trans (hg g e).1
  have hs2 : ((w.setCell ⟨pb, o + 30, none⟩ (intV m)).alloc (.cells #[bmk m 0, bmk m 1] 5)).heap.size = w.heap.size + 1 := by simp
  have hs : wq.heap.size = w.heap.size + 1 := by rw [hw.size, hs2]
  have hpl := h.fl.lt
  have hpb : wq.heap[pb]? = ((w.setCell ⟨pb, o + 30, none⟩ (intV m)).alloc (.cells #[bmk m 0, bmk m 1] 5)).heap[pb]? := hw.blk pb (fun e => (hg pb e).2.1 rfl)
  have hb : ∀ g, tagm g ≠ 0 → wq.heap[g]? = ((w.setCell ⟨pb, o + 30, none⟩ (intV m)).alloc (.cells #[bmk m 0, bmk m 1] 5)).heap[g]? := fun g hn => hw.blk g (fun e => hn (hv0 g e))
  have ht : ∀ g, tagm g ≠ 0 → tagAt tagm v k g = tagm g := fun g hn => by
    unfold tagAt
    rw [if_neg (fun e => hn (hv0 g e))]
  refine ⟨tagAt tagm v k, ⟨h1.fl.same hpb (by rw [hw.size]; exact Nat.le_refl _), h1.len, (h1.hb.same hb hT).tags ht, (h1.hu.same hb hT).tags ht, fun g hn => ?_, ?_, ⟨hw.os, hw.tape, hw.output, by omega, fun g hg' => ?_, fun g h2 h3 h4 => ?_, fun j hj => ?_⟩⟩, hgd.move (fun g hl e => ⟨hb g (by omega), (ht g (by omega)).trans e⟩), fun g e => tagAt_self tagm v k g e⟩
  · unfold tagAt at hn
    by_cases e : v.ownBlock = some g
    · have := (hg g e).2.2
      omega
    · rw [if_neg e] at hn
      have := h1.un g hn
      omega
  · unfold tagAt
    rw [if_neg (fun e => (hg pb e).2.1 rfl)]
    exact (hm1 pb hpl).trans h.tp
  · unfold tagAt
    by_cases e : v.ownBlock = some g
    · rw [if_pos e, if_pos e]
    · rw [if_neg e, if_neg e]; exact hm1 g hg'
  · have hv : v.ownBlock ≠ some g := fun e => by unfold tagAt at h3; rw [if_pos e] at h3; exact hk h3
    rw [hw.blk g hv, heap_alloc_old _ _ (by simpa using h2)]
    exact setCell_else w pb (o + 30) g _ h4
  · have h5 := (Noted.set (pb := pb) (o := o) (tag := tag) (w := w) 30 (by decide) (intV m)).rest j hj
    have h6 : ((w.setCell ⟨pb, o + 30, none⟩ (intV m)).alloc (.cells #[bmk m 0, bmk m 1] 5)).heap[pb]? = (w.setCell ⟨pb, o + 30, none⟩ (intV m)).heap[pb]? := heap_alloc_old _ _ (by simpa using hpl)
    exact ⟨(World.cell?_of_block (a := ⟨pb, j, none⟩) (hpb.trans h6)).trans h5.1, (World.frozen?_of_block (a := ⟨pb, j, none⟩) (hpb.trans h6)).trans h5.2⟩
theorem take_rows {w : World} {pb o : Nat} (P : Nat → World → Prop) (Q : World → (Nat → Nat) → BookSt → Prop) (a0 : Option Addr) (n cap0 : Nat) (f : Nat → Value) (hn : n ≤ 1000000)
    (h0 : P 0 w)
    (hstep : ∀ i, i < n → ∀ W, P i W → (∃ g, a0 = some ⟨g, 0, none⟩ ∧ W.cell? ⟨g, i, none⟩ = some (f i)) ∧ Calls Tryz.prog 48 #[.pointer (some ⟨pb, o, none⟩), f i] W fun e w' => e = .returned (.tuple #[]) ∧ P (i + 1) w')
    (hend : ∀ W, P n W → ∃ tag S, Q W tag S ∧ BookAt W pb o tag S ∧ S.turn < 1000000 ∧ Line W 25 (.slice a0 n cap0) n f ∧ ∀ g, (Value.slice a0 n cap0).ownBlock = some g → tag g = 0 ∧ g ≠ pb) :
    Calls Tryz.prog 45 #[.pointer (some ⟨pb, o, none⟩), .slice a0 n cap0] w fun e w' => e = .returned (.tuple #[]) ∧ ∃ W tag S tag' S', Q W tag S ∧ BookAt W pb o tag S ∧ BookAt w' pb o tag' S' ∧ S'.turn = S.turn + 1 ∧ Noted pb o (tagAt tag (.slice a0 n cap0) (10 + 2 * (S.turn + 1) + 1)) tag' W w' := by
  obtain ⟨i0, hi, hy0, hy1, hy2⟩ := info_parts Tryz.info36
  obtain ⟨i3, hi3, hz0, hz1, hz2⟩ := info_parts Bk.Tryz.info3
  have H0 := hide h0
  have HST := hide hstep
  have HND := hide hend
  clear h0 hstep hend
  go_enter Tryz.func45, Tryz.ntmps45
  go_wp2_with fail
  go_loopw [4] (fun iv wr => ∃ i : Nat, iv = .int .i64 (i : Nat) ∧ i ≤ n ∧ Hid (P i wr)) (fun iv _ => n - (intOf iv).toNat)
  case atStart => exact ⟨0, rfl, Nat.zero_le _, H0⟩
  case round =>
    obtain ⟨i, rfl, hin, HP⟩ := hrel
    rename World => wr
    by_cases hlt : i < n
    · have d1 : decide ((i : Int) < (n : Int)) = true := decide_eq_true (by omega)
      have y0 : (0 : Int) ≤ (i : Int) := by omega
      have y1 : (i : Int) < (n : Int) := by omega
      obtain ⟨⟨g, rfl, hc⟩, hcall⟩ := unhide HST i hlt wr (unhide HP)
      have HCA := hide hcall
      obtain ⟨fi, hfi⟩ : ∃ fi, fi = f i := ⟨_, rfl⟩
      rw [← hfi] at hc HCA
      clear hcall hfi
      go_wp2_with (go_at_call 48; with_reducible refine (unhide HCA).mono ?_; rintro e w2 ⟨rfl, k2⟩)
      go_roundw
      case rel => exact ⟨i + 1, by go_num, by omega, hide k2⟩
      case measure => simp [intOf]; omega
    · obtain rfl : i = n := by omega
      have d1 : decide ((i : Int) < (i : Int)) = false := decide_eq_false (by omega)
      obtain ⟨tag, S, hQ, h, ht, hl, hg⟩ := unhide HND wr (unhide HP)
      have HQ := hide hQ
      have hg' : ∀ g, (Value.slice a0 i cap0).ownBlock = some g → tag g = 0 ∧ g ≠ pb ∧ g < wr.heap.size := fun g hgg => ⟨(hg g hgg).1, (hg g hgg).2, hl.lt g hgg⟩
      have c30 : wr.cell? ⟨pb, o + 30, none⟩ = some (.int .i64 (S.turn : Nat)) := h.fl.c 30 (by decide)
      have f30 := h.fl.f 30 (by decide)
      obtain ⟨m, hm⟩ : ∃ m, m = S.turn + 1 := ⟨_, rfl⟩
      have em : ((m : Nat) : Int) = (S.turn : Int) + 1 := by omega
      obtain ⟨w1, hw1⟩ : ∃ w1, w1 = wr.setCell ⟨pb, o + 30, none⟩ (.int .i64 ((S.turn : Int) + 1)) := ⟨_, rfl⟩
      have hw1' : w1 = wr.setCell ⟨pb, o + 30, none⟩ (intV m) := by unfold intV; rw [em]; exact hw1
      have c301 : w1.cell? ⟨pb, o + 30, none⟩ = some (.int .i64 (m : Nat)) := by rw [hw1', World.cell?_setCell_same _ _ _ c30]; rfl
      have hsz1 : w1.heap.size = wr.heap.size := by rw [hw1']; simp
      obtain ⟨w2, hw2⟩ : ∃ w2, w2 = w1.alloc (.cells #[bmk m 0, bmk m 1] 5) := ⟨_, rfl⟩
      have hl2 : Line w2 25 (.slice a0 i cap0) i f := hl.same (fun g hgg => by rw [hw2, heap_alloc_old _ _ (by rw [hsz1]; exact hl.lt g hgg), hw1']; exact setCell_else wr pb (o + 30) g _ (hg g hgg).2)
      have HM : Hid (∀ wq, Wrote (.slice a0 i cap0) w2 wq → ∃ tgt, Mid pb o (tagAt tag (.slice a0 i cap0) (10 + 2 * m + 1)) wr tgt wq (S.flds.set 30 (intV m)) m S.b S.u ∧ Good wq tgt m (.slice (some ⟨wr.heap.size, 0, none⟩) 2 2) ∧ ∀ g, (Value.slice a0 i cap0).ownBlock = some g → tgt g = 10 + 2 * m + 1) := hide (fun wq hq => mid_rows h hg' m (10 + 2 * m + 1) (by omega) (by omega) (by omega) (by rw [← hw1', ← hw2]; exact hq))
      have HAT0 : Hid (Calls Tryz.prog 63 #[.int .i64 (m : Nat), .int .i64 0] w1 fun e w' => e = .returned (.int .u8 (atN m 0 : Nat)) ∧ w1 = w') := hide ((at_any m 0 w1 (by omega) (by omega)).mono (fun e w' h => ⟨h.1, h.2.symm⟩))
      have HAT1 : Hid (Calls Tryz.prog 63 #[.int .i64 (m : Nat), .int .i64 1] w1 fun e w' => e = .returned (.int .u8 (atN m 1 : Nat)) ∧ w1 = w') := hide ((at_any m 1 w1 (by omega) (by omega)).mono (fun e w' h => ⟨h.1, h.2.symm⟩))
      have HW := hide hw1
      have hw2' : w2 = w1.alloc (.cells #[.int .u8 (atN m 0 : Nat), .int .u8 (atN m 1 : Nat)] 5) := hw2
      have HW2 := hide hw2'
      have HSZ := hide hsz1
      have HS := hide h
      have hm2 : m ≤ 1000000 := by omega
      have hus := h.us
      have HL2 := hide hl2
      have HMT := hide hm
      have mst : (10 + 2 * (S.turn + 1) + 1 : Nat) = 10 + 2 * m + 1 := by omega
      have HFIN : Hid (∀ w', (∃ tag' S', BookAt w' pb o tag' S' ∧ S'.turn = m ∧ Noted pb o (tagAt tag (.slice a0 i cap0) (10 + 2 * m + 1)) tag' wr w') → ∃ W tag S tag' S', Q W tag S ∧ BookAt W pb o tag S ∧ BookAt w' pb o tag' S' ∧ S'.turn = S.turn + 1 ∧ Noted pb o (tagAt tag (.slice a0 i cap0) (10 + 2 * (S.turn + 1) + 1)) tag' W w') := hide (fun w' ⟨tag', S', h1, h2, h3⟩ => ⟨wr, tag, S, tag', S', hQ, h, h1, by omega, by rw [mst]; exact h3⟩)
      clear hl hg h hg' hw1 hw1' hm em hl2 hw2 hw2' hQ HST HND H0 HP hsz1 mst
      go_upto_region 5 with fail
      rw [← unhide HW]
      clear HW c30 f30
      go_upto_region 7 with (first
        | (go_at_call 63; with_reducible refine (unhide HAT0).mono ?_; rintro e w' ⟨rfl, hw'⟩; subst hw')
        | (go_at_call 63; with_reducible refine (unhide HAT1).mono ?_; rintro e w' ⟨rfl, hw'⟩; subst hw'))
      rw [← unhide HW2, unhide HSZ]
      clear HAT0 HAT1 c301
      obtain ⟨gm, hgm⟩ : ∃ gm, gm = wr.heap.size := ⟨_, rfl⟩
      rw [← hgm] at HM ⊢
      clear hgm
      go_wp2_with fail
      go_loopw [7] (fun iv wq => ∃ k : Nat, k ≤ i ∧ iv = .int .i64 (k : Nat) ∧ Hid (Line wq 25 (.slice a0 i cap0) i (fun j => if j < k then .slice (some ⟨gm, 0, none⟩) 2 2 else f j) ∧ Wrote (.slice a0 i cap0) w2 wq)) (fun iv _ => i - (intOf iv).toNat)
      case atStart => exact ⟨0, by omega, rfl, hide ⟨(unhide HL2).congr (fun j hj => by rw [if_neg (by omega)]), Wrote.refl _ _⟩⟩
      case round =>
        obtain ⟨k, hk, rfl, hlw⟩ := hrel
        obtain ⟨hlq, hwq⟩ := unhide hlw
        rename World => wq
        by_cases hlt2 : k < i
        · have d2 : decide ((k : Int) < (i : Int)) = true := decide_eq_true (by omega)
          have y0 : (0 : Int) ≤ (k : Int) := by omega
          have y1 : (k : Int) < (i : Int) := by omega
          obtain ⟨g, cap, hv, hgb, hcells⟩ := hlq.at (by omega)
          obtain ⟨ck, fk⟩ := hcells k hlt2
          simp only [Value.slice.injEq] at hv
          obtain ⟨rfl, _, rfl⟩ := hv
          have HEN : Hid (Line (wq.setCell ⟨g, k, none⟩ (.slice (some ⟨gm, 0, none⟩) 2 2)) 25 (.slice (some ⟨g, 0, none⟩) i cap0) i (fun j => if j < k + 1 then .slice (some ⟨gm, 0, none⟩) 2 2 else f j) ∧ Wrote (.slice (some ⟨g, 0, none⟩) i cap0) w2 (wq.setCell ⟨g, k, none⟩ (.slice (some ⟨gm, 0, none⟩) 2 2))) := hide ⟨(hlq.put hgb k _ hlt2).congr (fun j hj => by
              show (if j = k then _ else if j < k then _ else f j) = _
              by_cases e1 : j = k
              · subst e1; rw [if_pos rfl, if_pos (by omega)]
              · rw [if_neg e1]
                by_cases e2 : j < k
                · rw [if_pos e2, if_pos (by omega)]
                · rw [if_neg e2, if_neg (by omega)]), hwq.set hgb k _⟩
          clear hlq hwq hcells hlw
          go_wp2_with fail
          go_roundw
          case rel => exact ⟨k + 1, by omega, by go_num, HEN⟩
          case measure => simp [intOf]; omega
        · have d2 : decide ((k : Int) < (i : Int)) = false := decide_eq_false (by omega)
          have hlq' : Line wq 25 (.slice a0 i cap0) i (fun _ => .slice (some ⟨gm, 0, none⟩) 2 2) := hlq.congr (fun j hj => by rw [if_pos (by omega)])
          obtain ⟨tgt, hmq, hgd, htv⟩ := unhide HM wq hwq
          have hGL : GL wq tgt m (.slice a0 i cap0) i := ⟨_, hlq', fun _ _ => hgd⟩
          have hfl : Flds wq pb o ({ S with turn := m } : BookSt).flds := hmq.fl
          have HTI := hide (tight_any hfl (2400 + 72 * i) hus (by omega))
          have e2400 : ((2400 + 72 * i : Nat) : Int) = 2400 + 72 * (i : Int) := by omega
          rw [e2400] at HTI
          have HMQ := hide hmq
          have HLQ := hide hGL
          have HTV := hide htv
          clear hlq hlq' hwq hmq hfl HM HL2 hlw hGL hgd htv
          go_wp2_with fail
          refine (unhide HTI).mono ?_
          rintro e w3 (⟨hfull, rfl, hw3⟩ | ⟨hroom, rfl, hw3⟩)
          · obtain rfl := hw3.symm
            have HEN : Hid (∃ tag' S', BookAt wq pb o tag' S' ∧ S'.turn = m ∧ Noted pb o (tagAt tag (.slice a0 i cap0) (10 + 2 * m + 1)) tag' wr wq) := hide (by
              have hh := unhide HS
              have hq := unhide HMQ
              exact ⟨_, { S with turn := m }, ⟨hq.fl, hq.hb, hq.hu, hq.un, hq.tp, hh.eb, hh.eu, hh.nb, hh.nu, hh.cnt, hh.us, hm2⟩, rfl, hq.no⟩)
            clear hfull HTI
            go_wp2
            (try simp only [Exit.inBlock, Exit.then])
            refine bodyPost_ret (results_none rfl _ _ _) rfl ?_
            exact ⟨rfl, unhide HFIN _ (unhide HEN)⟩
          · have hus2 := hroom
            have hcnt := (unhide HS).cnt
            have heb := (unhide HS).eu
            have hnb := (unhide HS).nb
            have hnu := (unhide HS).nu
            have hM2 := (unhide HMQ).set 32 (by decide) (intV (S.used + (2400 + 72 * i)))
            have htp := (unhide HMQ).tp
            have npv : ∀ g, (Value.slice a0 i cap0).ownBlock = some g → g ≠ pb := fun g hg e => by
              have := unhide HTV g hg
              rw [e, htp] at this
              omega
            have hl2 : GL w3 tgt m (.slice a0 i cap0) i := (unhide HLQ).move (fun g hg => by
              rw [hw3]
              exact setCell_else wq pb (o + 32) g _ (npv g hg)) (fun g hl e => ⟨by
              rw [hw3]
              exact setCell_else wq pb (o + 32) g _ (fun e2 => by rw [e2, htp] at e; omega), e⟩)
            rw [← hw3] at hM2
            have c0 : w3.cell? ⟨pb, o + 3, none⟩ = some S.u.v := hM2.fl.c 3 (by decide)
            have hbl : S.u.M.length ≤ 200000 := by omega
            have hbl2 : S.u.L.length ≤ 200000 := by omega
            have HEB := hide heb
            have HM2 := hide hM2
            have HL2 := hide hl2
            clear hw3 hM2 hl2 HTI HMQ HLQ hcnt hnb hnu hroom heb htp npv
            go_wp2_with (at_builtin; refine append_line rfl _ _ 38 rfl 36 i0 (.slice none 0 0) 24 Tryz.underlying38 hi hy0 hy1 hy2 rfl _ _ _ rfl ((unhide HM2).alloc _).hu.rl w3.heap.size rfl (.slice a0 i cap0) ?c1 rfl ?c2 ?c3 ?_)
            case c1 => exact cell_made rfl _ _
            case c2 => omega
            case c3 => omega
            intro v' w4 hl4 hg4
            obtain ⟨a4, cp4, hv4⟩ := hl4.shape
            obtain ⟨V4, hV4⟩ : ∃ V4, V4 = Value.slice a4 (S.u.L.length + 1) cp4 := ⟨_, rfl⟩
            rw [← hV4] at hv4
            subst hv4
            have hM4 := ((unhide HM2).alloc _).addU hg4 hl4
            have hL3 := (unhide HL2).alloc (.cells #[.slice a0 i cap0] 36)
            have hL4 : GL w4 (tagAt tgt v' 3) m (.slice a0 i cap0) i := hL3.move (fun q hq => hg4.other q (hL3.lt q hq) (fun e => by have h1 := (unhide HM2).hu.tl' q e; have h2 := unhide HTV q hq; omega)) (fun q hq e => ⟨hg4.other q hq (fun e2 => by have h1 := (unhide HM2).hu.tl' q e2; omega), (tagAt_old hg4 (unhide HM2).hu.tl' q hq).trans e⟩)
            have hT4 : ∀ q, Value.ownBlock (.slice a0 i cap0) = some q → tagAt tgt v' 3 q = 10 + 2 * m + 1 := fun q hq => (tagAt_old hg4 (unhide HM2).hu.tl' q (hL3.lt q hq)).trans (unhide HTV q hq)
            have hM5 := hM4.set 3 (by decide) v'
            have c40 : w4.cell? ⟨pb, o + 3, none⟩ = some S.u.v := hM4.fl.c 3 (by decide)
            have f40 : w4.frozen? ⟨pb, o + 3, none⟩ = false := hM4.fl.f 3 (by decide)
            have c41 : w4.cell? ⟨pb, o + 4, none⟩ = some S.u.o := hM4.fl.c 4 (by decide)
            have f41 := hM4.fl.f 4 (by decide)
            have hL5 : GL (w4.setCell ⟨pb, o + 3, none⟩ v') (tagAt tgt v' 3) m (.slice a0 i cap0) i := hL4.move (fun g hg => setCell_else w4 pb (o + 3) g v' (fun e => by
              have h1 := hM4.tp
              have h2 := hT4 g hg
              rw [e] at h2
              omega)) (fun g hl e => ⟨setCell_else w4 pb (o + 3) g v' (fun e2 => by
              have h1 := hM4.tp
              rw [e2] at e
              omega), e⟩)
            have HT4 := hide hT4
            have HM5 := hide hM5
            have HL5 := hide hL5
            clear hM4 hM5 hL3 hL4 hL5 hl4 hg4 HM2 HL2 c0 hT4
            subst hV4
            go_wp2_with (at_builtin; refine append_line rfl _ _ 37 rfl 3 i3 (.int .i64 0) 8 Tryz.underlying37 hi3 hz0 hz1 hz2 rfl _ _ _ rfl ((unhide HM5).alloc _).hu.ro w4.heap.size rfl (.int .i64 (m : Nat)) ?d1 rfl ?d2 ?d3 ?_)
            case d1 => exact cell_made (by simp) _ _
            case d2 => omega
            case d3 => omega
            intro o' w7 hl7 hg7
            obtain ⟨a7, cp7, rfl⟩ := hl7.shape
            have heb := unhide HEB
            have hM7 := ((unhide HM5).alloc _).addUo (m := m) (by simp; omega) hg7 hl7 (by
                show GL _ _ m ((S.u.L ++ [_]).getD S.u.M.length undef) (lenOf ((S.u.L ++ [_]).getD S.u.M.length undef))
                rw [getD_last _ _ _ _ heb]
                exact (unhide HL5).alloc _) (fun g hg => by
                have hg' : ((S.u.L ++ [_]).getD S.u.M.length undef).ownBlock = some g := hg
                rw [getD_last _ _ _ _ heb] at hg'
                exact unhide HT4 g hg') (by
                show lenOf ((S.u.L ++ [_]).getD S.u.M.length undef) ≤ _
                rw [getD_last _ _ _ _ heb]
                show i ≤ _
                omega) (Nat.le_refl _) (fun _ => by
                show lenOf ((S.u.L ++ [_]).getD S.u.M.length undef) ≤ _
                rw [getD_last _ _ _ _ heb]
                show i ≤ _
                omega)
            have hM8 := hM7.set 4 (by decide) (.slice a7 (S.u.M.length + 1) cp7)
            have c71 : w7.cell? ⟨pb, o + 4, none⟩ = some S.u.o := hM7.fl.c 4 (by decide)
            have f71 := hM7.fl.f 4 (by decide)
            have HEN : Hid (∃ tag' S', BookAt (w7.setCell ⟨pb, o + 4, none⟩ (.slice a7 (S.u.M.length + 1) cp7)) pb o tag' S' ∧ S'.turn = m ∧ Noted pb o (tagAt tag (.slice a0 i cap0) (10 + 2 * m + 1)) tag' wr (w7.setCell ⟨pb, o + 4, none⟩ (.slice a7 (S.u.M.length + 1) cp7))) := hide (by
              have hh := unhide HS
              have h1 := hh.cnt
              have h2 := hh.nu
              refine ⟨_, { S with turn := m, used := S.used + (2400 + 72 * i), u := { v := _, o := _, L := S.u.L ++ [.slice a0 i cap0], M := S.u.M ++ [m], n := S.u.n } }, ⟨hM8.fl, hM8.hb, hM8.hu, hM8.un, hM8.tp, hh.eb, ?_, hh.nb, ?_, ?_, hus2, hm2⟩, rfl, hM8.no⟩
              · simp; omega
              · simp; omega
              · simp; omega)
            clear heb hM7 hM8 hl7 hg7 HM5 HL5 HT4 c40 f40 c41 f41
            go_wp2
            go_end0
            exact ⟨rfl, unhide HFIN _ (unhide HEN)⟩
end Go.Proofs.YtcnlikojbkegiaaGreatDoor.Br
