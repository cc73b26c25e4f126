/- The book with replies appends to its lists of replies. -/
import Derived.Test.YtecfgbjnjgjkoaaGreatDoorBpd
import Derived.Test.YtecfgbjnjgjkoaaGreatDoorDcb
namespace Go.Proofs.YtecfgbjnjgjkoaaGreatDoor.Bp
open Go.ChangeShapes Go.WideShapes Go.ChangeAt Go.RowKit Go.Proofs.YtecfgbjnjgjkoaaGreatDoor.Bk
set_option linter.unusedVariables false
set_option maxRecDepth 100000
set_option maxHeartbeats 8000000

theorem results_box1 {P : Program} {fn : Func} {p : Tmp} {ty : TypeId} (h : fn.results = #[.cell p ty]) (tmps : Array Value) (w : World) (g : Nat) (t : TypeId) (cs : Array Value) (fr : Nat × Nat) (d : TypeDesc)
    (hp : tmps.getD p undef = .pointer (some ⟨g, 0, none⟩)) (hg : w.heap[g]? = some (.cells cs t fr))
    (hu : P.underlying ty = some d) (hd : (match d with | .struct _ | .array _ _ => true | _ => false) = true) (hi : (P.info? ty).map (·.size) = some cs.size) :
    (results fn tmps).run P w = .ok (.agg cs) w := by
  have hp' : tmps[p]?.getD undef = .pointer (some ⟨g, 0, none⟩) := by simpa using hp
  simp [results, h, hp', asAddr, run_loadVar_row w g t ty cs fr d hg hu hd hi]
theorem rmark_any (m : Nat) (w : World) (hm : m ≤ 1000000) : Calls Tryz.prog 120 #[.int .i64 (m : Nat)] w fun e w' => e = .returned (.agg #[.int .i64 0, .int .i64 ((m : Int) * 1048576), .slice none 0 0, .slice none 0 0]) ∧ Hid (Below w.heap.size w w') := by
  go_enter Tryz.func120, Tryz.ntmps120
  go_wp2
  refine bodyPost_ret (results_box1 (p := 2) (ty := 31) rfl _ _ w.heap.size 31 _ (0, 0) _ rfl (heap_alloc_new _ _) Tryz.underlying31 rfl (by kernel_rfl)) rfl ?_
  exact ⟨rfl, hide ((Below.refl _ _).alloc (Nat.le_refl _) _)⟩
theorem rws_put {w : World} {t : TypeId} {s : Nat} {v : Value} {n : Nat} {f : Nat → Value} (h : Rws w t s v n f) {g : Nat} (hg : v.ownBlock = some g) (k : Nat) (u : Value) (hk : k < n * s) : Rws (w.setCell ⟨g, k, none⟩ u) t s v n (fun j => if j = k then u else f j) := by
  rcases h with ⟨rfl, h0⟩ | ⟨g', cap, cur, rfl, hg', hn, hc, hs, hh⟩
  · simp [Value.ownBlock] at hg
  · simp [Value.ownBlock] at hg
    subst hg
    have hle : n * s ≤ cap * s := Nat.mul_le_mul_right _ hn
    refine .inr ⟨g', cap, cur.setIfInBounds k u, rfl, setCell_block w g' k u cur t _ hg', hn, hc, by simpa using hs, fun j hj => ?_⟩
    rw [Array.getElem?_setIfInBounds]
    show _ = some (if j = k then u else f j)
    by_cases e1 : k = j
    · subst e1
      rw [if_pos rfl, if_pos (by omega), if_pos rfl]
    · rw [if_neg e1, if_neg (fun h => e1 h.symm), hh j hj]
/-- one reply's mark is written -/
theorem rws_mark {w : World} {v : Value} {n m k : Nat} {f : Nat → Value} (h : Rws w 31 4 v n (fun j => if j < k * 4 then rmk m j else f j)) {g : Nat} (hg : v.ownBlock = some g) (hk : k < n) :
    Rws ((((w.setCell ⟨g, k * 4, none⟩ (.int .i64 0)).setCell ⟨g, k * 4 + 1, none⟩ (.int .i64 ((m : Int) * 1048576))).setCell ⟨g, k * 4 + 2, none⟩ (.slice none 0 0)).setCell ⟨g, k * 4 + 3, none⟩ (.slice none 0 0)) 31 4 v n (fun j => if j < (k + 1) * 4 then rmk m j else f j) := by
  have h1 := rws_put h hg (k * 4) (.int .i64 0) (by omega)
  have h2 := rws_put h1 hg (k * 4 + 1) (.int .i64 ((m : Int) * 1048576)) (by omega)
  have h3 := rws_put h2 hg (k * 4 + 2) (.slice none 0 0) (by omega)
  have h4 := rws_put h3 hg (k * 4 + 3) (.slice none 0 0) (by omega)
  refine h4.congr (fun j hj => ?_)
  by_cases e3 : j = k * 4 + 3
  · subst e3
    simp only [if_true]
    rw [if_pos (by omega)]
    unfold rmk
    rw [if_neg (by omega), if_neg (by omega)]
  by_cases e2 : j = k * 4 + 2
  · subst e2
    simp only [if_neg e3, if_true]
    rw [if_pos (by omega)]
    unfold rmk
    rw [if_neg (by omega), if_neg (by omega)]
  by_cases e1 : j = k * 4 + 1
  · subst e1
    simp only [if_neg e3, if_neg e2, if_true]
    rw [if_pos (by omega)]
    unfold rmk
    rw [if_neg (by omega), if_pos (by omega)]
  by_cases e0 : j = k * 4
  · subst e0
    simp only [if_neg e3, if_neg e2, if_neg e1, if_true]
    rw [if_pos (by omega)]
    unfold rmk
    rw [if_pos (by omega)]
  simp only [if_neg e3, if_neg e2, if_neg e1, if_neg e0]
  by_cases hlt : j < k * 4
  · rw [if_pos hlt, if_pos (by omega)]
  · rw [if_neg hlt, if_neg (by omega)]
/-- the turn is counted, the mark is made, the list is written full -/
theorem mid_repl {w w3 wq : World} {pb o : Nat} {tag : Nat → Nat} {S : BookSt} (h : BookAt w pb o tag S) {v : Value} (hg : ∀ g, v.ownBlock = some g → tag g = 0 ∧ g ≠ pb ∧ g < w.heap.size) (m k : Nat) (hk : k ≠ 0) (hT : S.turn ≤ m) (hb3 : Below w.heap.size (w.setCell ⟨pb, o + 30, none⟩ (intV m)) w3) (hw : Wrote v w3 wq) :
    Mid pb o (tagAt tag v k) w (tagAt tag v k) wq (S.flds.set 30 (intV m)) m S.b S.u := by
  have h0 := h.mid.set 30 (by decide) (intV m)
  have hs1 : (w.setCell ⟨pb, o + 30, none⟩ (intV m)).heap.size = w.heap.size := by simp
  have hs : w.heap.size ≤ wq.heap.size := by rw [hw.size]; have := hb3.size; omega
  have hpl := h.fl.lt
  have hblk : ∀ g, g < w.heap.size → v.ownBlock ≠ some g → wq.heap[g]? = (w.setCell ⟨pb, o + 30, none⟩ (intV m)).heap[g]? := fun g hl hv => (hw.blk g hv).trans (hb3.block g hl)
  have hpb := hblk pb hpl (fun e => (hg pb e).2.1 rfl)
  have hb : ∀ g, tag g ≠ 0 → wq.heap[g]? = (w.setCell ⟨pb, o + 30, none⟩ (intV m)).heap[g]? := fun g hn => hblk g (h.un g hn) (fun e => hn (hg g e).1)
  have ht : ∀ g, tag g ≠ 0 → tagAt tag v k g = tag g := fun g hn => by
    unfold tagAt
    rw [if_neg (fun e => hn (hg g e).1)]
  refine ⟨h0.fl.same hpb (by rw [hs1]; exact hs), h0.len, (h0.hb.same hb hT).tags ht, (h0.hu.same hb hT).tags ht, fun g hn => ?_, ?_, ⟨hw.os.trans hb3.os, hw.tape.trans hb3.tape, hw.output.trans hb3.output, hs, fun g hg' => rfl, fun g h2 h3 h4 => ?_, fun j hj => ?_⟩⟩
  · unfold tagAt at hn
    by_cases e : v.ownBlock = some g
    · have := (hg g e).2.2
      omega
    · rw [if_neg e] at hn
      have := h.un g hn
      omega
  · unfold tagAt
    rw [if_neg (fun e => (hg pb e).2.1 rfl)]
    exact h.tp
  · have hv : v.ownBlock ≠ some g := fun e => by unfold tagAt at h3; rw [if_pos e] at h3; exact hk h3
    rw [hblk g h2 hv]
    exact setCell_else w pb (o + 30) g _ h4
  · have h5 := (Noted.set (pb := pb) (o := o) (tag := tag) (w := w) 30 (by decide) (intV m)).rest j hj
    exact ⟨(World.cell?_of_block (a := ⟨pb, j, none⟩) hpb).trans h5.1, (World.frozen?_of_block (a := ⟨pb, j, none⟩) hpb).trans h5.2⟩
end Go.Proofs.YtecfgbjnjgjkoaaGreatDoor.Bp
namespace Go.Proofs.YtecfgbjnjgjkoaaGreatDoor.Bp
open Go.ChangeShapes Go.WideShapes Go.ChangeAt Go.RowKit Go.Proofs.YtecfgbjnjgjkoaaGreatDoor.Bk
set_option linter.unusedVariables false
set_option maxRecDepth 100000
set_option maxHeartbeats 8000000

theorem Tryz.info29 : (Tryz.prog.info? 29).map (fun i => (i.zero, i.size, i.bytes)) = some (some (.slice none 0 0), 1, 24) := by kernel_rfl
theorem GL.alloc {w : World} {m n : Nat} {v : Value} (h : GL w m v n) (x : Obj) : GL (w.alloc x) m v n := h.move (fun g hg => heap_alloc_old w x (h.lt g hg))
theorem rws_at {w : World} {v : Value} {n : Nat} {f : Nat → Value} (h : Rws w 31 4 v n f) (hn : 0 < n) : ∃ g cap, v = .slice (some ⟨g, 0, none⟩) n cap ∧ v.ownBlock = some g ∧ ∀ j, j < n * 4 → w.cell? ⟨g, j, none⟩ = some (f j) ∧ w.frozen? ⟨g, j, none⟩ = false := by
  rcases h with ⟨rfl, h0⟩ | ⟨g, cap, cur, rfl, hg, hn, hc, hs, hf⟩
  · omega
  · refine ⟨g, cap, rfl, rfl, fun j hj => ⟨?_, ?_⟩⟩
    · simp only [World.cell?, hg]
      exact hf j hj
    · simp only [World.frozen?, hg]
      simp
theorem take_replies {w : World} {pb o : Nat} {tag : Nat → Nat} {S : BookSt} (h : BookAt w pb o tag S) (ht : S.turn < 1000000) (v : Value) (n : Nat) (f : Nat → Value) (hl : Rws w 31 4 v n f) (hg : ∀ g, v.ownBlock = some g → tag g = 0 ∧ g ≠ pb) (hn : n ≤ 281474976710656) :
    Calls Tryz.prog 96 #[.pointer (some ⟨pb, o, none⟩), v] w fun e w' => e = .returned (.tuple #[]) ∧ ∃ tag' S', BookAt w' pb o tag' S' ∧ S'.turn = S.turn + 1 ∧ Noted pb o (tagAt tag v (10 + 2 * (S.turn + 1) + 1)) tag' w w' := by
  obtain ⟨i0, hi, hy0, hy1, hy2⟩ := info_parts Tryz.info29
  obtain ⟨i3, hi3, hz0, hz1, hz2⟩ := info_parts Bk.Tryz.info3
  have hg' : ∀ g, v.ownBlock = some g → tag g = 0 ∧ g ≠ pb ∧ g < w.heap.size := fun g hgg => ⟨(hg g hgg).1, (hg g hgg).2, hl.lt g hgg⟩
  have c30 : w.cell? ⟨pb, o + 30, none⟩ = some (.int .i64 (S.turn : Nat)) := h.fl.c 30 (by decide)
  have f30 := h.fl.f 30 (by decide)
  obtain ⟨m, hm⟩ : ∃ m, m = S.turn + 1 := ⟨_, rfl⟩
  have em : ((m : Nat) : Int) = (S.turn : Int) + 1 := by omega
  obtain ⟨w1, hw1⟩ : ∃ w1, w1 = w.setCell ⟨pb, o + 30, none⟩ (.int .i64 ((S.turn : Int) + 1)) := ⟨_, rfl⟩
  have hw1' : w1 = w.setCell ⟨pb, o + 30, none⟩ (intV m) := by unfold intV; rw [em]; exact hw1
  have c301 : w1.cell? ⟨pb, o + 30, none⟩ = some (.int .i64 (m : Nat)) := by rw [hw1', World.cell?_setCell_same _ _ _ c30]; rfl
  have hsz1 : w1.heap.size = w.heap.size := by rw [hw1']; simp
  have hl1 : Rws w1 31 4 v n f := hl.same (fun g hgg => by rw [hw1']; exact setCell_else w pb (o + 30) g _ (hg g hgg).2)
  have HM : Hid (∀ w3 wq, Below w.heap.size w1 w3 → Wrote v w3 wq → Mid pb o (tagAt tag v (10 + 2 * m + 1)) w (tagAt tag v (10 + 2 * m + 1)) wq (S.flds.set 30 (intV m)) m S.b S.u) := hide (fun w3 wq h3 hq => mid_repl h hg' m (10 + 2 * m + 1) (by omega) (by omega) (by rw [← hw1']; exact h3) hq)
  have HMK := hide (rmark_any m w1 (by omega))
  have HW := hide hw1
  have HS := hide h
  have hm2 : m ≤ 1000000 := by omega
  have hus := h.us
  rw [← hm]
  obtain ⟨a0, cap0, hv0⟩ := hl.shape
  have HV : Hid (∀ g, v.ownBlock = some g → g < w.heap.size) := hide hl.lt
  have HL1 := hide hl1
  have HSZ := hide hsz1
  have HMT := hide hm
  clear hl hg h hg' hw1 hw1' hm em hl1 hsz1
  subst hv0
  go_enter Tryz.func96, Tryz.ntmps96
  go_upto_region 1 with fail
  rw [← unhide HW]
  clear HW c30 f30
  go_wp2_with (go_at_call 120; with_reducible refine (unhide HMK).mono ?_; rintro e w2 ⟨rfl, hb2⟩)
  obtain ⟨w3, hw3⟩ : ∃ w3, w3 = w2.alloc (.cells #[.int .i64 0, .int .i64 ((m : Int) * 1048576), .slice none 0 0, .slice none 0 0] 31) := ⟨_, rfl⟩
  obtain ⟨gx, hgx⟩ : ∃ gx, gx = w2.heap.size := ⟨_, rfl⟩
  have hb3 : Below w.heap.size w1 w3 := by
    rw [hw3]
    have h1 := unhide hb2
    rw [unhide HSZ] at h1
    have h2 := h1.size
    rw [unhide HSZ] at h2
    exact h1.alloc h2 _
  have hx3 : w3.heap[gx]? = some (.cells #[.int .i64 0, .int .i64 ((m : Int) * 1048576), .slice none 0 0, .slice none 0 0] 31 (0, 0)) := by rw [hw3, hgx]; exact heap_alloc_new _ _
  have hvx : (Value.slice a0 n cap0).ownBlock ≠ some gx := fun e => by
    have h1 := unhide HV gx e
    have h2 := (unhide hb2).size
    rw [unhide HSZ] at h2
    omega
  have HL3 : Hid (Rws w3 31 4 (.slice a0 n cap0) n f) := hide ((unhide HL1).same (fun g hgg => hb3.block g (unhide HV g hgg)))
  have HB3 := hide hb3
  rw [← hw3, ← hgx]
  clear hw3 hgx hb2 hb3 HMK HL1 c301
  go_loopw [6] (fun i wq => ∃ k : Nat, k ≤ n ∧ i = .int .i64 k ∧ Hid (Rws wq 31 4 (.slice a0 n cap0) n (fun j => if j < k * 4 then rmk m j else f j) ∧ Wrote (.slice a0 n cap0) w3 wq)) (fun i _ => n - (intOf i).toNat)
  case atStart => exact ⟨0, by omega, rfl, hide ⟨(unhide HL3).congr (fun j hj => by rw [if_neg (by omega)]), Wrote.refl _ _⟩⟩
  case round =>
    obtain ⟨k, hk, rfl, hlw⟩ := hrel
    obtain ⟨hlq, hwq⟩ := unhide hlw
    rename World => wq
    have hxq : wq.heap[gx]? = some (.cells #[.int .i64 0, .int .i64 ((m : Int) * 1048576), .slice none 0 0, .slice none 0 0] 31 (0, 0)) := (hwq.blk gx hvx).trans hx3
    have x0 : wq.cell? ⟨gx, 0, none⟩ = some (.int .i64 0) := by rw [cell_of_row _ _ _ _ _ _ hxq]; rfl
    have x1 : wq.cell? ⟨gx, 1, none⟩ = some (.int .i64 ((m : Int) * 1048576)) := by rw [cell_of_row _ _ _ _ _ _ hxq]; rfl
    have x2 : wq.cell? ⟨gx, 2, none⟩ = some (.slice none 0 0) := by rw [cell_of_row _ _ _ _ _ _ hxq]; rfl
    have x3 : wq.cell? ⟨gx, 3, none⟩ = some (.slice none 0 0) := by rw [cell_of_row _ _ _ _ _ _ hxq]; rfl
    by_cases hlt : k < n
    · have d1 : decide ((k : Int) < (n : Int)) = true := decide_eq_true (by omega)
      have y0 : (0 : Int) ≤ (k : Int) := by omega
      have y1 : (k : Int) < (n : Int) := by omega
      obtain ⟨g, cap, hv, hgb, hcells⟩ := rws_at hlq (by omega)
      obtain ⟨ck0, fk0⟩ := hcells (k * 4) (by omega)
      obtain ⟨ck1, fk1⟩ := hcells (k * 4 + 1) (by omega)
      obtain ⟨ck2, fk2⟩ := hcells (k * 4 + 2) (by omega)
      obtain ⟨ck3, fk3⟩ := hcells (k * 4 + 3) (by omega)
      simp only [Value.slice.injEq] at hv
      obtain ⟨rfl, _, rfl⟩ := hv
      have HEN := hide (And.intro (rws_mark hlq hgb hlt) ((((hwq.set hgb (k * 4) (.int .i64 0)).set hgb (k * 4 + 1) (.int .i64 ((m : Int) * 1048576))).set hgb (k * 4 + 2) (.slice none 0 0)).set hgb (k * 4 + 3) (.slice none 0 0)))
      clear hlq hwq hcells hlw
      go_wp2_with fail
      go_roundw
      case rel => exact ⟨k + 1, by omega, by go_num, HEN⟩
      case measure => simp [intOf]; omega
    · have d1 : decide ((k : Int) < (n : Int)) = false := decide_eq_false (by omega)
      have hlq' : GL wq m (.slice a0 n cap0) n := hlq.congr (fun j hj => by rw [if_pos (by omega)])
      have hmq := unhide HM w3 wq (unhide HB3) hwq
      have hfl : Flds wq pb o ({ S with turn := m } : BookSt).flds := hmq.fl
      have HTI := hide (tight_any hfl (8000 + 300 * n) hus (by omega))
      have e8000 : ((8000 + 300 * n : Nat) : Int) = 8000 + 300 * (n : Int) := by omega
      rw [e8000] at HTI
      have HMQ := hide hmq
      have HLQ := hide hlq'
      clear hlq hlq' hwq hmq hfl HM HL3 hlw x0 x1 x2 x3 hxq hx3 hvx HB3
      go_wp2_with fail
      refine (unhide HTI).mono ?_
      rintro e w2 (⟨hfull, rfl, hw2⟩ | ⟨hroom, rfl, hw2⟩)
      · obtain rfl := hw2.symm
        have HEN : Hid (∃ tag' S', BookAt wq pb o tag' S' ∧ S'.turn = m ∧ Noted pb o (tagAt tag (.slice a0 n cap0) (10 + 2 * m + 1)) tag' w wq) := hide (by
          have hh := unhide HS
          have hq := unhide HMQ
          exact ⟨_, { S with turn := m }, ⟨hq.fl, hq.hb, hq.hu, hq.un, hq.tp, hh.eb, hh.eu, hh.nb, hh.nu, hh.cnt, hh.us, hm2⟩, rfl, hq.no⟩)
        clear hfull HTI
        go_wp2
        (try simp only [Exit.inBlock, Exit.then])
        refine bodyPost_ret (results_none rfl _ _ _) rfl ?_
        exact ⟨rfl, unhide HEN⟩
      · have hus2 := hroom
        have hcnt := (unhide HS).cnt
        have heb := (unhide HS).eu
        have hnb := (unhide HS).nb
        have hnu := (unhide HS).nu
        have hM2 := (unhide HMQ).set 32 (by decide) (intV (S.used + (8000 + 300 * n)))
        have hl2 : GL w2 m (.slice a0 n cap0) n := (unhide HLQ).move (fun g hg => by
          rw [hw2]
          refine setCell_else wq pb (o + 32) g _ (fun e => ?_)
          have := (unhide HMQ).tp
          unfold tagAt at this
          rw [← e, if_pos hg] at this
          omega)
        rw [← hw2] at hM2
        have c0 : w2.cell? ⟨pb, o + 15, none⟩ = some S.u.v := hM2.fl.c 15 (by decide)
        have hbl : S.u.M.length ≤ 200000 := by omega
        have hbl2 : S.u.L.length ≤ 200000 := by omega
        have HEB := hide heb
        have HM2 := hide hM2
        have HL2 := hide hl2
        clear hw2 hM2 hl2 HTI HMQ HLQ hcnt hnb hnu hroom heb
        go_wp2_with (at_builtin; refine append_line rfl _ _ 42 rfl 29 i0 (.slice none 0 0) 24 Tryz.underlying42 hi hy0 hy1 hy2 rfl _ _ _ rfl ((unhide HM2).alloc _).hu.rl w2.heap.size rfl (.slice a0 n cap0) ?c1 rfl ?c2 ?c3 ?_)
        case c1 => exact cell_made rfl _ _
        case c2 => omega
        case c3 => omega
        intro v' w4 hl4 hg4
        obtain ⟨a4, cp4, hv4⟩ := hl4.shape
        obtain ⟨V4, hV4⟩ : ∃ V4, V4 = Value.slice a4 (S.u.L.length + 1) cp4 := ⟨_, rfl⟩
        rw [← hV4] at hv4
        subst hv4
        have hM4 := ((unhide HM2).alloc _).addU hg4 hl4
        have hL3 := (unhide HL2).alloc (.cells #[.slice a0 n cap0] 29)
        have hTV : ∀ q, Value.ownBlock (.slice a0 n cap0) = some q → tagAt tag (.slice a0 n cap0) (10 + 2 * m + 1) q = 10 + 2 * m + 1 := fun q hq => tagAt_self tag _ (10 + 2 * m + 1) q hq
        have hL4 : GL w4 m (.slice a0 n cap0) n := hL3.move (fun q hq => hg4.other q (hL3.lt q hq) (fun e => by have h1 := (unhide HM2).hu.tl' q e; have h2 := hTV q hq; omega))
        have hT4 : ∀ q, Value.ownBlock (.slice a0 n cap0) = some q → tagAt (tagAt tag (.slice a0 n cap0) (10 + 2 * m + 1)) v' 3 q = 10 + 2 * m + 1 := fun q hq => (tagAt_old hg4 (unhide HM2).hu.tl' q (hL3.lt q hq)).trans (hTV q hq)
        have hM5 := hM4.set 15 (by decide) v'
        have c40 : w4.cell? ⟨pb, o + 15, none⟩ = some S.u.v := hM4.fl.c 15 (by decide)
        have f40 : w4.frozen? ⟨pb, o + 15, none⟩ = false := hM4.fl.f 15 (by decide)
        have c41 : w4.cell? ⟨pb, o + 16, none⟩ = some S.u.o := hM4.fl.c 16 (by decide)
        have f41 := hM4.fl.f 16 (by decide)
        have hL5 : GL (w4.setCell ⟨pb, o + 15, none⟩ v') m (.slice a0 n cap0) n := hL4.move (fun g hg => setCell_else w4 pb (o + 15) g v' (fun e => by
          have h1 := hM4.tp
          have h2 := hT4 g hg
          rw [e] at h2
          omega))
        have HT4 := hide hT4
        have HM5 := hide hM5
        have HL5 := hide hL5
        clear hM4 hM5 hL3 hL4 hL5 hl4 hg4 HM2 HL2 c0 hT4 hTV
        subst hV4
        go_wp2_with (at_builtin; refine append_line rfl _ _ 37 rfl 3 i3 (.int .i64 0) 8 Tryz.underlying37 hi3 hz0 hz1 hz2 rfl _ _ _ rfl ((unhide HM5).alloc _).hu.ro w4.heap.size rfl (.int .i64 (m : Nat)) ?d1 rfl ?d2 ?d3 ?_)
        case d1 => exact cell_made (by simp) _ _
        case d2 => omega
        case d3 => omega
        intro o' w7 hl7 hg7
        obtain ⟨a7, cp7, rfl⟩ := hl7.shape
        have heb := unhide HEB
        have hM7 := ((unhide HM5).alloc _).addUo (m := m) (by simp; omega) hg7 hl7 (by
            show GL _ m ((S.u.L ++ [_]).getD S.u.M.length undef) (lenOf ((S.u.L ++ [_]).getD S.u.M.length undef))
            rw [getD_last _ _ _ _ heb]
            exact (unhide HL5).alloc _) (fun g hg => by
            have hg' : ((S.u.L ++ [_]).getD S.u.M.length undef).ownBlock = some g := hg
            rw [getD_last _ _ _ _ heb] at hg'
            exact unhide HT4 g hg') (by
            show lenOf ((S.u.L ++ [_]).getD S.u.M.length undef) ≤ _
            rw [getD_last _ _ _ _ heb]
            show n ≤ _
            omega) (Nat.le_refl _) (fun _ => by
            show lenOf ((S.u.L ++ [_]).getD S.u.M.length undef) ≤ _
            rw [getD_last _ _ _ _ heb]
            show n ≤ _
            omega)
        have hM8 := hM7.set 16 (by decide) (.slice a7 (S.u.M.length + 1) cp7)
        have c71 : w7.cell? ⟨pb, o + 16, none⟩ = some S.u.o := hM7.fl.c 16 (by decide)
        have f71 := hM7.fl.f 16 (by decide)
        have HEN : Hid (∃ tag' S', BookAt (w7.setCell ⟨pb, o + 16, none⟩ (.slice a7 (S.u.M.length + 1) cp7)) pb o tag' S' ∧ S'.turn = m ∧ Noted pb o (tagAt tag (.slice a0 n cap0) (10 + 2 * m + 1)) tag' w (w7.setCell ⟨pb, o + 16, none⟩ (.slice a7 (S.u.M.length + 1) cp7))) := hide (by
          have hh := unhide HS
          have h1 := hh.cnt
          have h2 := hh.nu
          refine ⟨_, { S with turn := m, used := S.used + (8000 + 300 * n), u := { v := _, o := _, L := S.u.L ++ [.slice a0 n cap0], M := S.u.M ++ [m], n := S.u.n } }, ⟨hM8.fl, hM8.hb, hM8.hu, hM8.un, hM8.tp, hh.eb, ?_, hh.nb, ?_, ?_, hus2, hm2⟩, rfl, hM8.no⟩
          · simp; omega
          · simp; omega
          · simp; omega)
        clear heb hM7 hM8 hl7 hg7 HM5 HL5 HT4 c40 f40 c41 f41
        go_wp2
        go_end0
        exact ⟨rfl, unhide HEN⟩
end Go.Proofs.YtecfgbjnjgjkoaaGreatDoor.Bp
namespace Go.Proofs.YtecfgbjnjgjkoaaGreatDoor.Bp
open Go.ChangeShapes Go.WideShapes Go.ChangeAt Go.RowKit Go.Proofs.YtecfgbjnjgjkoaaGreatDoor.Bk
set_option linter.unusedVariables false
set_option maxRecDepth 100000
set_option maxHeartbeats 8000000

structure GrowingU (pb o : Nat) (S : BookSt) (t0 : Nat → Nat) (w0 : World) (tag : Nat → Nat) (w : World) (B : HalfSt) (more : Nat) : Prop where
  mid : Mid pb o t0 w0 tag w ((S.flds.set 15 B.v).set 16 B.o) S.turn S.b B
  lenL : B.L.length = S.u.M.length + more
  lenM : B.M.length = S.u.M.length + more
  n : B.n = 1000000000000
  preL : ∀ j, j < S.u.M.length → B.L.getD j undef = S.u.L.getD j undef
  preM : ∀ j, j < S.u.M.length → B.M.getD j 0 = S.u.M.getD j 0
theorem growU_start {pb o : Nat} {S : BookSt} {tag : Nat → Nat} {w : World} (h : BookAt w pb o tag S) (hl : S.u.M.length ≤ 1000000000000) : GrowingU pb o S tag w tag w { S.u with n := 1000000000000 } 0 :=
  ⟨⟨h.fl, rfl, h.hb, h.hu.over _ hl, h.un, h.tp, Noted.refl _ _ _ _⟩, h.eu, rfl, rfl, fun _ _ => rfl, fun _ _ => rfl⟩
theorem GrowingU.more {pb o : Nat} {S : BookSt} {t0 : Nat → Nat} {w0 : World} {tag : Nat → Nat} {w w' : World} {B : HalfSt} {more : Nat} (h : GrowingU pb o S t0 w0 tag w B more) {m n : Nat} {g g' : Value} (hg : Gr 31 (n * 4) 4 w w' g g') (hR : GL w' m g' (n + 1)) (hv : ∀ q, g.ownBlock = some q → tag q = 10 + 2 * m + 1) : GrowingU pb o S t0 w0 (tagAt tag g' (10 + 2 * m + 1)) w' B more :=
  ⟨h.mid.growU hg hR hv, h.lenL, h.lenM, h.n, h.preL, h.preM⟩
theorem Mid.below {pb o : Nat} {t0 : Nat → Nat} {w0 : World} {tag : Nat → Nat} {w w' : World} {l : List Value} {T : Nat} {B U : HalfSt} (h : Mid pb o t0 w0 tag w l T B U) (hb : Below w.heap.size w w') : Mid pb o t0 w0 tag w' l T B U := by
  have hpb := hb.block pb h.fl.lt
  exact ⟨h.fl.same hpb hb.size, h.len, h.hb.same (fun g hg => hb.block g (h.un g hg)) (Nat.le_refl _), h.hu.same (fun g hg => hb.block g (h.un g hg)) (Nat.le_refl _), fun g hg => Nat.lt_of_lt_of_le (h.un g hg) hb.size, h.tp, h.no.trans ⟨hb.os, hb.tape, hb.output, hb.size, fun _ _ => rfl, fun g hg _ _ => hb.block g hg, fun j hj => ⟨World.cell?_of_block (a := ⟨pb, j, none⟩) hpb, World.frozen?_of_block (a := ⟨pb, j, none⟩) hpb⟩⟩⟩
theorem GrowingU.below {pb o : Nat} {S : BookSt} {t0 : Nat → Nat} {w0 : World} {tag : Nat → Nat} {w w' : World} {B : HalfSt} {more : Nat} (h : GrowingU pb o S t0 w0 tag w B more) (hb : Below w.heap.size w w') : GrowingU pb o S t0 w0 tag w' B more :=
  ⟨h.mid.below hb, h.lenL, h.lenM, h.n, h.preL, h.preM⟩
/-- a list grows by a mark -/
theorem GL.grew {w' : World} {m n : Nat} {v' : Value} (hl : Rws w' 31 4 v' (n + 1) (fun k => if k < n * 4 then rmk m k else [Value.int .i64 0, .int .i64 ((m : Int) * 1048576), .slice none 0 0, .slice none 0 0].getD (k - n * 4) undef)) : GL w' m v' (n + 1) := by
  refine hl.congr (fun j hj => ?_)
  by_cases e : j < n * 4
  · rw [if_pos e]
  · rw [if_neg e]
    unfold rmk
    have hj4 : j = n * 4 + (j - n * 4) := by omega
    have hlt : j - n * 4 < 4 := by omega
    obtain ⟨r, hr⟩ : ∃ r, r = j - n * 4 := ⟨_, rfl⟩
    rw [← hr] at hj4 hlt ⊢
    have hm4 : j % 4 = r := by omega
    rw [hm4]
    match r, hlt with
    | 0, _ => rfl
    | 1, _ => rfl
    | 2, _ => rfl
    | 3, _ => rfl
theorem GrowingU.alloc {pb o : Nat} {S : BookSt} {t0 : Nat → Nat} {w0 : World} {tag : Nat → Nat} {w : World} {B : HalfSt} {more : Nat} (h : GrowingU pb o S t0 w0 tag w B more) (x : Obj) : GrowingU pb o S t0 w0 tag (w.alloc x) B more :=
  ⟨h.mid.alloc x, h.lenL, h.lenM, h.n, h.preL, h.preM⟩
/-- a list and its mark more in the two rows -/
theorem GrowingU.keep {pb o : Nat} {S : BookSt} {t0 : Nat → Nat} {w0 : World} {tag : Nat → Nat} {w w5 w7 : World} {B : HalfSt} {more m n : Nat} {x v' o' : Value} (h : GrowingU pb o S t0 w0 tag w B more) (hx : GL w m x n) (hxt : ∀ q, x.ownBlock = some q → tag q = 10 + 2 * m + 1) (hn : n ≤ 33554432) (hm : m ≤ S.turn) (hlen : lenOf x = n) (hsm : B.M.length < 1000000000000)
    (hg : Grew 29 B.L.length x w w5 B.v v') (hl : Line w5 29 v' (B.L.length + 1) (fun j => if j < B.L.length then B.L.getD j undef else x)) (y : Obj)
    (hg2 : Grew 3 B.M.length (intV m) ((w5.setCell ⟨pb, o + 15, none⟩ v').alloc y) w7 B.o o') (hl2 : Line w7 3 o' (B.M.length + 1) (fun j => if j < B.M.length then intV (B.M.getD j 0) else intV m)) :
    GrowingU pb o S t0 w0 (tagAt (tagAt tag v' 3) o' 4) (w7.setCell ⟨pb, o + 16, none⟩ o') { B with v := v', o := o', L := B.L ++ [x], M := B.M ++ [m] } (more + 1) ∧ GL (w7.setCell ⟨pb, o + 16, none⟩ o') m x n ∧ (∀ q, x.ownBlock = some q → tagAt (tagAt tag v' 3) o' 4 q = 10 + 2 * m + 1) := by
  have h5 := h.mid.addU hg hl
  have h6 := (h5.set 15 (by decide) v').alloc y
  have lx5 : GL w5 m x n := hx.move (fun q hq => hg.other q (hx.lt q hq) (fun e => by have h1 := h.mid.hu.tl' q e; have h2 := hxt q hq; omega))
  have tx5 : ∀ q, x.ownBlock = some q → tagAt tag v' 3 q = 10 + 2 * m + 1 := fun q hq => by
    have := tagAt_old hg h.mid.hu.tl' q (hx.lt q hq)
    exact this.trans (hxt q hq)
  have npb : ∀ q, x.ownBlock = some q → q ≠ pb := fun q hq e => by
    have h1 := hxt q hq
    rw [e, h.mid.tp] at h1
    omega
  have lx6 : GL ((w5.setCell ⟨pb, o + 15, none⟩ v').alloc y) m x n := lx5.move (fun q hq => (heap_alloc_old _ _ (by simpa using lx5.lt q hq)).trans (setCell_else w5 pb (o + 15) q v' (npb q hq)))
  have hLM : B.L.length = B.M.length := by rw [h.lenL, h.lenM]
  have h7 := h6.addUo (m := m) (by simp; omega) hg2 hl2 (by
      show GL _ m ((B.L ++ [x]).getD B.M.length undef) (lenOf ((B.L ++ [x]).getD B.M.length undef))
      rw [getD_last _ _ _ _ hLM, hlen]
      exact lx6) (fun g hgg => by
      have hg' : ((B.L ++ [x]).getD B.M.length undef).ownBlock = some g := hgg
      rw [getD_last _ _ _ _ hLM] at hg'
      exact tx5 g hg') (by
      show lenOf ((B.L ++ [x]).getD B.M.length undef) ≤ _
      rw [getD_last _ _ _ _ hLM, hlen]
      exact hn) hm (fun hh => by
      have h1 : B.n ≤ B.M.length := hh
      rw [h.n] at h1
      omega)
  have h8 := h7.set 16 (by decide) o'
  have lx7 : GL w7 m x n := lx6.move (fun q hq => hg2.other q (lx6.lt q hq) (fun e => by have h1 := h6.hu.to' q e; have h2 := tx5 q hq; omega))
  refine ⟨⟨h8, ?_, ?_, h.n, fun j hj => ?_, fun j hj => ?_⟩, lx7.move (fun q hq => setCell_else w7 pb (o + 16) q o' (npb q hq)), fun q hq => ?_⟩
  · have := h.lenL; simp; omega
  · have := h.lenM; simp; omega
  · show (B.L ++ [x]).getD j undef = _
    rw [getD_old _ _ _ _ (by rw [h.lenL]; omega)]
    exact h.preL j hj
  · show (B.M ++ [m]).getD j 0 = _
    rw [getD_old _ _ _ _ (by rw [h.lenM]; omega)]
    exact h.preM j hj
  · have := tagAt_old hg2 h6.hu.to' q (lx6.lt q hq)
    exact this.trans (tx5 q hq)
theorem info_parts4b {P : Program} {t : TypeId} {z : Value} {s b : Nat} (h : (P.info? t).map (fun i => (i.zero, i.size, i.bytes)) = some (some z, s, b)) : ∃ i, P.info? t = some i ∧ i.zero = some z ∧ i.size = s ∧ i.bytes = b := by
  cases e : P.info? t with
  | none => rw [e] at h; cases h
  | some i => rw [e] at h; simp at h; exact ⟨i, rfl, h.1, h.2.1, h.2.2⟩
theorem Tryz.info31b : (Tryz.prog.info? 31).map (fun i => (i.zero, i.size, i.bytes)) = some (some (.agg #[.int .i64 0, .int .i64 0, .slice none 0 0, .slice none 0 0]), 4, 64) := by kernel_rfl
theorem growRepl_any {w : World} {pb o : Nat} {tag : Nat → Nat} {S : BookSt} (h : BookAt w pb o tag S) :
    Calls Tryz.prog 105 #[.pointer (some ⟨pb, o, none⟩)] w fun e w' => e = .returned (.tuple #[]) ∧ ∃ tag' S', BookAt w' pb o tag' S' ∧ S'.turn = S.turn ∧ S'.done = S.done ∧ Noted pb o tag tag' w w' := by
  obtain ⟨i0, hi, hy0, hy1, hy2⟩ := info_parts Tryz.info29
  obtain ⟨i3, hi3, hz0, hz1, hz2⟩ := info_parts Bk.Tryz.info3
  obtain ⟨i5, hi5, hx0, hx1, hx2⟩ := info_parts4b Tryz.info31b
  have c0 : w.cell? ⟨pb, o + 15, none⟩ = some S.u.v := h.fl.c 15 (by decide)
  have c2 : w.cell? ⟨pb, o + 17, none⟩ = some (.int .i64 (S.u.n : Nat)) := h.fl.c 17 (by decide)
  have hcnt := h.cnt
  have hus := h.us
  have hnb := h.nu
  have hnu := h.nb
  have htn := h.tn
  have hml : S.u.M.length ≤ 200000 := by omega
  have hbig : 10 * S.u.M.length ≤ 9 * S.u.n + 139900 := by omega
  have HS := hide h
  have HST := hide (growU_start h (by omega))
  obtain ⟨a0, cp0, hv0⟩ := h.hu.rl.shape
  rw [h.eu] at hv0
  rw [hv0] at c0
  clear h hcnt hus hnu hv0
  generalize hN : S.u.M.length = N at *
  generalize hnn : S.u.n = nb at *
  have HN := hide hN
  have HNN := hide hnn
  clear hN hnn
  go_enter Tryz.func105, Tryz.ntmps105
  go_wp2_with fail
  go_loopw [3, 4] (fun k g wq => ∃ (kk : Nat) (B : HalfSt) (tg : Nat → Nat), nb ≤ kk ∧ kk ≤ N ∧ k = .int .i64 kk ∧ GrowingU pb o S tag w tg wq B (5 * (kk - nb))) (fun k _ _ => N - (intOf k).toNat)
  case atStart => exact ⟨nb, _, tag, by omega, by omega, rfl, by rw [Nat.sub_self]; exact unhide HST⟩
  case round =>
    obtain ⟨kk, B, tg, hk1, hk2, rfl, hgr⟩ := hrel
    rename World => wq
    by_cases hlt : kk < N
    · have d1 : decide ((kk : Int) < (N : Int)) = true := decide_eq_true (by omega)
      have d1' : decide (kk < N) = true := decide_eq_true hlt
      have hlL : B.L.length = N + 5 * (kk - nb) := by rw [hgr.lenL, unhide HN]
      have hlM : B.M.length = N + 5 * (kk - nb) := by rw [hgr.lenM, unhide HN]
      obtain ⟨e1, e2, e3, e4⟩ := hgr.mid.hu.ent kk (by omega)
      have hfr : lenOf (B.L.getD kk undef) ≤ 16777216 := by
        rw [hgr.preL kk (by rw [unhide HN]; exact hlt)]
        exact (unhide HS).hu.fresh kk (by rw [unhide HNN]; exact hk1) (by rw [unhide HN]; exact hlt)
      obtain ⟨gL, capL, hvL, _, hcL⟩ := hgr.mid.hu.rl.at (by omega)
      obtain ⟨gM, capM, hvM, _, hcM⟩ := hgr.mid.hu.ro.at (by omega)
      have ckL := (hcL kk (by omega)).1
      have ckM := (hcM kk (by omega)).1
      have c0' : wq.cell? ⟨pb, o + 15, none⟩ = some B.v := hgr.mid.fl.c 15 (by decide)
      have c1' : wq.cell? ⟨pb, o + 16, none⟩ = some B.o := hgr.mid.fl.c 16 (by decide)
      rw [hvL] at c0'
      rw [hvM] at c1'
      obtain ⟨ag, cg, hg0⟩ := e1.shape
      have HGR := hide hgr
      clear hvL hvM hcL hcM
      generalize B.L.getD kk undef = g0 at *
      generalize hm0 : B.M.getD kk 0 = m at *
      generalize lenOf g0 = len0 at *
      subst hg0
      have HE1 := hide e1
      have HE2 := hide e2
      have y0 : (0 : Int) ≤ (kk : Int) := by omega
      have y1 : (kk : Int) < (B.L.length : Int) := by omega
      have y2 : (kk : Int) < (B.M.length : Int) := by omega
      have ckM' : wq.cell? ⟨gM, kk, none⟩ = some (.int .i64 (m : Nat)) := ckM
      have hm4 : m ≤ 1000000 := by omega
      have hmT := hide e4
      clear e1 e2 e3 e4 hgr hm0 ckM
      have HlL := hide hlL
      have HlM := hide hlM
      have hb1 : B.L.length ≤ 140000 := by omega
      clear hlL hlM
      go_wp2_with fail
      go_loopw [4, 6] (fun g i wz => ∃ (c : Nat) (B' : HalfSt) (tg' : Nat → Nat), 1 ≤ c ∧ c ≤ 33 ∧ i = .int .i64 c ∧ GrowingU pb o S tag w tg' wz B' (5 * (kk - nb) + keptN (c - 1)) ∧ GL wz m g (len0 + (c - 1)) ∧ (∀ q, g.ownBlock = some q → tg' q = 10 + 2 * m + 1)) (fun _ i _ => 33 - (intOf i).toNat)
      case atStart => exact ⟨1, B, tg, by omega, by omega, rfl, unhide HGR, unhide HE1, unhide HE2⟩
      case round =>
        clear HGR HE1 HE2 c0' c1' ckL ckM' y1 y2 hb1 HlL HlM
        obtain ⟨c, B', tg', hc1, hc2, rfl, hgz, hlz, htz⟩ := hrel
        rename World => wz
        obtain ⟨az, cz, rfl⟩ := hlz.shape
        by_cases hc3 : c ≤ 32
        · have d2 : decide ((c : Int) ≤ 32) = true := decide_eq_true (by omega)
          have d2' : decide (c ≤ 32) = true := decide_eq_true hc3
          have hkn := keptN_le (c - 1) (by omega)
          have hlL : B'.L.length = N + (5 * (kk - nb) + keptN (c - 1)) := by rw [hgz.lenL, unhide HN]
          have hlM : B'.M.length = N + (5 * (kk - nb) + keptN (c - 1)) := by rw [hgz.lenM, unhide HN]
          have hb1 : B'.L.length ≤ 140000 := by omega
          have hb2 : B'.M.length ≤ 140000 := by omega
          have HGZ := hide hgz
          have HLZ := hide hlz
          have HTZ := hide htz
          obtain ⟨n, hn⟩ : ∃ n, n = len0 + (c - 1) := ⟨_, rfl⟩
          have hn2 : n ≤ 16777400 := by omega
          have HNE := hide hn
          rw [← hn] at HLZ HTZ ⊢
          have HMK := hide (rmark_any m wz (by omega))
          have HRG : Hid (∀ w2, Below wz.heap.size wz w2 → GrowingU pb o S tag w tg' w2 B' (5 * (kk - nb) + keptN (c - 1))) := hide (fun w2 hb => hgz.below hb)
          have HRW : Hid (∀ w2 x, Below wz.heap.size wz w2 → GL (w2.alloc x) m (.slice az n cz) n) := hide (fun w2 x hb => GL.alloc ((unhide HLZ).move (fun q hq => hb.block q ((unhide HLZ).lt q hq))) x)
          have HMC : Hid (∀ w2 : World, ∀ j x, [Value.int .i64 0, .int .i64 ((m : Int) * 1048576), .slice none 0 0, .slice none 0 0][j]? = some x → (w2.alloc (.cells #[.int .i64 0, .int .i64 ((m : Int) * 1048576), .slice none 0 0, .slice none 0 0] 31)).cell? ⟨w2.heap.size, j, none⟩ = some x) := hide (fun w2 j x hx => by
            rw [cell_of_row _ _ _ _ _ _ (heap_alloc_new w2 _)]
            simpa using hx)
          clear hgz hlz htz hn hlL hlM hkn
          go_wp2_with (first
            | (go_at_call 120; with_reducible refine (unhide HMK).mono ?_; rintro e w2 ⟨rfl, hb2⟩)
            | (at_builtin; refine append_rws rfl _ _ 29 rfl 31 i5 _ 4 64 Tryz.underlying29 hi5 hx0 hx1 hx2 rfl 31 (.slice az n cz) n (rmk m) rfl (unhide HRW w2 _ (unhide hb2)) (.inl rfl) w2.heap.size 1 rfl [.int .i64 0, .int .i64 ((m : Int) * 1048576), .slice none 0 0, .slice none 0 0] (by decide) rfl (unhide HMC w2) (by simp [Value.oneCell']) (by omega) (by omega) ?_))
          intro g' w4 hl4 hg4
          have hl4' : GL w4 m g' (n + 1) := GL.grew hl4
          have hgz4 := ((unhide HRG w2 (unhide hb2)).alloc _).more (m := m) hg4 hl4' (unhide HTZ)
          have ht4 : ∀ q, g'.ownBlock = some q → tagAt tg' g' (10 + 2 * m + 1) q = 10 + 2 * m + 1 := fun q hq => tagAt_self tg' g' _ q hq
          obtain ⟨a4, cp4, rfl⟩ := hl4.shape
          have HG4 := hide hgz4
          have HL4 := hide hl4'
          have HT4 := hide ht4
          generalize tagAt tg' (.slice a4 (n + 1) cp4) (10 + 2 * m + 1) = tg4 at *
          clear hl4 hg4 hgz4 hl4' ht4 HMK HRG HRW HMC HGZ HLZ HTZ hb2
          by_cases hkp : c < 4 ∨ c % 16 = 0
          · have HKN := hide (keptN_yes c hc1 hkp)
            have e16 : (c : Int).tmod 16 = ((c % 16 : Nat) : Int) := rfl
            have c40 : w4.cell? ⟨pb, o + 15, none⟩ = some B'.v := (unhide HG4).mid.fl.c 15 (by decide)
            have f40 : w4.frozen? ⟨pb, o + 15, none⟩ = false := (unhide HG4).mid.fl.f 15 (by decide)
            have HLE := hide (show lenOf (Value.slice a4 (n + 1) cp4) = n + 1 from rfl)
            have hlb := hfr
            have HMT := hmT
            by_cases h4 : c < 4
            · have d4 : decide ((c : Int) < 4) = true := decide_eq_true (by omega)
              have d4' : decide (c < 4) = true := decide_eq_true h4
              clear hkp e16
              go_wp2_with (at_builtin; refine append_line rfl _ _ 42 rfl 29 i0 (.slice none 0 0) 24 Tryz.underlying42 hi hy0 hy1 hy2 rfl _ _ _ rfl ((unhide HG4).alloc _).mid.hu.rl w4.heap.size rfl (.slice a4 (n + 1) cp4) ?q1 rfl ?q2 ?q3 ?_)
              case q1 => exact cell_made rfl _ _
              case q2 => omega
              case q3 => omega
              intro v5 w5 hl5 hg5
              obtain ⟨a5, cp5, rfl⟩ := hl5.shape
              have hM5 := ((unhide HG4).alloc _).mid.addU hg5 hl5
              have c50 : w5.cell? ⟨pb, o + 15, none⟩ = some B'.v := hM5.fl.c 15 (by decide)
              have f50 : w5.frozen? ⟨pb, o + 15, none⟩ = false := hM5.fl.f 15 (by decide)
              have c51 : w5.cell? ⟨pb, o + 16, none⟩ = some B'.o := hM5.fl.c 16 (by decide)
              have f51 := hM5.fl.f 16 (by decide)
              have HM6 := hide (hM5.set 15 (by decide) (.slice a5 (B'.L.length + 1) cp5))
              have HG5 := hide hg5
              have HL5 := hide hl5
              clear hM5 hg5 hl5 c40 f40
              go_wp2_with (at_builtin; refine append_line rfl _ _ 37 rfl 3 i3 (.int .i64 0) 8 Tryz.underlying37 hi3 hz0 hz1 hz2 rfl _ _ _ rfl ((unhide HM6).alloc _).hu.ro w5.heap.size rfl (.int .i64 (m : Nat)) ?r1 rfl ?r2 ?r3 ?_)
              case r1 => exact cell_made (by simp) _ _
              case r2 => omega
              case r3 => omega
              intro o7 w7 hl7 hg7
              obtain ⟨a7, cp7, rfl⟩ := hl7.shape
              have hF7 := Grew.flds ((unhide HM6).alloc _).fl hg7 (unhide HM6).hu.to' (by decide) (unhide HM6).tp
              have c71 : w7.cell? ⟨pb, o + 16, none⟩ = some B'.o := hF7.c 16 (by decide)
              have f71 := hF7.f 16 (by decide)
              have hk := GrowingU.keep (m := m) ((unhide HG4).alloc _) ((unhide HL4).alloc _) (unhide HT4) (by omega) (unhide hmT) rfl (by omega) (unhide HG5) (unhide HL5) _ hg7 hl7
              have HEN : Hid (∃ (Bf : HalfSt) (tf : Nat → Nat), GrowingU pb o S tag w tf (w7.setCell ⟨pb, o + 16, none⟩ (.slice a7 (B'.M.length + 1) cp7)) Bf (5 * (kk - nb) + keptN c) ∧ GL (w7.setCell ⟨pb, o + 16, none⟩ (.slice a7 (B'.M.length + 1) cp7)) m (.slice a4 (n + 1) cp4) (len0 + c) ∧ (∀ q, Value.ownBlock (.slice a4 (n + 1) cp4) = some q → tf q = 10 + 2 * m + 1)) := hide (by
                rw [unhide HKN, ← Nat.add_assoc]
                have e1 : len0 + c = n + 1 := by have := unhide HNE; omega
                rw [e1]
                exact ⟨_, _, hk.1, hk.2.1, hk.2.2⟩)
              clear hk hF7 hl7 hg7 HM6 HG5 HL5 HG4 HL4 HT4 c50 f50 c51 f51
              go_wp2_with fail
              obtain ⟨Bf, tf, k1, k2, k3⟩ := unhide HEN
              go_roundw
              case rel => exact ⟨c + 1, Bf, tf, by omega, by omega, by go_num, k1, k2, k3⟩
              case measure => simp [intOf]; omega
            · have d4 : decide ((c : Int) < 4) = false := decide_eq_false (by omega)
              have d4' : decide (c < 4) = false := decide_eq_false h4
              have h16 : c % 16 = 0 := by omega
              rw [h16] at e16
              have e16' : (c : Int).tmod 16 = 0 := e16
              clear hkp e16 h16
              go_wp2_with (at_builtin; refine append_line rfl _ _ 42 rfl 29 i0 (.slice none 0 0) 24 Tryz.underlying42 hi hy0 hy1 hy2 rfl _ _ _ rfl ((unhide HG4).alloc _).mid.hu.rl w4.heap.size rfl (.slice a4 (n + 1) cp4) ?q1 rfl ?q2 ?q3 ?_)
              case q1 => exact cell_made rfl _ _
              case q2 => omega
              case q3 => omega
              intro v5 w5 hl5 hg5
              obtain ⟨a5, cp5, rfl⟩ := hl5.shape
              have hM5 := ((unhide HG4).alloc _).mid.addU hg5 hl5
              have c50 : w5.cell? ⟨pb, o + 15, none⟩ = some B'.v := hM5.fl.c 15 (by decide)
              have f50 : w5.frozen? ⟨pb, o + 15, none⟩ = false := hM5.fl.f 15 (by decide)
              have c51 : w5.cell? ⟨pb, o + 16, none⟩ = some B'.o := hM5.fl.c 16 (by decide)
              have f51 := hM5.fl.f 16 (by decide)
              have HM6 := hide (hM5.set 15 (by decide) (.slice a5 (B'.L.length + 1) cp5))
              have HG5 := hide hg5
              have HL5 := hide hl5
              clear hM5 hg5 hl5 c40 f40
              go_wp2_with (at_builtin; refine append_line rfl _ _ 37 rfl 3 i3 (.int .i64 0) 8 Tryz.underlying37 hi3 hz0 hz1 hz2 rfl _ _ _ rfl ((unhide HM6).alloc _).hu.ro w5.heap.size rfl (.int .i64 (m : Nat)) ?r1 rfl ?r2 ?r3 ?_)
              case r1 => exact cell_made (by simp) _ _
              case r2 => omega
              case r3 => omega
              intro o7 w7 hl7 hg7
              obtain ⟨a7, cp7, rfl⟩ := hl7.shape
              have hF7 := Grew.flds ((unhide HM6).alloc _).fl hg7 (unhide HM6).hu.to' (by decide) (unhide HM6).tp
              have c71 : w7.cell? ⟨pb, o + 16, none⟩ = some B'.o := hF7.c 16 (by decide)
              have f71 := hF7.f 16 (by decide)
              have hk := GrowingU.keep (m := m) ((unhide HG4).alloc _) ((unhide HL4).alloc _) (unhide HT4) (by omega) (unhide hmT) rfl (by omega) (unhide HG5) (unhide HL5) _ hg7 hl7
              have HEN : Hid (∃ (Bf : HalfSt) (tf : Nat → Nat), GrowingU pb o S tag w tf (w7.setCell ⟨pb, o + 16, none⟩ (.slice a7 (B'.M.length + 1) cp7)) Bf (5 * (kk - nb) + keptN c) ∧ GL (w7.setCell ⟨pb, o + 16, none⟩ (.slice a7 (B'.M.length + 1) cp7)) m (.slice a4 (n + 1) cp4) (len0 + c) ∧ (∀ q, Value.ownBlock (.slice a4 (n + 1) cp4) = some q → tf q = 10 + 2 * m + 1)) := hide (by
                rw [unhide HKN, ← Nat.add_assoc]
                have e1 : len0 + c = n + 1 := by have := unhide HNE; omega
                rw [e1]
                exact ⟨_, _, hk.1, hk.2.1, hk.2.2⟩)
              clear hk hF7 hl7 hg7 HM6 HG5 HL5 HG4 HL4 HT4 c50 f50 c51 f51
              go_wp2_with fail
              obtain ⟨Bf, tf, k1, k2, k3⟩ := unhide HEN
              go_roundw
              case rel => exact ⟨c + 1, Bf, tf, by omega, by omega, by go_num, k1, k2, k3⟩
              case measure => simp [intOf]; omega
          · have HKN := hide (keptN_no c hc1 hkp)
            have e16 : (c : Int).tmod 16 = ((c % 16 : Nat) : Int) := rfl
            have h4 : ¬ c < 4 := fun h => hkp (.inl h)
            have h16 : ¬ c % 16 = 0 := fun h => hkp (.inr h)
            have d4 : decide ((c : Int) < 4) = false := decide_eq_false (by omega)
            have d4' : decide (c < 4) = false := decide_eq_false h4
            generalize c % 16 = r at *
            have d5 : ((r : Int) == 0) = false := by rw [beq_eq_false_iff_ne]; omega
            have d5' : (r == 0) = false := by rw [beq_eq_false_iff_ne]; exact h16
            have HEN : Hid (GrowingU pb o S tag w tg4 w4 B' (5 * (kk - nb) + keptN c) ∧ GL w4 m (.slice a4 (n + 1) cp4) (len0 + c)) := hide (by
              rw [unhide HKN]
              have e1 : len0 + c = n + 1 := by have := unhide HNE; omega
              rw [e1]
              exact ⟨unhide HG4, unhide HL4⟩)
            clear hkp h16
            go_wp2_with fail
            go_roundw
            case rel => exact ⟨c + 1, B', tg4, by omega, by omega, by go_num, (unhide HEN).1, (unhide HEN).2, unhide HT4⟩
            case measure => simp [intOf]; omega
        · have d2 : decide ((c : Int) ≤ 32) = false := decide_eq_false (by omega)
          have d2' : decide (c ≤ 32) = false := decide_eq_false hc3
          have hce : c = 33 := by omega
          subst hce
          have HEN : Hid (GrowingU pb o S tag w tg' wz B' (5 * (kk + 1 - nb))) := hide (by
            have e1 : 5 * (kk + 1 - nb) = 5 * (kk - nb) + keptN (33 - 1) := by
              have : keptN (33 - 1) = 5 := rfl
              omega
            rw [e1]
            exact hgz)
          clear hgz hlz htz
          go_wp2_with fail
          go_roundw
          case rel => exact ⟨kk + 1, B', tg', by omega, by omega, by go_num, unhide HEN⟩
          case measure => simp [intOf]; omega
    · have d1 : decide ((kk : Int) < (N : Int)) = false := decide_eq_false (by omega)
      have d1' : decide (kk < N) = false := decide_eq_false hlt
      have hke : kk = N := by omega
      have c0' : wq.cell? ⟨pb, o + 15, none⟩ = some B.v := hgr.mid.fl.c 15 (by decide)
      have c2' : wq.cell? ⟨pb, o + 17, none⟩ = some (.int .i64 (nb : Nat)) := by rw [← unhide HNN]; exact hgr.mid.fl.c 17 (by decide)
      have f2' := hgr.mid.fl.f 17 (by decide)
      have hset := hgr.mid.set 17 (by decide) (intV B.L.length)
      have HEN : Hid (∃ tag' S', BookAt (wq.setCell ⟨pb, o + 17, none⟩ (.int .i64 (B.L.length : Nat))) pb o tag' S' ∧ S'.turn = S.turn ∧ S'.done = S.done ∧ Noted pb o tag tag' w (wq.setCell ⟨pb, o + 17, none⟩ (.int .i64 (B.L.length : Nat)))) := hide (by
        have hh := unhide HS
        have h1 := hh.cnt
        have h2 := hh.nb
        have h3 := hgr.lenL
        have h4 := hgr.lenM
        rw [unhide HN] at h3 h4
        rw [unhide HN, unhide HNN] at h1
        refine ⟨tg, { S with u := { B with n := B.L.length } }, ⟨hset.fl, hset.hb, hset.hu.over _ (by omega), hset.un, hset.tp, hh.eb, ?_, hh.nb, ?_, ?_, hh.us, hh.tn⟩, rfl, rfl, hset.no⟩
        · show B.L.length = B.M.length
          omega
        · show B.L.length ≤ B.M.length
          omega
        · show 1200 * S.b.M.length + 1200 * B.M.length ≤ S.used + 1080 * S.b.n + 1080 * B.L.length
          rw [h3, h4]
          omega)
      obtain ⟨a1, cp1, hv1⟩ := hgr.mid.hu.rl.shape
      rw [hv1] at c0'
      have hll : B.L.length ≤ 2000000 := by have := hgr.lenL; rw [unhide HN] at this; omega
      clear hgr hset hv1
      go_wp2
      go_end0
      exact ⟨rfl, unhide HEN⟩
end Go.Proofs.YtecfgbjnjgjkoaaGreatDoor.Bp
