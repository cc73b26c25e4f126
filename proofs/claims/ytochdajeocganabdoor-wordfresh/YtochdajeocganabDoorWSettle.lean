/- words2: settle. -/
import Derived.Test.YtochdajeocganabDoorSettle
namespace Go.Proofs.YtochdajeocganabDoor
open Go.ChangeShapes Go.WideShapes Go.ChangeAt Go.RowKit
set_option linter.unusedVariables false
set_option maxRecDepth 100000
set_option maxHeartbeats 8000000

set_option maxHeartbeats 400000 in
theorem samew_quiet (a a' : Option Addr) (cap cap' : Nat) (w : World) (l : List Nat) (hl : l.length ≤ 140737488355328) (hB : Words w a l) (hB' : Words w a' l) :
    Calls Tryd.prog 12 #[.slice a l.length cap, .slice a' l.length cap'] w fun e w' => e = .returned (.bool true) ∧ ∃ n, w' = w.drewN n := by
  rcases hB with rfl | ⟨b, off, rfl, hb, hc⟩
  · go_enter Tryd.func12, Tryd.ntmps12
    go_wp2_with fail
    go_loopw [5] (fun i wr => i = .int .i64 0 ∧ wr = w) (fun _ _ => 0)
    case atStart => exact ⟨rfl, rfl⟩
    case round =>
      obtain ⟨rfl, rfl⟩ := hrel
      go_wp2
      go_ret
      exact ⟨rfl, 0, rfl⟩
  · rcases hB' with h0 | ⟨b', off', rfl, hb', hc'⟩
    · subst h0
      go_enter Tryd.func12, Tryd.ntmps12
      go_wp2_with fail
      go_loopw [5] (fun i wr => i = .int .i64 0 ∧ wr = w) (fun _ _ => 0)
      case atStart => exact ⟨rfl, rfl⟩
      case round =>
        obtain ⟨rfl, rfl⟩ := hrel
        go_wp2
        go_ret
        exact ⟨rfl, 0, rfl⟩
    · have HC := hide hc
      have HC' := hide hc'
      clear hc hc'
      go_enter Tryd.func12, Tryd.ntmps12
      go_wp2_with fail
      go_loopw [5] (fun i wr => ∃ k n : Nat, k ≤ l.length ∧ i = .int .i64 k ∧ wr = w.drewN n) (fun i _ => l.length - (intOf i).toNat)
      case atStart => exact ⟨0, 0, by omega, rfl, rfl⟩
      case round =>
        obtain ⟨k, n, hk, rfl, rfl⟩ := hrel
        by_cases hlt : k < l.length
        · have c1 := unhide HC k hlt
          have c2 := unhide HC' k hlt
          generalize l.getD k 0 = c at c1 c2
          go_wp2
          go_quiet (fail)
          go_wp2
          go_roundw
          case rel => exact ⟨k + 1, _, by omega, by go_num, rfl⟩
          case measure => simp [intOf]; omega
        · go_wp2
          go_ret
          exact ⟨rfl, n, rfl⟩
theorem Rd.wordsOf {w : World} {v : Value} {l : List Nat} (h : Rd w v l.length (fun k => u64V (l.getD k 0))) : ∃ a cap, v = .slice a l.length cap ∧ Words w a l := by
  obtain ⟨a, cap, hv, h1, h2⟩ := h
  refine ⟨a, cap, hv, ?_⟩
  rcases h1 with h1 | ⟨g, rfl, h1⟩
  · exact .inl (List.eq_nil_of_length_eq_zero h1)
  · exact .inr ⟨g, 0, rfl, h2 g (by rw [hv]; rfl), fun i hi => by rw [Nat.zero_add]; exact h1 i hi⟩
def WFine (M : TwoSt) : Prop := ∀ j, j < M.G.length → (M.X.getD j []).length ≤ 17592186044417
theorem wsettle_any {B0 : Nat} {w0 w : World} {pb pl pw : Nat} {tag lt : Nat → Nat} {S : BookSt} {L M : TwoSt} (h : St B0 w0 w pb pl pw tag lt S L M) (h0 : B0 ≤ w.heap.size) (hT : S.turn + M.G.length < 1000000) (hX : WFine M) :
    Calls Tryd.prog 17 #[.pointer (some ⟨pw, 0, none⟩), .pointer (some ⟨pb, 0, none⟩)] w fun e w' => e = .returned (.bool true) ∧ ∃ tag' lt' S', St B0 w0 w' pb pl pw tag' lt' S' L TwoSt.none ∧ S'.turn ≤ S.turn + M.G.length ∧ w.heap.size ≤ w'.heap.size := by
  obtain ⟨aG, cG, hvG⟩ := h.words.rg.shape
  have c0 := h.words.c0
  rw [hvG] at c0
  have hG : M.G.length ≤ 1000000 := by omega
  have HST := hide h
  have HC : Hid (∀ wq, Still w wq → wq.cell? ⟨pw, 0, none⟩ = some (.slice aG M.G.length cG)) := hide (fun wq k => by rw [k.cell]; exact c0)
  obtain ⟨he1, he2⟩ := h.e2
  have HE1 := hide he1
  have HB : Hid (∀ wq, Still w wq → ∀ k, k < M.G.length → ∃ gL gW capL capW a1 cp1 a2 cp2, wq.cell? ⟨pw, 0, none⟩ = some (.slice (some ⟨gL, 0, none⟩) M.G.length capL) ∧ wq.cell? ⟨pw, 1, none⟩ = some (.slice (some ⟨gW, 0, none⟩) M.G.length capW) ∧ wq.cell? ⟨gL, k, none⟩ = some (.slice a1 (M.X.getD k []).length cp1) ∧ wq.cell? ⟨gW, k, none⟩ = some (.slice a2 (M.X.getD k []).length cp2) ∧ Words wq a1 (M.X.getD k []) ∧ Words wq a2 (M.X.getD k [])) := hide (fun wq k j hj => by
    have hbl : Below w.heap.size w wq := ⟨k.os, k.tape, k.output, by rw [k.heap]; exact Nat.le_refl _, fun g _ => by rw [k.heap]⟩
    have hl := h.words.below hbl
    obtain ⟨gL, capL, hvL, _, hcL⟩ := hl.rg.at (by omega)
    obtain ⟨gW, capW, hvW, _, hcW⟩ := hl.rw.at (by omega)
    obtain ⟨a1, cp1, e1, b1⟩ := (hl.eg j hj).1.rd.wordsOf
    obtain ⟨a2, cp2, e2, b2⟩ := (hl.ew j (by omega)).1.wordsOf
    refine ⟨gL, gW, capL, capW, a1, cp1, a2, cp2, ?_, ?_, ?_, ?_, b1, b2⟩
    · rw [← hvL]; exact hl.c0
    · rw [← he1, ← hvW]; exact hl.c1
    · rw [← e1]; exact (hcL j hj).1
    · rw [← e2]; exact (hcW j (by omega)).1)
  have HX := hide hX
  have HH0 : Hid (Hand 1 B0 w0 w w pb tag lt S 0) := hide (Hand.start h h0)
  clear h hvG he1 he2 hX
  go_enter Tryd.func17, Tryd.ntmps17
  go_wp2_with fail
  go_loopw [5] (fun i wq => ∃ k : Nat, k ≤ M.G.length ∧ i = .int .i64 k ∧ Still w wq) (fun i _ => M.G.length - (intOf i).toNat)
  case atStart => exact ⟨0, by omega, rfl, Still.refl _⟩
  case round =>
    obtain ⟨k, hk, rfl, hst⟩ := hrel
    rename World => wq
    by_cases hkl : k < M.G.length
    · have d2 : decide ((k : Int) < (M.G.length : Int)) = true := decide_eq_true (by omega)
      have d2' : decide (k < M.G.length) = true := decide_eq_true hkl
      have y0 : (0 : Int) ≤ (k : Int) := by omega
      have y1 : (k : Int) < (M.G.length : Int) := by omega
      obtain ⟨gL, gW, capL, capW, a1, cp1, a2, cp2, z0, z1, z2, z3, b1, b2⟩ := unhide HB wq hst k hkl
      have HSM := hide (fun n' : Nat => samew_quiet a1 a2 cp1 cp2 (wq.drewN n') (M.X.getD k []) (by have := (unhide HX k hkl); omega) b1 b2)
      generalize (M.X.getD k []).length = ln at *
      have HS := hide hst
      clear hst b1 b2
      go_wp2_with fail
      go_quiet (first | (go_at_call 12; exact Calls.quiet_of (unhide HSM _)))
      have HS9 := hide ((unhide HS).drew nq)
      clear HS z0 z1 z2 z3
      generalize wq.drewN nq = w9 at *
      go_wp2_with fail
      go_roundw
      case rel => exact ⟨k + 1, by omega, by go_num, unhide HS9⟩
      case measure => simp [intOf]; omega
    · have d2 : decide ((k : Int) < (M.G.length : Int)) = false := decide_eq_false (by omega)
      have d2' : decide (k < M.G.length) = false := decide_eq_false hkl
      have hbl : Below w.heap.size w wq := ⟨hst.os, hst.tape, hst.output, by rw [hst.heap]; exact Nat.le_refl _, fun g _ => by rw [hst.heap]⟩
      have hStq := (unhide HST).below hbl h0
      have hszq : wq.heap.size = w.heap.size := by rw [hst.heap]
      have c0q := unhide HC wq hst
      have HH : Hid (Hand 1 B0 w0 wq wq pb tag lt S 0) := hide (Hand.start hStq (by omega))
      have HF : Hid (∀ wz tag' S' j, Hand 1 B0 w0 wq wz pb tag' lt S' j → wz.cell? ⟨pw, 0, none⟩ = some (.slice aG M.G.length cG) ∧ (j < M.G.length → ∃ gL capL ln a1 cp1 f, wz.cell? ⟨pw, 0, none⟩ = some (.slice (some ⟨gL, 0, none⟩) M.G.length capL) ∧ wz.cell? ⟨gL, j, none⟩ = some (.slice a1 ln cp1) ∧ ln ≤ 17592186044417 ∧ Line wz 45 (.slice a1 ln cp1) ln f ∧ (∀ g, Value.ownBlock (.slice a1 ln cp1) = some g → lt g = 30 + 2 * j + 1 ∧ B0 ≤ g ∧ tag' g = 0 ∧ g ≠ pb))) := hide (fun wz tag' S' j hh => by
        have sp := hh.safe pw (by rw [hStq.words.tp]; decide) (fun i _ => by rw [hStq.words.tp]; omega)
        have hcp : wz.cell? ⟨pw, 0, none⟩ = wq.cell? ⟨pw, 0, none⟩ := World.cell?_of_block (a := ⟨pw, 0, none⟩) sp.2.2.2
        refine ⟨hcp.trans c0q, fun hj => ?_⟩
        obtain ⟨gL, capL, hvL, hgL, hcL⟩ := hStq.words.rg.at (by omega)
        have tL := hStq.words.tg gL hgL
        have sL := hh.safe gL (by rw [tL]; decide) (fun i _ => by rw [tL]; omega)
        obtain ⟨hl, htg⟩ := hStq.words.eg j hj
        obtain ⟨a1, cp1, e1⟩ := hl.shape
        have hsf : ∀ g, (M.G.getD j undef).ownBlock = some g → g < wz.heap.size ∧ tag' g = 0 ∧ g ≠ pb ∧ wz.heap[g]? = wq.heap[g]? := fun g hg => hh.safe g (by rw [htg g hg]; omega) (fun i hi => by rw [htg g hg]; omega)
        have hl' := hl.same (w' := wz) (fun g hg => (hsf g hg).2.2.2)
        rw [e1] at hl' htg hsf
        refine ⟨gL, capL, (M.X.getD j []).length, a1, cp1, _, ?_, ?_, unhide HX j hj, hl', fun g hg => ⟨htg g hg, hStq.bl g (by rw [htg g hg]; omega), (hsf g hg).2.1, (hsf g hg).2.2.1⟩⟩
        · rw [← hvL]; exact hcp.trans hStq.words.c0
        · rw [← e1]; exact (World.cell?_of_block (a := ⟨gL, j, none⟩) sL.2.2.2).trans (hcL j hj).1)
      have HSQ := hide hStq
      have hbp := hStq.bp
      clear hst hbl hStq
      go_wp2_with fail
      go_loopw [6] (fun i wz => ∃ (j : Nat) (tag' : Nat → Nat) (S' : BookSt), j ≤ M.G.length ∧ i = .int .i64 j ∧ Hand 1 B0 w0 wq wz pb tag' lt S' j ∧ S'.turn = S.turn + j) (fun i _ => M.G.length - (intOf i).toNat)
      case atStart => exact ⟨0, tag, S, by omega, rfl, unhide HH, rfl⟩
      case round =>
        obtain ⟨j, tag', S', hj, rfl, hh, htn⟩ := hrel
        rename World => wz
        obtain ⟨z0, hr⟩ := unhide HF wz tag' S' j hh
        by_cases hjl : j < M.G.length
        · have d3 : decide ((j : Int) < (M.G.length : Int)) = true := decide_eq_true (by omega)
          have d3' : decide (j < M.G.length) = true := decide_eq_true hjl
          have y0 : (0 : Int) ≤ (j : Int) := by omega
          have y1 : (j : Int) < (M.G.length : Int) := by omega
          obtain ⟨gL, capL, ln, a1, cp1, f, z1, z2, hln, hl, hg⟩ := hr hjl
          have HTK := hide (take_words hh.book (by omega) (.slice a1 ln cp1) ln f hl (fun g hgg => ⟨(hg g hgg).2.2.1, (hg g hgg).2.2.2⟩) (by omega))
          have HHH := hide hh
          have HGG := hide hg
          have HTN := hide htn
          clear hh hl hg hr htn z0
          go_wp2_with fail
          refine (unhide HTK).mono ?_
          rintro e w7 ⟨rfl, t7, S7, b7, q7, n7⟩
          have HEN : Hid (Hand 1 B0 w0 wq w7 pb t7 lt S7 (j + 1) ∧ S7.turn = S.turn + (j + 1)) := hide ⟨(unhide HHH).step hbp (fun g hgg => ⟨(unhide HGG g hgg).1, (unhide HGG g hgg).2.1⟩) b7 n7, by have := unhide HTN; omega⟩
          clear b7 q7 n7 HTK
          go_wp2_with fail
          go_roundw
          case rel => exact ⟨j + 1, t7, S7, by omega, by go_num, (unhide HEN).1, (unhide HEN).2⟩
          case measure => simp [intOf]; omega
        · have d3 : decide ((j : Int) < (M.G.length : Int)) = false := decide_eq_false (by omega)
          have d3' : decide (j < M.G.length) = false := decide_eq_false hjl
          have hE := St.empty1 (unhide HSQ) hh
          have sp := hh.safe pw (by rw [(unhide HSQ).words.tp]; decide) (fun i _ => by rw [(unhide HSQ).words.tp]; omega)
          have z1 : wz.cell? ⟨pw, 1, none⟩ = some M.vw := (World.cell?_of_block (a := ⟨pw, 1, none⟩) sp.2.2.2).trans (unhide HSQ).words.c1
          have f0 : wz.frozen? ⟨pw, 0, none⟩ = false := (World.frozen?_of_block (a := ⟨pw, 0, none⟩) sp.2.2.2).trans (unhide HSQ).words.f0
          have f1 : wz.frozen? ⟨pw, 1, none⟩ = false := (World.frozen?_of_block (a := ⟨pw, 1, none⟩) sp.2.2.2).trans (unhide HSQ).words.f1
          have hsz9 : B0 ≤ ((wz.setCell ⟨pw, 0, none⟩ nilS).setCell ⟨pw, 1, none⟩ nilS).heap.size := by have := hh.sz; simpa using this
          have HLK := hide (look_any hE.book)
          have hsz8 : wq.heap.size ≤ wz.heap.size := hh.size
          have HFN : Hid (∀ w' tag2 S2, BookAt w' pb 0 tag2 S2 → S2.turn = S'.turn → Noted pb 0 tag' tag2 ((wz.setCell ⟨pw, 0, none⟩ nilS).setCell ⟨pw, 1, none⟩ nilS) w' → ∃ tag' lt' S3, St B0 w0 w' pb pl pw tag' lt' S3 L TwoSt.none ∧ S3.turn ≤ S.turn + M.G.length ∧ w.heap.size ≤ w'.heap.size) := hide (fun w' tag2 S2 hb hq hn => ⟨_, _, S2, hE.looked hsz9 hb hn, by omega, by have := hn.size; simp at this; omega⟩)
          clear hh hE sp hsz9 hr htn
          unfold nilS at HLK HFN
          go_wp2_with fail
          refine (unhide HLK).mono ?_
          rintro e w8 ⟨rfl, t8, S8, b8, q8, n8⟩
          have HE8 := hide (unhide HFN w8 t8 S8 b8 q8 n8)
          clear b8 q8 n8 HLK HFN
          go_wp2
          go_ret
          exact ⟨rfl, unhide HE8⟩
end Go.Proofs.YtochdajeocganabDoor
