/- given: a list is handed in, in the room's memory. -/
import Derived.Test.YtdgdnpgjbphgaabSetRel
import Derived.BigQuiet
namespace Go.Proofs.Ytdgdnpgjbphgaab
open Go.ChangeShapes Go.WideShapes Go.ChangeAt Go.RowKit
set_option linter.unusedVariables false
set_option maxRecDepth 100000
set_option maxHeartbeats 4000000

def flipL (l : List Nat) : List Nat := l.map (· ^^^ 85)
theorem flipL_length (l : List Nat) : (flipL l).length = l.length := by simp [flipL]
theorem flipL_at (l : List Nat) (i : Nat) (h : i < l.length) : (flipL l).getD i 0 = l.getD i 0 ^^^ 85 := by
  unfold flipL
  rw [List.getD_eq_getElem?_getD, List.getElem?_map, List.getD_eq_getElem?_getD, List.getElem?_eq_getElem h]; rfl
theorem flip_lt (x : Nat) (h : x < 256) : x ^^^ 85 < 256 := Nat.xor_lt_two_pow (n := 8) h (by decide)
theorem flipL_small {l : List Nat} (h : Small l) : Small (flipL l) := fun i hi => by
  rw [flipL_length] at hi
  rw [flipL_at l i hi]
  exact flip_lt _ (h i hi)
theorem flipped_any (a : Option Addr) (cap : Nat) (l : List Nat) (w : World) (hl : l.length ≤ 140737488351232) (hB : Bytes w a l) (hs : Small l) :
    Calls Try.prog 34 #[.slice a l.length cap] w fun e w' => ∃ a', e = .returned (.slice a' l.length l.length) ∧ Bytes w' a' (flipL l) ∧ (∀ b off, a' = some ⟨b, off, none⟩ → w.heap.size ≤ b) ∧ Below w.heap.size w w' := by
  obtain ⟨i0, hi, hz0, hz1, hz2⟩ := info_parts Try.info5
  have HB := hide hB
  have HSM := hide hs
  have HFL := hide (flipL_length l)
  have HFA := hide (flipL_at l)
  clear hB hs
  generalize hn : l.length = n at *
  have HN := hide hn
  clear hn
  go_enter Try.func34, Try.ntmps34
  go_wp2_with (at_make; refine wpList_make_full _ rfl _ _ 22 rfl w.heap.size 5 i0 (.int .u8 0) 1 Try.underlying22 hi hz0 hz1 .i64 .i64 _ _ n rfl rfl rfl rfl (by rw [hz2]; omega) (by simp [maxLen]; omega) (Nat.le_refl _) ?_)
  intro w1 hown hgrow
  have hb1 : Below w.heap.size w w1 := (Below.refl _ _).grown hgrow (Nat.le_refl _) (fun k h => by cases h)
  obtain ⟨hl1, _⟩ := line_of_own hown
  have HL1 := hide hl1
  have HB1 := hide hb1
  clear hown hgrow hb1 hl1
  go_wp2_with fail
  go_loopw [4] (fun i wq => ∃ (k : Nat) (f : Nat → Value), k ≤ n ∧ i = .int .i64 k ∧ Line wq 5 (.slice (some ⟨w.heap.size, 0, none⟩) n n) n f ∧ (∀ j, j < k → f j = .int .u8 ((flipL l).getD j 0 : Nat)) ∧ Below w.heap.size w wq) (fun i _ => n - (intOf i).toNat)
  case atStart => exact ⟨0, _, by omega, rfl, unhide HL1, (fun j hj => by omega), unhide HB1⟩
  case round =>
    clear HL1 HB1
    obtain ⟨k, f, hk, rfl, hlq, hf, hbq⟩ := hrel
    rename World => wq
    by_cases hlt : k < n
    · have d1 : decide ((k : Int) < (n : Int)) = true := decide_eq_true (by omega)
      have d1' : decide (k < n) = true := decide_eq_true hlt
      have x0 : (0 : Int) ≤ (k : Int) := by omega
      have x1 : (k : Int) < (n : Int) := by omega
      obtain ⟨b, off, rfl, ck⟩ : ∃ b off, a = some ⟨b, off, none⟩ ∧ wq.cell? ⟨b, off + k, none⟩ = some (.int .u8 (l.getD k 0 : Nat)) := by
        have hn := unhide HN
        rcases unhide HB with h0 | ⟨b, off, rfl, hbl, hc⟩
        · rw [h0] at hn; simp at hn; omega
        · exact ⟨b, off, rfl, by rw [hbq.cell (p := ⟨b, off + k, none⟩) hbl]; exact hc k (by omega)⟩
      have h256 := (unhide HSM) k (by have := unhide HN; omega)
      have hxor : bits BinOp.xor IntKind.u8 (l.getD k 0 : Nat) 85 = ((flipL l).getD k 0 : Nat) := by
        rw [unhide HFA k (by have := unhide HN; omega)]
        exact u8_xor_nat _ 85 h256 (by decide)
      obtain ⟨g1, cp1, hv1, hgb, hc1⟩ := hlq.at (by omega)
      obtain ⟨ca, fa⟩ := hc1 k hlt
      have hgs : g1 = w.heap.size := by simpa [Value.ownBlock] using hgb.symm
      subst hgs
      have HEN : Hid (Line (wq.setCell ⟨w.heap.size, k, none⟩ (.int .u8 ((flipL l).getD k 0 : Nat))) 5 (.slice (some ⟨w.heap.size, 0, none⟩) n n) n (fun j => if j = k then .int .u8 ((flipL l).getD k 0 : Nat) else f j) ∧ Below w.heap.size w (wq.setCell ⟨w.heap.size, k, none⟩ (.int .u8 ((flipL l).getD k 0 : Nat)))) := hide ⟨hlq.put rfl k _ hlt, hbq.setCell (p := ⟨w.heap.size, k, none⟩) (Nat.le_refl _) _⟩
      have HF := hide hf
      clear hlq hbq hc1 hf hv1 hgb
      generalize hy : (flipL l).getD k 0 = y at *
      have HY := hide hy
      clear hy
      generalize l.getD k 0 = x at *
      go_wp2_with fail
      go_roundw
      case rel =>
        refine ⟨k + 1, _, by omega, by go_num, (unhide HEN).1, fun j hj => ?_, (unhide HEN).2⟩
        by_cases e : j = k
        · subst e; rw [if_pos rfl, unhide HY]
        · rw [if_neg e]; exact unhide HF j (by omega)
      case measure => simp [intOf]; omega
    · have d1 : decide ((k : Int) < (n : Int)) = false := decide_eq_false (by omega)
      have d1' : decide (k < n) = false := decide_eq_false hlt
      have hke : k = n := by omega
      subst hke
      have HEN : Hid (Bytes wq (some ⟨w.heap.size, 0, none⟩) (flipL l)) := hide (by
        by_cases h0 : k = 0
        · exact .inl (List.eq_nil_of_length_eq_zero (by rw [unhide HFL]; exact h0))
        · obtain ⟨g1, cp1, hv1, hgb, hc1⟩ := hlq.at (by omega)
          have hgs : g1 = w.heap.size := by simpa [Value.ownBlock] using hgb.symm
          subst hgs
          exact .inr ⟨w.heap.size, 0, rfl, hlq.lt _ hgb, fun i hi => by
            rw [unhide HFL] at hi
            rw [Nat.zero_add, (hc1 i hi).1, hf i hi]⟩)
      have HBQ := hide hbq
      clear hlq hf hbq
      go_wp2
      go_ret
      exact ⟨_, rfl, unhide HEN, fun b off e => by injection e with e; injection e with e1; omega, unhide HBQ⟩
/-- the room was used; blocks of B may have changed -/
structure Gave (w w' : World) (pw : Nat) (B : List Nat) (kt kt' : Nat → Nat) (V' : Nat → Value) : Prop where
  os : w'.os = w.os
  tape : w'.tape = w.tape
  output : w'.output = w.output
  size : w.heap.size ≤ w'.heap.size
  fix : ∀ g, g < w.heap.size → g ∉ B → kt g < 10 → g ≠ pw → w'.heap[g]? = w.heap[g]?
  pwc : ∀ j, j < 39 → w'.cell? ⟨pw, j, none⟩ = w.cell? ⟨pw, j, none⟩ ∧ w'.frozen? ⟨pw, j, none⟩ = w.frozen? ⟨pw, j, none⟩
  rm : ∀ k, k < 64 → w'.cell? ⟨pw, 39 + k, none⟩ = some (V' k) ∧ w'.frozen? ⟨pw, 39 + k, none⟩ = false ∧ (∃ n f, Line w' 5 (V' k) n f) ∧ ∀ g, (V' k).ownBlock = some g → kt' g = 10 + k
  old : ∀ g, g < w.heap.size → kt' g = kt g
  new : ∀ g, kt' g ≠ 0 → g < w'.heap.size
/-- the document's blocks behind it -/
theorem WAt.gaveRefs {w0 w : World} {pw : Nat} {tag rt kt : Nat → Nat} {S : BookSt} {D : Nat → Option Dat} {V : Nat → Value} (h : WAt w0 w pw tag rt kt S D V) {B : List Nat} {w1 : World} {kt' : Nat → Nat} {V' : Nat → Value} (b : Gave w w1 pw B kt kt' V') (hB : ∀ x ∈ B, kt x ≠ 0) : (∀ i d, i < 3 → D i = some d → RefAt w1 d.pr i rt d.R) ∧ ∀ g, rt g ≠ 0 → g < w1.heap.size := by
  refine ⟨fun i d hi hd => (h.bl i d hi hd).ref.conf b.size (fun g hg hm => ?_) (fun _ _ _ => rfl), fun g hg => Nat.lt_of_lt_of_le (h.un g (.inl hg)) b.size⟩
  have h0 := (h.ap g).2 hm.1
  refine b.fix g hg (fun hx => hB g hx h0) (by omega) (fun e => ?_)
  rw [e, h.tp.1] at hm
  exact mine0 _ hm
theorem WAt.gave {w0 w : World} {pw : Nat} {tag rt kt : Nat → Nat} {S : BookSt} {D : Nat → Option Dat} {V : Nat → Value} (h : WAt w0 w pw tag rt kt S D V) {i : Nat} {d : Dat} (hi : i < 3) (hd : D i = some d) {w1 w2 : World} {rt' kt' : Nat → Nat} {V' : Nat → Value} (b : Gave w w1 pw [d.p, d.bw, d.bh] kt kt' V') (c : RChg (Mine i) rt rt' w1 w2)
    (ws' : List Nat) (R' : RefSt) (ar : Ar w1 d.p d.bw d.bh ws' d.hs d.used) (rf : RefAt w2 d.pr i rt' R') (rel : Rel ws' d.hs d.used R') :
    WAt w0 w2 pw tag rt' kt' S (setD D i { d with ws := ws', R := R' }) V' := by
  have hm := h.mem hi hd
  have hb := h.bl i d hi hd
  have s1 := b.size
  have s2 := c.size
  have hb0 := h.bel.size
  have lpw := h.bk.fl.lt
  have hpw : w2.heap[pw]? = w1.heap[pw]? := c.blk pw (by omega) (by rw [h.tp.1]; exact mine0 _)
  have two : ∀ g, g < w.heap.size → kt g ≠ 2 + i → kt g < 10 → g ≠ pw → ¬ Mine i (rt g) → w2.heap[g]? = w.heap[g]? := fun g hg hk hk2 hne hr =>
    (c.blk g (by omega) hr).trans (b.fix g hg (fun hx => hk (hm g hx)) hk2 hne)
  have k0 : ∀ g, kt g = 2 + i → w2.heap[g]? = w1.heap[g]? := fun g hk => c.blk g (by have := h.un g (.inr (by omega)); omega) (by rw [h.rt0 (by omega)]; exact mine0 _)
  have kz : ∀ g, kt' g ≠ 0 → rt g = 0 := fun g hk => by
    cases e : rt g with
    | zero => rfl
    | succ m =>
      have h1 := h.un g (.inl (by omega))
      rw [b.old g h1] at hk
      exact absurd ((h.ap g).2 (by omega)) hk
  refine ⟨fun j hj => ?_, fun j hj => ?_, h.bk.keep2 (by omega) (fun g hg => ?_) (fun j h1 h2 => ?_), fun k hk => ?_, fun j dj hj hdj => ?_, fun g => ⟨fun hg => ?_, fun hg => ?_⟩, ⟨(c.tg pw (by omega)).trans h.tp.1, (b.old pw lpw).trans h.tp.2⟩, fun g hg => ?_, fun g hg => ?_, h.bp, ?_⟩
  · have e : ptr (setD D i { d with ws := ws', R := R' } j) = ptr (D j) := by
      unfold setD
      by_cases e : j = i
      · subst e; rw [if_pos rfl, hd]; rfl
      · rw [if_neg e]
    rw [e]
    exact ⟨(World.cell?_of_block (a := ⟨pw, j, none⟩) hpw).trans ((b.pwc j (by omega)).1.trans (h.cp j hj).1), (World.frozen?_of_block (a := ⟨pw, j, none⟩) hpw).trans ((b.pwc j (by omega)).2.trans (h.cp j hj).2)⟩
  · have e : qtr (setD D i { d with ws := ws', R := R' } j) = qtr (D j) := by
      unfold setD
      by_cases e : j = i
      · subst e; rw [if_pos rfl, hd]; rfl
      · rw [if_neg e]
    rw [e]
    exact ⟨(World.cell?_of_block (a := ⟨pw, 3 + j, none⟩) hpw).trans ((b.pwc (3 + j) (by omega)).1.trans (h.cq j hj).1), (World.frozen?_of_block (a := ⟨pw, 3 + j, none⟩) hpw).trans ((b.pwc (3 + j) (by omega)).2.trans (h.cq j hj).2)⟩
  · have h1 := (h.ap g).1 hg
    refine two g (h.bk.un g hg) (by omega) (by omega) (fun e => ?_) (by rw [h1.1]; exact mine0 _)
    rw [e] at hg
    exact hg h.bk.tp
  · exact ⟨(World.cell?_of_block (a := ⟨pw, j, none⟩) hpw).trans (b.pwc j (by omega)).1, (World.frozen?_of_block (a := ⟨pw, j, none⟩) hpw).trans (b.pwc j (by omega)).2⟩
  · obtain ⟨r1, r2, ⟨n, f, r3⟩, r4⟩ := b.rm k hk
    refine ⟨(World.cell?_of_block (a := ⟨pw, 39 + k, none⟩) hpw).trans r1, (World.frozen?_of_block (a := ⟨pw, 39 + k, none⟩) hpw).trans r2, ⟨n, f, r3.same (fun g hg => c.blk g (r3.lt g hg) ?_)⟩, r4⟩
    rw [kz g (by rw [r4 g hg]; omega)]
    exact mine0 _
  · unfold setD at hdj
    by_cases e : j = i
    · subst e
      rw [if_pos rfl] at hdj
      injection hdj with hdj
      subst hdj
      exact ⟨ar.conf s2 (k0 _ hb.t1) (k0 _ hb.t2) (k0 _ hb.t3), rf, rel, (b.old _ hb.ar.lp).trans hb.t1, (b.old _ hb.ar.lw).trans hb.t2, (b.old _ hb.ar.lh).trans hb.t3⟩
    · rw [if_neg e] at hdj
      have hbj := h.bl j dj hj hdj
      have hk : Blk w2 j kt rt' dj := hbj.keep (by omega) (fun g hg hk => two g hg (by omega) (by omega) (fun e2 => by rw [e2, h.tp.2] at hk; omega) (by rw [h.rt0 (by omega)]; exact mine0 _)) (fun g hg hm2 => two g hg (fun hk => ?_) ?_ (fun e2 => ?_) (fun hm3 => ?_)) (fun g hg => c.tg g (by omega))
      · exact ⟨hk.ar, hk.ref, hk.rel, (b.old _ hbj.ar.lp).trans hk.t1, (b.old _ hbj.ar.lw).trans hk.t2, (b.old _ hbj.ar.lh).trans hk.t3⟩
      · rw [h.rt0 (by omega)] at hm2; exact mine0 _ hm2
      · have := (h.ap g).2 hm2.1; omega
      · rw [e2, h.tp.1] at hm2; exact mine0 _ hm2
      · exact Mine.apart hm2 (by omega) hm3
  · have h1 := (h.ap g).1 hg
    have h2 := h.bk.un g hg
    exact ⟨(c.tg g (by omega)).trans h1.1, (b.old g h2).trans h1.2⟩
  · cases e : kt' g with
    | zero => rfl
    | succ m =>
      have h1 := b.new g (by omega)
      rw [c.tg g h1] at hg
      exact absurd (kz g (by omega)) hg
  · rcases hg with hg | hg
    · exact c.un g hg
    · exact Nat.lt_of_lt_of_le (b.new g hg) s2
  · by_cases hl : g < w.heap.size
    · rw [c.tg g (by omega), b.old g hl] at hg
      exact h.lo g hg
    · omega
  · refine ⟨c.os.trans (b.os.trans h.bel.os), c.tape.trans (b.tape.trans h.bel.tape), c.output.trans (b.output.trans h.bel.output), by omega, fun g hg => ?_⟩
    have r0 : rt g = 0 := by
      cases e : rt g with
      | zero => rfl
      | succ m => have := h.lo g (.inr (.inl (by omega))); omega
    have r1 : kt g = 0 := by
      cases e : kt g with
      | zero => rfl
      | succ m => have := h.lo g (.inr (.inr (by omega))); omega
    rw [two g (by omega) (by omega) (by omega) (fun e => by have := h.bp; omega) (by rw [r0]; exact mine0 _)]
    exact h.bel.block g hg
end Go.Proofs.Ytdgdnpgjbphgaab
namespace Go.Proofs.Ytdgdnpgjbphgaab
open Go.ChangeShapes Go.WideShapes Go.ChangeAt Go.RowKit
set_option linter.unusedVariables false
set_option maxRecDepth 100000
set_option maxHeartbeats 4000000

theorem room_old {w0 w : World} {pw : Nat} {tag rt kt : Nat → Nat} {S : BookSt} {D : Nat → Option Dat} {V : Nat → Value} (h : WAt w0 w pw tag rt kt S D V) : Gave w w pw [] kt kt V :=
  ⟨rfl, rfl, rfl, Nat.le_refl _, fun _ _ _ _ _ => rfl, fun _ _ => ⟨rfl, rfl⟩, h.rm, fun _ _ => rfl, fun g hg => h.un g (.inr hg)⟩
theorem room_new {w0 w : World} {pw : Nat} {tag rt kt : Nat → Nat} {S : BookSt} {D : Nat → Option Dat} {V : Nat → Value} (h : WAt w0 w pw tag rt kt S D V) (k : Nat) (hk : k < 64) {w1 : World} (hb : Below w.heap.size w w1) (v : Value) (n : Nat) (f : Nat → Value) (hl : Line w1 5 v n f) (hg : v.ownBlock = some w.heap.size) :
    Gave w (w1.setCell ⟨pw, 39 + k, none⟩ v) pw [] kt (tagAt kt v (10 + k)) (fun j => if j = k then v else V j) := by
  have lpw := h.bk.fl.lt
  have hs := hb.size
  have hlt := hl.lt _ hg
  have hot : ∀ g, g ≠ pw → (w1.setCell ⟨pw, 39 + k, none⟩ v).heap[g]? = w1.heap[g]? := fun g hne => setCell_else w1 pw (39 + k) g v hne
  have tg : ∀ g, g < w.heap.size → tagAt kt v (10 + k) g = kt g := fun g hgl => by
    unfold tagAt
    rw [if_neg (fun e => by rw [hg] at e; injection e with e; omega)]
  refine ⟨hb.os, hb.tape, hb.output, by simpa using hs, fun g h1 _ _ h4 => (hot g h4).trans (hb.block g h1), fun j hj => ⟨?_, ?_⟩, fun j hj => ?_, tg, fun g hgg => ?_⟩
  · rw [World.cell?_setCell_other _ _ _ _ (fun e => by injection e with e1 e2; omega)]
    exact hb.cell (p := ⟨pw, j, none⟩) lpw
  · rw [World.frozen?_setCell]
    exact World.frozen?_of_block (a := ⟨pw, j, none⟩) (hb.block pw lpw)
  · obtain ⟨r1, r2, ⟨n0, f0, r3⟩, r4⟩ := h.rm j hj
    by_cases e : j = k
    · subst e
      rw [if_pos rfl]
      refine ⟨?_, ?_, ⟨n, f, hl.same (fun g hgg => hot g (fun e2 => ?_))⟩, fun g hgg => by unfold tagAt; rw [if_pos hgg]⟩
      · exact World.cell?_setCell_same' _ _ _ (by rw [hb.cell (p := ⟨pw, 39 + j, none⟩) lpw, r1]; rfl)
      · rw [World.frozen?_setCell, World.frozen?_of_block (a := ⟨pw, 39 + j, none⟩) (hb.block pw lpw)]
        exact r2
      · rw [hg] at hgg; injection hgg with hgg; omega
    · rw [if_neg e]
      have hne : ∀ g, (V j).ownBlock = some g → g < w.heap.size ∧ g ≠ pw := fun g hgg => ⟨r3.lt g hgg, fun e2 => by have := r4 g hgg; rw [e2, h.tp.2] at this; omega⟩
      refine ⟨?_, ?_, ⟨n0, f0, r3.same (fun g hgg => (hot g (hne g hgg).2).trans (hb.block g (hne g hgg).1))⟩, fun g hgg => (tg g (hne g hgg).1).trans (r4 g hgg)⟩
      · rw [World.cell?_setCell_other _ _ _ _ (fun e2 => by injection e2 with e3 e4; omega), hb.cell (p := ⟨pw, 39 + j, none⟩) lpw]
        exact r1
      · rw [World.frozen?_setCell, World.frozen?_of_block (a := ⟨pw, 39 + j, none⟩) (hb.block pw lpw)]
        exact r2
  · unfold tagAt at hgg
    by_cases e : v.ownBlock = some g
    · rw [hg] at e; injection e with e; subst e; simpa using hlt
    · rw [if_neg e] at hgg
      have := h.un g (.inr hgg)
      simp
      omega
theorem Gave.write {w w1 wq : World} {pw : Nat} {B : List Nat} {kt kt' : Nat → Nat} {V' : Nat → Value} (G : Gave w w1 pw B kt kt' V') (k : Nat) (hk : k < 64) (hp : pw < w.heap.size ∧ kt pw = 0) (hw : Wrote (V' k) w1 wq) (hl : ∃ n f, Line wq 5 (V' k) n f) : Gave w wq pw B kt kt' V' := by
  have tk := (G.rm k hk).2.2.2
  have hne : ∀ g, kt' g ≠ 10 + k → wq.heap[g]? = w1.heap[g]? := fun g h1 => hw.blk g (fun e => h1 (tk g e))
  have hpw := hne pw (by rw [G.old pw hp.1]; omega)
  have hs := hw.size
  refine ⟨hw.os.trans G.os, hw.tape.trans G.tape, hw.output.trans G.output, by rw [hs]; exact G.size, fun g h1 h2 h3 h4 => (hne g (by rw [G.old g h1]; omega)).trans (G.fix g h1 h2 h3 h4), fun j hj => ⟨(World.cell?_of_block (a := ⟨pw, j, none⟩) hpw).trans (G.pwc j hj).1, (World.frozen?_of_block (a := ⟨pw, j, none⟩) hpw).trans (G.pwc j hj).2⟩, fun j hj => ?_, G.old, fun g hg => by rw [hs]; exact G.new g hg⟩
  obtain ⟨r1, r2, ⟨n0, f0, r3⟩, r4⟩ := G.rm j hj
  refine ⟨(World.cell?_of_block (a := ⟨pw, 39 + j, none⟩) hpw).trans r1, (World.frozen?_of_block (a := ⟨pw, 39 + j, none⟩) hpw).trans r2, ?_, r4⟩
  by_cases e : j = k
  · subst e; exact hl
  · exact ⟨n0, f0, r3.same (fun g hg => hne g (by rw [r4 g hg]; omega))⟩
theorem Gave.but {w w1 w3 : World} {pw i : Nat} {B : List Nat} {kt kt' : Nat → Nat} {V' : Nat → Value} (G : Gave w w1 pw [] kt kt' V') (hi : i < 3) (hp : pw < w.heap.size ∧ kt pw = 0) (b : But B w1 w3) (hB : ∀ x ∈ B, kt x = 2 + i ∧ x < w.heap.size) : Gave w w3 pw B kt kt' V' := by
  have hs := b.size
  have hs1 := G.size
  have hpw := b.block pw (by omega) (fun hx => by have := (hB pw hx).1; omega)
  refine ⟨b.os.trans G.os, b.tape.trans G.tape, b.output.trans G.output, by omega, fun g h1 h2 h3 h4 => (b.block g (by omega) h2).trans (G.fix g h1 (by simp) h3 h4), fun j hj => ⟨(World.cell?_of_block (a := ⟨pw, j, none⟩) hpw).trans (G.pwc j hj).1, (World.frozen?_of_block (a := ⟨pw, j, none⟩) hpw).trans (G.pwc j hj).2⟩, fun j hj => ?_, G.old, fun g hg => Nat.lt_of_lt_of_le (G.new g hg) hs⟩
  obtain ⟨r1, r2, ⟨n0, f0, r3⟩, r4⟩ := G.rm j hj
  exact ⟨(World.cell?_of_block (a := ⟨pw, 39 + j, none⟩) hpw).trans r1, (World.frozen?_of_block (a := ⟨pw, 39 + j, none⟩) hpw).trans r2, ⟨n0, f0, r3.same (fun g hg => b.block g (r3.lt g hg) (fun hx => by
    have h1 := hB g hx
    have h2 := r4 g hg
    rw [G.old g h1.2] at h2
    omega))⟩, r4⟩
theorem setCells_else (g : Nat) : ∀ (vs : List Value) (o : Nat) (w : World) (j : Nat), j ≠ g → (w.setCells g o vs).heap[j]? = w.heap[j]?
  | [], _, _, _, _ => rfl
  | v :: vs, o, w, j, h => (setCells_else g vs (o + 1) _ j h).trans (setCell_else w g o j v h)
theorem setCells_size (g : Nat) : ∀ (vs : List Value) (o : Nat) (w : World), (w.setCells g o vs).heap.size = w.heap.size ∧ (w.setCells g o vs).os = w.os ∧ (w.setCells g o vs).tape = w.tape ∧ (w.setCells g o vs).output = w.output
  | [], _, _ => ⟨rfl, rfl, rfl, rfl⟩
  | v :: vs, o, w => by
    obtain ⟨h1, h2, h3, h4⟩ := setCells_size g vs (o + 1) (w.setCell ⟨g, o, none⟩ v)
    exact ⟨by rw [show w.setCells g o (v :: vs) = (w.setCell ⟨g, o, none⟩ v).setCells g (o + 1) vs from rfl, h1]; simp, h2, h3, h4⟩
theorem Line.puts {e : TypeId} {v : Value} {n g : Nat} (hg : v.ownBlock = some g) : ∀ (vs : List Value) (o : Nat) {w : World} {f : Nat → Value}, Line w e v n f → o + vs.length ≤ n → Line (w.setCells g o vs) e v n (fun j => if o ≤ j ∧ j < o + vs.length then vs.getD (j - o) undef else f j)
  | [], o, w, f, h, _ => h.congr (fun j _ => by rw [if_neg (by simp only [List.length_nil]; omega)])
  | x :: vs, o, w, f, h, hn => by
    have hn' : o + (vs.length + 1) ≤ n := by simpa using hn
    have h1 := Line.puts hg vs (o + 1) (h.put hg o x (by omega)) (by omega)
    refine h1.congr (fun j hj => ?_)
    show (if o + 1 ≤ j ∧ j < o + 1 + vs.length then vs.getD (j - (o + 1)) undef else if j = o then x else f j) = if o ≤ j ∧ j < o + (x :: vs).length then (x :: vs).getD (j - o) undef else f j
    by_cases e1 : j = o
    · subst e1
      rw [if_neg (by omega), if_pos rfl, if_pos (by simp), Nat.sub_self, List.getD_cons_zero]
    · by_cases e2 : o + 1 ≤ j ∧ j < o + 1 + vs.length
      · rw [if_pos e2, if_pos (by simp; omega), show j - o = (j - (o + 1)) + 1 by omega, List.getD_cons_succ]
      · rw [if_neg e2, if_neg e1, if_neg (by simp; omega)]
/-- what lies in the room -/
def roomF (l : List Nat) (m : Nat) (f : Nat → Value) (j : Nat) : Value := if j < l.length then .int .u8 (l.getD j 0 : Nat) else if j < m then .int .u8 7 else f j
theorem given_any {w0 w : World} {pw : Nat} {tag rt kt : Nat → Nat} {S : BookSt} {D : Nat → Option Dat} {V : Nat → Value} (h : WAt w0 w pw tag rt kt S D V) (i : Nat) (hi : i < 3) (d : Dat) (hd : D i = some d) (at' from' : Int) (hf1 : from' ≤ 9223372036854775807) (hf2 : -9223372036854775808 ≤ from') (l : List Nat) (a : Option Addr) (cap : Nat) (hl : l.length ≤ 140737488351232) (hB : Bytes w a l) (hs : Small l) (hsep : l ≠ [] → ∀ b off, a = some ⟨b, off, none⟩ → kt b = 0 ∧ b ≠ pw) :
    Calls Try.prog 33 #[.pointer (some ⟨pw, 0, none⟩), .pointer (some ⟨d.p, 0, none⟩), .int .i64 at', .int .i64 from', .slice a l.length cap] w fun e w' => e = .returned (.tuple #[.int .i64 (rspan d.R at' from' l.length : Nat), .bool true]) ∧ ∃ kt' V' ws', Gave w w' pw [d.p, d.bw, d.bh] kt kt' V' ∧ Ar w' d.p d.bw d.bh ws' d.hs d.used ∧ (rspan d.R at' from' l.length ≠ 0 → ws' = d.ws) ∧ (rspan d.R at' from' l.length = 0 → ∀ j f : Nat, j < d.R.L.length → at' = (place d.R.L j : Nat) → from' = f → Written d.ws ws' (place d.R.L j + 1 + (d.R.L.getD j (0, 0, 0)).2.1) (d.R.L.getD j (0, 0, 0)).2.2 f l) := by
  obtain ⟨i0, hi0, hz0, hz1, hz2⟩ := info_parts Try.info5
  have hb := h.bl i d hi hd
  have hmm := h.mem hi hd
  have HPW : Hid (pw < w.heap.size ∧ kt pw = 0) := hide ⟨h.bk.fl.lt, h.tp.2⟩
  have HMM : Hid (∀ x ∈ [d.p, d.bw, d.bh], kt x = 2 + i ∧ x < w.heap.size) := hide (fun x hx => ⟨hmm x hx, by
    have h1 := hb.ar.lp; have h2 := hb.ar.lw; have h3 := hb.ar.lh
    simp at hx; rcases hx with rfl | rfl | rfl <;> assumption⟩)
  have hk64 : l.length % 64 < 64 := Nat.mod_lt _ (by decide)
  obtain ⟨r1, r2, ⟨n0, f0, r3⟩, r4⟩ := h.rm (l.length % 64) hk64
  obtain ⟨a0, c0, hv0⟩ := r3.shape
  rw [hv0] at r1 r3
  have emod : ((l.length : Nat) : Int).tmod 64 = ((l.length % 64 : Nat) : Int) := rfl
  /- what stays as it was while the room is written -/
  have HAR : Hid (∀ w1 wq kt' V', Gave w w1 pw [] kt kt' V' → Wrote (V' (l.length % 64)) w1 wq → (∃ n f, Line wq 5 (V' (l.length % 64)) n f) → Ar wq d.p d.bw d.bh d.ws d.hs d.used ∧ Bytes wq a l) := hide (fun w1 wq kt' V' G hw hln => by
    have G2 := G.write _ hk64 (unhide HPW) hw hln
    have fx : ∀ x, x < w.heap.size → kt x < 10 → x ≠ pw → wq.heap[x]? = w.heap[x]? := fun x h1 h2 h3 => G2.fix x h1 (by simp) h2 h3
    have np : ∀ x, kt x = 2 + i → x ≠ pw := fun x h1 e => by rw [e, h.tp.2] at h1; omega
    refine ⟨hb.ar.conf G2.size (fx _ hb.ar.lp (by rw [hb.t1]; omega) (np _ hb.t1)) (fx _ hb.ar.lw (by rw [hb.t2]; omega) (np _ hb.t2)) (fx _ hb.ar.lh (by rw [hb.t3]; omega) (np _ hb.t3)), ?_⟩
    by_cases hl0 : l = []
    · exact .inl hl0
    rcases hB with h0 | ⟨b, off, rfl, hbl, hc⟩
    · exact .inl h0
    · have := hsep hl0 b off rfl
      exact .inr ⟨b, off, rfl, Nat.lt_of_lt_of_le hbl G2.size, fun q hq => by rw [World.cell?_of_block (a := ⟨b, off + q, none⟩) (fx b hbl (by omega) this.2)]; exact hc q hq⟩)
  have HBB : Hid (∀ w1 w3, Bytes w1 a l → w.heap.size ≤ w1.heap.size → But [d.p, d.bw, d.bh] w1 w3 → Bytes w3 a l) := hide (fun w1 w3 h1 hs1 b => by
    by_cases hl0 : l = []
    · exact .inl hl0
    rcases h1 with h0 | ⟨b2, off, rfl, hbl, hc⟩
    · exact .inl h0
    · have := hsep hl0 b2 off rfl
      exact .inr ⟨b2, off, rfl, Nat.lt_of_lt_of_le hbl b.size, fun q hq => by rw [World.cell?_of_block (a := ⟨b2, off + q, none⟩) (b.block b2 hbl (fun hx => by have h2 := hmm b2 hx; omega))]; exact hc q hq⟩)
  have HPS : Hid (∀ wq g c, Ar wq d.p d.bw d.bh d.ws d.hs d.used → Bytes wq (some ⟨g, 0, none⟩) l → Calls Try.prog 73 #[.pointer (some ⟨d.p, 0, none⟩), .int .i64 at', .int .i64 from', .slice (some ⟨g, 0, none⟩) l.length c] wq fun e w' => e = .returned (.int .i64 (rspan d.R at' from' l.length : Nat)) ∧ But [d.p, d.bw, d.bh] wq w' ∧ ∃ ws', Ar w' d.p d.bw d.bh ws' d.hs d.used ∧ (rspan d.R at' from' l.length ≠ 0 → ws' = d.ws) ∧ (rspan d.R at' from' l.length = 0 → ∀ j f : Nat, j < d.R.L.length → at' = (place d.R.L j : Nat) → from' = f → Written d.ws ws' (place d.R.L j + 1 + (d.R.L.getD j (0, 0, 0)).2.1) (d.R.L.getD j (0, 0, 0)).2.2 f l)) := hide (fun wq g c har hby => p_setbytes har hb.rel hb.ref.ok at' from' l _ c hf1 hf2 hby hs)
  have HRO := hide (room_old h)
  have HRN := hide (fun w1 (hbw : Below w.heap.size w w1) v n f hln hgg => room_new h (l.length % 64) hk64 (w1 := w1) hbw v n f hln hgg)
  have HSM := hide hs
  have HVK := hide hv0
  have HSP : Hid (∀ b off, a = some ⟨b, off, none⟩ → l ≠ [] → b < w.heap.size ∧ kt b = 0) := hide (fun b off e hne => by
    rcases hB with h0 | ⟨b2, off2, e2, hbl, _⟩
    · exact absurd h0 hne
    · rw [e] at e2
      injection e2 with e2
      injection e2 with e3
      subst e3
      exact ⟨hbl, (hsep hne b off e).1⟩)
  have HGB : Hid (∀ x, kt x = 10 + l.length % 64 → x ∉ [d.p, d.bw, d.bh]) := hide (fun x h1 hx => by have := hmm x hx; omega)
  have hnm : ∀ g, (V (l.length % 64)).ownBlock = some g → kt g = 10 + l.length % 64 := r4
  have HNM := hide hnm
  clear h hb hmm hB hs hsep hd r4 hv0 hnm
  generalize hk : l.length % 64 = k at *
  have HKK := hide hk
  clear hk
  have y0 : (0 : Int) ≤ (k : Int) := by omega
  have y1 : (k : Int) < 64 := by omega
  generalize hn : l.length = n at *
  have HN := hide hn
  clear hn
  by_cases hn0 : n0 = n + 3
  · subst hn0
    obtain ⟨g, cpx, hv1, hgb, hcx⟩ := r3.at (by omega)
    simp only [Value.slice.injEq] at hv1
    obtain ⟨rfl, _, rfl⟩ := hv1
    obtain ⟨w1, hw1⟩ : ∃ w1, w1 = w := ⟨_, rfl⟩
    have HG1 : Hid (Gave w w1 pw [] kt kt V) := hide (by rw [hw1]; exact unhide HRO)
    have HV1 : Hid (V k = .slice (some ⟨g, 0, none⟩) (n + 3) c0) := hide (unhide HVK)
    have hktg := unhide HNM g (by rw [unhide HV1]; rfl)
    have HGN : Hid (g ∉ [d.p, d.bw, d.bh]) := hide (unhide HGB g hktg)
    have HBG : Hid (∀ b off, a = some ⟨b, off, none⟩ → l ≠ [] → b ≠ g) := hide (fun b off e hne e2 => by have := (unhide HSP b off e hne).2; rw [e2, hktg] at this; omega)
    obtain ⟨f1, hf1e⟩ : ∃ f1, f1 = f0 := ⟨_, rfl⟩
    rw [← hf1e] at r3
    have HLR : Hid (Line w1 5 (.slice (some ⟨g, 0, none⟩) (n + 3) c0) (n + 3) f1) := hide (by rw [hw1]; exact r3)
    have hcap : n + 3 ≤ c0 := by
      rcases r3 with ⟨e, _⟩ | ⟨g', cap', cur, e, _, hnc, _⟩
      · cases e
      · simp only [Value.slice.injEq] at e; omega
    have hcapm : c0 ≤ 9223372036854775807 := by
      rcases r3 with ⟨e, _⟩ | ⟨g', cap', cur, e, _, _, hcm, _⟩
      · cases e
      · simp only [Value.slice.injEq] at e; unfold maxLen at hcm; omega
    have HA1 : Hid (Ar w1 d.p d.bw d.bh d.ws d.hs d.used ∧ Bytes w1 a l) := hide (by rw [hw1]; exact unhide HAR w w _ _ (unhide HRO) (Wrote.refl _ _) ⟨_, _, by rw [unhide HV1]; exact r3⟩)
    clear r3 hf1e hgb hcx hktg
    have n1 : ((n : Int) + 3 != (n : Int) + 3) = false := by simp
    go_enter Try.func33, Try.ntmps33
    go_upto_region 5 with fail
    rw [← hw1]
    clear hw1 n1 r1

    /- copy -/
    have HCP : Hid ((Builtin.copy_ #[22, 22] 3 #[.slice (some ⟨g, 0, none⟩) (n + 3) c0, .slice a n cap]).run Try.prog w1 = .ok (goInt n) (w1.setCells g 0 (cellsOf l))) := hide (by
      have hnl := unhide HN
      by_cases hl0 : n = 0
      · have : l = [] := List.eq_nil_of_length_eq_zero (by omega)
        subst this
        subst hl0
        exact run_copy_none w1 22 22 3 5 _ a _ _ 0 cap Try.underlying22 size5 (Nat.zero_min _)
      · rcases (unhide HA1).2 with h0 | ⟨b, o, rfl, hbl, hcl⟩
        · rw [h0] at hnl; simp at hnl; omega
        · obtain ⟨g1, cp1, hv1, hgb, hc1⟩ := (unhide HLR).at (by omega)
          have eg : g1 = g := by simpa [Value.ownBlock] using hgb.symm
          subst eg
          have h1 := run_copy_cells (P := Try.prog) w1 22 22 3 5 g1 0 (n + 3) c0 ⟨b, o, none⟩ n cap (cellsOf l) Try.underlying22 size5 (by rw [cellsOf_length]; show _ = min _ _; omega)
            (fun j v hv => by
              obtain ⟨hj, rfl⟩ := cellsOf_get l j v hv
              rw [add_plain]
              exact hcl j hj)
            (fun j hj => by
              rw [cellsOf_length] at hj
              rw [Nat.zero_add, (hc1 j (by omega)).1]; rfl)
            (fun j hj => by
              rw [cellsOf_length] at hj
              rw [Nat.zero_add]; exact (hc1 j (by omega)).2) (cellsOf_one l)
          rw [cellsOf_length, hnl] at h1
          exact h1)
    have HL2 : Hid (Line (w1.setCells g 0 (cellsOf l)) 5 (.slice (some ⟨g, 0, none⟩) (n + 3) c0) (n + 3) (roomF l n f1) ∧ Wrote (.slice (some ⟨g, 0, none⟩) (n + 3) c0) w1 (w1.setCells g 0 (cellsOf l))) := hide (by
      have hnl := unhide HN
      refine ⟨((unhide HLR).puts rfl (cellsOf l) 0 (by rw [cellsOf_length]; omega)).congr (fun j hj => ?_), ?_⟩
      · unfold roomF
        show (if 0 ≤ j ∧ j < 0 + (cellsOf l).length then (cellsOf l).getD (j - 0) undef else f1 j) = _
        rw [cellsOf_length]
        by_cases e : j < l.length
        · rw [if_pos (by omega), if_pos e, Nat.sub_zero, List.getD_eq_getElem?_getD, cellsOf_at l j e]; rfl
        · rw [if_neg (by omega), if_neg e, if_neg (by omega)]
      · obtain ⟨s1, s2, s3, s4⟩ := setCells_size g (cellsOf l) 0 w1
        exact ⟨s2, s3, s4, s1, fun j hj => setCells_else g _ 0 w1 j (fun e => hj (by rw [e]; rfl))⟩)
    obtain ⟨w2, hw2⟩ : ∃ w2, w2 = w1.setCells g 0 (cellsOf l) := ⟨_, rfl⟩
    rw [← hw2] at HCP HL2
    have hcp := unhide HCP
    clear hw2 HCP
    go_wp2_with fail
    clear hcp
    go_loopw [13] (fun i wq => ∃ m : Nat, n ≤ m ∧ m ≤ n + 3 ∧ i = .int .i64 m ∧ Line wq 5 (.slice (some ⟨g, 0, none⟩) (n + 3) c0) (n + 3) (roomF l m f1) ∧ Wrote (.slice (some ⟨g, 0, none⟩) (n + 3) c0) w1 wq) (fun i _ => n + 3 - (intOf i).toNat)
    case atStart => exact ⟨n, by omega, by omega, rfl, (unhide HL2).1, (unhide HL2).2⟩
    case round =>
      clear HL2
      obtain ⟨m, hm1, hm2, rfl, hlq, hwq⟩ := hrel
      rename World => wq
      by_cases hlt : m < n + 3
      · have d1 : decide ((m : Int) < (n : Int) + 3) = true := decide_eq_true (by omega)
        have d1' : decide (m < n + 3) = true := decide_eq_true hlt
        have d1'' : decide ((m : Int) < ((n + 3 : Nat) : Int)) = true := decide_eq_true (by omega)
        have x0 : (0 : Int) ≤ (m : Int) := by omega
        have x1 : (m : Int) < ((n + 3 : Nat) : Int) := by omega
        have x1' : (m : Int) < (n : Int) + 3 := by omega
        obtain ⟨g1, cp1, hv1, hgb, hc1⟩ := hlq.at (by omega)
        have e : g1 = g := by simpa [Value.ownBlock] using hgb.symm
        subst e
        obtain ⟨ca, fa⟩ := hc1 m hlt
        have HEN : Hid (Line (wq.setCell ⟨g1, m, none⟩ (.int .u8 7)) 5 (.slice (some ⟨g1, 0, none⟩) (n + 3) c0) (n + 3) (roomF l (m + 1) f1) ∧ Wrote (.slice (some ⟨g1, 0, none⟩) (n + 3) c0) w1 (wq.setCell ⟨g1, m, none⟩ (.int .u8 7))) := hide ⟨(hlq.put rfl m _ hlt).congr (fun j hj => by
          have hnl := unhide HN
          show (if j = m then _ else roomF l m f1 j) = _
          unfold roomF
          by_cases e1 : j = m
          · rw [if_pos e1, if_neg (by omega), if_pos (by omega)]
          · rw [if_neg e1]
            by_cases e2 : j < l.length
            · rw [if_pos e2, if_pos e2]
            · rw [if_neg e2, if_neg e2]
              by_cases e3 : j < m
              · rw [if_pos e3, if_pos (by omega)]
              · rw [if_neg e3, if_neg (by omega)]), hwq.set rfl m _⟩
        clear hlq hwq hc1 hv1 hgb
        go_wp2_with fail
        go_roundw
        case rel => exact ⟨m + 1, by omega, by omega, by go_num, (unhide HEN).1, (unhide HEN).2⟩
        case measure => simp [intOf]; omega
      · have hme : m = n + 3 := by omega
        subst hme
        have d1 : decide (((n + 3 : Nat) : Int) < (n : Int) + 3) = false := decide_eq_false (by omega)
        have hA := unhide HAR w1 wq _ _ (unhide HG1) (by rw [unhide HV1]; exact hwq) (by rw [unhide HV1]; exact ⟨_, _, hlq⟩)
        have hby : Bytes wq (some ⟨g, 0, none⟩) l := by
          have hnl := unhide HN
          by_cases h0 : n = 0
          · exact .inl (List.eq_nil_of_length_eq_zero (by omega))
          · obtain ⟨g1, cp1, hv1, hgb, hc1⟩ := hlq.at (by omega)
            have e : g1 = g := by simpa [Value.ownBlock] using hgb.symm
            subst e
            exact .inr ⟨g1, 0, rfl, hlq.lt g1 rfl, fun q hq => by
              rw [Nat.zero_add, (hc1 q (by omega)).1]
              unfold roomF
              rw [if_pos hq]⟩
        have HPQ := hide (unhide HPS wq g c0 hA.1 hby)
        have HLQ := hide hlq
        have HWQ := hide hwq
        have HBQ := hide hA.2
        have z1 : (0 : Int) ≤ (n : Int) := by omega
        have z2 : (n : Int) ≤ (c0 : Int) := by omega
        have hcc : ¬ c0 = 0 := by omega
        clear hlq hwq hA hby HPS HAR
        go_wp2_with fail
        refine (unhide HPQ).mono ?_
        rintro e w3 ⟨rfl, b3, ws3, ar3, q1, q2⟩
        have HX3 := hide (And.intro ar3 (And.intro q1 q2))
        have hng : g ∉ [d.p, d.bw, d.bh] := unhide HGN
        have hl3 : Line w3 5 (.slice (some ⟨g, 0, none⟩) (n + 3) c0) (n + 3) (roomF l (n + 3) f1) := (unhide HLQ).same (fun q hq => by
          injection hq with hq
          subst hq
          exact b3.block g ((unhide HLQ).lt g rfl) hng)
        have HL3 := hide hl3
        have HB3 := hide b3
        have HY3 := hide (unhide HBB wq w3 (unhide HBQ) (by rw [(unhide HWQ).size]; exact (unhide HG1).size) b3)
        clear b3 ar3 q1 q2 hl3 HPQ hng
        go_wp2_with fail
        go_loopw [15, 16] (fun okv i wz => okv = .bool true ∧ ∃ (m : Nat) (f3 : Nat → Value), m ≤ n + 3 ∧ i = .int .i64 m ∧ Line wz 5 (.slice (some ⟨g, 0, none⟩) (n + 3) c0) (n + 3) f3 ∧ (∀ j, m ≤ j → j < n + 3 → f3 j = roomF l (n + 3) f1 j) ∧ Wrote (.slice (some ⟨g, 0, none⟩) (n + 3) c0) w3 wz) (fun _ i _ => n + 3 - (intOf i).toNat)
        case atStart => exact ⟨rfl, 0, _, by omega, rfl, unhide HL3, (fun _ _ _ => rfl), Wrote.refl _ _⟩
        case round =>
          clear HL3
          obtain ⟨rfl, m, f3, hm, rfl, hlz, hfz, hwz⟩ := hrel
          rename World => wz
          by_cases hlt2 : m < n + 3
          · have e1 : decide ((m : Int) < (n : Int) + 3) = true := decide_eq_true (by omega)
            have e1' : decide (m < n + 3) = true := decide_eq_true hlt2
            have x0 : (0 : Int) ≤ (m : Int) := by omega
            have x1 : (m : Int) < ((n + 3 : Nat) : Int) := by omega
            have x1' : (m : Int) < (n : Int) + 3 := by omega
            obtain ⟨g1, cp1, hv1, hgb, hc1⟩ := hlz.at (by omega)
            have e : g1 = g := by simpa [Value.ownBlock] using hgb.symm
            subst e
            obtain ⟨ca, fa⟩ := hc1 m hlt2
            rw [hfz m (Nat.le_refl _) hlt2] at ca
            have HEN : Hid (Line (wz.setCell ⟨g1, m, none⟩ (.int .u8 238)) 5 (.slice (some ⟨g1, 0, none⟩) (n + 3) c0) (n + 3) (fun j => if j = m then .int .u8 238 else f3 j) ∧ Wrote (.slice (some ⟨g1, 0, none⟩) (n + 3) c0) w3 (wz.setCell ⟨g1, m, none⟩ (.int .u8 238)) ∧ ∀ j, m + 1 ≤ j → j < n + 3 → (if j = m then .int .u8 238 else f3 j) = roomF l (n + 3) f1 j) := hide ⟨hlz.put rfl m _ hlt2, hwz.set rfl m _, fun j h1 h2 => by rw [if_neg (by omega)]; exact hfz j (by omega) h2⟩
            have hnl := unhide HN
            by_cases hmn : m < n
            · have ca' : wz.cell? ⟨g1, m, none⟩ = some (.int .u8 (l.getD m 0 : Nat)) := by rw [ca]; unfold roomF; rw [if_pos (by omega)]
              obtain ⟨b, off, rfl, ck⟩ : ∃ b off, a = some ⟨b, off, none⟩ ∧ wz.cell? ⟨b, off + m, none⟩ = some (.int .u8 (l.getD m 0 : Nat)) := by
                rcases unhide HY3 with h0 | ⟨b, off, rfl, hbl, hc⟩
                · rw [h0] at hnl; simp at hnl; omega
                · refine ⟨b, off, rfl, ?_⟩
                  by_cases ebg : b = g1
                  · exact absurd ebg (unhide HBG b off rfl (fun e => by rw [e] at hnl; simp at hnl; omega))
                  · rw [World.cell?_of_block (a := ⟨b, off + m, none⟩) (hwz.blk b (fun e => ebg (by injection e with e; exact e.symm)))]
                    exact hc m (by omega)
              have d2 : decide ((m : Int) < (n : Int)) = true := decide_eq_true (by omega)
              have d2' : decide (m < n) = true := decide_eq_true hmn
              have d3 : decide ((n : Int) ≤ (m : Int)) = false := decide_eq_false (by omega)
              have d3' : decide (n ≤ m) = false := decide_eq_false (by omega)
              have x2 : (m : Int) < (n : Int) := by omega
              generalize l.getD m 0 = x at *
              clear ca hlz hwz hc1 hv1 hgb hfz hnl
              go_wp2_with fail
              go_quiet (fail)
              go_wp2_with fail
              go_roundw
              case rel => exact ⟨rfl, m + 1, _, by omega, by go_num, (unhide HEN).1.same (fun _ _ => rfl), (unhide HEN).2.2, ⟨(unhide HEN).2.1.os, (unhide HEN).2.1.tape, (unhide HEN).2.1.output, (unhide HEN).2.1.size, (unhide HEN).2.1.blk⟩⟩
              case measure => simp [intOf]; omega
            · have ca' : wz.cell? ⟨g1, m, none⟩ = some (.int .u8 7) := by rw [ca]; unfold roomF; rw [if_neg (by omega), if_pos (by omega)]
              have d2 : decide ((m : Int) < (n : Int)) = false := decide_eq_false (by omega)
              have d2' : decide (m < n) = false := decide_eq_false hmn
              have d3 : decide ((n : Int) ≤ (m : Int)) = true := decide_eq_true (by omega)
              have d3' : decide (n ≤ m) = true := decide_eq_true (by omega)
              clear ca hlz hwz hc1 hv1 hgb hfz hnl
              go_wp2_with fail
              go_quiet (fail)
              go_wp2_with fail
              go_roundw
              case rel => exact ⟨rfl, m + 1, _, by omega, by go_num, (unhide HEN).1.same (fun _ _ => rfl), (unhide HEN).2.2, ⟨(unhide HEN).2.1.os, (unhide HEN).2.1.tape, (unhide HEN).2.1.output, (unhide HEN).2.1.size, (unhide HEN).2.1.blk⟩⟩
              case measure => simp [intOf]; omega
          · have hme : m = n + 3 := by omega
            subst hme
            have e1 : decide (((n + 3 : Nat) : Int) < (n : Int) + 3) = false := decide_eq_false (by omega)
            have HEN : Hid (∃ kt' V' ws', Gave w wz pw [d.p, d.bw, d.bh] kt kt' V' ∧ Ar wz d.p d.bw d.bh ws' d.hs d.used ∧ (rspan d.R at' from' n ≠ 0 → ws' = d.ws) ∧ (rspan d.R at' from' n = 0 → ∀ j f : Nat, j < d.R.L.length → at' = (place d.R.L j : Nat) → from' = f → Written d.ws ws' (place d.R.L j + 1 + (d.R.L.getD j (0, 0, 0)).2.1) (d.R.L.getD j (0, 0, 0)).2.2 f l)) := hide (by
              have G2 := (unhide HG1).write k hk64 (unhide HPW) (by rw [unhide HV1]; exact unhide HWQ) (by rw [unhide HV1]; exact ⟨_, _, unhide HLQ⟩)
              have G3 := G2.but hi (unhide HPW) (unhide HB3) (unhide HMM)
              have G4 := G3.write k hk64 (unhide HPW) (by rw [unhide HV1]; exact hwz) (by rw [unhide HV1]; exact ⟨_, _, hlz⟩)
              have ne : ∀ x ∈ [d.p, d.bw, d.bh], wz.heap[x]? = w3.heap[x]? := fun x hx => hwz.blk x (fun e => unhide HGN (by injection e with e; have e' : g = x := e; rw [e']; exact hx))
              exact ⟨_, _, ws3, G4, (unhide HX3).1.conf (by rw [hwz.size]; exact Nat.le_refl _) (ne _ (by simp)) (ne _ (by simp)) (ne _ (by simp)), (unhide HX3).2.1, (unhide HX3).2.2⟩)
            clear hlz hwz hfz
            go_wp2
            go_ret2
            exact ⟨rfl, unhide HEN⟩
  · have n1 : ((n0 : Int) != (n : Int) + 3) = true := by simp; omega
    go_enter Try.func33, Try.ntmps33
    go_upto_region 3 with fail
    go_wp2_with (at_make; refine wpList_make_full _ rfl _ _ 22 rfl w.heap.size 5 i0 (.int .u8 0) 1 Try.underlying22 hi0 hz0 hz1 .i64 .i64 _ _ (n + 3) rfl rfl rfl rfl (by rw [hz2]; omega) (by simp [maxLen]; omega) (Nat.le_refl _) ?_)
    intro wm hown hgrow
    have hbm : Below w.heap.size w wm := (Below.refl _ _).grown hgrow (Nat.le_refl _) (fun k h => by cases h)
    obtain ⟨lm, _⟩ := line_of_own hown
    have lpw := (unhide HPW).1
    have cm : wm.cell? ⟨pw, 39 + k, none⟩ = some (.slice a0 n0 c0) := (hbm.cell (p := ⟨pw, 39 + k, none⟩) lpw).trans r1
    have fm : wm.frozen? ⟨pw, 39 + k, none⟩ = false := (World.frozen?_of_block (a := ⟨pw, 39 + k, none⟩) (hbm.block pw lpw)).trans r2
    have HGX := hide (unhide HRN wm hbm _ _ _ lm rfl)
    have HLM := hide lm
    clear hown hgrow lm r1 r2 r3
    go_upto_region 5 with fail
    obtain ⟨w1, hw1⟩ : ∃ w1, w1 = wm.setCell ⟨pw, 39 + k, none⟩ (.slice (some ⟨w.heap.size, 0, none⟩) (n + 3) (n + 3)) := ⟨_, rfl⟩
    rw [← hw1] at HGX ⊢
    obtain ⟨g, hgw⟩ : ∃ g, g = w.heap.size := ⟨_, rfl⟩
    have HLR : Hid (Line w1 5 (.slice (some ⟨g, 0, none⟩) (n + 3) (n + 3)) (n + 3) (fun j => (List.replicate (n + 3) (Value.int .u8 0)).getD j undef)) := hide (by
      rw [hw1, hgw]
      have h1 := (unhide HLM).same (w' := wm.setCell ⟨pw, 39 + k, none⟩ (.slice (some ⟨w.heap.size, 0, none⟩) (n + 3) (n + 3))) (fun q hq => by
        injection hq with hq
        have e' : w.heap.size = q := hq
        rw [← e']
        exact setCell_else wm pw (39 + k) _ _ (by omega))
      rw [made_cells] at h1
      exact h1)
    obtain ⟨f1, hf1e⟩ : ∃ f1, f1 = (fun j => (List.replicate (n + 3) (Value.int .u8 0)).getD j undef) := ⟨_, rfl⟩
    rw [← hf1e] at HLR
    obtain ⟨V1, hV1⟩ : ∃ V1, V1 = (fun j => if j = k then Value.slice (some ⟨w.heap.size, 0, none⟩) (n + 3) (n + 3) else V j) := ⟨_, rfl⟩
    have HG1 : Hid (Gave w w1 pw [] kt (tagAt kt (.slice (some ⟨w.heap.size, 0, none⟩) (n + 3) (n + 3)) (10 + k)) V1) := hide (by rw [hV1]; exact unhide HGX)
    have HV1 : Hid (V1 k = .slice (some ⟨g, 0, none⟩) (n + 3) (n + 3)) := hide (by subst hV1; simp [hgw])
    have HGN : Hid (g ∉ [d.p, d.bw, d.bh]) := hide (fun hx => by have := (unhide HMM g hx).2; omega)
    have HBG : Hid (∀ b off, a = some ⟨b, off, none⟩ → l ≠ [] → b ≠ g) := hide (fun b off e hne e2 => by have := (unhide HSP b off e hne).1; omega)
    have hcap : n + 3 ≤ n + 3 := by omega
    have hcapm : n + 3 ≤ 9223372036854775807 := by omega
    have HA1 : Hid (Ar w1 d.p d.bw d.bh d.ws d.hs d.used ∧ Bytes w1 a l) := hide (unhide HAR w1 w1 _ _ (unhide HG1) (Wrote.refl _ _) ⟨_, _, by rw [unhide HV1]; exact unhide HLR⟩)
    generalize tagAt kt (.slice (some ⟨w.heap.size, 0, none⟩) (n + 3) (n + 3)) (10 + k) = kt1 at *
    rw [← hgw]
    clear hw1 hV1 hf1e HGX HLM cm fm hbm lpw hgw n1 HRN

    /- copy -/
    have HCP : Hid ((Builtin.copy_ #[22, 22] 3 #[.slice (some ⟨g, 0, none⟩) (n + 3) (n + 3), .slice a n cap]).run Try.prog w1 = .ok (goInt n) (w1.setCells g 0 (cellsOf l))) := hide (by
      have hnl := unhide HN
      by_cases hl0 : n = 0
      · have : l = [] := List.eq_nil_of_length_eq_zero (by omega)
        subst this
        subst hl0
        exact run_copy_none w1 22 22 3 5 _ a _ _ 0 cap Try.underlying22 size5 (Nat.zero_min _)
      · rcases (unhide HA1).2 with h0 | ⟨b, o, rfl, hbl, hcl⟩
        · rw [h0] at hnl; simp at hnl; omega
        · obtain ⟨g1, cp1, hv1, hgb, hc1⟩ := (unhide HLR).at (by omega)
          have eg : g1 = g := by simpa [Value.ownBlock] using hgb.symm
          subst eg
          have h1 := run_copy_cells (P := Try.prog) w1 22 22 3 5 g1 0 (n + 3) (n + 3) ⟨b, o, none⟩ n cap (cellsOf l) Try.underlying22 size5 (by rw [cellsOf_length]; show _ = min _ _; omega)
            (fun j v hv => by
              obtain ⟨hj, rfl⟩ := cellsOf_get l j v hv
              rw [add_plain]
              exact hcl j hj)
            (fun j hj => by
              rw [cellsOf_length] at hj
              rw [Nat.zero_add, (hc1 j (by omega)).1]; rfl)
            (fun j hj => by
              rw [cellsOf_length] at hj
              rw [Nat.zero_add]; exact (hc1 j (by omega)).2) (cellsOf_one l)
          rw [cellsOf_length, hnl] at h1
          exact h1)
    have HL2 : Hid (Line (w1.setCells g 0 (cellsOf l)) 5 (.slice (some ⟨g, 0, none⟩) (n + 3) (n + 3)) (n + 3) (roomF l n f1) ∧ Wrote (.slice (some ⟨g, 0, none⟩) (n + 3) (n + 3)) w1 (w1.setCells g 0 (cellsOf l))) := hide (by
      have hnl := unhide HN
      refine ⟨((unhide HLR).puts rfl (cellsOf l) 0 (by rw [cellsOf_length]; omega)).congr (fun j hj => ?_), ?_⟩
      · unfold roomF
        show (if 0 ≤ j ∧ j < 0 + (cellsOf l).length then (cellsOf l).getD (j - 0) undef else f1 j) = _
        rw [cellsOf_length]
        by_cases e : j < l.length
        · rw [if_pos (by omega), if_pos e, Nat.sub_zero, List.getD_eq_getElem?_getD, cellsOf_at l j e]; rfl
        · rw [if_neg (by omega), if_neg e, if_neg (by omega)]
      · obtain ⟨s1, s2, s3, s4⟩ := setCells_size g (cellsOf l) 0 w1
        exact ⟨s2, s3, s4, s1, fun j hj => setCells_else g _ 0 w1 j (fun e => hj (by rw [e]; rfl))⟩)
    obtain ⟨w2, hw2⟩ : ∃ w2, w2 = w1.setCells g 0 (cellsOf l) := ⟨_, rfl⟩
    rw [← hw2] at HCP HL2
    have hcp := unhide HCP
    clear hw2 HCP
    go_wp2_with fail
    clear hcp
    go_loopw [13] (fun i wq => ∃ m : Nat, n ≤ m ∧ m ≤ n + 3 ∧ i = .int .i64 m ∧ Line wq 5 (.slice (some ⟨g, 0, none⟩) (n + 3) (n + 3)) (n + 3) (roomF l m f1) ∧ Wrote (.slice (some ⟨g, 0, none⟩) (n + 3) (n + 3)) w1 wq) (fun i _ => n + 3 - (intOf i).toNat)
    case atStart => exact ⟨n, by omega, by omega, rfl, (unhide HL2).1, (unhide HL2).2⟩
    case round =>
      clear HL2
      obtain ⟨m, hm1, hm2, rfl, hlq, hwq⟩ := hrel
      rename World => wq
      by_cases hlt : m < n + 3
      · have d1 : decide ((m : Int) < (n : Int) + 3) = true := decide_eq_true (by omega)
        have d1' : decide (m < n + 3) = true := decide_eq_true hlt
        have d1'' : decide ((m : Int) < ((n + 3 : Nat) : Int)) = true := decide_eq_true (by omega)
        have x0 : (0 : Int) ≤ (m : Int) := by omega
        have x1 : (m : Int) < ((n + 3 : Nat) : Int) := by omega
        have x1' : (m : Int) < (n : Int) + 3 := by omega
        obtain ⟨g1, cp1, hv1, hgb, hc1⟩ := hlq.at (by omega)
        have e : g1 = g := by simpa [Value.ownBlock] using hgb.symm
        subst e
        obtain ⟨ca, fa⟩ := hc1 m hlt
        have HEN : Hid (Line (wq.setCell ⟨g1, m, none⟩ (.int .u8 7)) 5 (.slice (some ⟨g1, 0, none⟩) (n + 3) (n + 3)) (n + 3) (roomF l (m + 1) f1) ∧ Wrote (.slice (some ⟨g1, 0, none⟩) (n + 3) (n + 3)) w1 (wq.setCell ⟨g1, m, none⟩ (.int .u8 7))) := hide ⟨(hlq.put rfl m _ hlt).congr (fun j hj => by
          have hnl := unhide HN
          show (if j = m then _ else roomF l m f1 j) = _
          unfold roomF
          by_cases e1 : j = m
          · rw [if_pos e1, if_neg (by omega), if_pos (by omega)]
          · rw [if_neg e1]
            by_cases e2 : j < l.length
            · rw [if_pos e2, if_pos e2]
            · rw [if_neg e2, if_neg e2]
              by_cases e3 : j < m
              · rw [if_pos e3, if_pos (by omega)]
              · rw [if_neg e3, if_neg (by omega)]), hwq.set rfl m _⟩
        clear hlq hwq hc1 hv1 hgb
        go_wp2_with fail
        go_roundw
        case rel => exact ⟨m + 1, by omega, by omega, by go_num, (unhide HEN).1, (unhide HEN).2⟩
        case measure => simp [intOf]; omega
      · have hme : m = n + 3 := by omega
        subst hme
        have d1 : decide (((n + 3 : Nat) : Int) < (n : Int) + 3) = false := decide_eq_false (by omega)
        have hA := unhide HAR w1 wq _ _ (unhide HG1) (by rw [unhide HV1]; exact hwq) (by rw [unhide HV1]; exact ⟨_, _, hlq⟩)
        have hby : Bytes wq (some ⟨g, 0, none⟩) l := by
          have hnl := unhide HN
          by_cases h0 : n = 0
          · exact .inl (List.eq_nil_of_length_eq_zero (by omega))
          · obtain ⟨g1, cp1, hv1, hgb, hc1⟩ := hlq.at (by omega)
            have e : g1 = g := by simpa [Value.ownBlock] using hgb.symm
            subst e
            exact .inr ⟨g1, 0, rfl, hlq.lt g1 rfl, fun q hq => by
              rw [Nat.zero_add, (hc1 q (by omega)).1]
              unfold roomF
              rw [if_pos hq]⟩
        have HPQ := hide (unhide HPS wq g (n + 3) hA.1 hby)
        have HLQ := hide hlq
        have HWQ := hide hwq
        have HBQ := hide hA.2
        have z1 : (0 : Int) ≤ (n : Int) := by omega
        have z2 : (n : Int) ≤ ((n + 3) : Int) := by omega
        have hcc : ¬ (n + 3) = 0 := by omega
        clear hlq hwq hA hby HPS HAR
        go_wp2_with fail
        refine (unhide HPQ).mono ?_
        rintro e w3 ⟨rfl, b3, ws3, ar3, q1, q2⟩
        have HX3 := hide (And.intro ar3 (And.intro q1 q2))
        have hng : g ∉ [d.p, d.bw, d.bh] := unhide HGN
        have hl3 : Line w3 5 (.slice (some ⟨g, 0, none⟩) (n + 3) (n + 3)) (n + 3) (roomF l (n + 3) f1) := (unhide HLQ).same (fun q hq => by
          injection hq with hq
          subst hq
          exact b3.block g ((unhide HLQ).lt g rfl) hng)
        have HL3 := hide hl3
        have HB3 := hide b3
        have HY3 := hide (unhide HBB wq w3 (unhide HBQ) (by rw [(unhide HWQ).size]; exact (unhide HG1).size) b3)
        clear b3 ar3 q1 q2 hl3 HPQ hng
        go_wp2_with fail
        go_loopw [15, 16] (fun okv i wz => okv = .bool true ∧ ∃ (m : Nat) (f3 : Nat → Value), m ≤ n + 3 ∧ i = .int .i64 m ∧ Line wz 5 (.slice (some ⟨g, 0, none⟩) (n + 3) (n + 3)) (n + 3) f3 ∧ (∀ j, m ≤ j → j < n + 3 → f3 j = roomF l (n + 3) f1 j) ∧ Wrote (.slice (some ⟨g, 0, none⟩) (n + 3) (n + 3)) w3 wz) (fun _ i _ => n + 3 - (intOf i).toNat)
        case atStart => exact ⟨rfl, 0, _, by omega, rfl, unhide HL3, (fun _ _ _ => rfl), Wrote.refl _ _⟩
        case round =>
          clear HL3
          obtain ⟨rfl, m, f3, hm, rfl, hlz, hfz, hwz⟩ := hrel
          rename World => wz
          by_cases hlt2 : m < n + 3
          · have e1 : decide ((m : Int) < (n : Int) + 3) = true := decide_eq_true (by omega)
            have e1' : decide (m < n + 3) = true := decide_eq_true hlt2
            have x0 : (0 : Int) ≤ (m : Int) := by omega
            have x1 : (m : Int) < ((n + 3 : Nat) : Int) := by omega
            have x1' : (m : Int) < (n : Int) + 3 := by omega
            obtain ⟨g1, cp1, hv1, hgb, hc1⟩ := hlz.at (by omega)
            have e : g1 = g := by simpa [Value.ownBlock] using hgb.symm
            subst e
            obtain ⟨ca, fa⟩ := hc1 m hlt2
            rw [hfz m (Nat.le_refl _) hlt2] at ca
            have HEN : Hid (Line (wz.setCell ⟨g1, m, none⟩ (.int .u8 238)) 5 (.slice (some ⟨g1, 0, none⟩) (n + 3) (n + 3)) (n + 3) (fun j => if j = m then .int .u8 238 else f3 j) ∧ Wrote (.slice (some ⟨g1, 0, none⟩) (n + 3) (n + 3)) w3 (wz.setCell ⟨g1, m, none⟩ (.int .u8 238)) ∧ ∀ j, m + 1 ≤ j → j < n + 3 → (if j = m then .int .u8 238 else f3 j) = roomF l (n + 3) f1 j) := hide ⟨hlz.put rfl m _ hlt2, hwz.set rfl m _, fun j h1 h2 => by rw [if_neg (by omega)]; exact hfz j (by omega) h2⟩
            have hnl := unhide HN
            by_cases hmn : m < n
            · have ca' : wz.cell? ⟨g1, m, none⟩ = some (.int .u8 (l.getD m 0 : Nat)) := by rw [ca]; unfold roomF; rw [if_pos (by omega)]
              obtain ⟨b, off, rfl, ck⟩ : ∃ b off, a = some ⟨b, off, none⟩ ∧ wz.cell? ⟨b, off + m, none⟩ = some (.int .u8 (l.getD m 0 : Nat)) := by
                rcases unhide HY3 with h0 | ⟨b, off, rfl, hbl, hc⟩
                · rw [h0] at hnl; simp at hnl; omega
                · refine ⟨b, off, rfl, ?_⟩
                  by_cases ebg : b = g1
                  · exact absurd ebg (unhide HBG b off rfl (fun e => by rw [e] at hnl; simp at hnl; omega))
                  · rw [World.cell?_of_block (a := ⟨b, off + m, none⟩) (hwz.blk b (fun e => ebg (by injection e with e; exact e.symm)))]
                    exact hc m (by omega)
              have d2 : decide ((m : Int) < (n : Int)) = true := decide_eq_true (by omega)
              have d2' : decide (m < n) = true := decide_eq_true hmn
              have d3 : decide ((n : Int) ≤ (m : Int)) = false := decide_eq_false (by omega)
              have d3' : decide (n ≤ m) = false := decide_eq_false (by omega)
              have x2 : (m : Int) < (n : Int) := by omega
              generalize l.getD m 0 = x at *
              clear ca hlz hwz hc1 hv1 hgb hfz hnl
              go_wp2_with fail
              go_quiet (fail)
              go_wp2_with fail
              go_roundw
              case rel => exact ⟨rfl, m + 1, _, by omega, by go_num, (unhide HEN).1.same (fun _ _ => rfl), (unhide HEN).2.2, ⟨(unhide HEN).2.1.os, (unhide HEN).2.1.tape, (unhide HEN).2.1.output, (unhide HEN).2.1.size, (unhide HEN).2.1.blk⟩⟩
              case measure => simp [intOf]; omega
            · have ca' : wz.cell? ⟨g1, m, none⟩ = some (.int .u8 7) := by rw [ca]; unfold roomF; rw [if_neg (by omega), if_pos (by omega)]
              have d2 : decide ((m : Int) < (n : Int)) = false := decide_eq_false (by omega)
              have d2' : decide (m < n) = false := decide_eq_false hmn
              have d3 : decide ((n : Int) ≤ (m : Int)) = true := decide_eq_true (by omega)
              have d3' : decide (n ≤ m) = true := decide_eq_true (by omega)
              clear ca hlz hwz hc1 hv1 hgb hfz hnl
              go_wp2_with fail
              go_quiet (fail)
              go_wp2_with fail
              go_roundw
              case rel => exact ⟨rfl, m + 1, _, by omega, by go_num, (unhide HEN).1.same (fun _ _ => rfl), (unhide HEN).2.2, ⟨(unhide HEN).2.1.os, (unhide HEN).2.1.tape, (unhide HEN).2.1.output, (unhide HEN).2.1.size, (unhide HEN).2.1.blk⟩⟩
              case measure => simp [intOf]; omega
          · have hme : m = n + 3 := by omega
            subst hme
            have e1 : decide (((n + 3 : Nat) : Int) < (n : Int) + 3) = false := decide_eq_false (by omega)
            have HEN : Hid (∃ kt' V' ws', Gave w wz pw [d.p, d.bw, d.bh] kt kt' V' ∧ Ar wz d.p d.bw d.bh ws' d.hs d.used ∧ (rspan d.R at' from' n ≠ 0 → ws' = d.ws) ∧ (rspan d.R at' from' n = 0 → ∀ j f : Nat, j < d.R.L.length → at' = (place d.R.L j : Nat) → from' = f → Written d.ws ws' (place d.R.L j + 1 + (d.R.L.getD j (0, 0, 0)).2.1) (d.R.L.getD j (0, 0, 0)).2.2 f l)) := hide (by
              have G2 := (unhide HG1).write k hk64 (unhide HPW) (by rw [unhide HV1]; exact unhide HWQ) (by rw [unhide HV1]; exact ⟨_, _, unhide HLQ⟩)
              have G3 := G2.but hi (unhide HPW) (unhide HB3) (unhide HMM)
              have G4 := G3.write k hk64 (unhide HPW) (by rw [unhide HV1]; exact hwz) (by rw [unhide HV1]; exact ⟨_, _, hlz⟩)
              have ne : ∀ x ∈ [d.p, d.bw, d.bh], wz.heap[x]? = w3.heap[x]? := fun x hx => hwz.blk x (fun e => unhide HGN (by injection e with e; have e' : g = x := e; rw [e']; exact hx))
              exact ⟨_, _, ws3, G4, (unhide HX3).1.conf (by rw [hwz.size]; exact Nat.le_refl _) (ne _ (by simp)) (ne _ (by simp)) (ne _ (by simp)), (unhide HX3).2.1, (unhide HX3).2.2⟩)
            clear hlz hwz hfz
            go_wp2
            go_ret2
            exact ⟨rfl, unhide HEN⟩
end Go.Proofs.Ytdgdnpgjbphgaab
