/- The book of PostExact: look. -/
import Derived.Test.YtjmnddcombepaaaDm
namespace Go.Proofs.Ytjmnddcombepaaa
open Go.ChangeShapes Go.WideShapes Go.ChangeAt Go.RowKit Go.Maps
set_option linter.unusedVariables false
set_option linter.unusedSimpArgs false
set_option maxRecDepth 100000
set_option maxHeartbeats 8000000
def ent0 : Ent := ⟨undef, 0, []⟩
/-- lists of texts and of hits that bear marks; the rows that hold them; the rows of the marks -/
structure BD where
  A : List Ent
  B : List Ent
  ta : Option Addr
  na : Nat
  tc : Nat
  ha : Option Addr
  nh : Nat
  hc : Nat
  ma : Option Addr
  mc : Nat
  ia : Option Addr
  ic : Nat
/-- only blocks of some colours have changed, or their colours -/
structure Cx (C : Nat → Prop) (X : Nat → Nat) (w : World) (X' : Nat → Nat) (w' : World) : Prop where
  os : w'.os = w.os
  tape : w'.tape = w.tape
  output : w'.output = w.output
  size : w.heap.size ≤ w'.heap.size
  block : ∀ b, b < w.heap.size → ¬ C (X b) → w'.heap[b]? = w.heap[b]? ∧ X' b = X b
theorem Cx.refl (C : Nat → Prop) (X : Nat → Nat) (w : World) : Cx C X w X w := ⟨rfl, rfl, rfl, Nat.le_refl _, fun _ _ _ => ⟨rfl, rfl⟩⟩
theorem Cx.of {C : Nat → Prop} {X : Nat → Nat} {w w' : World} (h : Below w.heap.size w w') : Cx C X w X w' := ⟨h.os, h.tape, h.output, h.size, fun b hb _ => ⟨h.block b hb, rfl⟩⟩
theorem Cx.trans {C : Nat → Prop} {X X' X'' : Nat → Nat} {w w' w'' : World} (h : Cx C X w X' w') (k : Cx C X' w' X'' w'') : Cx C X w X'' w'' :=
  ⟨k.os.trans h.os, k.tape.trans h.tape, k.output.trans h.output, Nat.le_trans h.size k.size, fun b hb hn => by
    obtain ⟨h1, h2⟩ := h.block b hb hn
    obtain ⟨k1, k2⟩ := k.block b (Nat.lt_of_lt_of_le hb h.size) (by rw [h2]; exact hn)
    exact ⟨k1.trans h1, k2.trans h2⟩⟩
theorem Cx.mono {C C' : Nat → Prop} {X X' : Nat → Nat} {w w' : World} (h : Cx C X w X' w') (hc : ∀ k, C k → C' k) : Cx C' X w X' w' :=
  ⟨h.os, h.tape, h.output, h.size, fun b hb hn => h.block b hb (fun z => hn (hc _ z))⟩
/-- the book in memory; X: the blocks' colours: 1 the book's own, 2 to 5 the rows, 6 lists of texts, 7 lists of hits -/
structure BK (W : World) (X : Nat → Nat) (B0 bp : Nat) (D : BD) : Prop where
  lt : ∀ b, X b ≠ 0 → b < W.heap.size ∧ B0 ≤ b
  cell : W.heap[bp]? = some (.cells #[.slice D.ta D.na D.tc, .slice D.ha D.nh D.hc, .slice D.ma D.na D.mc, .slice D.ia D.nh D.ic] 63 (0, 0))
  xbp : X bp = 1
  ka : KL W 9 1 B0 D.A
  xa : ∀ x ∈ D.A, ∀ g, x.v.ownBlock = some g → X g = 6
  kb : KL W 45 3 B0 D.B
  xb : ∀ x ∈ D.B, ∀ g, x.v.ownBlock = some g → X g = 7
  ra : Rws W 47 1 (.slice D.ta D.na D.tc) D.na (fun k => (D.A.getD k ent0).v)
  xra : ∀ g, (Value.slice D.ta D.na D.tc).ownBlock = some g → X g = 2
  rb : Rws W 35 1 (.slice D.ha D.nh D.hc) D.nh (fun k => (D.B.getD k ent0).v)
  xrb : ∀ g, (Value.slice D.ha D.nh D.hc).ownBlock = some g → X g = 3
  rm : Rws W 9 1 (.slice D.ma D.na D.mc) D.na (fun k => (D.A.getD k ent0).c.getD 0 undef)
  xrm : ∀ g, (Value.slice D.ma D.na D.mc).ownBlock = some g → X g = 4
  ri : Rws W 3 1 (.slice D.ia D.nh D.ic) D.nh (fun k => (D.B.getD k ent0).c.getD 0 undef)
  xri : ∀ g, (Value.slice D.ia D.nh D.ic).ownBlock = some g → X g = 5
  la : D.A.length = D.na
  lb : D.B.length = D.nh
  fa : D.na ≤ 1202
  fb : D.nh ≤ 1202
  ca : ∀ x ∈ D.A, (∃ T, x.c = [.string (bs T)]) ∧ x.n ≤ 900000
  cb : ∀ x ∈ D.B, (∃ m : Nat, x.c = [.int .i64 m, .bool false, .string ⟨#[]⟩]) ∧ x.n ≤ 900000
theorem BK.below {W W' : World} {X : Nat → Nat} {B0 bp : Nat} {D : BD} (h : BK W X B0 bp D) (hb : Below W.heap.size W W') : BK W' X B0 bp D :=
  ⟨fun b hb' => ⟨Nat.lt_of_lt_of_le (h.lt b hb').1 hb.size, (h.lt b hb').2⟩, (hb.block _ (blk_lt h.cell)).trans h.cell, h.xbp, h.ka.below hb, h.xa, h.kb.below hb, h.xb, h.ra.below hb, h.xra, h.rb.below hb, h.xrb, h.rm.below hb, h.xrm, h.ri.below hb, h.xri, h.la, h.lb, h.fa, h.fb, h.ca, h.cb⟩
/-- blocks of other colours have changed -/
theorem BK.cx {C : Nat → Prop} {W W' : World} {X X' : Nat → Nat} {B0 bp : Nat} {D : BD} (h : BK W X B0 bp D) (hc : Cx C X W X' W') (hC : ∀ k, C k → k = 0 ∨ 8 ≤ k) (hlt : ∀ b, X' b ≠ 0 → b < W'.heap.size ∧ B0 ≤ b) : BK W' X' B0 bp D := by
  have key : ∀ b k, X b = k → k ≠ 0 → k < 8 → W'.heap[b]? = W.heap[b]? ∧ X' b = k := fun b k hk h0 h8 => by
    obtain ⟨q1, q2⟩ := hc.block b (h.lt b (by omega)).1 (fun z => by have := hC _ z; omega)
    exact ⟨q1, q2.trans hk⟩
  refine ⟨hlt, (key bp 1 h.xbp (by omega) (by omega)).1.trans h.cell, (key bp 1 h.xbp (by omega) (by omega)).2, h.ka.same fun x hx g hg => (key g 6 (h.xa x hx g hg) (by omega) (by omega)).1, fun x hx g hg => (key g 6 (h.xa x hx g hg) (by omega) (by omega)).2, h.kb.same fun x hx g hg => (key g 7 (h.xb x hx g hg) (by omega) (by omega)).1, fun x hx g hg => (key g 7 (h.xb x hx g hg) (by omega) (by omega)).2, h.ra.same fun g hg => (key g 2 (h.xra g hg) (by omega) (by omega)).1, fun g hg => (key g 2 (h.xra g hg) (by omega) (by omega)).2, h.rb.same fun g hg => (key g 3 (h.xrb g hg) (by omega) (by omega)).1, fun g hg => (key g 3 (h.xrb g hg) (by omega) (by omega)).2, h.rm.same fun g hg => (key g 4 (h.xrm g hg) (by omega) (by omega)).1, fun g hg => (key g 4 (h.xrm g hg) (by omega) (by omega)).2, h.ri.same fun g hg => (key g 5 (h.xri g hg) (by omega) (by omega)).1, fun g hg => (key g 5 (h.xri g hg) (by omega) (by omega)).2, h.la, h.lb, h.fa, h.fb, h.ca, h.cb⟩
end Go.Proofs.Ytjmnddcombepaaa
namespace Go.Proofs.Ytjmnddcombepaaa
open Go.ChangeShapes Go.WideShapes Go.ChangeAt Go.RowKit Go.Maps
set_option linter.unusedVariables false
set_option linter.unusedSimpArgs false
set_option maxRecDepth 100000
set_option maxHeartbeats 8000000
/-- the i-th list of texts: where it stands, where its mark stands, its cells -/
theorem BK.text {W : World} {X : Nat → Nat} {B0 bp : Nat} {D : BD} (h : BK W X B0 bp D) {i : Nat} (hi : i < D.na) : ∃ (g mg : Nat) (xa : Option Addr) (n c : Nat) (s : ByteArray), D.ta = some ⟨g, 0, none⟩ ∧ D.ma = some ⟨mg, 0, none⟩ ∧ n ≤ 900000 ∧ g < W.heap.size ∧ mg < W.heap.size ∧ W.cell? ⟨g, i, none⟩ = some (.slice xa n c) ∧ W.cell? ⟨mg, i, none⟩ = some (.string s) ∧ ∀ k, k < n → ∃ xg, xa = some ⟨xg, 0, none⟩ ∧ xg < W.heap.size ∧ W.cell? ⟨xg, k, none⟩ = some (.string s) := by
  obtain ⟨x, hx⟩ : ∃ x, D.A[i]? = some x := ⟨_, List.getElem?_eq_getElem (by rw [h.la]; exact hi)⟩
  have hg : D.A.getD i ent0 = x := by rw [List.getD_eq_getElem?_getD, hx]; rfl
  have hm := List.mem_of_getElem? hx
  obtain ⟨hr, hcl⟩ := h.ka.row x hm
  obtain ⟨⟨T, hT⟩, hn9⟩ := h.ca x hm
  obtain ⟨xa, c, hv⟩ := hr.shape
  obtain ⟨g, cp, e1, -, g1, q1⟩ := h.ra.at (by omega)
  obtain ⟨mg, cp2, e2, -, g2, q2⟩ := h.rm.at (by omega)
  refine ⟨g, mg, xa, x.n, c, bs T, (Value.slice.inj e1).1, (Value.slice.inj e2).1, hn9, g1, g2, ?_, ?_, fun k hk => ?_⟩
  · rw [q1 i (by omega), hg, hv]
  · rw [q2 i (by omega), hg, hT]; rfl
  · obtain ⟨xg, cp3, e3, -, g3, q3⟩ := hr.at (by omega)
    rw [hv] at e3
    cases e3
    refine ⟨xg, rfl, g3, ?_⟩
    rw [q3 k (by omega), hT]
    show some (List.getD _ (k % 1) undef) = _
    rw [Nat.mod_one]
    rfl
theorem BK.hit {W : World} {X : Nat → Nat} {B0 bp : Nat} {D : BD} (h : BK W X B0 bp D) {i : Nat} (hi : i < D.nh) : ∃ (g mg : Nat) (xa : Option Addr) (n c : Nat) (m : Nat), D.ha = some ⟨g, 0, none⟩ ∧ D.ia = some ⟨mg, 0, none⟩ ∧ n ≤ 900000 ∧ g < W.heap.size ∧ mg < W.heap.size ∧ W.cell? ⟨g, i, none⟩ = some (.slice xa n c) ∧ W.cell? ⟨mg, i, none⟩ = some (.int .i64 m) ∧ ∀ k, k < n → ∃ xg, xa = some ⟨xg, 0, none⟩ ∧ xg < W.heap.size ∧ W.cell? ⟨xg, k * 3, none⟩ = some (.int .i64 m) ∧ W.cell? ⟨xg, k * 3 + 2, none⟩ = some (.string ⟨#[]⟩) := by
  obtain ⟨x, hx⟩ : ∃ x, D.B[i]? = some x := ⟨_, List.getElem?_eq_getElem (by rw [h.lb]; exact hi)⟩
  have hg : D.B.getD i ent0 = x := by rw [List.getD_eq_getElem?_getD, hx]; rfl
  have hm := List.mem_of_getElem? hx
  obtain ⟨hr, hcl⟩ := h.kb.row x hm
  obtain ⟨⟨m, hT⟩, hn9⟩ := h.cb x hm
  obtain ⟨xa, c, hv⟩ := hr.shape
  obtain ⟨g, cp, e1, -, g1, q1⟩ := h.rb.at (by omega)
  obtain ⟨mg, cp2, e2, -, g2, q2⟩ := h.ri.at (by omega)
  refine ⟨g, mg, xa, x.n, c, m, (Value.slice.inj e1).1, (Value.slice.inj e2).1, hn9, g1, g2, ?_, ?_, fun k hk => ?_⟩
  · rw [q1 i (by omega), hg, hv]
  · rw [q2 i (by omega), hg, hT]; rfl
  · obtain ⟨xg, cp3, e3, -, g3, q3⟩ := hr.at (by omega)
    rw [hv] at e3
    cases e3
    have sh : ∀ j, mkF x.c (k * 3 + j) = mkF x.c j := fun j => by
      have := mkF_shift x.c k j
      rwa [hcl] at this
    refine ⟨xg, rfl, g3, ?_, ?_⟩
    · have := sh 0
      rw [Nat.add_zero] at this
      rw [q3 _ (by omega), this, hT]; rfl
    · rw [q3 _ (by omega), sh 2, hT]; rfl
theorem look_any (W : World) (X : Nat → Nat) (B0 bp : Nat) (D : BD) (h : BK W X B0 bp D) :
    Calls Try.prog 29 #[.pointer (some ⟨bp, 0, none⟩)] W fun e w' => e = .returned (.bool true) ∧ Hid (Below W.heap.size W w') := by
  obtain ⟨ta, ha2⟩ : ∃ ta, ta = D.ta := ⟨_, rfl⟩
  obtain ⟨na, hna⟩ : ∃ na, na = D.na := ⟨_, rfl⟩
  obtain ⟨nh, hnh⟩ : ∃ nh, nh = D.nh := ⟨_, rfl⟩
  obtain ⟨ma, hma⟩ : ∃ ma, ma = D.ma := ⟨_, rfl⟩
  obtain ⟨hha, hhh⟩ : ∃ hha, hha = D.ha := ⟨_, rfl⟩
  obtain ⟨ia, hia⟩ : ∃ ia, ia = D.ia := ⟨_, rfl⟩
  obtain ⟨tc, htc⟩ : ∃ tc, tc = D.tc := ⟨_, rfl⟩
  obtain ⟨hc, hhc⟩ : ∃ hc, hc = D.hc := ⟨_, rfl⟩
  obtain ⟨mc, hmc⟩ : ∃ mc, mc = D.mc := ⟨_, rfl⟩
  obtain ⟨ic, hic⟩ : ∃ ic, ic = D.ic := ⟨_, rfl⟩
  have HC : Hid (bp < W.heap.size ∧ W.heap[bp]? = some (.cells #[.slice ta na tc, .slice hha nh hc, .slice ma na mc, .slice ia nh ic] 63 (0, 0))) := by subst ha2 hna hnh hma hhh hia htc hhc hmc hic; exact hide ⟨blk_lt h.cell, h.cell⟩
  have HT : Hid (∀ i, i < na → ∃ (g mg : Nat) (xa : Option Addr) (n c : Nat) (s : ByteArray), ta = some ⟨g, 0, none⟩ ∧ ma = some ⟨mg, 0, none⟩ ∧ n ≤ 900000 ∧ g < W.heap.size ∧ mg < W.heap.size ∧ W.cell? ⟨g, i, none⟩ = some (.slice xa n c) ∧ W.cell? ⟨mg, i, none⟩ = some (.string s) ∧ ∀ k, k < n → ∃ xg, xa = some ⟨xg, 0, none⟩ ∧ xg < W.heap.size ∧ W.cell? ⟨xg, k, none⟩ = some (.string s)) := by subst ha2 hna hma; exact hide (fun i hi => h.text hi)
  have HH : Hid (∀ i, i < nh → ∃ (g mg : Nat) (xa : Option Addr) (n c : Nat) (m : Nat), hha = some ⟨g, 0, none⟩ ∧ ia = some ⟨mg, 0, none⟩ ∧ n ≤ 900000 ∧ g < W.heap.size ∧ mg < W.heap.size ∧ W.cell? ⟨g, i, none⟩ = some (.slice xa n c) ∧ W.cell? ⟨mg, i, none⟩ = some (.int .i64 m) ∧ ∀ k, k < n → ∃ xg, xa = some ⟨xg, 0, none⟩ ∧ xg < W.heap.size ∧ W.cell? ⟨xg, k * 3, none⟩ = some (.int .i64 m) ∧ W.cell? ⟨xg, k * 3 + 2, none⟩ = some (.string ⟨#[]⟩)) := by subst hhh hnh hia; exact hide (fun i hi => h.hit hi)
  have hn1 : na ≤ 1202 := by rw [hna]; exact h.fa
  have hn2 : nh ≤ 1202 := by rw [hnh]; exact h.fb
  clear h ha2 hna hnh hma hhh hia htc hhc hmc hic
  have HB : Hid (∀ wr, Below W.heap.size W wr → wr.cell? ⟨bp, 0, none⟩ = some (.slice ta na tc) ∧ wr.cell? ⟨bp, 1, none⟩ = some (.slice hha nh hc) ∧ wr.cell? ⟨bp, 2, none⟩ = some (.slice ma na mc) ∧ wr.cell? ⟨bp, 3, none⟩ = some (.slice ia nh ic)) := hide (fun wr hb => by
    have e := (hb.block bp (unhide HC).1).trans (unhide HC).2
    exact ⟨cell_blk e 0, cell_blk e 1, cell_blk e 2, cell_blk e 3⟩)
  go_enter Try.func29, Try.ntmps29
  go_wp2_with fail
  go_loopw [3] (fun iv wr => ∃ i : Nat, iv = .int .i64 ((i : Nat) : Int) ∧ i ≤ na ∧ Hid (Below W.heap.size W wr)) (fun iv _ => na - (intOf iv).toNat)
  case atStart => exact ⟨0, rfl, Nat.zero_le _, hide (Below.refl _ _)⟩
  case round =>
    rename World => wo
    obtain ⟨i, rfl, hi, HW⟩ := hrel
    obtain ⟨b0, b1, b2, b3⟩ := (unhide HB) wo (unhide HW)
    by_cases hin : i < na
    · have f1 : decide ((i : Int) < (na : Int)) = true := decide_eq_true (by omega)
      have f9 : decide (i < na) = true := decide_eq_true hin
      have g1 : (0 : Int) ≤ (i : Int) := by omega
      have g2 : (i : Int) < (na : Int) := by omega
      obtain ⟨g, mg, xa, n, c, s, rfl, rfl, hn9, hgl, hmgl, t1, t2, t3⟩ := (unhide HT) i hin
      have T3 := hide t3
      clear t3
      go_wp2_with fail
      go_loopw [4] (fun kv wr => ∃ k : Nat, kv = .int .i64 ((k : Nat) : Int) ∧ k ≤ n ∧ Hid (Below W.heap.size W wr)) (fun kv _ => n - (intOf kv).toNat)
      case atStart => exact ⟨0, rfl, Nat.zero_le _, HW⟩
      case round =>
        rename World => wr
        obtain ⟨k, rfl, hk, HV⟩ := hrel
        clear b0 b1 b2 b3
        obtain ⟨b0, b1, b2, b3⟩ := (unhide HB) wr (unhide HV)
        have t1 := ((unhide HV).cell (p := ⟨g, i, none⟩) hgl).trans t1
        have t2 := ((unhide HV).cell (p := ⟨mg, i, none⟩) hmgl).trans t2
        by_cases hkn : k < n
        · have p1 : decide ((k : Int) < (n : Int)) = true := decide_eq_true (by omega)
          have p9 : decide (k < n) = true := decide_eq_true hkn
          have r1 : (0 : Int) ≤ (k : Int) := by omega
          have r2 : (k : Int) < (n : Int) := by omega
          obtain ⟨xg, rfl, hxg, t3⟩ := (unhide T3) k hkn
          have t3 := ((unhide HV).cell (p := ⟨xg, k, none⟩) hxg).trans t3
          have HV2 := hide ((unhide HV).drew)
          go_wp2_with fail
          refine wp_region_noPanic ?_
          go_region
          refine NoPanic.normal ?_
          go_wp2_with fail
          all_goals go_roundw
          case rel => exact ⟨k + 1, by go_num, by omega, HV2⟩
          case measure => simp [intOf]; omega
        · obtain rfl : k = n := by omega
          have p1 : decide ((k : Int) < (k : Int)) = false := decide_eq_false (by omega)
          have p9 : decide (k < k) = false := decide_eq_false (by omega)
          go_wp2_with fail
          all_goals go_roundw
          case rel => exact ⟨i + 1, by go_num, by omega, HV⟩
          case measure => simp [intOf]; omega
    · obtain rfl : i = na := by omega
      have f1 : decide ((i : Int) < (i : Int)) = false := decide_eq_false (by omega)
      have f9 : decide (i < i) = false := decide_eq_false (by omega)
      go_wp2_with fail
      have HN := hide hi
      clear hin hi
      go_loopw [5] (fun iv wr => ∃ j : Nat, iv = .int .i64 ((j : Nat) : Int) ∧ j ≤ nh ∧ Hid (Below W.heap.size W wr)) (fun iv _ => nh - (intOf iv).toNat)
      case atStart => exact ⟨0, rfl, Nat.zero_le _, HW⟩
      case round =>
        clear b0 b1 b2 b3 HW f1 f9
        rename World => wq
        obtain ⟨j, rfl, hj, HW⟩ := hrel
        obtain ⟨b0, b1, b2, b3⟩ := (unhide HB) wq (unhide HW)
        by_cases hin : j < nh
        · have f1 : decide ((j : Int) < (nh : Int)) = true := decide_eq_true (by omega)
          have f9 : decide (j < nh) = true := decide_eq_true hin
          have g1 : (0 : Int) ≤ (j : Int) := by omega
          have g2 : (j : Int) < (nh : Int) := by omega
          obtain ⟨g, mg, xa, n, c, m, rfl, rfl, hn9, hgl, hmgl, t1, t2, t3⟩ := (unhide HH) j hin
          have T3 := hide t3
          clear t3
          go_wp2_with fail
          go_loopw [6] (fun kv wr => ∃ k : Nat, kv = .int .i64 ((k : Nat) : Int) ∧ k ≤ n ∧ Hid (Below W.heap.size W wr)) (fun kv _ => n - (intOf kv).toNat)
          case atStart => exact ⟨0, rfl, Nat.zero_le _, HW⟩
          case round =>
            rename World => wr
            obtain ⟨k, rfl, hk, HV⟩ := hrel
            clear b0 b1 b2 b3
            obtain ⟨b0, b1, b2, b3⟩ := (unhide HB) wr (unhide HV)
            have t1 := ((unhide HV).cell (p := ⟨g, j, none⟩) hgl).trans t1
            have t2 := ((unhide HV).cell (p := ⟨mg, j, none⟩) hmgl).trans t2
            by_cases hkn : k < n
            · have p1 : decide ((k : Int) < (n : Int)) = true := decide_eq_true (by omega)
              have p9 : decide (k < n) = true := decide_eq_true hkn
              have r1 : (0 : Int) ≤ (k : Int) := by omega
              have r2 : (k : Int) < (n : Int) := by omega
              obtain ⟨xg, rfl, hxg, t3, t4⟩ := (unhide T3) k hkn
              have t3 := ((unhide HV).cell (p := ⟨xg, k * 3, none⟩) hxg).trans t3
              have t4 := ((unhide HV).cell (p := ⟨xg, k * 3 + 2, none⟩) hxg).trans t4
              have HV2 := hide ((unhide HV).drew)
              go_wp2_with fail
              refine wp_region_noPanic ?_
              go_region
              refine NoPanic.normal ?_
              go_wp2_with fail
              all_goals go_roundw
              case rel => exact ⟨k + 1, by go_num, by omega, HV2⟩
              case measure => simp [intOf]; omega
            · obtain rfl : k = n := by omega
              have p1 : decide ((k : Int) < (k : Int)) = false := decide_eq_false (by omega)
              have p9 : decide (k < k) = false := decide_eq_false (by omega)
              go_wp2_with fail
              all_goals go_roundw
              case rel => exact ⟨j + 1, by go_num, by omega, HV⟩
              case measure => simp [intOf]; omega
        · obtain rfl : j = nh := by omega
          have f1 : decide ((j : Int) < (j : Int)) = false := decide_eq_false (by omega)
          have f9 : decide (j < j) = false := decide_eq_false (by omega)
          go_wp2_with fail
          go_ret
          exact ⟨rfl, HW⟩
end Go.Proofs.Ytjmnddcombepaaa
