/- changes: MvFollow. -/
import Derived.Test.YtidfllgaeiopjaaGreatWrA
namespace Go.Proofs.YtidfllgaeiopjaaGreat
open Go.ChangeShapes Go.WideShapes Go.ChangeAt Go.RowKit
set_option linter.unusedVariables false
set_option linter.unusedSimpArgs false
set_option maxRecDepth 100000
set_option maxHeartbeats 1000000


theorem writes_zero {w : World} {ps ph : Nat} (dd A B Cc hh gg : Int) (vv ref : Nat) (da : Option Addr) (dl dc : Nat) {gN nN cN lw i : Nat} {aw : Option Addr} {cw : Nat} {R G : World → Prop} (c0 : w.cell? ⟨ps, 0, none⟩ = some (.pointer (some ⟨ph, 0, none⟩)))
    (c1 : w.cell? ⟨ps, 1, none⟩ = some (.slice (some ⟨gN, 0, none⟩) nN cN)) (hi : i < nN) (hi2 : nN ≤ 1000000) (hdl : dl ≤ 140737488355328)
    (n2 : w.cell? ⟨gN, i * 3 + 2, none⟩ = some (.slice aw lw cw)) (hlw : lw ≤ 1048576)
    (H94 : ∀ W, Below (w.heap.size + 1) (w.alloc (mvB dd A B Cc hh gg vv (.slice da dl dc))) W → Calls Tryz.prog 94 #[.slice da dl dc] W fun e w' => ∃ a' cap', e = .returned (.slice a' dl cap') ∧ Below W.heap.size W w' ∧
      Calls Tryz.prog 93 #[.pointer (some ⟨ph, 0, none⟩), .int .u64 (ref : Nat), .int .i64 A, .slice a' dl cap'] w' fun e w'' => e = .returned (.int .i64 0) ∧ w''.heap[ps]? = w'.heap[ps]? ∧ w''.heap[gN]? = w'.heap[gN]? ∧ w''.heap[w.heap.size]? = w'.heap[w.heap.size]? ∧ G w'')
    {f : Nat} (hA : A = (f : Nat)) (hsp : f ≤ 8 * lw) (hdl0 : dl = 0) (HR : ∀ w5, G w5 → R w5) :
    Calls Tryz.prog 60 #[.pointer (some ⟨ps, 0, none⟩), .int .u64 (ref : Nat), .int .i64 (i : Nat), mvV dd A B Cc hh gg vv (.slice da dl dc)] w fun e w' => e = .returned (.bool true) ∧ R w' := by
  have hpl : ps < w.heap.size := block_lt_of_cell c0
  have hgl : gN < w.heap.size := block_lt_of_cell n2
  have hb : Below w.heap.size w (w.alloc (mvB dd A B Cc hh gg vv (.slice da dl dc))) := (Below.refl _ _).alloc (Nat.le_refl _) _
  have hsz : (w.alloc (mvB dd A B Cc hh gg vv (.slice da dl dc))).heap.size = w.heap.size + 1 := by simp
  have bx := Boxed.new w dd A B Cc hh gg vv (.slice da dl dc)
  have L0 : LimbW ps ph w.heap.size gN nN cN i A (.slice da dl dc) (.slice aw lw cw) (w.alloc (mvB dd A B Cc hh gg vv (.slice da dl dc))) := ⟨(hb.cell (p := ⟨ps, 0, none⟩) hpl).trans c0, (hb.cell (p := ⟨ps, 1, none⟩) hpl).trans c1, bx.m1, bx.m7, (hb.cell (p := ⟨gN, i * 3 + 2, none⟩) hgl).trans n2⟩
  have H94' : Hid (∀ W, Hid (Below (w.heap.size + 1) (w.alloc (mvB dd A B Cc hh gg vv (.slice da dl dc))) W) → Calls Tryz.prog 94 #[.slice da dl dc] W fun e w' => ∃ a' cap', e = .returned (.slice a' dl cap') ∧ LimbW ps ph w.heap.size gN nN cN i A (.slice da dl dc) (.slice aw lw cw) w' ∧
      Hid (Calls Tryz.prog 93 #[.pointer (some ⟨ph, 0, none⟩), .int .u64 (ref : Nat), .int .i64 A, .slice a' dl cap'] w' fun e w'' => e = .returned (.int .i64 0) ∧ LimbW ps ph w.heap.size gN nN cN i A (.slice da dl dc) (.slice aw lw cw) w'' ∧ Hid (G w''))) := hide (fun W hW => (H94 W (unhide hW)).mono fun e w' ⟨a', cap', q1, q2, q3⟩ => by
    have kW := unhide hW
    have k2 := kW.trans (q2.mono (by have := kW.size; rw [hsz] at this; exact this))
    have hl : LimbW ps ph w.heap.size gN nN cN i A (.slice da dl dc) (.slice aw lw cw) w' := L0.like (k2.block ps (by omega)) (k2.block gN (by omega)) (k2.block w.heap.size (by omega))
    exact ⟨a', cap', q1, hl, hide (q3.mono fun e w'' ⟨z1, z2, z3, z4, z5⟩ => ⟨z1, hl.like z2 z3 z4, hide z5⟩)⟩)
  have HR' := hide HR
  have HA := hide hA
  have HD0 := hide hdl0
  have hO0 : Hid (Below (w.heap.size + 1) (w.alloc (mvB dd A B Cc hh gg vv (.slice da dl dc))) (w.alloc (mvB dd A B Cc hh gg vv (.slice da dl dc)))) := hide (Below.refl _ _)
  obtain ⟨x0, x1, y1, y7, z2⟩ := L0
  have i1 : (0 : Int) ≤ (i : Nat) := by omega
  have i2 : (i : Int) < (nN : Nat) := by omega
  have mu : IntKind.i64.wrap (8 * (lw : Int)) = 8 * (lw : Int) := wrap_small _ (by omega) (by omega)
  clear H94 hb hsz bx c0 c1 n2 HR hA hdl0
  unfold mvV
  unfold mvB at H94' hO0 x0 x1 y1 y7 z2
  generalize hW : World.alloc w _ = W0 at *
  generalize hB : w.heap.size = b at *
  go_enter Tryz.func60, Tryz.ntmps60
  go_wp2_with fail
  (try rw [hW]); (try rw [hB])
  go_region_held3 (fun w' => w'.cell? ⟨ps, 0, none⟩ = some (.pointer (some ⟨ph, 0, none⟩)) ∧ w'.cell? ⟨b, 1, none⟩ = some (.int .i64 A) ∧ w'.cell? ⟨b, 7, none⟩ = some (.slice da dl dc)) (go_keep) (first | (go_at_call 94; refine (unhide H94' _ (hide (unhide hO0).drew)).mono ?_; rintro e w3 ⟨a', cap', rfl, ⟨x0, x1, y1, y7, z2⟩, H93⟩) | (go_at_call 93; refine (unhide H93).mono ?_; rintro e w4 ⟨rfl, ⟨x0, x1, y1, y7, z2⟩, hR⟩))
  obtain rfl := unhide HA
  obtain rfl := unhide HD0
  have d1 : decide ((f : Int) < 0) = false := decide_eq_false (by omega)
  have d2 : decide (8 * (lw : Int) < (f : Nat)) = false := decide_eq_false (by omega)
  have d3 : decide (8 * (lw : Int) - (f : Nat) < ((0 : Nat) : Int)) = false := decide_eq_false (by omega)
  have d3' : decide (8 * (lw : Int) - (f : Nat) < 0) = false := decide_eq_false (by omega)
  have su : IntKind.i64.wrap (8 * (lw : Int) - (f : Nat)) = 8 * (lw : Int) - (f : Nat) := wrap_small _ (by omega) (by omega)
  go_wp2_with fail
  go_loopw [11] (fun kv wr => kv = .int .i64 0 ∧ wr = w4) (fun _ _ => 0)
  case atStart => exact ⟨rfl, rfl⟩
  case round =>
    obtain ⟨rfl, rfl⟩ := hrel
    go_wp2
    go_ret
    exact ⟨rfl, unhide HR' _ (unhide hR)⟩
end Go.Proofs.YtidfllgaeiopjaaGreat
namespace Go.Proofs.YtidfllgaeiopjaaGreat
open Go.ChangeShapes Go.WideShapes Go.ChangeAt Go.RowKit
set_option linter.unusedVariables false
set_option linter.unusedSimpArgs false
set_option maxRecDepth 100000
set_option maxHeartbeats 1000000


/-- the words of the block ga have become L; all else is as it was in w5 -/
structure WrI (ga lw : Nat) (L : List Nat) (w5 W : World) : Prop where
  os : W.os = w5.os
  tape : W.tape = w5.tape
  output : W.output = w5.output
  size : W.heap.size = w5.heap.size
  blk : ∀ g, g ≠ ga → W.heap[g]? = w5.heap[g]?
  cel : ∀ j, j < lw → W.cell? ⟨ga, j, none⟩ = some (.int .u64 (L.getD j 0 : Nat)) ∧ W.frozen? ⟨ga, j, none⟩ = false
  shp : ∀ cur t c2, w5.heap[ga]? = some (.cells cur t c2) → ∃ cur', W.heap[ga]? = some (.cells cur' t c2) ∧ cur'.size = cur.size
theorem WrI.still {ga lw : Nat} {L : List Nat} {w5 W W' : World} (h : WrI ga lw L w5 W) (k : Still W W') : WrI ga lw L w5 W' :=
  ⟨k.os.trans h.os, k.tape.trans h.tape, k.output.trans h.output, by rw [k.heap]; exact h.size, fun g e => by rw [k.heap]; exact h.blk g e, fun j hj => ⟨(k.cell _).trans (h.cel j hj).1, by rw [← (h.cel j hj).2]; simp only [World.frozen?, k.heap]⟩, fun cur t c2 e => by rw [k.heap]; exact h.shp cur t c2 e⟩
theorem WrI.set {ga lw : Nat} {L : List Nat} {w5 W : World} (h : WrI ga lw L w5 W) (hL : L.length = lw) (q x : Nat) (hq : q < lw) : WrI ga lw (L.set q x) w5 (W.setCell ⟨ga, q, none⟩ (.int .u64 (x : Nat))) := by
  refine ⟨h.os, h.tape, h.output, by rw [World.size_setCell]; exact h.size, fun g e => by rw [setCell_else _ _ _ _ _ e]; exact h.blk g e, fun j hj => ?_, fun cur t c2 e => ?_⟩
  · rw [World.frozen?_setCell, getD_set0 _ _ _ _ (by omega)]
    refine ⟨?_, (h.cel j hj).2⟩
    by_cases e : j = q
    · subst e
      rw [if_pos rfl]
      exact World.cell?_setCell_same' _ _ _ (by rw [(h.cel j hj).1]; rfl)
    · rw [if_neg e, World.cell?_setCell_other _ _ _ _ (by simp [e])]
      exact (h.cel j hj).1
  · obtain ⟨cur', e1, e2⟩ := h.shp cur t c2 e
    refine ⟨cur'.setIfInBounds q (.int .u64 (x : Nat)), ?_, by simp [e2]⟩
    simp [World.setCell, Array.getElem?_modify, e1]
theorem upd_bits (o t c : Nat) (ho : o < 18446744073709551616) (ht : t < 8) (hc : c < 256) : bits BinOp.or IntKind.u64 (bits BinOp.andNot IntKind.u64 (o : Int) (IntKind.u64.wrap (255 * 2 ^ (8 * t)))) (IntKind.u64.wrap ((c : Int) * 2 ^ (8 * t))) = (updN o t c : Nat) := by
  have h2 : 2 ^ (8 * t) ≤ 2 ^ 56 := Nat.pow_le_pow_right (by decide) (by omega)
  have h3 : c * 2 ^ (8 * t) ≤ 255 * 2 ^ 56 := Nat.mul_le_mul (by omega) h2
  have w1 : IntKind.u64.wrap (255 * 2 ^ (8 * t)) = ((255 * 2 ^ (8 * t) : Nat) : Int) := by
    rw [IntKind.wrap_u64, show (255 : Int) * 2 ^ (8 * t) = ((255 * 2 ^ (8 * t) : Nat) : Int) by simp]
    omega
  have w2 : IntKind.u64.wrap ((c : Int) * 2 ^ (8 * t)) = ((c * 2 ^ (8 * t) : Nat) : Int) := by
    rw [IntKind.wrap_u64, show (c : Int) * 2 ^ (8 * t) = ((c * 2 ^ (8 * t) : Nat) : Int) by simp]
    omega
  rw [w1, w2]
  have e1 : bits BinOp.andNot IntKind.u64 (o : Int) ((255 * 2 ^ (8 * t) : Nat) : Int) = ((o &&& (18446744073709551615 - 255 * 2 ^ (8 * t)) : Nat) : Int) := u64_andNot_nat o (255 * 2 ^ (8 * t)) ho (by omega)
  rw [e1]
  have h4 : o &&& (18446744073709551615 - 255 * 2 ^ (8 * t)) ≤ o := Nat.and_le_left
  exact u64_or_nat _ _ (by omega) (by omega)

theorem writes_yes {w : World} {ps ph : Nat} (dd A B Cc hh gg : Int) (vv ref : Nat) (da : Option Addr) (dl dc : Nat) {gN nN cN lw i : Nat} {aw : Option Addr} {cw : Nat} {R G : World → Prop} (c0 : w.cell? ⟨ps, 0, none⟩ = some (.pointer (some ⟨ph, 0, none⟩)))
    (c1 : w.cell? ⟨ps, 1, none⟩ = some (.slice (some ⟨gN, 0, none⟩) nN cN)) (hi : i < nN) (hi2 : nN ≤ 1000000) (hdl : dl ≤ 140737488355328)
    (n2 : w.cell? ⟨gN, i * 3 + 2, none⟩ = some (.slice aw lw cw)) (hlw : lw ≤ 1048576)
    (H94 : ∀ W, Below (w.heap.size + 1) (w.alloc (mvB dd A B Cc hh gg vv (.slice da dl dc))) W → Calls Tryz.prog 94 #[.slice da dl dc] W fun e w' => ∃ a' cap', e = .returned (.slice a' dl cap') ∧ Below W.heap.size W w' ∧
      Calls Tryz.prog 93 #[.pointer (some ⟨ph, 0, none⟩), .int .u64 (ref : Nat), .int .i64 A, .slice a' dl cap'] w' fun e w'' => e = .returned (.int .i64 0) ∧ w''.heap[ps]? = w'.heap[ps]? ∧ w''.heap[gN]? = w'.heap[gN]? ∧ w''.heap[w.heap.size]? = w'.heap[w.heap.size]? ∧ G w'')
    {f : Nat} (hA : A = (f : Nat)) (hsp : f + dl ≤ 8 * lw) (l d : List Nat) (hl : l.length = lw) (hw : W64 l) (hd : d.length = dl) (hds : ∀ i, i < d.length → d.getD i 0 < 256) (ga db doff : Nat) (haw : aw = some ⟨ga, 0, none⟩) (hda : 0 < dl → da = some ⟨db, doff, none⟩)
    (np : ga ≠ ps) (nn : ga ≠ gN) (nb : ga ≠ w.heap.size) (nd : 0 < dl → ga ≠ db)
    (HG : ∀ w5, G w5 → (∀ j, j < lw → w5.cell? ⟨ga, j, none⟩ = some (.int .u64 (l.getD j 0 : Nat)) ∧ w5.frozen? ⟨ga, j, none⟩ = false) ∧ ∀ k, k < dl → w5.cell? ⟨db, doff + k, none⟩ = some (.int .u8 (d.getD k 0 : Nat))) (HR : ∀ w5, G w5 → ∀ W, WrI ga lw (layN l f d dl) w5 W → R W) :
    Calls Tryz.prog 60 #[.pointer (some ⟨ps, 0, none⟩), .int .u64 (ref : Nat), .int .i64 (i : Nat), mvV dd A B Cc hh gg vv (.slice da dl dc)] w fun e w' => e = .returned (.bool true) ∧ R w' := by
  have hpl : ps < w.heap.size := block_lt_of_cell c0
  have hgl : gN < w.heap.size := block_lt_of_cell n2
  have hb : Below w.heap.size w (w.alloc (mvB dd A B Cc hh gg vv (.slice da dl dc))) := (Below.refl _ _).alloc (Nat.le_refl _) _
  have hsz : (w.alloc (mvB dd A B Cc hh gg vv (.slice da dl dc))).heap.size = w.heap.size + 1 := by simp
  have bx := Boxed.new w dd A B Cc hh gg vv (.slice da dl dc)
  have L0 : LimbW ps ph w.heap.size gN nN cN i A (.slice da dl dc) (.slice aw lw cw) (w.alloc (mvB dd A B Cc hh gg vv (.slice da dl dc))) := ⟨(hb.cell (p := ⟨ps, 0, none⟩) hpl).trans c0, (hb.cell (p := ⟨ps, 1, none⟩) hpl).trans c1, bx.m1, bx.m7, (hb.cell (p := ⟨gN, i * 3 + 2, none⟩) hgl).trans n2⟩
  have H94' : Hid (∀ W, Hid (Below (w.heap.size + 1) (w.alloc (mvB dd A B Cc hh gg vv (.slice da dl dc))) W) → Calls Tryz.prog 94 #[.slice da dl dc] W fun e w' => ∃ a' cap', e = .returned (.slice a' dl cap') ∧ LimbW ps ph w.heap.size gN nN cN i A (.slice da dl dc) (.slice aw lw cw) w' ∧
      Hid (Calls Tryz.prog 93 #[.pointer (some ⟨ph, 0, none⟩), .int .u64 (ref : Nat), .int .i64 A, .slice a' dl cap'] w' fun e w'' => e = .returned (.int .i64 0) ∧ LimbW ps ph w.heap.size gN nN cN i A (.slice da dl dc) (.slice aw lw cw) w'' ∧ Hid (G w''))) := hide (fun W hW => (H94 W (unhide hW)).mono fun e w' ⟨a', cap', q1, q2, q3⟩ => by
    have kW := unhide hW
    have k2 := kW.trans (q2.mono (by have := kW.size; rw [hsz] at this; exact this))
    have hl : LimbW ps ph w.heap.size gN nN cN i A (.slice da dl dc) (.slice aw lw cw) w' := L0.like (k2.block ps (by omega)) (k2.block gN (by omega)) (k2.block w.heap.size (by omega))
    exact ⟨a', cap', q1, hl, hide (q3.mono fun e w'' ⟨z1, z2, z3, z4, z5⟩ => ⟨z1, hl.like z2 z3 z4, hide z5⟩)⟩)
  have HR' := hide HR
  have HG' := hide HG
  have HA := hide hA
  have HLL := hide hl
  have HDD := hide hd
  have HDA := hide hda
  have HND := hide nd
  have HW6 := hide hw
  have HDS := hide hds
  have hO0 : Hid (Below (w.heap.size + 1) (w.alloc (mvB dd A B Cc hh gg vv (.slice da dl dc))) (w.alloc (mvB dd A B Cc hh gg vv (.slice da dl dc)))) := hide (Below.refl _ _)
  obtain ⟨x0, x1, y1, y7, z2⟩ := L0
  have i1 : (0 : Int) ≤ (i : Nat) := by omega
  have i2 : (i : Int) < (nN : Nat) := by omega
  have mu : IntKind.i64.wrap (8 * (lw : Int)) = 8 * (lw : Int) := wrap_small _ (by omega) (by omega)
  clear H94 hb hsz bx c0 c1 n2 HR HG hA hl hd hda nd hw hds
  unfold mvV
  unfold mvB at H94' hO0 x0 x1 y1 y7 z2
  generalize hW : World.alloc w _ = W0 at *
  generalize hB : w.heap.size = b at *
  go_enter Tryz.func60, Tryz.ntmps60
  go_wp2_with fail
  (try rw [hW]); (try rw [hB])
  go_region_held3 (fun w' => w'.cell? ⟨ps, 0, none⟩ = some (.pointer (some ⟨ph, 0, none⟩)) ∧ w'.cell? ⟨b, 1, none⟩ = some (.int .i64 A) ∧ w'.cell? ⟨b, 7, none⟩ = some (.slice da dl dc)) (go_keep) (first | (go_at_call 94; refine (unhide H94' _ (hide (unhide hO0).drew)).mono ?_; rintro e w3 ⟨a', cap', rfl, ⟨x0, x1, y1, y7, z2⟩, H93⟩) | (go_at_call 93; refine (unhide H93).mono ?_; rintro e w4 ⟨rfl, ⟨x0, x1, y1, y7, z2⟩, hR⟩))
  obtain rfl := unhide HA
  have d1 : decide ((f : Int) < 0) = false := decide_eq_false (by omega)
  have d2 : decide (8 * (lw : Int) < (f : Nat)) = false := decide_eq_false (by omega)
  have d3 : decide (8 * (lw : Int) - (f : Nat) < (dl : Nat)) = false := decide_eq_false (by omega)
  have su : IntKind.i64.wrap (8 * (lw : Int) - (f : Nat)) = 8 * (lw : Int) - (f : Nat) := wrap_small _ (by omega) (by omega)
  go_wp2_with fail
  obtain ⟨g1, g2⟩ := unhide HG' _ (unhide hR)
  have hI0 : Hid (WrI ga lw (layN l f d 0) w4 w4) := hide ⟨rfl, rfl, rfl, rfl, fun _ _ => rfl, g1, fun cur t c2 e => ⟨cur, e, rfl⟩⟩
  have HD2 := hide g2
  clear g1 g2
  subst haw
  have bnp : b ≠ ga := Ne.symm nb
  have HB1 := hide y1
  have HB7 := hide y7
  clear x0 x1 y1 y7 z2
  go_loopw [11] (fun kv wr => ∃ k : Nat, k ≤ dl ∧ kv = .int .i64 (k : Nat) ∧ Hid (WrI ga lw (layN l f d k) w4 wr)) (fun kv _ => dl - (intOf kv).toNat)
  case atStart => exact ⟨0, by omega, rfl, hI0⟩
  case round =>
    obtain ⟨k, hk, rfl, hI⟩ := hrel
    have I := unhide hI
    have y1 : wr.cell? ⟨b, 1, none⟩ = some (.int .i64 (f : Nat)) := (by rw [← unhide HB1]; simp only [World.cell?, I.blk b bnp])
    have y7 : wr.cell? ⟨b, 7, none⟩ = some (.slice da dl dc) := (by rw [← unhide HB7]; simp only [World.cell?, I.blk b bnp])
    by_cases hlt : k < dl
    · have hda := unhide HDA (by omega)
      subst hda
      have ndb := unhide HND (by omega)
      obtain ⟨p, hp⟩ : ∃ p, p = f + k := ⟨_, rfl⟩
      obtain ⟨q, hq⟩ : ∃ q, q = p / 8 := ⟨_, rfl⟩
      obtain ⟨t, ht⟩ : ∃ t, t = p % 8 := ⟨_, rfl⟩
      obtain ⟨sh, hsh⟩ : ∃ sh, sh = 8 * t := ⟨_, rfl⟩
      obtain ⟨o, ho⟩ : ∃ o, o = (layN l f d k).getD q 0 := ⟨_, rfl⟩
      obtain ⟨c, hc⟩ : ∃ c, c = d.getD k 0 := ⟨_, rfl⟩
      have hql : q < lw := by omega
      have ca := (I.cel q hql).1
      rw [← ho] at ca
      have fa := (I.cel q hql).2
      have cd : wr.cell? ⟨db, doff + k, none⟩ = some (.int .u8 (c : Nat)) := by
        rw [hc, ← unhide HD2 k hlt]; simp only [World.cell?, I.blk db (Ne.symm ndb)]
      have hLL := unhide HLL
      have hDD := unhide HDD
      have hc256 : c < 256 := by rw [hc]; exact unhide HDS k (by omega)
      have ho64 : o < 18446744073709551616 := by rw [ho]; exact (layN_is l f d (unhide HW6) (unhide HDS) (by omega) k (by omega)).1 q
      have e1 : IntKind.i64.wrap ((f : Int) + (k : Nat)) = (p : Int) := by rw [show (f : Int) + (k : Nat) = (p : Int) by omega]; exact wrap_nat _ (by omega)
      have e2 : (p : Int).tdiv 8 = (q : Int) := by rw [Int.tdiv_eq_ediv_of_nonneg (by omega)]; omega
      have e2' : (p : Int) / 8 = (q : Int) := by omega
      have e3 : (p : Int).tmod 8 = (t : Int) := by rw [Int.tmod_eq_emod_of_nonneg (by omega)]; omega
      have e3' : (p : Int) % 8 = (t : Int) := by omega
      have e4 : IntKind.i64.wrap (8 * (t : Int)) = (sh : Int) := by rw [show 8 * (t : Int) = (sh : Int) by omega]; exact wrap_nat _ (by omega)
      have wq := wrap_nat q (by omega)
      have wt := wrap_nat t (by omega)
      have i3 : (0 : Int) ≤ (q : Nat) := by omega
      have i4 : (q : Int) < (lw : Nat) := by omega
      have i5 : (0 : Int) ≤ (k : Nat) := by omega
      have i6 : (k : Int) < (dl : Nat) := by omega
      have dlt : decide ((k : Int) < (dl : Nat)) = true := decide_eq_true (by omega)
      have HNX : Hid (WrI ga lw (layN l f d (k + 1)) w4 (wr.setCell ⟨ga, q, none⟩ (.int .u64 (updN o t c : Nat)))) := hide (by
        have := I.set (by rw [layN_length, hLL]) q (updN o t c) hql
        unfold layN
        rw [← hp, ← hq, ← ht, ← ho, ← hc]
        exact this)
      have ht8 : t < 8 := by omega
      clear I hI hLL hDD ho hc hq ht hp HD2 HB1 HB7
      have HV := hide (upd_bits o t c ho64 ht8 hc256)
      go_wp2
      go_region
      all_goals go_wp2
      all_goals refine ⟨⟨k + 1, by omega, by simp, ?_⟩, by simp [intOf]; omega⟩
      all_goals rw [unhide HV]
      all_goals exact hide ((unhide HNX).still ((Still.refl _).drew _))
    · have hkl : k = dl := by omega
      subst hkl
      have dlt : decide ((k : Int) < (k : Nat)) = false := decide_eq_false (by omega)
      go_wp2
      go_ret
      exact ⟨rfl, unhide HR' _ (unhide hR) _ (unhide hI)⟩
end Go.Proofs.YtidfllgaeiopjaaGreat
namespace Go.Proofs.YtidfllgaeiopjaaGreat
open Go.ChangeShapes Go.WideShapes Go.ChangeAt Go.RowKit
set_option linter.unusedVariables false
set_option linter.unusedSimpArgs false
set_option maxRecDepth 100000
set_option maxHeartbeats 1000000


theorem changes_none {w : World} {ps : Nat} (dd A B Cc hh gg : Int) (vv : Nat) (dv : Value) {hn id : Int} (hid : id < 1) {R : World → Prop}
    (H30 : ∀ W, Below (w.heap.size + 1) (w.alloc (mvB dd A B Cc hh gg vv dv)) W → Calls Tryz.prog 30 #[.pointer (some ⟨ps, 0, none⟩), .int .i64 hh] W fun e w' => e = .returned (.int .i64 hn) ∧ Still W w')
    (H33 : ∀ W, Below (w.heap.size + 1) (w.alloc (mvB dd A B Cc hh gg vv dv)) W → Calls Tryz.prog 33 #[.pointer (some ⟨ps, 0, none⟩), .int .i64 hn] W fun e w' => e = .returned (.int .i64 id) ∧ Still W w') (HR : ∀ W, Below w.heap.size w W → R W) :
    Calls Tryz.prog 32 #[.pointer (some ⟨ps, 0, none⟩), mvV dd A B Cc hh gg vv dv] w fun e w' => e = .returned (.bool true) ∧ R w' := by
  have hb : Below w.heap.size w (w.alloc (mvB dd A B Cc hh gg vv dv)) := (Below.refl _ _).alloc (Nat.le_refl _) _
  have hsz : (w.alloc (mvB dd A B Cc hh gg vv dv)).heap.size = w.heap.size + 1 := by simp
  have hOn : ∀ W w', Below (w.heap.size + 1) (w.alloc (mvB dd A B Cc hh gg vv dv)) W → Still W w' → Below (w.heap.size + 1) (w.alloc (mvB dd A B Cc hh gg vv dv)) w' := fun W w' k q => k.trans (q.below.mono (by have := k.size; rw [hsz] at this; exact this))
  have y4 := (Boxed.new w dd A B Cc hh gg vv dv).m4
  have H30' : Hid (∀ W, Hid (Below (w.heap.size + 1) (w.alloc (mvB dd A B Cc hh gg vv dv)) W) → Calls Tryz.prog 30 #[.pointer (some ⟨ps, 0, none⟩), .int .i64 hh] W fun e w' => e = .returned (.int .i64 hn) ∧ Hid (Below (w.heap.size + 1) (w.alloc (mvB dd A B Cc hh gg vv dv)) w')) := hide (fun W hW => (H30 W (unhide hW)).mono fun e w' ⟨q1, q2⟩ => ⟨q1, hide (hOn W w' (unhide hW) q2)⟩)
  have H33' : Hid (∀ W, Hid (Below (w.heap.size + 1) (w.alloc (mvB dd A B Cc hh gg vv dv)) W) → Calls Tryz.prog 33 #[.pointer (some ⟨ps, 0, none⟩), .int .i64 hn] W fun e w' => e = .returned (.int .i64 id) ∧ Hid (Below (w.heap.size + 1) (w.alloc (mvB dd A B Cc hh gg vv dv)) w')) := hide (fun W hW => (H33 W (unhide hW)).mono fun e w' ⟨q1, q2⟩ => ⟨q1, hide (hOn W w' (unhide hW) q2)⟩)
  have HR' : Hid (∀ W, Hid (Below (w.heap.size + 1) (w.alloc (mvB dd A B Cc hh gg vv dv)) W) → R W) := hide (fun W k => HR W (hb.trans ((unhide k).mono (by omega))))
  have hO0 : Hid (Below (w.heap.size + 1) (w.alloc (mvB dd A B Cc hh gg vv dv)) (w.alloc (mvB dd A B Cc hh gg vv dv))) := hide (Below.refl _ _)
  have d1 : decide (id < 1) = true := decide_eq_true hid
  clear H30 H33 hOn hb hsz HR
  unfold mvV
  unfold mvB at H30' H33' HR' hO0 y4
  generalize hW : World.alloc w _ = W0 at *
  generalize hB : w.heap.size = b at *
  go_enter Tryz.func32, Tryz.ntmps32
  go_wp2_with fail
  (try rw [hW]); (try rw [hB])
  refine (unhide H30' _ hO0).mono ?_
  rintro e w1 ⟨rfl, hO1⟩
  go_wp2_with fail
  refine (unhide H33' _ hO1).mono ?_
  rintro e w2 ⟨rfl, hO2⟩
  go_wp2_with fail
  go_ret
  exact ⟨rfl, unhide HR' _ hO2⟩

theorem changes_write {w : World} {ps ph : Nat} (A B Cc hh gg : Int) (vv : Nat) (dv : Value) {hn : Int} {gN nN cN lr lw i ref : Nat} {ar aw : Option Addr} {cr cw : Nat} (c0 : w.cell? ⟨ps, 0, none⟩ = some (.pointer (some ⟨ph, 0, none⟩)))
    (c1 : w.cell? ⟨ps, 1, none⟩ = some (.slice (some ⟨gN, 0, none⟩) nN cN)) (hi : i < nN) (hi2 : nN ≤ 1000000) (h1 : 1 ≤ i)
    (n1 : w.cell? ⟨gN, i * 3 + 1, none⟩ = some (.slice ar lr cr)) (n2 : w.cell? ⟨gN, i * 3 + 2, none⟩ = some (.slice aw lw cw)) (hlr : lr ≤ 1048576) (hlw : lw ≤ 1048576)
    (H30 : ∀ W, Below (w.heap.size + 1) (w.alloc (mvB 4 A B Cc hh gg vv dv)) W → Calls Tryz.prog 30 #[.pointer (some ⟨ps, 0, none⟩), .int .i64 hh] W fun e w' => e = .returned (.int .i64 hn) ∧ Still W w')
    (H33 : ∀ W, Below (w.heap.size + 1) (w.alloc (mvB 4 A B Cc hh gg vv dv)) W → Calls Tryz.prog 33 #[.pointer (some ⟨ps, 0, none⟩), .int .i64 hn] W fun e w' => e = .returned (.int .i64 (i : Nat)) ∧ Still W w')
    (H28 : ∀ W, Below (w.heap.size + 1) (w.alloc (mvB 4 A B Cc hh gg vv dv)) W → Calls Tryz.prog 28 #[.pointer (some ⟨ph, 0, none⟩), .int .i64 hn] W fun e w' => e = .returned (.tuple #[.int .u64 (ref : Nat), .int .i64 0]) ∧ Below W.heap.size W w')
     {R : World → Prop} (hod : dv.oneCell' = true) (H60 : ∀ W, Below (w.heap.size + 1) (w.alloc (mvB 4 A B Cc hh gg vv dv)) W → Calls Tryz.prog 60 #[.pointer (some ⟨ps, 0, none⟩), .int .u64 (ref : Nat), .int .i64 (i : Nat), mvV 4 A B Cc hh gg vv dv] W fun e w' => e = .returned (.bool true) ∧ R w') :
    Calls Tryz.prog 32 #[.pointer (some ⟨ps, 0, none⟩), mvV 4 A B Cc hh gg vv dv] w fun e w' => e = .returned (.bool true) ∧ R w' := by
  have hpl := block_lt_of_cell c0
  have hgl := block_lt_of_cell n1
  have hb : Below w.heap.size w (w.alloc (mvB 4 A B Cc hh gg vv dv)) := (Below.refl _ _).alloc (Nat.le_refl _) _
  have hsz : (w.alloc (mvB 4 A B Cc hh gg vv dv)).heap.size = w.heap.size + 1 := by simp
  have bx := Boxed.new w 4 A B Cc hh gg vv dv
  have L0 : Limbs ps ph w.heap.size gN nN cN i 4 A hh gg vv (.slice ar lr cr) (.slice aw lw cw) (w.alloc (mvB 4 A B Cc hh gg vv dv)) := ⟨(hb.cell (p := ⟨ps, 0, none⟩) hpl).trans c0, (hb.cell (p := ⟨ps, 1, none⟩) hpl).trans c1, bx.m0, bx.m1, bx.m4, bx.m5, bx.m6, (hb.cell (p := ⟨gN, i * 3 + 1, none⟩) hgl).trans n1, (hb.cell (p := ⟨gN, i * 3 + 2, none⟩) hgl).trans n2⟩
  have hL : ∀ W, Below (w.heap.size + 1) (w.alloc (mvB 4 A B Cc hh gg vv dv)) W → Limbs ps ph w.heap.size gN nN cN i 4 A hh gg vv (.slice ar lr cr) (.slice aw lw cw) W := fun W k => L0.on (by rw [hsz]; exact k)
  have hOn : ∀ W w', Below (w.heap.size + 1) (w.alloc (mvB 4 A B Cc hh gg vv dv)) W → Below W.heap.size W w' → Below (w.heap.size + 1) (w.alloc (mvB 4 A B Cc hh gg vv dv)) w' := fun W w' k q => k.trans (q.mono (by have := k.size; rw [hsz] at this; exact this))
  have H30' : Hid (∀ W, Hid (Below (w.heap.size + 1) (w.alloc (mvB 4 A B Cc hh gg vv dv)) W) → Calls Tryz.prog 30 #[.pointer (some ⟨ps, 0, none⟩), .int .i64 hh] W fun e w' => e = .returned (.int .i64 hn) ∧ Hid (Below (w.heap.size + 1) (w.alloc (mvB 4 A B Cc hh gg vv dv)) w') ∧ Limbs ps ph w.heap.size gN nN cN i 4 A hh gg vv (.slice ar lr cr) (.slice aw lw cw) w') := hide (fun W hW => (H30 W (unhide hW)).mono fun e w' ⟨q1, q2⟩ => ⟨q1, hide (hOn W w' (unhide hW) q2.below), hL w' (hOn W w' (unhide hW) q2.below)⟩)
  have H33' : Hid (∀ W, Hid (Below (w.heap.size + 1) (w.alloc (mvB 4 A B Cc hh gg vv dv)) W) → Calls Tryz.prog 33 #[.pointer (some ⟨ps, 0, none⟩), .int .i64 hn] W fun e w' => e = .returned (.int .i64 (i : Nat)) ∧ Hid (Below (w.heap.size + 1) (w.alloc (mvB 4 A B Cc hh gg vv dv)) w') ∧ Limbs ps ph w.heap.size gN nN cN i 4 A hh gg vv (.slice ar lr cr) (.slice aw lw cw) w') := hide (fun W hW => (H33 W (unhide hW)).mono fun e w' ⟨q1, q2⟩ => ⟨q1, hide (hOn W w' (unhide hW) q2.below), hL w' (hOn W w' (unhide hW) q2.below)⟩)
  have H28' : Hid (∀ W, Hid (Below (w.heap.size + 1) (w.alloc (mvB 4 A B Cc hh gg vv dv)) W) → Calls Tryz.prog 28 #[.pointer (some ⟨ph, 0, none⟩), .int .i64 hn] W fun e w' => e = .returned (.tuple #[.int .u64 (ref : Nat), .int .i64 0]) ∧ Hid (Below (w.heap.size + 1) (w.alloc (mvB 4 A B Cc hh gg vv dv)) w') ∧ Limbs ps ph w.heap.size gN nN cN i 4 A hh gg vv (.slice ar lr cr) (.slice aw lw cw) w') := hide (fun W hW => (H28 W (unhide hW)).mono fun e w' ⟨q1, q2⟩ => ⟨q1, hide (hOn W w' (unhide hW) q2), hL w' (hOn W w' (unhide hW) q2)⟩)
  have H60' : Hid (∀ W, Hid (Below (w.heap.size + 1) (w.alloc (mvB 4 A B Cc hh gg vv dv)) W) → Calls Tryz.prog 60 #[.pointer (some ⟨ps, 0, none⟩), .int .u64 (ref : Nat), .int .i64 (i : Nat), mvV 4 A B Cc hh gg vv dv] W fun e w' => e = .returned (.bool true) ∧ R w') := hide (fun W hW => H60 W (unhide hW))
  have HBX : Hid (∀ W, Hid (Below (w.heap.size + 1) (w.alloc (mvB 4 A B Cc hh gg vv dv)) W) → Boxed W w.heap.size 4 A B Cc hh gg vv dv) := hide (fun W hW => bx.same ((unhide hW).block w.heap.size (by omega)))
  have HOD := hide hod
  have hO0 : Hid (Below (w.heap.size + 1) (w.alloc (mvB 4 A B Cc hh gg vv dv)) (w.alloc (mvB 4 A B Cc hh gg vv dv))) := hide (Below.refl _ _)
  obtain ⟨x0, x1, y0, y1, y4, y5, y6, z1, z2⟩ := L0
  have d1 : decide ((i : Int) < 1) = false := decide_eq_false (by omega)
  have i1 : (0 : Int) ≤ (i : Nat) := by omega
  have i2 : (i : Int) < (nN : Nat) := by omega
  clear H30 H33 H28 hOn hL hb hsz bx c0 c1 n1 n2 H60 hod
  unfold mvV at H60' ⊢
  unfold mvB at H30' H33' H28' hO0 x0 x1 y0 y1 y4 y5 y6 z1 z2 H60' HBX
  generalize hW : World.alloc w _ = W0 at *
  generalize hB : w.heap.size = b at *
  go_enter Tryz.func32, Tryz.ntmps32
  go_wp2_with fail
  (try rw [hW]); (try rw [hB])
  refine (unhide H30' _ hO0).mono ?_
  rintro e w1 ⟨rfl, hO1, ⟨x0, x1, y0, y1, y4, y5, y6, z1, z2⟩⟩
  go_wp2_with fail
  refine (unhide H33' _ hO1).mono ?_
  rintro e w2 ⟨rfl, hO2, ⟨x0, x1, y0, y1, y4, y5, y6, z1, z2⟩⟩
  go_wp2_with fail
  go_region_held3 (fun w' => w'.cell? ⟨ps, 0, none⟩ = some (.pointer (some ⟨ph, 0, none⟩)) ∧ w'.cell? ⟨b, 4, none⟩ = some (.int .i64 hh)) (go_keep) (first | (go_at_call 30; refine (unhide H30' _ (hide (unhide hO2).drew)).mono ?_; rintro e w3 ⟨rfl, hO3, ⟨x0, x1, y0, y1, y4, y5, y6, z1, z2⟩⟩) | (go_at_call 28; refine (unhide H28' _ hO3).mono ?_; rintro e w4 ⟨rfl, hO4, ⟨x0, x1, y0, y1, y4, y5, y6, z1, z2⟩⟩))
  go_wp2_with fail
  go_region_held3 (fun w' => w'.cell? ⟨ps, 1, none⟩ = some (.slice (some ⟨gN, 0, none⟩) nN cN) ∧ w'.cell? ⟨gN, i * 3 + 1, none⟩ = some (.slice ar lr cr) ∧ w'.cell? ⟨gN, i * 3 + 2, none⟩ = some (.slice aw lw cw)) (go_keep) (fail)
  obtain ⟨r0, r1, r2, r3, r4, r5, r6, r7⟩ := unhide HBX w4 hO4
  go_wp2_with fail
  refine (unhide H60' _ (hide (unhide hO4).drew)).mono ?_
  rintro e w5 ⟨rfl, hR⟩
  go_wp2_with fail
  go_ret
  exact ⟨rfl, hR⟩
end Go.Proofs.YtidfllgaeiopjaaGreat
namespace Go.Proofs.YtidfllgaeiopjaaGreat
open Go.ChangeShapes Go.WideShapes Go.ChangeAt Go.RowKit
set_option linter.unusedVariables false
set_option linter.unusedSimpArgs false
set_option maxRecDepth 100000
set_option maxHeartbeats 1000000


theorem changes_follow0 {w : World} {ps ph : Nat} (A B Cc hh gg : Int) (vv : Nat) (dv : Value) {hn : Int} {gN nN cN lr lw i ref : Nat} {ar aw : Option Addr} {cr cw : Nat} (c0 : w.cell? ⟨ps, 0, none⟩ = some (.pointer (some ⟨ph, 0, none⟩)))
    (c1 : w.cell? ⟨ps, 1, none⟩ = some (.slice (some ⟨gN, 0, none⟩) nN cN)) (hi : i < nN) (hi2 : nN ≤ 1000000) (h1 : 1 ≤ i)
    (n1 : w.cell? ⟨gN, i * 3 + 1, none⟩ = some (.slice ar lr cr)) (n2 : w.cell? ⟨gN, i * 3 + 2, none⟩ = some (.slice aw lw cw)) (hlr : lr ≤ 1048576) (hlw : lw ≤ 1048576)
    (H30 : ∀ W, Below (w.heap.size + 1) (w.alloc (mvB 7 A B Cc hh gg vv dv)) W → Calls Tryz.prog 30 #[.pointer (some ⟨ps, 0, none⟩), .int .i64 hh] W fun e w' => e = .returned (.int .i64 hn) ∧ Still W w')
    (H33 : ∀ W, Below (w.heap.size + 1) (w.alloc (mvB 7 A B Cc hh gg vv dv)) W → Calls Tryz.prog 33 #[.pointer (some ⟨ps, 0, none⟩), .int .i64 hn] W fun e w' => e = .returned (.int .i64 (i : Nat)) ∧ Still W w')
    (H28 : ∀ W, Below (w.heap.size + 1) (w.alloc (mvB 7 A B Cc hh gg vv dv)) W → Calls Tryz.prog 28 #[.pointer (some ⟨ph, 0, none⟩), .int .i64 hn] W fun e w' => e = .returned (.tuple #[.int .u64 (ref : Nat), .int .i64 0]) ∧ Below W.heap.size W w')
    (hno : lr = 0) {R : World → Prop} (HR : ∀ W, Below w.heap.size w W → R W) :
    Calls Tryz.prog 32 #[.pointer (some ⟨ps, 0, none⟩), mvV 7 A B Cc hh gg vv dv] w fun e w' => e = .returned (.bool true) ∧ R w' := by
  have hpl := block_lt_of_cell c0
  have hgl := block_lt_of_cell n1
  have hb : Below w.heap.size w (w.alloc (mvB 7 A B Cc hh gg vv dv)) := (Below.refl _ _).alloc (Nat.le_refl _) _
  have hsz : (w.alloc (mvB 7 A B Cc hh gg vv dv)).heap.size = w.heap.size + 1 := by simp
  have bx := Boxed.new w 7 A B Cc hh gg vv dv
  have L0 : Limbs ps ph w.heap.size gN nN cN i 7 A hh gg vv (.slice ar lr cr) (.slice aw lw cw) (w.alloc (mvB 7 A B Cc hh gg vv dv)) := ⟨(hb.cell (p := ⟨ps, 0, none⟩) hpl).trans c0, (hb.cell (p := ⟨ps, 1, none⟩) hpl).trans c1, bx.m0, bx.m1, bx.m4, bx.m5, bx.m6, (hb.cell (p := ⟨gN, i * 3 + 1, none⟩) hgl).trans n1, (hb.cell (p := ⟨gN, i * 3 + 2, none⟩) hgl).trans n2⟩
  have hL : ∀ W, Below (w.heap.size + 1) (w.alloc (mvB 7 A B Cc hh gg vv dv)) W → Limbs ps ph w.heap.size gN nN cN i 7 A hh gg vv (.slice ar lr cr) (.slice aw lw cw) W := fun W k => L0.on (by rw [hsz]; exact k)
  have hOn : ∀ W w', Below (w.heap.size + 1) (w.alloc (mvB 7 A B Cc hh gg vv dv)) W → Below W.heap.size W w' → Below (w.heap.size + 1) (w.alloc (mvB 7 A B Cc hh gg vv dv)) w' := fun W w' k q => k.trans (q.mono (by have := k.size; rw [hsz] at this; exact this))
  have H30' : Hid (∀ W, Hid (Below (w.heap.size + 1) (w.alloc (mvB 7 A B Cc hh gg vv dv)) W) → Calls Tryz.prog 30 #[.pointer (some ⟨ps, 0, none⟩), .int .i64 hh] W fun e w' => e = .returned (.int .i64 hn) ∧ Hid (Below (w.heap.size + 1) (w.alloc (mvB 7 A B Cc hh gg vv dv)) w') ∧ Limbs ps ph w.heap.size gN nN cN i 7 A hh gg vv (.slice ar lr cr) (.slice aw lw cw) w') := hide (fun W hW => (H30 W (unhide hW)).mono fun e w' ⟨q1, q2⟩ => ⟨q1, hide (hOn W w' (unhide hW) q2.below), hL w' (hOn W w' (unhide hW) q2.below)⟩)
  have H33' : Hid (∀ W, Hid (Below (w.heap.size + 1) (w.alloc (mvB 7 A B Cc hh gg vv dv)) W) → Calls Tryz.prog 33 #[.pointer (some ⟨ps, 0, none⟩), .int .i64 hn] W fun e w' => e = .returned (.int .i64 (i : Nat)) ∧ Hid (Below (w.heap.size + 1) (w.alloc (mvB 7 A B Cc hh gg vv dv)) w') ∧ Limbs ps ph w.heap.size gN nN cN i 7 A hh gg vv (.slice ar lr cr) (.slice aw lw cw) w') := hide (fun W hW => (H33 W (unhide hW)).mono fun e w' ⟨q1, q2⟩ => ⟨q1, hide (hOn W w' (unhide hW) q2.below), hL w' (hOn W w' (unhide hW) q2.below)⟩)
  have H28' : Hid (∀ W, Hid (Below (w.heap.size + 1) (w.alloc (mvB 7 A B Cc hh gg vv dv)) W) → Calls Tryz.prog 28 #[.pointer (some ⟨ph, 0, none⟩), .int .i64 hn] W fun e w' => e = .returned (.tuple #[.int .u64 (ref : Nat), .int .i64 0]) ∧ Hid (Below (w.heap.size + 1) (w.alloc (mvB 7 A B Cc hh gg vv dv)) w') ∧ Limbs ps ph w.heap.size gN nN cN i 7 A hh gg vv (.slice ar lr cr) (.slice aw lw cw) w') := hide (fun W hW => (H28 W (unhide hW)).mono fun e w' ⟨q1, q2⟩ => ⟨q1, hide (hOn W w' (unhide hW) q2), hL w' (hOn W w' (unhide hW) q2)⟩)
  have HR' : Hid (∀ W, Hid (Below (w.heap.size + 1) (w.alloc (mvB 7 A B Cc hh gg vv dv)) W) → R W) := hide (fun W k => HR W (hb.trans ((unhide k).mono (by omega))))
  have hO0 : Hid (Below (w.heap.size + 1) (w.alloc (mvB 7 A B Cc hh gg vv dv)) (w.alloc (mvB 7 A B Cc hh gg vv dv))) := hide (Below.refl _ _)
  obtain ⟨x0, x1, y0, y1, y4, y5, y6, z1, z2⟩ := L0
  have d1 : decide ((i : Int) < 1) = false := decide_eq_false (by omega)
  have i1 : (0 : Int) ≤ (i : Nat) := by omega
  have i2 : (i : Int) < (nN : Nat) := by omega
  clear H30 H33 H28 hOn hL hb hsz bx c0 c1 n1 n2 HR
  unfold mvV
  unfold mvB at H30' H33' H28' hO0 x0 x1 y0 y1 y4 y5 y6 z1 z2 HR'
  generalize hW : World.alloc w _ = W0 at *
  generalize hB : w.heap.size = b at *
  go_enter Tryz.func32, Tryz.ntmps32
  go_wp2_with fail
  (try rw [hW]); (try rw [hB])
  refine (unhide H30' _ hO0).mono ?_
  rintro e w1 ⟨rfl, hO1, ⟨x0, x1, y0, y1, y4, y5, y6, z1, z2⟩⟩
  go_wp2_with fail
  refine (unhide H33' _ hO1).mono ?_
  rintro e w2 ⟨rfl, hO2, ⟨x0, x1, y0, y1, y4, y5, y6, z1, z2⟩⟩
  go_wp2_with fail
  go_region_held3 (fun w' => w'.cell? ⟨ps, 0, none⟩ = some (.pointer (some ⟨ph, 0, none⟩)) ∧ w'.cell? ⟨b, 4, none⟩ = some (.int .i64 hh)) (go_keep) (first | (go_at_call 30; refine (unhide H30' _ (hide (unhide hO2).drew)).mono ?_; rintro e w3 ⟨rfl, hO3, ⟨x0, x1, y0, y1, y4, y5, y6, z1, z2⟩⟩) | (go_at_call 28; refine (unhide H28' _ hO3).mono ?_; rintro e w4 ⟨rfl, hO4, ⟨x0, x1, y0, y1, y4, y5, y6, z1, z2⟩⟩))
  go_wp2_with fail
  go_region_held3 (fun w' => w'.cell? ⟨ps, 1, none⟩ = some (.slice (some ⟨gN, 0, none⟩) nN cN) ∧ w'.cell? ⟨gN, i * 3 + 1, none⟩ = some (.slice ar lr cr) ∧ w'.cell? ⟨gN, i * 3 + 2, none⟩ = some (.slice aw lw cw)) (go_keep) (fail)
  subst hno
  go_wp2_with fail
  go_ret
  exact ⟨rfl, unhide HR' _ (hide (unhide hO4).drew)⟩

theorem changes_follow {w : World} {ps ph : Nat} (A B Cc hh gg : Int) (vv : Nat) (dv : Value) {hn : Int} {gN nN cN lr lw i ref : Nat} {ar aw : Option Addr} {cr cw : Nat} (c0 : w.cell? ⟨ps, 0, none⟩ = some (.pointer (some ⟨ph, 0, none⟩)))
    (c1 : w.cell? ⟨ps, 1, none⟩ = some (.slice (some ⟨gN, 0, none⟩) nN cN)) (hi : i < nN) (hi2 : nN ≤ 1000000) (h1 : 1 ≤ i)
    (n1 : w.cell? ⟨gN, i * 3 + 1, none⟩ = some (.slice ar lr cr)) (n2 : w.cell? ⟨gN, i * 3 + 2, none⟩ = some (.slice aw lw cw)) (hlr : lr ≤ 1048576) (hlw : lw ≤ 1048576)
    (H30 : ∀ W, Below (w.heap.size + 1) (w.alloc (mvB 7 A B Cc hh gg vv dv)) W → Calls Tryz.prog 30 #[.pointer (some ⟨ps, 0, none⟩), .int .i64 hh] W fun e w' => e = .returned (.int .i64 hn) ∧ Still W w')
    (H33 : ∀ W, Below (w.heap.size + 1) (w.alloc (mvB 7 A B Cc hh gg vv dv)) W → Calls Tryz.prog 33 #[.pointer (some ⟨ps, 0, none⟩), .int .i64 hn] W fun e w' => e = .returned (.int .i64 (i : Nat)) ∧ Still W w')
    (H28 : ∀ W, Below (w.heap.size + 1) (w.alloc (mvB 7 A B Cc hh gg vv dv)) W → Calls Tryz.prog 28 #[.pointer (some ⟨ph, 0, none⟩), .int .i64 hn] W fun e w' => e = .returned (.tuple #[.int .u64 (ref : Nat), .int .i64 0]) ∧ Below W.heap.size W w')
    {k ga v : Nat} {xa : Nat} (hlr0 : 0 < lr) (har : ar = some ⟨ga, 0, none⟩) (hk : k < lr) (ca : w.cell? ⟨ga, k, none⟩ = some (.int .i64 (xa : Nat)))
    (H58 : ∀ W, Calls Tryz.prog 58 #[.int .i64 A, .int .i64 (lr : Nat)] W fun e w' => e = .returned (.int .i64 (k : Nat)) ∧ w' = W)
    (H29 : ∀ W, Below (w.heap.size + 1) (w.alloc (mvB 7 A B Cc hh gg vv dv)) W → Calls Tryz.prog 29 #[.pointer (some ⟨ph, 0, none⟩), .int .u64 (ref : Nat), .int .i64 (k : Nat)] W fun e w' => e = .returned (.tuple #[.int .u64 (v : Nat), .int .i64 0]) ∧ Below W.heap.size W w') {R : World → Prop} (H59 : ∀ W, Below (w.heap.size + 1) (w.alloc (mvB 7 A B Cc hh gg vv dv)) W → Calls Tryz.prog 59 #[.pointer (some ⟨ps, 0, none⟩), .int .u64 (v : Nat), .int .i64 (xa : Nat)] W fun e w' => e = .returned (.bool true) ∧ w'.cell? ⟨ps, 1, none⟩ = W.cell? ⟨ps, 1, none⟩ ∧ w'.heap[gN]? = W.heap[gN]? ∧ w'.heap[w.heap.size]? = W.heap[w.heap.size]? ∧ w'.heap[ga]? = W.heap[ga]? ∧ R w') :
    Calls Tryz.prog 32 #[.pointer (some ⟨ps, 0, none⟩), mvV 7 A B Cc hh gg vv dv] w fun e w' => e = .returned (.bool true) ∧ R w' := by
  have hpl := block_lt_of_cell c0
  have hgl := block_lt_of_cell n1
  have hb : Below w.heap.size w (w.alloc (mvB 7 A B Cc hh gg vv dv)) := (Below.refl _ _).alloc (Nat.le_refl _) _
  have hsz : (w.alloc (mvB 7 A B Cc hh gg vv dv)).heap.size = w.heap.size + 1 := by simp
  have bx := Boxed.new w 7 A B Cc hh gg vv dv
  have L0 : Limbs ps ph w.heap.size gN nN cN i 7 A hh gg vv (.slice ar lr cr) (.slice aw lw cw) (w.alloc (mvB 7 A B Cc hh gg vv dv)) := ⟨(hb.cell (p := ⟨ps, 0, none⟩) hpl).trans c0, (hb.cell (p := ⟨ps, 1, none⟩) hpl).trans c1, bx.m0, bx.m1, bx.m4, bx.m5, bx.m6, (hb.cell (p := ⟨gN, i * 3 + 1, none⟩) hgl).trans n1, (hb.cell (p := ⟨gN, i * 3 + 2, none⟩) hgl).trans n2⟩
  have hL : ∀ W, Below (w.heap.size + 1) (w.alloc (mvB 7 A B Cc hh gg vv dv)) W → Limbs ps ph w.heap.size gN nN cN i 7 A hh gg vv (.slice ar lr cr) (.slice aw lw cw) W := fun W k => L0.on (by rw [hsz]; exact k)
  have hOn : ∀ W w', Below (w.heap.size + 1) (w.alloc (mvB 7 A B Cc hh gg vv dv)) W → Below W.heap.size W w' → Below (w.heap.size + 1) (w.alloc (mvB 7 A B Cc hh gg vv dv)) w' := fun W w' k q => k.trans (q.mono (by have := k.size; rw [hsz] at this; exact this))
  have H30' : Hid (∀ W, Hid (Below (w.heap.size + 1) (w.alloc (mvB 7 A B Cc hh gg vv dv)) W) → Calls Tryz.prog 30 #[.pointer (some ⟨ps, 0, none⟩), .int .i64 hh] W fun e w' => e = .returned (.int .i64 hn) ∧ Hid (Below (w.heap.size + 1) (w.alloc (mvB 7 A B Cc hh gg vv dv)) w') ∧ Limbs ps ph w.heap.size gN nN cN i 7 A hh gg vv (.slice ar lr cr) (.slice aw lw cw) w') := hide (fun W hW => (H30 W (unhide hW)).mono fun e w' ⟨q1, q2⟩ => ⟨q1, hide (hOn W w' (unhide hW) q2.below), hL w' (hOn W w' (unhide hW) q2.below)⟩)
  have H33' : Hid (∀ W, Hid (Below (w.heap.size + 1) (w.alloc (mvB 7 A B Cc hh gg vv dv)) W) → Calls Tryz.prog 33 #[.pointer (some ⟨ps, 0, none⟩), .int .i64 hn] W fun e w' => e = .returned (.int .i64 (i : Nat)) ∧ Hid (Below (w.heap.size + 1) (w.alloc (mvB 7 A B Cc hh gg vv dv)) w') ∧ Limbs ps ph w.heap.size gN nN cN i 7 A hh gg vv (.slice ar lr cr) (.slice aw lw cw) w') := hide (fun W hW => (H33 W (unhide hW)).mono fun e w' ⟨q1, q2⟩ => ⟨q1, hide (hOn W w' (unhide hW) q2.below), hL w' (hOn W w' (unhide hW) q2.below)⟩)
  have H28' : Hid (∀ W, Hid (Below (w.heap.size + 1) (w.alloc (mvB 7 A B Cc hh gg vv dv)) W) → Calls Tryz.prog 28 #[.pointer (some ⟨ph, 0, none⟩), .int .i64 hn] W fun e w' => e = .returned (.tuple #[.int .u64 (ref : Nat), .int .i64 0]) ∧ Hid (Below (w.heap.size + 1) (w.alloc (mvB 7 A B Cc hh gg vv dv)) w') ∧ Limbs ps ph w.heap.size gN nN cN i 7 A hh gg vv (.slice ar lr cr) (.slice aw lw cw) w') := hide (fun W hW => (H28 W (unhide hW)).mono fun e w' ⟨q1, q2⟩ => ⟨q1, hide (hOn W w' (unhide hW) q2), hL w' (hOn W w' (unhide hW) q2)⟩)
  have hgal : ga < w.heap.size := block_lt_of_cell ca
  have H29' : Hid (∀ W, Hid (Below (w.heap.size + 1) (w.alloc (mvB 7 A B Cc hh gg vv dv)) W) → Calls Tryz.prog 29 #[.pointer (some ⟨ph, 0, none⟩), .int .u64 (ref : Nat), .int .i64 (k : Nat)] W fun e w' => e = .returned (.tuple #[.int .u64 (v : Nat), .int .i64 0]) ∧ Hid (Below (w.heap.size + 1) (w.alloc (mvB 7 A B Cc hh gg vv dv)) w') ∧ Limbs ps ph w.heap.size gN nN cN i 7 A hh gg vv (.slice ar lr cr) (.slice aw lw cw) w' ∧ w'.cell? ⟨ga, k, none⟩ = some (.int .i64 (xa : Nat))) := hide (fun W hW => (H29 W (unhide hW)).mono fun e w' ⟨q1, q2⟩ => ⟨q1, hide (hOn W w' (unhide hW) q2), hL w' (hOn W w' (unhide hW) q2), by
    have k1 := hOn W w' (unhide hW) q2
    rw [← ca]; simp only [World.cell?, k1.block ga (by omega), hb.block ga hgal]⟩)
  have H59' : Hid (∀ W, Hid (Below (w.heap.size + 1) (w.alloc (mvB 7 A B Cc hh gg vv dv)) W) → Calls Tryz.prog 59 #[.pointer (some ⟨ps, 0, none⟩), .int .u64 (v : Nat), .int .i64 (xa : Nat)] W fun e w' => e = .returned (.bool true) ∧ w'.cell? ⟨ps, 1, none⟩ = some (.slice (some ⟨gN, 0, none⟩) nN cN) ∧ w'.cell? ⟨gN, i * 3 + 1, none⟩ = some (.slice ar lr cr) ∧ w'.cell? ⟨w.heap.size, 1, none⟩ = some (.int .i64 A) ∧ w'.cell? ⟨ga, k, none⟩ = some (.int .i64 (xa : Nat)) ∧ Hid (R w')) := hide (fun W hW => (H59 W (unhide hW)).mono fun e w' ⟨q1, q2, q3, q4, q5, q6⟩ => by
    have hl := hL W (unhide hW)
    refine ⟨q1, q2.trans hl.c1, ?_, ?_, ?_, hide q6⟩
    · rw [← hl.n1]; simp only [World.cell?, q3]
    · rw [← hl.m1]; simp only [World.cell?, q4]
    · rw [← ca]; simp only [World.cell?, q5, (unhide hW).block ga (by omega), hb.block ga hgal])
  have H58' := hide H58
  have hO0 : Hid (Below (w.heap.size + 1) (w.alloc (mvB 7 A B Cc hh gg vv dv)) (w.alloc (mvB 7 A B Cc hh gg vv dv))) := hide (Below.refl _ _)
  obtain ⟨x0, x1, y0, y1, y4, y5, y6, z1, z2⟩ := L0
  have d1 : decide ((i : Int) < 1) = false := decide_eq_false (by omega)
  have i1 : (0 : Int) ≤ (i : Nat) := by omega
  have i2 : (i : Int) < (nN : Nat) := by omega
  clear H30 H33 H28 hOn hL hb hsz bx c0 c1 n1 n2 H29 H58 H59 ca
  unfold mvV
  unfold mvB at H30' H33' H28' hO0 x0 x1 y0 y1 y4 y5 y6 z1 z2 H29' H59'
  generalize hW : World.alloc w _ = W0 at *
  generalize hB : w.heap.size = b at *
  go_enter Tryz.func32, Tryz.ntmps32
  go_wp2_with fail
  (try rw [hW]); (try rw [hB])
  refine (unhide H30' _ hO0).mono ?_
  rintro e w1 ⟨rfl, hO1, ⟨x0, x1, y0, y1, y4, y5, y6, z1, z2⟩⟩
  go_wp2_with fail
  refine (unhide H33' _ hO1).mono ?_
  rintro e w2 ⟨rfl, hO2, ⟨x0, x1, y0, y1, y4, y5, y6, z1, z2⟩⟩
  go_wp2_with fail
  go_region_held3 (fun w' => w'.cell? ⟨ps, 0, none⟩ = some (.pointer (some ⟨ph, 0, none⟩)) ∧ w'.cell? ⟨b, 4, none⟩ = some (.int .i64 hh)) (go_keep) (first | (go_at_call 30; refine (unhide H30' _ (hide (unhide hO2).drew)).mono ?_; rintro e w3 ⟨rfl, hO3, ⟨x0, x1, y0, y1, y4, y5, y6, z1, z2⟩⟩) | (go_at_call 28; refine (unhide H28' _ hO3).mono ?_; rintro e w4 ⟨rfl, hO4, ⟨x0, x1, y0, y1, y4, y5, y6, z1, z2⟩⟩))
  go_wp2_with fail
  go_region_held3 (fun w' => w'.cell? ⟨ps, 1, none⟩ = some (.slice (some ⟨gN, 0, none⟩) nN cN) ∧ w'.cell? ⟨gN, i * 3 + 1, none⟩ = some (.slice ar lr cr) ∧ w'.cell? ⟨gN, i * 3 + 2, none⟩ = some (.slice aw lw cw)) (go_keep) (fail)
  subst har
  have d2 : decide ((lr : Int) = 0) = false := decide_eq_false (by omega)
  have i3 : (0 : Int) ≤ (k : Nat) := by omega
  have i4 : (k : Int) < (lr : Nat) := by omega
  go_wp2_with fail
  go_region_held3 (fun w' => w'.cell? ⟨ps, 0, none⟩ = some (.pointer (some ⟨ph, 0, none⟩)) ∧ w'.cell? ⟨b, 1, none⟩ = some (.int .i64 A)) (go_keep) (first | (go_at_call 58; refine (unhide H58' _).mono ?_; rintro e w9 ⟨rfl, hw9⟩; obtain rfl := hw9.symm) | (go_at_call 29; refine (unhide H29' _ (hide ((unhide hO4).drew.drew))).mono ?_; rintro e wa ⟨rfl, hOa, ⟨x0, x1, y0, y1, y4, y5, y6, z1, z2⟩, u1⟩))
  go_wp2_with fail
  go_region_held3 (fun w' => w'.cell? ⟨ps, 1, none⟩ = some (.slice (some ⟨gN, 0, none⟩) nN cN) ∧ w'.cell? ⟨gN, i * 3 + 1, none⟩ = some (.slice (some ⟨ga, 0, none⟩) lr cr) ∧ w'.cell? ⟨b, 1, none⟩ = some (.int .i64 A) ∧ w'.cell? ⟨ga, k, none⟩ = some (.int .i64 (xa : Nat))) (go_keep) (first | (go_at_call 58; refine (unhide H58' _).mono ?_; rintro e w9 ⟨rfl, hw9⟩; obtain rfl := hw9.symm) | (go_at_call 59; refine (unhide H59' _ (hide (unhide hOa).drew)).mono ?_; rintro e wb ⟨rfl, v1, v2, v3, v4, hR⟩))
  all_goals go_wp2_with fail
  all_goals go_ret
  all_goals exact ⟨rfl, unhide hR⟩
end Go.Proofs.YtidfllgaeiopjaaGreat
