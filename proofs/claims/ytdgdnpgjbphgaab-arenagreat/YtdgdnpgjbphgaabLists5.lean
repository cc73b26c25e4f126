/- lists: SetBytes. -/
import Derived.Test.YtdgdnpgjbphgaabLists1
import Derived.Test.YtdgdnpgjbphgaabGiven
namespace Go.Proofs.Ytdgdnpgjbphgaab
open Go.ChangeShapes Go.WideShapes Go.ChangeAt Go.RowKit
set_option linter.unusedVariables false
set_option maxRecDepth 100000
set_option maxHeartbeats 4000000

/-- block b is as it was -/
def OpK (b : Nat) (w w' : World) : Prop := b < w.heap.size → w'.heap[b]? = w.heap[b]? ∧ b < w'.heap.size
theorem lists_set_core {w0 w : World} {pw : Nat} {tag rt kt : Nat → Nat} {S : BookSt} {D : Nat → Option Dat} {V : Nat → Value} (h : WAt w0 w pw tag rt kt S D V) (X Y A B C : Int) (U n cD : Nat) (aD : Option Addr) (d : Dat) (hd : D (t3 X) = some d) (e1 : Nat)
    (S3 : World → Option Addr → Prop) (S4 : World → Prop) (S5 : World → Option Addr → Prop) (S6 S7 S8 : World → Prop)
    (H3' : ∀ wq, Below w.heap.size w wq → w.heap.size < wq.heap.size → Calls Try.prog 34 #[.slice aD n cD] wq fun e w' => ∃ a', e = .returned (.slice a' n n) ∧ S3 w' a' ∧ OpK w.heap.size wq w')
    (H4' : ∀ w3 a3, S3 w3 a3 → Calls Try.prog 33 #[.pointer (some ⟨pw, 0, none⟩), .pointer (some ⟨d.p, 0, none⟩), .int .i64 A, .int .i64 B, .slice a3 n n] w3 fun e w' => e = .returned (.tuple #[.int .i64 (e1 : Nat), .bool true]) ∧ S4 w' ∧ OpK w.heap.size w3 w')
    (H5' : ∀ w4, S4 w4 → Calls Try.prog 34 #[.slice aD n cD] w4.drew fun e w' => ∃ a', e = .returned (.slice a' n n) ∧ S5 w' a' ∧ OpK w.heap.size w4 w')
    (H6' : ∀ w5 a5, S5 w5 a5 → Calls Try.prog 35 #[.pointer (some ⟨d.pr, 0, none⟩), .int .i64 A, .int .i64 B, .slice a5 n n] w5 fun e w' => e = .returned (.int .i64 (e1 : Nat)) ∧ S6 w' ∧ OpK w.heap.size w5 w')
    (H7' : ∀ w6, S6 w6 → Calls Try.prog 33 #[.pointer (some ⟨pw, 0, none⟩), .pointer (some ⟨d.p, 0, none⟩), .int .i64 A, .int .i64 B, .slice aD n cD] w6 fun e w' => e = .returned (.tuple #[.int .i64 (e1 : Nat), .bool true]) ∧ S7 w' ∧ OpK w.heap.size w6 w')
    (H8' : ∀ w7, S7 w7 → Calls Try.prog 35 #[.pointer (some ⟨d.pr, 0, none⟩), .int .i64 A, .int .i64 B, .slice aD n cD] w7 fun e w' => e = .returned (.int .i64 (e1 : Nat)) ∧ S8 w') :
    Calls Try.prog 15 #[.pointer (some ⟨pw, 0, none⟩), .agg #[.int .i64 7, .int .i64 X, .int .i64 Y, .int .i64 A, .int .i64 B, .int .i64 C, .int .u64 (U : Nat), .slice aD n cD]] w fun e w' => e = .returned (.bool true) ∧ S8 w' := by
  have H3 := hide H3'
  have H4 := hide H4'
  have H5 := hide H5'
  have H6 := hide H6'
  have H7 := hide H7'
  have H8 := hide H8'
  clear H3' H4' H5' H6' H7' H8'
  have hx := t3_lt X
  obtain ⟨cp, _⟩ := h.cp _ hx
  obtain ⟨cq, _⟩ := h.cq _ hx
  have hb := h.bl _ _ hx hd
  have HT := hide (fun w1 => three_nat X w1)
  rw [hd] at cp cq
  have lpw := h.bk.fl.lt
  clear h hb hd
  have y0 : (0 : Int) ≤ (t3 X : Int) := by omega
  have y1 : (t3 X : Int) < 3 := by omega
  generalize t3 X = t at *
  go_enter Try.func15, Try.ntmps15
  go_wp2_with fail
  obtain ⟨w1, hw1⟩ : ∃ w1, w1 = w.alloc (.cells #[.int .i64 7, .int .i64 X, .int .i64 Y, .int .i64 A, .int .i64 B, .int .i64 C, .int .u64 (U : Nat), .slice aD n cD] 26) := ⟨_, rfl⟩
  rw [← hw1]
  have HB1 : Hid (Below w.heap.size w w1) := hide (by rw [hw1]; exact (Below.refl _ _).alloc (Nat.le_refl _) _)
  have e1 : w1.cell? ⟨pw, t, none⟩ = some (.pointer (some ⟨d.p, 0, none⟩)) := ((unhide HB1).cell (p := ⟨pw, t, none⟩) lpw).trans cp
  have e2 : w1.cell? ⟨pw, 3 + t, none⟩ = some (.pointer (some ⟨d.pr, 0, none⟩)) := ((unhide HB1).cell (p := ⟨pw, 3 + t, none⟩) lpw).trans cq
  have hop : w1.heap[w.heap.size]? = some (.cells #[.int .i64 7, .int .i64 X, .int .i64 Y, .int .i64 A, .int .i64 B, .int .i64 C, .int .u64 (U : Nat), .slice aD n cD] 26) := by rw [hw1]; exact heap_alloc_new w _
  have hbo : w.heap.size < w1.heap.size := by rw [hw1]; simp
  have HOP : Hid (∀ wq, Below w1.heap.size w1 wq → wq.cell? ⟨w.heap.size, 0, none⟩ = some (.int .i64 7) ∧ wq.cell? ⟨w.heap.size, 1, none⟩ = some (.int .i64 X) ∧ wq.cell? ⟨w.heap.size, 3, none⟩ = some (.int .i64 A) ∧ wq.cell? ⟨w.heap.size, 4, none⟩ = some (.int .i64 B) ∧ wq.cell? ⟨w.heap.size, 7, none⟩ = some (.slice aD n cD)) := hide (fun wq k => by
    have e := k.block w.heap.size hbo
    rw [hop] at e
    simp only [World.cell?, e]
    exact ⟨rfl, rfl, rfl, rfl, rfl⟩)
  have HLO := hide hbo
  have lpw1 : pw < w1.heap.size := by omega
  have HPW : Hid (∀ wq, Below w1.heap.size w1 wq → wq.cell? ⟨pw, t, none⟩ = some (.pointer (some ⟨d.p, 0, none⟩)) ∧ wq.cell? ⟨pw, 3 + t, none⟩ = some (.pointer (some ⟨d.pr, 0, none⟩))) := hide (fun wq k => ⟨(k.cell (p := ⟨pw, t, none⟩) lpw1).trans e1, (k.cell (p := ⟨pw, 3 + t, none⟩) lpw1).trans e2⟩)
  obtain ⟨o0, o1, o3, o4, o7⟩ := unhide HOP w1 (Below.refl _ _)
  clear hop hbo hw1 cp cq
  go_quiet (first | (go_at_call 12; exact Calls.quiet_of_same (unhide HT _)))
  obtain ⟨w2, hw2⟩ : ∃ w2, w2 = w1.drewN nq := ⟨_, rfl⟩
  rw [← hw2]
  have HC2 : Hid (Below w1.heap.size w1 w2) := hide (by rw [hw2]; exact below_drewN (Below.refl _ _) nq)
  have HB2 : Hid (Below w.heap.size w w2) := hide ((unhide HB1).trans ((unhide HC2).mono (unhide HB1).size))
  clear hw2 e1 e2 lpw1 o0 o1 o3 o4 o7
  obtain ⟨o0, o1, o3, o4, o7⟩ := unhide HOP w2 (unhide HC2)
  have HBL : Hid (w.heap.size < w2.heap.size) := hide (Nat.lt_of_lt_of_le (unhide HLO) (unhide HC2).size)
  have HO2 : Hid (∀ wq : World, wq.heap[w.heap.size]? = w2.heap[w.heap.size]? → wq.cell? ⟨w.heap.size, 3, none⟩ = some (.int .i64 A) ∧ wq.cell? ⟨w.heap.size, 4, none⟩ = some (.int .i64 B) ∧ wq.cell? ⟨w.heap.size, 7, none⟩ = some (.slice aD n cD)) := hide (fun wq e => ⟨(World.cell?_of_block (a := ⟨w.heap.size, 3, none⟩) e).trans o3, (World.cell?_of_block (a := ⟨w.heap.size, 4, none⟩) e).trans o4, (World.cell?_of_block (a := ⟨w.heap.size, 7, none⟩) e).trans o7⟩)
  have HS2 := hide (unhide H3 w2.drew (unhide HB2).drew (unhide HBL))
  go_wp2_with fail
  go_region_held3 (fun w' => w'.cell? ⟨w.heap.size, 3, none⟩ = some (.int .i64 A) ∧ w'.cell? ⟨w.heap.size, 4, none⟩ = some (.int .i64 B) ∧ w'.cell? ⟨w.heap.size, 7, none⟩ = some (.slice aD n cD))
    (first | exact ⟨o3, o4, o7⟩ | assumption | exact unhide HO2 _ (by assumption))
    (first
      | (go_at_call 34; refine (unhide HS2).mono ?_; rintro e w3 ⟨a3, rfl, s3, k3⟩; have j3 := k3 (unhide HBL); have q3 : w3.heap[w.heap.size]? = w2.heap[w.heap.size]? := j3.1)
      | (go_at_call 33; refine (unhide H4 _ _ (by assumption)).mono ?_; rintro e w4 ⟨rfl, s4, k4⟩; have j4 := k4 j3.2; have q4 := j4.1.trans q3))
  have HS4 := hide (unhide H5 w4 s4)
  have HBL4 : Hid (w.heap.size < w4.heap.size) := hide j4.2
  have HE4 : Hid (w4.heap[w.heap.size]? = w2.heap[w.heap.size]?) := hide q4
  obtain ⟨y3, y4, y7⟩ := unhide HO2 w4 q4
  clear s3 k3 j3 q3 s4 k4 j4 q4 o0 o1 o3 o4 o7 HS2 H3 H4 H5 HT
  go_wp2_with fail
  go_region_held3 (fun w' => w'.cell? ⟨w.heap.size, 3, none⟩ = some (.int .i64 A) ∧ w'.cell? ⟨w.heap.size, 4, none⟩ = some (.int .i64 B) ∧ w'.cell? ⟨w.heap.size, 7, none⟩ = some (.slice aD n cD))
    (first | exact ⟨y3, y4, y7⟩ | assumption | exact unhide HO2 _ (by assumption))
    (first
      | (go_at_call 34; refine (unhide HS4).mono ?_; rintro e w5 ⟨a5, rfl, s5, k5⟩; have j5 := k5 (unhide HBL4); have q5 : w5.heap[w.heap.size]? = w2.heap[w.heap.size]? := j5.1.trans (unhide HE4))
      | (go_at_call 35; refine (unhide H6 _ _ (by assumption)).mono ?_; rintro e w6 ⟨rfl, s6, k6⟩; have j6 := k6 j5.2; have q6 := j6.1.trans q5))
  have HS6 := hide (unhide H7 w6 s6)
  have HBL6 : Hid (w.heap.size < w6.heap.size) := hide j6.2
  have HE6 : Hid (w6.heap[w.heap.size]? = w2.heap[w.heap.size]?) := hide q6
  obtain ⟨z3, z4, z7⟩ := unhide HO2 w6 q6
  clear s5 k5 j5 q5 s6 k6 j6 q6 y3 y4 y7 HS4 H6 H7
  go_wp2_with fail
  refine (unhide HS6).mono ?_
  rintro e w7 ⟨rfl, s7, k7⟩
  have j7 := k7 (unhide HBL6)
  have HS7 := hide (unhide H8 w7 s7)
  obtain ⟨v3, v4, v7⟩ := unhide HO2 w7 (j7.1.trans (unhide HE6))
  clear s7 k7 j7 z3 z4 z7 HS6 H8
  go_wp2_with fail
  refine (unhide HS7).mono ?_
  rintro e w8 ⟨rfl, s8⟩
  have HS8 := hide s8
  clear s8 HS7 v3 v4 v7 HO2 HOP HPW
  go_wp2_with fail
  refine (num_any _ _).mono ?_
  rintro e w' ⟨rfl, hw'⟩
  obtain rfl := hw'.symm
  go_wp2_with fail
  refine (num_any _ _).mono ?_
  rintro e w' ⟨rfl, hw'⟩
  obtain rfl := hw'.symm
  go_wp2
  go_ret
  exact ⟨rfl, unhide HS8⟩
theorem Gave.below {w w1 w2 : World} {pw : Nat} {B : List Nat} {kt kt' : Nat → Nat} {V' : Nat → Value} (G : Gave w w1 pw B kt kt' V') (hp : pw < w.heap.size) (k : Below w1.heap.size w1 w2) : Gave w w2 pw B kt kt' V' := by
  have hs := G.size
  have hpw := k.block pw (by omega)
  refine ⟨k.os.trans G.os, k.tape.trans G.tape, k.output.trans G.output, Nat.le_trans hs k.size, fun g h1 h2 h3 h4 => (k.block g (by omega)).trans (G.fix g h1 h2 h3 h4), fun j hj => ⟨(World.cell?_of_block (a := ⟨pw, j, none⟩) hpw).trans (G.pwc j hj).1, (World.frozen?_of_block (a := ⟨pw, j, none⟩) hpw).trans (G.pwc j hj).2⟩, fun j hj => ?_, G.old, fun g hg => Nat.lt_of_lt_of_le (G.new g hg) k.size⟩
  obtain ⟨r1, r2, ⟨n0, f0, r3⟩, r4⟩ := G.rm j hj
  exact ⟨(World.cell?_of_block (a := ⟨pw, 39 + j, none⟩) hpw).trans r1, (World.frozen?_of_block (a := ⟨pw, 39 + j, none⟩) hpw).trans r2, ⟨n0, f0, r3.same (fun g hg => k.block g (r3.lt g hg))⟩, r4⟩
theorem rspan_fill (R : RefSt) (j m : Nat) (l : List Nat) (A B n : Int) : rspan (R.fill j l m) A B n = rspan R A B n := by
  obtain ⟨s1, _, _, s4, _⟩ := fill_same R j l m
  have e : robj (R.fill j l m) A = robj R A := by unfold robj; rw [s1, s4]
  unfold rspan
  rw [e]
/-- the world behind a pair of SetBytes -/
def SetSt (w0 : World) (pw : Nat) (tag rt : Nat → Nat) (S : BookSt) (t bo : Nat) (d : Dat) (A B : Int) (n : Nat) (w : World) : Prop :=
  ∃ kt V D d', WAt w0 w pw tag rt kt S D V ∧ D t = some d' ∧ d'.p = d.p ∧ d'.pr = d.pr ∧ rspan d'.R A B n = rspan d.R A B n ∧ kt bo = 0 ∧ bo < w.heap.size
/-- and amid it -/
def MidSt (w0 : World) (pw : Nat) (tag rt : Nat → Nat) (S : BookSt) (t bo : Nat) (d : Dat) (A B : Int) (l : List Nat) (w : World) : Prop :=
  ∃ w3 kt V D d' kt' V' ws', WAt w0 w3 pw tag rt kt S D V ∧ D t = some d' ∧ d'.p = d.p ∧ d'.pr = d.pr ∧ rspan d'.R A B l.length = rspan d.R A B l.length ∧ kt bo = 0 ∧ bo < w3.heap.size ∧ Gave w3 w pw [d'.p, d'.bw, d'.bh] kt kt' V' ∧ Ar w d'.p d'.bw d'.bh ws' d'.hs d'.used ∧ (rspan d'.R A B l.length ≠ 0 → ws' = d'.ws) ∧ (rspan d'.R A B l.length = 0 → ∀ j f : Nat, j < d'.R.L.length → A = (place d'.R.L j : Nat) → B = f → Written d'.ws ws' (place d'.R.L j + 1 + (d'.R.L.getD j (0, 0, 0)).2.1) (d'.R.L.getD j (0, 0, 0)).2.2 f l)
theorem Gave.bel {w0 w w1 : World} {pw : Nat} {tag rt kt kt' : Nat → Nat} {S : BookSt} {D : Nat → Option Dat} {V V' : Nat → Value} {B : List Nat} (h : WAt w0 w pw tag rt kt S D V) (G : Gave w w1 pw B kt kt' V') (hB : ∀ x ∈ B, kt x ≠ 0) : Below w0.heap.size w0 w1 := by
  have hs := G.size
  have hb := h.bel.size
  refine ⟨G.os.trans h.bel.os, G.tape.trans h.bel.tape, G.output.trans h.bel.output, by omega, fun g hg => ?_⟩
  have k0 : kt g = 0 := by
    cases e : kt g with
    | zero => rfl
    | succ m => have := h.lo g (.inr (.inr (by omega))); omega
  rw [G.fix g (by omega) (fun hx => hB g hx k0) (by omega) (fun e => by have := h.bp; omega)]
  exact h.bel.block g hg
theorem MidSt.bel {w0 w : World} {pw : Nat} {tag rt : Nat → Nat} {S : BookSt} {t bo : Nat} {d : Dat} {A B : Int} {l : List Nat} (ht : t < 3) (h : MidSt w0 pw tag rt S t bo d A B l w) : Below w0.heap.size w0 w := by
  obtain ⟨w3, kt, V, D, d', kt', V', ws', hW, hD, _, _, _, _, _, G, _⟩ := h
  exact Gave.bel hW G (fun x hx => by rw [hW.mem ht hD x hx]; omega)
theorem MidSt.below {w0 w w' : World} {pw : Nat} {tag rt : Nat → Nat} {S : BookSt} {t bo : Nat} {d : Dat} {A B : Int} {l : List Nat} (h : MidSt w0 pw tag rt S t bo d A B l w) (k : Below w.heap.size w w') : MidSt w0 pw tag rt S t bo d A B l w' := by
  obtain ⟨w3, kt, V, D, d', kt', V', ws', hW, hD, e1, e2, e3, e4, e5, G, ar, c1, c2⟩ := h
  exact ⟨w3, kt, V, D, d', kt', V', ws', hW, hD, e1, e2, e3, e4, e5, G.below hW.bk.fl.lt k, ar.below k, c1, c2⟩
theorem MidSt.lt {w0 w : World} {pw : Nat} {tag rt : Nat → Nat} {S : BookSt} {t bo : Nat} {d : Dat} {A B : Int} {l : List Nat} (h : MidSt w0 pw tag rt S t bo d A B l w) : bo < w.heap.size := by
  obtain ⟨w3, kt, V, D, d', kt', V', ws', hW, hD, e1, e2, e3, e4, e5, G, _⟩ := h
  exact Nat.lt_of_lt_of_le e5 G.size
/-- given, from such a world -/
theorem given_st {w0 w : World} {pw : Nat} {tag rt : Nat → Nat} {S : BookSt} {t bo : Nat} {d : Dat} {A B : Int} {l : List Nat} {kt : Nat → Nat} {V : Nat → Value} {D : Nat → Option Dat} {d' : Dat} (ht : t < 3) (hW : WAt w0 w pw tag rt kt S D V) (hD : D t = some d') (e1 : d'.p = d.p) (e2 : d'.pr = d.pr) (e3 : rspan d'.R A B l.length = rspan d.R A B l.length) (e4 : kt bo = 0) (e5 : bo < w.heap.size) (hf1 : B ≤ 9223372036854775807) (hf2 : -9223372036854775808 ≤ B) (a : Option Addr) (cap : Nat) (hl : l.length ≤ 140737488351232) (hB : Bytes w a l) (hs : Small l) (hsep : l ≠ [] → ∀ b off, a = some ⟨b, off, none⟩ → kt b = 0 ∧ b ≠ pw) (hpo : bo ≠ pw) :
    Calls Try.prog 33 #[.pointer (some ⟨pw, 0, none⟩), .pointer (some ⟨d.p, 0, none⟩), .int .i64 A, .int .i64 B, .slice a l.length cap] w fun e w' => e = .returned (.tuple #[.int .i64 (rspan d.R A B l.length : Nat), .bool true]) ∧ MidSt w0 pw tag rt S t bo d A B l w' ∧ OpK bo w w' := by
  have hg := given_any hW t ht d' hD A B hf1 hf2 l a cap hl hB hs hsep
  rw [e1] at hg
  refine hg.mono ?_
  rintro e w' ⟨rfl, kt', V', ws', G, ar, c1, c2⟩
  rw [← e1] at G ar
  refine ⟨by rw [e3], ⟨w, kt, V, D, d', kt', V', ws', hW, hD, e1, e2, e3, e4, e5, G, ar, c1, c2⟩, fun hbo => ⟨G.fix bo hbo (fun hx => ?_) (by omega) hpo, Nat.lt_of_lt_of_le hbo G.size⟩⟩
  have := hW.mem ht hD bo hx
  omega
/-- the document's SetBytes, amid -/
theorem ref_st {w0 w : World} {pw : Nat} {tag rt : Nat → Nat} {S : BookSt} {t bo : Nat} {d : Dat} {A B : Int} {l : List Nat} (ht : t < 3) (h : MidSt w0 pw tag rt S t bo d A B l w) (a : Option Addr) (cap : Nat) (hB : Bytes w a l) (hs : Small l) (hrt : rt bo = 0) :
    Calls Try.prog 35 #[.pointer (some ⟨d.pr, 0, none⟩), .int .i64 A, .int .i64 B, .slice a l.length cap] w fun e w' => e = .returned (.int .i64 (rspan d.R A B l.length : Nat)) ∧ SetSt w0 pw tag rt S t bo d A B l.length w' ∧ OpK bo w w' := by
  have hlt := h.lt
  obtain ⟨w3, kt, V, D, d', kt', V', ws', hW, hD, e1, e2, e3, e4, e5, G, ar, c1, c2⟩ := h
  have hr := hW.gaveRefs G (fun x hx => by rw [hW.mem ht hD x hx]; omega)
  have hb := hW.bl t d' ht hD
  have hq := rsb_any (hr.1 t d' ht hD) hr.2 A B l a cap hB hs
  rw [e2] at hq
  refine hq.mono ?_
  rintro e w' ⟨rfl, c, hR⟩
  rw [← e2] at hR
  have hkb : kt' bo = 0 := (G.old bo e5).trans e4
  have hlw : bo < w'.heap.size := Nat.lt_of_lt_of_le hlt c.size
  refine ⟨by rw [e3], ?_, fun hbo => ⟨c.blk bo hbo (by rw [hrt]; exact mine0 _), hlw⟩⟩
  rcases hR with ⟨hne, hR⟩ | ⟨j, f, a1, a2, a3, a4, a5, hR⟩
  · have hw := c1 hne
    subst hw
    exact ⟨kt', V', _, _, hW.gave ht hD G c d'.ws d'.R ar hR hb.rel, if_pos rfl, e1, e2, e3, hkb, hlw⟩
  · exact ⟨kt', V', _, _, hW.gave ht hD G c ws' _ ar hR (hb.rel.fill hb.ref.ok j f l a1 hs a4 ar.small (c2 a5 j f a1 a2 a3)), if_pos rfl, e1, e2, by show rspan (RefSt.fill _ _ _ _) A B l.length = _; rw [rspan_fill]; exact e3, hkb, hlw⟩
theorem Bytes.bel {w w' : World} {a : Option Addr} {l : List Nat} (h : Bytes w a l) (k : Below w.heap.size w w') : Bytes w' a l := h.below k
theorem lists_setbytes {w0 w : World} {pw : Nat} {tag rt kt : Nat → Nat} {S : BookSt} {D : Nat → Option Dat} {V : Nat → Value} (h : WAt w0 w pw tag rt kt S D V) (X Y A B C : Int) (U cD : Nat) (aD : Option Addr) (l : List Nat) (d : Dat) (hd : D (t3 X) = some d) (hB1 : B ≤ 9223372036854775807) (hB2 : -9223372036854775808 ≤ B) (hl : l.length ≤ 140737488351232) (hB0 : Bytes w0 aD l) (hs : Small l) :
    Calls Try.prog 15 #[.pointer (some ⟨pw, 0, none⟩), .agg #[.int .i64 7, .int .i64 X, .int .i64 Y, .int .i64 A, .int .i64 B, .int .i64 C, .int .u64 (U : Nat), .slice aD l.length cD]] w fun e w' => e = .returned (.bool true) ∧ ∃ tag' rt' kt' S' D' V', WAt w0 w' pw tag' rt' kt' S' D' V' ∧ S'.turn ≤ S.turn + 1 := by
  have ht := t3_lt X
  have hk0 : kt w.heap.size = 0 := by
    cases e : kt w.heap.size with
    | zero => rfl
    | succ m => have := h.un w.heap.size (.inr (by omega)); omega
  have hr0 : rt w.heap.size = 0 := by
    cases e : rt w.heap.size with
    | zero => rfl
    | succ m => have := h.un w.heap.size (.inl (by omega)); omega
  have hpo : w.heap.size ≠ pw := by have := h.bk.fl.lt; omega
  have hfl := flipL_length l
  have sepD : ∀ w1, l ≠ [] → ∀ b off, aD = some ⟨b, off, none⟩ → ∀ kt V D, WAt w0 w1 pw tag rt kt S D V → kt b = 0 ∧ b ≠ pw := fun w1 hne b off e kt V D hW => by
    rcases hB0 with h0 | ⟨b2, off2, e2, hbl, _⟩
    · exact absurd h0 hne
    · rw [e] at e2
      injection e2 with e2
      injection e2 with e3
      subst e3
      refine ⟨?_, fun e4 => by have := hW.bp; omega⟩
      cases e5 : kt b with
      | zero => rfl
      | succ m => have := hW.lo b (.inr (.inr (by omega))); omega
  refine (lists_set_core h X Y A B C U l.length cD aD d hd (rspan d.R A B l.length) (fun w' a' => WAt w0 w' pw tag rt kt S D V ∧ w.heap.size < w'.heap.size ∧ Bytes w' a' (flipL l) ∧ ∀ b off, a' = some ⟨b, off, none⟩ → kt b = 0 ∧ b ≠ pw) (MidSt w0 pw tag rt S (t3 X) w.heap.size d A B (flipL l)) (fun w' a' => MidSt w0 pw tag rt S (t3 X) w.heap.size d A B (flipL l) w' ∧ Bytes w' a' (flipL l)) (SetSt w0 pw tag rt S (t3 X) w.heap.size d A B l.length) (MidSt w0 pw tag rt S (t3 X) w.heap.size d A B l) (SetSt w0 pw tag rt S (t3 X) w.heap.size d A B l.length) (fun wq k hbo => ?_) (fun w3 a3 hS => ?_) (fun w4 hS => ?_) (fun w5 a5 hS => ?_) (fun w6 hS => ?_) (fun w7 hS => ?_)).mono ?_
  · refine (flipped_any aD cD l wq hl (hB0.below (h.below k).bel) hs).mono ?_
    rintro e w' ⟨a', rfl, b1, b2, b3⟩
    have k' := k.trans (b3.mono k.size)
    refine ⟨a', rfl, ⟨h.below k', Nat.lt_of_lt_of_le hbo b3.size, b1, fun b off e => ?_⟩, fun hbo => ⟨b3.block _ hbo, Nat.lt_of_lt_of_le hbo b3.size⟩⟩
    have h1 := b2 b off e
    have h2 := h.bk.fl.lt
    have h3 := k.size
    refine ⟨?_, by omega⟩
    cases e5 : kt b with
    | zero => rfl
    | succ m => have := h.un b (.inr (by omega)); omega
  · have hg := given_st (A := A) ht hS.1 hd rfl rfl rfl hk0 hS.2.1 hB1 hB2 a3 l.length (by rw [hfl]; exact hl) hS.2.2.1 (flipL_small hs) (fun _ => hS.2.2.2) hpo
    rw [hfl] at hg
    exact hg
  · have hw4 := (hB0.below (hS.bel ht)).below (w' := w4.drew) (Below.refl _ _).drew
    refine (flipped_any aD cD l w4.drew hl hw4 hs).mono ?_
    rintro e w' ⟨a', rfl, b1, b2, b3⟩
    exact ⟨a', rfl, ⟨hS.below ⟨b3.os, b3.tape, b3.output, b3.size, b3.block⟩, b1⟩, fun hbo => ⟨b3.block _ hbo, Nat.lt_of_lt_of_le hbo b3.size⟩⟩
  · have hg := ref_st ht hS.1 a5 l.length hS.2 (flipL_small hs) hr0
    rw [hfl] at hg
    exact hg
  · obtain ⟨kt6, V6, D6, d6, hW6, q1, q2, q3, q4, q5, q6⟩ := hS
    exact given_st ht hW6 q1 q2 q3 q4 q5 q6 hB1 hB2 aD cD hl (hB0.below hW6.bel) hs (fun hne b off e => sepD w6 hne b off e _ _ _ hW6) hpo
  · refine (ref_st ht hS aD cD (hB0.below (hS.bel ht)) hs hr0).mono ?_
    rintro e w' ⟨rfl, h1, _⟩
    exact ⟨rfl, h1⟩
  · rintro e w' ⟨rfl, kt8, V8, D8, d8, hW8, _⟩
    exact ⟨rfl, tag, rt, kt8, S, D8, V8, hW8, by omega⟩
end Go.Proofs.Ytdgdnpgjbphgaab
