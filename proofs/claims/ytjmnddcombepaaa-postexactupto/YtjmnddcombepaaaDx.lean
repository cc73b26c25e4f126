/- PostExact: a step. -/
import Derived.Test.YtjmnddcombepaaaDw
namespace Go.Proofs.Ytjmnddcombepaaa
open Go.ChangeShapes Go.WideShapes Go.ChangeAt Go.RowKit Go.Maps
set_option linter.unusedVariables false
set_option linter.unusedSimpArgs false
set_option maxRecDepth 100000
set_option maxHeartbeats 8000000
/-- what a step leaves -/
def StEnd (W : World) (X : Nat → Nat) (κ B0 bp p b q N : Nat) (w' : World) : Prop := ∃ S' L', PlOk S' L' (N + 1) ∧ Z0 W X κ B0 bp p b q S' L' w'
theorem PlOk.up {S L : List Key} {N : Nat} (h : PlOk S L N) : PlOk S L (N + 1) := ⟨h.perm, h.nd, h.ok, Nat.le_succ_of_le h.len⟩
theorem Z0.base {W w1 V : World} {X : Nat → Nat} {κ B0 bp p b q : Nat} {S L : List Key} (h : Z0 w1 X κ B0 bp p b q S L V) (hb : Below W.heap.size W w1) (hB : B0 ≤ W.heap.size) : Z0 W X κ B0 bp p b q S L V := by
  obtain ⟨X', D, h⟩ := h
  exact ⟨X', D, ⟨h.bk, h.post, h.doc, h.xp, h.xb, h.xq, h.k9, (Cx.of hb).trans h.cx, hB⟩⟩
/-- a step begins -/
theorem step_open {W : World} {X : Nat → Nat} {κ B0 bp p b q : Nat} {D : BD} {S L : List Key} (hs : SV W W X X κ B0 bp p b q D S L) (kd on cn : Int) (na : Option Addr) (nl nc : Nat) (pt : Bool) (T : List UInt8) (hnl : nl = T.length) (hB : Bytes W na (nb T)) : ∃ w1, W.alloc (.cells #[.int .i64 kd, .int .i64 on, .int .i64 cn, .slice na nl nc, .bool pt] 66) = w1 ∧ (w1.cell? ⟨W.heap.size, 0, none⟩ = some (.int .i64 kd) ∧ w1.cell? ⟨W.heap.size, 2, none⟩ = some (.int .i64 cn) ∧ w1.cell? ⟨W.heap.size, 3, none⟩ = some (.slice na nl nc) ∧ w1.cell? ⟨W.heap.size, 4, none⟩ = some (.bool pt) ∧ (convert 23 9 (.slice na nl nc)).run Try.prog w1 = .ok (.string (bs T)) w1) ∧ Hid (Below W.heap.size W w1) ∧ Hid (Z0 w1 X κ B0 bp p b q S L w1) ∧ Hid (∀ S' L' V, Z0 w1 X κ B0 bp p b q S' L' V → V.cell? ⟨W.heap.size, 2, none⟩ = some (.int .i64 cn) ∧ V.cell? ⟨W.heap.size, 4, none⟩ = some (.bool pt)) := by
  subst hnl
  have hb : Below W.heap.size W (W.alloc (.cells #[.int .i64 kd, .int .i64 on, .int .i64 cn, .slice na T.length nc, .bool pt] 66)) := (Below.refl _ _).alloc (Nat.le_refl _) _
  have hn := heap_alloc_new W (.cells #[.int .i64 kd, .int .i64 on, .int .i64 cn, .slice na T.length nc, .bool pt] 66)
  have hx : X W.heap.size = 0 := by
    by_cases e : X W.heap.size = 0
    · exact e
    · have := (hs.bk.lt _ e).1; omega
  have h1 := hs.below hb
  refine ⟨_, rfl, ⟨cell_blk hn 0, cell_blk hn 2, cell_blk hn 3, cell_blk hn 4, conv_back _ na nc T (hB.below' hb)⟩, hide hb, hide ⟨X, D, ⟨h1.bk, h1.post, h1.doc, h1.xp, h1.xb, h1.xq, h1.k9, Cx.refl _ _ _, Nat.le_trans hs.b0 hb.size⟩⟩, hide (fun S' L' V hz => ?_)⟩
  have e := (hz.old (blk_lt hn) hx).trans hn
  exact ⟨cell_blk e 2, cell_blk e 4⟩
theorem step_1 (G : List UInt8 → List UInt8 → Bool) (hG : GlobIs G) (W : World) (X : Nat → Nat) (κ B0 bp p b q : Nat) (D : BD) (S L : List Key) (N : Nat) (kd on cn : Int) (na : Option Addr) (nl nc : Nat) (pt : Bool) (T : List UInt8) (hs : SV W W X X κ B0 bp p b q D S L) (hp : PlOk S L N) (hN : N ≤ 9999) (hkd : kd = 1) (hcn : -9223372036854775808 ≤ cn ∧ cn ≤ 9223372036854775807) (hT : T.length ≤ 1073741824) (hnl : nl = T.length) (hB : Bytes W na (nb T)) :
    Calls Try.prog 28 #[.pointer (some ⟨p, 0, none⟩), .pointer (some ⟨q, 0, none⟩), .agg #[.int .i64 kd, .int .i64 on, .int .i64 cn, .slice na nl nc, .bool pt], .pointer (some ⟨bp, 0, none⟩)] W fun e w' => e = .returned (.bool true) ∧ Hid (StEnd W X κ B0 bp p b q N w') := by
  obtain ⟨w1, hw1, ⟨x0, x2, x3, x4, hcv⟩, HB1, HZ, HC⟩ := step_open hs kd on cn na nl nc pt T hnl hB
  have HB0 := hide hs.b0
  have HP := hide hp
  have HT := hide hT
  subst hkd
  have C1 := z_join (unhide HZ) hp (by omega) cn T pt hcn
  have C2 := hide (fun V (hz : Z0 w1 X κ B0 bp p b q (joinA S (cn, T, pt)).1 L V) => z_djoin hz (by have := hp.len; omega) cn T pt (by omega))
  have HPl := hide (plok_join hp (cn, T, pt))
  have hpe := (plok_join hp (cn, T, pt)).1
  obtain ⟨r1, hr1⟩ : ∃ r, r = (djoinR L (cn, T, pt)).2.1 := ⟨_, rfl⟩
  obtain ⟨r2, hr2⟩ : ∃ r, r = (djoinR L (cn, T, pt)).2.2.1 := ⟨_, rfl⟩
  obtain ⟨r3, hr3⟩ : ∃ r, r = (djoinR L (cn, T, pt)).2.2.2 := ⟨_, rfl⟩
  rw [hpe, ← hr1, ← hr2, ← hr3] at C1
  simp only [← hr1, ← hr2, ← hr3] at C2
  clear hpe hr1 hr2 hr3
  clear hs hp hB hnl hT
  go_enter Try.func28, Try.ntmps28
  go_wp2_with (first
    | (go_at_call 10; with_reducible refine C1.mono ?_; clear C1; rintro e w2 ⟨rfl, k2⟩; obtain ⟨y2, y4⟩ := (unhide HC) _ _ _ (unhide k2))
    | (go_at_call 46; with_reducible refine ((unhide C2) w2 (unhide k2)).mono ?_; rintro e w3 ⟨rfl, k3⟩)
    | (go_at_call 12; with_reducible refine (num_any _ _).mono ?_; rintro e w4 ⟨rfl, h4⟩; obtain rfl := h4.symm))
  go_ret
  exact ⟨rfl, hide ⟨_, _, (unhide HPl).2, (unhide k3).base (unhide HB1) (unhide HB0)⟩⟩
theorem step_2 (G : List UInt8 → List UInt8 → Bool) (hG : GlobIs G) (W : World) (X : Nat → Nat) (κ B0 bp p b q : Nat) (D : BD) (S L : List Key) (N : Nat) (kd on cn : Int) (na : Option Addr) (nl nc : Nat) (pt : Bool) (T : List UInt8) (hs : SV W W X X κ B0 bp p b q D S L) (hp : PlOk S L N) (hN : N ≤ 9999) (hkd : kd = 2) (hcn : -9223372036854775808 ≤ cn ∧ cn ≤ 9223372036854775807) (hT : T.length ≤ 1073741824) (hnl : nl = T.length) (hB : Bytes W na (nb T)) :
    Calls Try.prog 28 #[.pointer (some ⟨p, 0, none⟩), .pointer (some ⟨q, 0, none⟩), .agg #[.int .i64 kd, .int .i64 on, .int .i64 cn, .slice na nl nc, .bool pt], .pointer (some ⟨bp, 0, none⟩)] W fun e w' => e = .returned (.bool true) ∧ Hid (StEnd W X κ B0 bp p b q N w') := by
  obtain ⟨w1, hw1, ⟨x0, x2, x3, x4, hcv⟩, HB1, HZ, HC⟩ := step_open hs kd on cn na nl nc pt T hnl hB
  have HB0 := hide hs.b0
  have HP := hide hp
  have HT := hide hT
  subst hkd
  have C1 := z_leave (unhide HZ) hp (by omega) cn T pt hcn
  have C2 := hide (fun V (hz : Z0 w1 X κ B0 bp p b q (leaveA S (cn, T, pt)).1 L V) => z_dleave hz (by have := hp.len; omega) cn T pt (by omega))
  have HPl := hide (plok_leave hp (cn, T, pt))
  have hpe := (plok_leave hp (cn, T, pt)).1
  obtain ⟨r1, hr1⟩ : ∃ r, r = (dleaveR L (cn, T, pt)).2.1 := ⟨_, rfl⟩
  obtain ⟨r2, hr2⟩ : ∃ r, r = (dleaveR L (cn, T, pt)).2.2.1 := ⟨_, rfl⟩
  obtain ⟨r3, hr3⟩ : ∃ r, r = (dleaveR L (cn, T, pt)).2.2.2 := ⟨_, rfl⟩
  rw [hpe, ← hr1, ← hr2, ← hr3] at C1
  simp only [← hr1, ← hr2, ← hr3] at C2
  clear hpe hr1 hr2 hr3
  clear hs hp hB hnl hT
  go_enter Try.func28, Try.ntmps28
  go_wp2_with (first
    | (go_at_call 15; with_reducible refine C1.mono ?_; clear C1; rintro e w2 ⟨rfl, k2⟩; obtain ⟨y2, y4⟩ := (unhide HC) _ _ _ (unhide k2))
    | (go_at_call 47; with_reducible refine ((unhide C2) w2 (unhide k2)).mono ?_; rintro e w3 ⟨rfl, k3⟩)
    | (go_at_call 12; with_reducible refine (num_any _ _).mono ?_; rintro e w4 ⟨rfl, h4⟩; obtain rfl := h4.symm))
  go_ret
  exact ⟨rfl, hide ⟨_, _, (unhide HPl).2.up, (unhide k3).base (unhide HB1) (unhide HB0)⟩⟩
theorem step_3 (G : List UInt8 → List UInt8 → Bool) (hG : GlobIs G) (W : World) (X : Nat → Nat) (κ B0 bp p b q : Nat) (D : BD) (S L : List Key) (N : Nat) (kd on cn : Int) (na : Option Addr) (nl nc : Nat) (pt : Bool) (T : List UInt8) (hs : SV W W X X κ B0 bp p b q D S L) (hp : PlOk S L N) (hN : N ≤ 9999) (hkd : kd = 3) (hcn : -9223372036854775808 ≤ cn ∧ cn ≤ 9223372036854775807) (hT : T.length ≤ 1073741824) (hnl : nl = T.length) (hB : Bytes W na (nb T)) :
    Calls Try.prog 28 #[.pointer (some ⟨p, 0, none⟩), .pointer (some ⟨q, 0, none⟩), .agg #[.int .i64 kd, .int .i64 on, .int .i64 cn, .slice na nl nc, .bool pt], .pointer (some ⟨bp, 0, none⟩)] W fun e w' => e = .returned (.bool true) ∧ Hid (StEnd W X κ B0 bp p b q N w') := by
  obtain ⟨w1, hw1, ⟨x0, x2, x3, x4, hcv⟩, HB1, HZ, HC⟩ := step_open hs kd on cn na nl nc pt T hnl hB
  have HB0 := hide hs.b0
  have HP := hide hp
  have HT := hide hT
  subst hkd
  have C1 := z_drop (unhide HZ) hp (by omega) cn
  have C2 := hide (fun S' V (hz : Z0 w1 X κ B0 bp p b q S' L V) => z_ddrop hz (by have := hp.len; omega) cn)
  clear hs hp hB hnl hT
  go_enter Try.func28, Try.ntmps28
  go_wp2_with (first
    | (go_at_call 24; with_reducible refine C1.mono ?_; clear C1; rintro e w2 ⟨rfl, k2⟩; obtain ⟨S', HS', k2⟩ : ∃ S', Hid (S'.Perm (restC S cn)) ∧ Hid (Z0 w1 X κ B0 bp p b q S' L w2) := (by obtain ⟨S', z1, z2⟩ := unhide k2; exact ⟨S', hide z1, hide z2⟩); obtain ⟨y2, y4⟩ := (unhide HC) _ _ _ (unhide k2))
    | (go_at_call 48; with_reducible refine ((unhide C2) S' w2 (unhide k2)).mono ?_; rintro e w3 ⟨rfl, k3⟩))
  go_ret
  exact ⟨rfl, hide ⟨_, _, (plok_drop (unhide HP) cn (unhide HS')).up, (unhide k3).base (unhide HB1) (unhide HB0)⟩⟩
theorem step_4 (G : List UInt8 → List UInt8 → Bool) (hG : GlobIs G) (W : World) (X : Nat → Nat) (κ B0 bp p b q : Nat) (D : BD) (S L : List Key) (N : Nat) (kd on cn : Int) (na : Option Addr) (nl nc : Nat) (pt : Bool) (T : List UInt8) (hs : SV W W X X κ B0 bp p b q D S L) (hp : PlOk S L N) (hN : N ≤ 9999) (hkd : kd = 4) (hcn : -9223372036854775808 ≤ cn ∧ cn ≤ 9223372036854775807) (hT : T.length ≤ 1073741824) (hnl : nl = T.length) (hB : Bytes W na (nb T)) :
    Calls Try.prog 28 #[.pointer (some ⟨p, 0, none⟩), .pointer (some ⟨q, 0, none⟩), .agg #[.int .i64 kd, .int .i64 on, .int .i64 cn, .slice na nl nc, .bool pt], .pointer (some ⟨bp, 0, none⟩)] W fun e w' => e = .returned (.bool true) ∧ Hid (StEnd W X κ B0 bp p b q N w') := by
  obtain ⟨w1, hw1, ⟨x0, x2, x3, x4, hcv⟩, HB1, HZ, HC⟩ := step_open hs kd on cn na nl nc pt T hnl hB
  have HB0 := hide hs.b0
  have HP := hide hp
  have HT := hide hT
  subst hkd
  have hl := hear_len G hp (by omega) T
  obtain ⟨l, hll⟩ : ∃ l, l = hearL G L T := ⟨_, rfl⟩
  have C1 : Hid (∀ V, Z0 w1 X κ B0 bp p b q S L V → Calls Try.prog 14 #[.pointer (some ⟨p, 0, none⟩), .string (bs T)] V (HEnd V l)) := hide (fun V hz => by rw [hll]; exact z_heard hG hp (by omega) T hT hz)
  have C2 : Hid (∀ V, Z0 w1 X κ B0 bp p b q S L V → Calls Try.prog 49 #[.pointer (some ⟨q, 0, none⟩), .string (bs T)] V (HEnd V l)) := hide (fun V hz => by rw [hll]; exact z_dheard hG hp (by omega) T hT hz)
  rw [← hll] at hl
  clear hll
  clear hs hp hB hnl hT
  go_enter Try.func28, Try.ntmps28
  go_wp2_with (first
    | (go_at_call 50; with_reducible refine ((unhide k8).add (unhide e2) hl).mono ?_; rintro e w9 ⟨rfl, k9⟩)
    | (go_at_call 42; with_reducible refine ((unhide k7).same (unhide e2) (unhide e7) hl).mono ?_; rintro e w8 ⟨rfl, k8⟩)
    | (go_at_call 49; with_reducible refine ((unhide k6).doc ((unhide C2) _ (unhide k6).z0)).mono ?_; rintro e w7 ⟨a7, n7, c7, rfl, e7, k7⟩; replace e7 := hide e7)
    | (go_at_call 50; with_reducible refine ((unhide k5).add (unhide e1) hl).mono ?_; rintro e w6 ⟨rfl, k6⟩)
    | (go_at_call 42; with_reducible refine ((unhide k4).same (unhide e1) (unhide e2) hl).mono ?_; rintro e w5 ⟨rfl, k5⟩)
    | (go_at_call 42; with_reducible refine ((unhide k3).same (unhide e1) (unhide e3) hl).mono ?_; rintro e w4 ⟨rfl, k4⟩)
    | (go_at_call 49; with_reducible refine ((unhide k2).doc ((unhide C2) _ (unhide k2).z0)).mono ?_; rintro e w3 ⟨a3, n3, c3, rfl, e3, k3⟩; replace e3 := hide e3)
    | (go_at_call 14; with_reducible refine ((unhide k1).then ((unhide C1) _ (unhide k1).z0)).mono ?_; rintro e w2 ⟨a2, n2, c2, rfl, e2, k2⟩; replace e2 := hide e2)
    | (go_at_call 14; with_reducible refine (Z0.yone (unhide HZ) ((unhide C1) _ (unhide HZ))).mono ?_; rintro e wa ⟨a1, n1, c1, rfl, e1, k1⟩; replace e1 := hide e1))
  go_ret
  exact ⟨rfl, hide ⟨_, _, (unhide HP).up, (unhide k9).base (unhide HB1) (unhide HB0)⟩⟩
theorem step_5 (G : List UInt8 → List UInt8 → Bool) (hG : GlobIs G) (W : World) (X : Nat → Nat) (κ B0 bp p b q : Nat) (D : BD) (S L : List Key) (N : Nat) (kd on cn : Int) (na : Option Addr) (nl nc : Nat) (pt : Bool) (T : List UInt8) (hs : SV W W X X κ B0 bp p b q D S L) (hp : PlOk S L N) (hN : N ≤ 9999) (hkd : kd = 5) (hcn : -9223372036854775808 ≤ cn ∧ cn ≤ 9223372036854775807) (hT : T.length ≤ 1073741824) (hnl : nl = T.length) (hB : Bytes W na (nb T)) :
    Calls Try.prog 28 #[.pointer (some ⟨p, 0, none⟩), .pointer (some ⟨q, 0, none⟩), .agg #[.int .i64 kd, .int .i64 on, .int .i64 cn, .slice na nl nc, .bool pt], .pointer (some ⟨bp, 0, none⟩)] W fun e w' => e = .returned (.bool true) ∧ Hid (StEnd W X κ B0 bp p b q N w') := by
  obtain ⟨w1, hw1, ⟨x0, x2, x3, x4, hcv⟩, HB1, HZ, HC⟩ := step_open hs kd on cn na nl nc pt T hnl hB
  have HB0 := hide hs.b0
  have HP := hide hp
  have HT := hide hT
  subst hkd
  have hl := names_len hp (by omega) cn pt
  obtain ⟨l, hll⟩ : ∃ l, l = namesL L cn pt := ⟨_, rfl⟩
  have C1 : Hid (∀ V, Z0 w1 X κ B0 bp p b q S L V → Calls Try.prog 25 #[.pointer (some ⟨p, 0, none⟩), .int .i64 cn, .bool pt] V (SEnd V l)) := hide (fun V hz => by rw [hll]; exact z_names hp (by omega) cn pt hz)
  have C2 : Hid (∀ V, Z0 w1 X κ B0 bp p b q S L V → Calls Try.prog 51 #[.pointer (some ⟨q, 0, none⟩), .int .i64 cn, .bool pt] V (SEnd V l)) := hide (fun V hz => by rw [hll]; exact z_dnames hp (by omega) cn pt hz)
  rw [← hll] at hl
  clear hll
  clear hs hp hB hnl hT
  go_enter Try.func28, Try.ntmps28
  go_wp2_with (first
    | (go_at_call 52; with_reducible refine ((unhide k8).add (unhide e2) hl).mono ?_; rintro e w9 ⟨rfl, k9⟩)
    | (go_at_call 41; with_reducible refine ((unhide k7).same (unhide e2) (unhide e7) hl).mono ?_; rintro e w8 ⟨rfl, k8⟩)
    | (go_at_call 51; with_reducible refine ((unhide k6).doc ((unhide C2) _ (unhide k6).z0)).mono ?_; rintro e w7 ⟨a7, n7, c7, rfl, e7, k7⟩; replace e7 := hide e7)
    | (go_at_call 52; with_reducible refine ((unhide k5).add (unhide e1) hl).mono ?_; rintro e w6 ⟨rfl, k6⟩; obtain ⟨y2, y4⟩ := (unhide HC) _ _ _ (unhide k6).z0)
    | (go_at_call 41; with_reducible refine ((unhide k4).same (unhide e1) (unhide e2) hl).mono ?_; rintro e w5 ⟨rfl, k5⟩)
    | (go_at_call 41; with_reducible refine ((unhide k3).same (unhide e1) (unhide e3) hl).mono ?_; rintro e w4 ⟨rfl, k4⟩)
    | (go_at_call 51; with_reducible refine ((unhide k2).doc ((unhide C2) _ (unhide k2).z0)).mono ?_; rintro e w3 ⟨a3, n3, c3, rfl, e3, k3⟩; replace e3 := hide e3)
    | (go_at_call 25; with_reducible refine ((unhide k1).then ((unhide C1) _ (unhide k1).z0)).mono ?_; rintro e w2 ⟨a2, n2, c2, rfl, e2, k2⟩; replace e2 := hide e2; obtain ⟨y2, y4⟩ := (unhide HC) _ _ _ (unhide k2).z0)
    | (go_at_call 25; with_reducible refine (Z0.zone (unhide HZ) ((unhide C1) _ (unhide HZ))).mono ?_; rintro e wa ⟨a1, n1, c1, rfl, e1, k1⟩; replace e1 := hide e1; obtain ⟨y2, y4⟩ := (unhide HC) _ _ _ (unhide k1).z0))
  go_ret
  exact ⟨rfl, hide ⟨_, _, (unhide HP).up, (unhide k9).base (unhide HB1) (unhide HB0)⟩⟩
theorem step_6 (G : List UInt8 → List UInt8 → Bool) (hG : GlobIs G) (W : World) (X : Nat → Nat) (κ B0 bp p b q : Nat) (D : BD) (S L : List Key) (N : Nat) (kd on cn : Int) (na : Option Addr) (nl nc : Nat) (pt : Bool) (T : List UInt8) (hs : SV W W X X κ B0 bp p b q D S L) (hp : PlOk S L N) (hN : N ≤ 9999) (hkd : kd = 6) (hcn : -9223372036854775808 ≤ cn ∧ cn ≤ 9223372036854775807) (hT : T.length ≤ 1073741824) (hnl : nl = T.length) (hB : Bytes W na (nb T)) :
    Calls Try.prog 28 #[.pointer (some ⟨p, 0, none⟩), .pointer (some ⟨q, 0, none⟩), .agg #[.int .i64 kd, .int .i64 on, .int .i64 cn, .slice na nl nc, .bool pt], .pointer (some ⟨bp, 0, none⟩)] W fun e w' => e = .returned (.bool true) ∧ Hid (StEnd W X κ B0 bp p b q N w') := by
  obtain ⟨w1, hw1, ⟨x0, x2, x3, x4, hcv⟩, HB1, HZ, HC⟩ := step_open hs kd on cn na nl nc pt T hnl hB
  have HB0 := hide hs.b0
  have HP := hide hp
  have HT := hide hT
  subst hkd
  obtain ⟨m, hm⟩ : ∃ m, m = cntC L cn := ⟨_, rfl⟩
  have C1 := hide (fun V (hz : Z0 w1 X κ B0 bp p b q S L V) => z_count hp (by omega) cn hz)
  have C2 := hide (fun V (hz : Z0 w1 X κ B0 bp p b q S L V) => z_dcount hp (by omega) cn hz)
  simp only [← hm] at C1 C2
  clear hm
  have HD := hide ((unhide HZ).below (Below.refl w1.heap.size w1).drew)
  clear hs hp hB hnl hT
  go_enter Try.func28, Try.ntmps28
  go_wp2_with fail
  go_region_held3 (fun V => V.cell? ⟨W.heap.size, 2, none⟩ = some (.int .i64 cn)) (first | exact y2 | go_keep) (first | (go_at_call 53; (with_reducible refine ((unhide C2) _ (unhide k2)).mono ?_); rintro e w3 ⟨rfl, k3⟩; obtain ⟨y2, -⟩ := (unhide HC) _ _ _ (unhide k3)) | (go_at_call 13; (with_reducible refine ((unhide C1) _ (unhide HD)).mono ?_); rintro e w2 ⟨rfl, k2⟩; obtain ⟨y2, -⟩ := (unhide HC) _ _ _ (unhide k2)))
  go_wp2_with fail
  go_ret
  exact ⟨rfl, hide ⟨_, _, (unhide HP).up, (unhide k3).base (unhide HB1) (unhide HB0)⟩⟩
theorem step_7 (G : List UInt8 → List UInt8 → Bool) (hG : GlobIs G) (W : World) (X : Nat → Nat) (κ B0 bp p b q : Nat) (D : BD) (S L : List Key) (N : Nat) (kd on cn : Int) (na : Option Addr) (nl nc : Nat) (pt : Bool) (T : List UInt8) (hs : SV W W X X κ B0 bp p b q D S L) (hp : PlOk S L N) (hN : N ≤ 9999) (hkd : kd = 7) (hcn : -9223372036854775808 ≤ cn ∧ cn ≤ 9223372036854775807) (hT : T.length ≤ 1073741824) (hnl : nl = T.length) (hB : Bytes W na (nb T)) :
    Calls Try.prog 28 #[.pointer (some ⟨p, 0, none⟩), .pointer (some ⟨q, 0, none⟩), .agg #[.int .i64 kd, .int .i64 on, .int .i64 cn, .slice na nl nc, .bool pt], .pointer (some ⟨bp, 0, none⟩)] W fun e w' => e = .returned (.bool true) ∧ Hid (StEnd W X κ B0 bp p b q N w') := by
  obtain ⟨w1, hw1, ⟨x0, x2, x3, x4, hcv⟩, HB1, HZ, HC⟩ := step_open hs kd on cn na nl nc pt T hnl hB
  have HB0 := hide hs.b0
  have HP := hide hp
  have HT := hide hT
  subst hkd
  have hl := chan_len G hp (by omega) T
  obtain ⟨l, hll⟩ : ∃ l, l = chanL G L T := ⟨_, rfl⟩
  have C1 : Hid (∀ V, Z0 w1 X κ B0 bp p b q S L V → Calls Try.prog 21 #[.pointer (some ⟨p, 0, none⟩), .string (bs T)] V (SEnd V l)) := hide (fun V hz => by rw [hll]; exact z_chan hG hp (by omega) T hT hz)
  have C2 : Hid (∀ V, Z0 w1 X κ B0 bp p b q S L V → Calls Try.prog 54 #[.pointer (some ⟨q, 0, none⟩), .string (bs T)] V (SEnd V l)) := hide (fun V hz => by rw [hll]; exact z_dchan hG hp (by omega) T hT hz)
  rw [← hll] at hl
  clear hll
  clear hs hp hB hnl hT
  go_enter Try.func28, Try.ntmps28
  go_wp2_with (first
    | (go_at_call 52; with_reducible refine ((unhide k8).add (unhide e2) hl).mono ?_; rintro e w9 ⟨rfl, k9⟩)
    | (go_at_call 41; with_reducible refine ((unhide k7).same (unhide e2) (unhide e7) hl).mono ?_; rintro e w8 ⟨rfl, k8⟩)
    | (go_at_call 54; with_reducible refine ((unhide k6).doc ((unhide C2) _ (unhide k6).z0)).mono ?_; rintro e w7 ⟨a7, n7, c7, rfl, e7, k7⟩; replace e7 := hide e7)
    | (go_at_call 52; with_reducible refine ((unhide k5).add (unhide e1) hl).mono ?_; rintro e w6 ⟨rfl, k6⟩)
    | (go_at_call 41; with_reducible refine ((unhide k4).same (unhide e1) (unhide e2) hl).mono ?_; rintro e w5 ⟨rfl, k5⟩)
    | (go_at_call 41; with_reducible refine ((unhide k3).same (unhide e1) (unhide e3) hl).mono ?_; rintro e w4 ⟨rfl, k4⟩)
    | (go_at_call 54; with_reducible refine ((unhide k2).doc ((unhide C2) _ (unhide k2).z0)).mono ?_; rintro e w3 ⟨a3, n3, c3, rfl, e3, k3⟩; replace e3 := hide e3)
    | (go_at_call 21; with_reducible refine ((unhide k1).then ((unhide C1) _ (unhide k1).z0)).mono ?_; rintro e w2 ⟨a2, n2, c2, rfl, e2, k2⟩; replace e2 := hide e2)
    | (go_at_call 21; with_reducible refine (Z0.zone (unhide HZ) ((unhide C1) _ (unhide HZ))).mono ?_; rintro e wa ⟨a1, n1, c1, rfl, e1, k1⟩; replace e1 := hide e1))
  go_ret
  exact ⟨rfl, hide ⟨_, _, (unhide HP).up, (unhide k9).base (unhide HB1) (unhide HB0)⟩⟩
theorem step_8 (G : List UInt8 → List UInt8 → Bool) (hG : GlobIs G) (W : World) (X : Nat → Nat) (κ B0 bp p b q : Nat) (D : BD) (S L : List Key) (N : Nat) (kd on cn : Int) (na : Option Addr) (nl nc : Nat) (pt : Bool) (T : List UInt8) (hs : SV W W X X κ B0 bp p b q D S L) (hp : PlOk S L N) (hN : N ≤ 9999) (hkd : kd = 8) (hcn : -9223372036854775808 ≤ cn ∧ cn ≤ 9223372036854775807) (hT : T.length ≤ 1073741824) (hnl : nl = T.length) (hB : Bytes W na (nb T)) :
    Calls Try.prog 28 #[.pointer (some ⟨p, 0, none⟩), .pointer (some ⟨q, 0, none⟩), .agg #[.int .i64 kd, .int .i64 on, .int .i64 cn, .slice na nl nc, .bool pt], .pointer (some ⟨bp, 0, none⟩)] W fun e w' => e = .returned (.bool true) ∧ Hid (StEnd W X κ B0 bp p b q N w') := by
  obtain ⟨w1, hw1, ⟨x0, x2, x3, x4, hcv⟩, HB1, HZ, HC⟩ := step_open hs kd on cn na nl nc pt T hnl hB
  have HB0 := hide hs.b0
  have HP := hide hp
  have HT := hide hT
  subst hkd
  obtain ⟨m, hm⟩ : ∃ m, m = cntT L T := ⟨_, rfl⟩
  have C1 := z_lis hp (by omega) T hT (unhide HZ)
  have C2 := hide (fun V (hz : Z0 w1 X κ B0 bp p b q S L V) => z_dlis hp (by omega) T hz)
  rw [← hm] at C1
  simp only [← hm] at C2
  clear hm
  clear hs hp hB hnl hT
  go_enter Try.func28, Try.ntmps28
  go_wp2_with (first
    | (go_at_call 16; with_reducible refine C1.mono ?_; clear C1; rintro e w2 ⟨rfl, k2⟩; obtain ⟨y2, y4⟩ := (unhide HC) _ _ _ (unhide k2))
    | (go_at_call 55; with_reducible refine ((unhide C2) w2 (unhide k2)).mono ?_; rintro e w3 ⟨rfl, k3⟩))
  go_ret
  exact ⟨rfl, hide ⟨_, _, (unhide HP).up, (unhide k3).base (unhide HB1) (unhide HB0)⟩⟩
theorem step_9 (G : List UInt8 → List UInt8 → Bool) (hG : GlobIs G) (W : World) (X : Nat → Nat) (κ B0 bp p b q : Nat) (D : BD) (S L : List Key) (N : Nat) (kd on cn : Int) (na : Option Addr) (nl nc : Nat) (pt : Bool) (T : List UInt8) (hs : SV W W X X κ B0 bp p b q D S L) (hp : PlOk S L N) (hN : N ≤ 9999) (hkd : kd = 9) (hcn : -9223372036854775808 ≤ cn ∧ cn ≤ 9223372036854775807) (hT : T.length ≤ 1073741824) (hnl : nl = T.length) (hB : Bytes W na (nb T)) :
    Calls Try.prog 28 #[.pointer (some ⟨p, 0, none⟩), .pointer (some ⟨q, 0, none⟩), .agg #[.int .i64 kd, .int .i64 on, .int .i64 cn, .slice na nl nc, .bool pt], .pointer (some ⟨bp, 0, none⟩)] W fun e w' => e = .returned (.bool true) ∧ Hid (StEnd W X κ B0 bp p b q N w') := by
  obtain ⟨w1, hw1, ⟨x0, x2, x3, x4, hcv⟩, HB1, HZ, HC⟩ := step_open hs kd on cn na nl nc pt T hnl hB
  have HB0 := hide hs.b0
  have HP := hide hp
  have HT := hide hT
  subst hkd
  obtain ⟨m, hm⟩ : ∃ m, m = (unlikeL L true).length := ⟨_, rfl⟩
  have C1 := z_pat hp (by omega) (unhide HZ)
  have C2 := hide (fun V (hz : Z0 w1 X κ B0 bp p b q S L V) => z_dpat hp (by omega) hz)
  rw [← hm] at C1
  simp only [← hm] at C2
  clear hm
  clear hs hp hB hnl hT
  go_enter Try.func28, Try.ntmps28
  go_wp2_with (first
    | (go_at_call 43; with_reducible refine C1.mono ?_; clear C1; rintro e w2 ⟨rfl, k2⟩; obtain ⟨y2, y4⟩ := (unhide HC) _ _ _ (unhide k2))
    | (go_at_call 56; with_reducible refine ((unhide C2) w2 (unhide k2)).mono ?_; rintro e w3 ⟨rfl, k3⟩))
  go_ret
  exact ⟨rfl, hide ⟨_, _, (unhide HP).up, (unhide k3).base (unhide HB1) (unhide HB0)⟩⟩
theorem step_10 (G : List UInt8 → List UInt8 → Bool) (hG : GlobIs G) (W : World) (X : Nat → Nat) (κ B0 bp p b q : Nat) (D : BD) (S L : List Key) (N : Nat) (kd on cn : Int) (na : Option Addr) (nl nc : Nat) (pt : Bool) (T : List UInt8) (hs : SV W W X X κ B0 bp p b q D S L) (hp : PlOk S L N) (hN : N ≤ 9999) (hkd : ¬ (1 ≤ kd ∧ kd ≤ 9)) (hcn : -9223372036854775808 ≤ cn ∧ cn ≤ 9223372036854775807) (hT : T.length ≤ 1073741824) (hnl : nl = T.length) (hB : Bytes W na (nb T)) :
    Calls Try.prog 28 #[.pointer (some ⟨p, 0, none⟩), .pointer (some ⟨q, 0, none⟩), .agg #[.int .i64 kd, .int .i64 on, .int .i64 cn, .slice na nl nc, .bool pt], .pointer (some ⟨bp, 0, none⟩)] W fun e w' => e = .returned (.bool true) ∧ Hid (StEnd W X κ B0 bp p b q N w') := by
  obtain ⟨w1, hw1, ⟨x0, x2, x3, x4, hcv⟩, HB1, HZ, HC⟩ := step_open hs kd on cn na nl nc pt T hnl hB
  have HB0 := hide hs.b0
  have HP := hide hp
  have HT := hide hT
  have n1 : (kd == 1) = false := by simp; omega
  have n2 : (kd == 2) = false := by simp; omega
  have n3 : (kd == 3) = false := by simp; omega
  have n4 : (kd == 4) = false := by simp; omega
  have n5 : (kd == 5) = false := by simp; omega
  have n6 : (kd == 6) = false := by simp; omega
  have n7 : (kd == 7) = false := by simp; omega
  have n8 : (kd == 8) = false := by simp; omega
  have n9 : (kd == 9) = false := by simp; omega
  clear hkd
  clear hs hp hB hnl hT
  go_enter Try.func28, Try.ntmps28
  go_wp2_with fail
  go_ret
  exact ⟨rfl, hide ⟨_, _, (unhide HP).up, (unhide HZ).base (unhide HB1) (unhide HB0)⟩⟩
theorem step_any (G : List UInt8 → List UInt8 → Bool) (hG : GlobIs G) (W : World) (X : Nat → Nat) (κ B0 bp p b q : Nat) (D : BD) (S L : List Key) (N : Nat) (kd on cn : Int) (na : Option Addr) (nl nc : Nat) (pt : Bool) (T : List UInt8) (hs : SV W W X X κ B0 bp p b q D S L) (hp : PlOk S L N) (hN : N ≤ 9999) (hcn : -9223372036854775808 ≤ cn ∧ cn ≤ 9223372036854775807) (hT : T.length ≤ 1073741824) (hnl : nl = T.length) (hB : Bytes W na (nb T)) :
    Calls Try.prog 28 #[.pointer (some ⟨p, 0, none⟩), .pointer (some ⟨q, 0, none⟩), .agg #[.int .i64 kd, .int .i64 on, .int .i64 cn, .slice na nl nc, .bool pt], .pointer (some ⟨bp, 0, none⟩)] W fun e w' => e = .returned (.bool true) ∧ Hid (StEnd W X κ B0 bp p b q N w') := by
  by_cases h : 1 ≤ kd ∧ kd ≤ 9
  · have : kd = 1 ∨ kd = 2 ∨ kd = 3 ∨ kd = 4 ∨ kd = 5 ∨ kd = 6 ∨ kd = 7 ∨ kd = 8 ∨ kd = 9 := by omega
    rcases this with e | e | e | e | e | e | e | e | e
    · exact step_1 G hG W X κ B0 bp p b q D S L N kd on cn na nl nc pt T hs hp hN e hcn hT hnl hB
    · exact step_2 G hG W X κ B0 bp p b q D S L N kd on cn na nl nc pt T hs hp hN e hcn hT hnl hB
    · exact step_3 G hG W X κ B0 bp p b q D S L N kd on cn na nl nc pt T hs hp hN e hcn hT hnl hB
    · exact step_4 G hG W X κ B0 bp p b q D S L N kd on cn na nl nc pt T hs hp hN e hcn hT hnl hB
    · exact step_5 G hG W X κ B0 bp p b q D S L N kd on cn na nl nc pt T hs hp hN e hcn hT hnl hB
    · exact step_6 G hG W X κ B0 bp p b q D S L N kd on cn na nl nc pt T hs hp hN e hcn hT hnl hB
    · exact step_7 G hG W X κ B0 bp p b q D S L N kd on cn na nl nc pt T hs hp hN e hcn hT hnl hB
    · exact step_8 G hG W X κ B0 bp p b q D S L N kd on cn na nl nc pt T hs hp hN e hcn hT hnl hB
    · exact step_9 G hG W X κ B0 bp p b q D S L N kd on cn na nl nc pt T hs hp hN e hcn hT hnl hB
  · exact step_10 G hG W X κ B0 bp p b q D S L N kd on cn na nl nc pt T hs hp hN h hcn hT hnl hB
end Go.Proofs.Ytjmnddcombepaaa
