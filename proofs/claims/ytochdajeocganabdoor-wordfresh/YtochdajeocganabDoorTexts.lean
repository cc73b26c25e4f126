/- texts. -/
import Derived.Test.YtochdajeocganabDoorLine
import Derived.Test.YtochdajeocganabDoorText
import Derived.Test.YtochdajeocganabDoorRFresh
import Derived.Test.YtochdajeocganabDoorHeaders
import Derived.Test.YtochdajeocganabDoorIntactW
import Derived.Test.YtochdajeocganabDoorUnpack
import Derived.Deep.RegionHeld3
namespace Go.Proofs.YtochdajeocganabDoor
open Go.ChangeShapes Go.WideShapes Go.ChangeAt Go.RowKit
set_option linter.unusedVariables false
set_option maxRecDepth 100000
set_option maxHeartbeats 4000000

/-- two answers: the program's in memory of its own, the document's elsewhere -/
def TextsOut (w w' : World) (e : Ending) : Prop := ∃ (v : Value) (a : Option Addr) (cap : Nat) (l : List Nat), e = .returned (.tuple #[v, .slice a l.length cap]) ∧ OwnB w' w.heap.size v l ∧ Bytes w' a l ∧ Small l ∧ l.length ≤ 140737488355328 ∧ (∀ b off, a = some ⟨b, off, none⟩ → w.heap.size ≤ b ∧ v.ownBlock ≠ some b) ∧ Below w.heap.size w w'
theorem own_low {w : World} {b b' : Nat} {v : Value} {l : List Nat} (h : OwnB w b v l) (hb : b' ≤ b) : OwnB w b' v l := by
  refine ⟨h.1, ?_⟩
  rcases h.2 with hn | ⟨g, cap, cur, hv, hbb, rest⟩
  · exact .inl hn
  · exact .inr ⟨g, cap, cur, hv, by omega, rest⟩
theorem text_own (i : Int) (h0 : -9223372036854775808 ≤ i) (h1 : i ≤ 9223372036854775807) (w : World) (ht : Tab w) :
    Calls Tryd.prog 23 #[.int .i64 i] w fun e w' => ∃ a c, e = .returned (.slice a (Larder.spellI i).length c) ∧ OwnB w' w.heap.size (.slice a (Larder.spellI i).length c) (Larder.spellI i) ∧ Below w.heap.size w w' := by
  refine (text_any i h0 h1 w ht).mono ?_
  rintro e w' ⟨v, he, hown, hb⟩
  obtain ⟨a, c, hv, hB, -⟩ := hown.shape
  exact ⟨a, c, by rw [he, hv], by rw [← hv]; exact hown, hb⟩
theorem digits_own (u : Nat) (hu : u < 18446744073709551616) (w : World) (ht : Tab w) :
    Calls Tryd.prog 25 #[.int .u64 u] w fun e w' => ∃ a c, e = .returned (.slice a (Larder.spell u).length c) ∧ OwnB w' w.heap.size (.slice a (Larder.spell u).length c) (Larder.spell u) ∧ Below w.heap.size w w' := by
  refine (digits_any u hu w ht).mono ?_
  rintro e w' ⟨v, he, hown, hb⟩
  obtain ⟨a, c, hv, hB, -⟩ := hown.shape
  exact ⟨a, c, by rw [he, hv], by rw [← hv]; exact hown, hb⟩
theorem rdigits_own (u : Nat) (hu : u < 18446744073709551616) (w : World) :
    Calls Tryd.prog 26 #[.int .u64 u] w fun e w' => ∃ a c, e = .returned (.slice a (Larder.spell u).length c) ∧ Bytes w' a (Larder.spell u) ∧ (∀ b off, a = some ⟨b, off, none⟩ → w.heap.size ≤ b) ∧ Below w.heap.size w w' := by
  refine (rdigits_any (u + 1) u (by omega) hu w).mono ?_
  rintro e w' ⟨v, he, hown, hb⟩
  obtain ⟨a, c, hv, hB, -⟩ := hown.shape
  refine ⟨a, c, by rw [he, hv], hB, fun b off e => ?_, hb⟩
  have h1 := (line_of_own hown).2 b (by rw [hv, e]; rfl)
  exact h1
/-- the two answers put together -/
theorem texts_join {w w' w1 w2 : World} {a1 a2 : Option Addr} {c1 c2 : Nat} {l : List Nat} (hb : Below w.heap.size w w') (hown : OwnB w1 w'.heap.size (.slice a1 l.length c1) l) (hb1 : Below w'.heap.size w' w1) (hB : Bytes w2 a2 l) (hf : ∀ b off, a2 = some ⟨b, off, none⟩ → w1.heap.size ≤ b) (hb2 : Below w1.heap.size w1 w2) (hs : Small l) (hl : l.length ≤ 140737488355328) : TextsOut w w2 (.returned (.tuple #[.slice a1 l.length c1, .slice a2 l.length c2])) := by
  have s0 := hb.size
  have s1 := hb1.size
  refine ⟨_, _, _, l, rfl, own_low (hown.below hb2) s0, hB, hs, hl, fun b off e => ⟨by have := hf b off e; omega, fun e2 => ?_⟩, hb.trans ((hb1.mono (by omega)).trans (hb2.mono (by omega)))⟩
  have h1 := (line_of_own hown).1.lt b e2
  have h2 := hf b off e
  omega
theorem keepc_call {w0 wx w1 : World} {b j : Nat} {v : Value} (hlt : b < w0.heap.size) (h12 : wx.cell? ⟨b, j, none⟩ = some v ∧ Below w0.heap.size w0 wx) (h3 : Below wx.heap.size wx w1) :
    w1.cell? ⟨b, j, none⟩ = some v ∧ Below w0.heap.size w0 w1 :=
  ⟨(h3.cell (p := ⟨b, j, none⟩) (Nat.lt_of_lt_of_le hlt h12.2.size)).trans h12.1, h12.2.trans (h3.mono h12.2.size)⟩
theorem keepc_start {w0 : World} {b j : Nat} {v : Value} (h1 : w0.cell? ⟨b, j, none⟩ = some v) : w0.drew.cell? ⟨b, j, none⟩ = some v ∧ Below w0.heap.size w0 w0.drew :=
  ⟨h1, ⟨rfl, rfl, rfl, Nat.le_refl _, fun _ _ => rfl⟩⟩
theorem spell_short (u : Nat) (hu : u < 18446744073709551616) : (Larder.spell u).length ≤ 20 := by
  unfold Larder.spell
  rw [Larder.nums_length, Lib.decDigits_length]
  exact Lib.nDigits_le20 _ hu
theorem spellI_short (n : Int) (h0 : -9223372036854775808 ≤ n) (h1 : n ≤ 9223372036854775807) : (Larder.spellI n).length ≤ 140737488355328 := by
  by_cases h : 0 ≤ n
  · rw [Larder.spellI_pos n (by omega)]
    have := spell_short n.toNat (by omega)
    omega
  · rw [Larder.spellI_neg n (by omega), List.length_cons]
    have := spell_short n.natAbs (by omega)
    omega
theorem texts_text (A B C N M : Int) (hN1 : -9223372036854775808 ≤ N) (hN2 : N ≤ 9223372036854775807) (x : Nat) (vT vW : Value) (w : World) (ht : Tab w) :
    Calls Tryd.prog 13 #[.agg #[.int .i64 7, .int .i64 A, .int .i64 B, .int .i64 C, .int .i64 N, .int .i64 M, .int .u64 x, vT, vW]] w fun e w' => TextsOut w w' e := by
  obtain ⟨w0, hw0⟩ : ∃ w0, w0 = w.alloc (.cells #[.int .i64 7, .int .i64 A, .int .i64 B, .int .i64 C, .int .i64 N, .int .i64 M, .int .u64 x, vT, vW] 49) := ⟨_, rfl⟩
  have hb0 : Below w.heap.size w w0 := by rw [hw0]; exact (Below.refl _ _).alloc (Nat.le_refl _) _
  have hc0 : w0.cell? ⟨w.heap.size, 4, none⟩ = some (.int .i64 N) := by rw [hw0]; exact field_at (Below.refl _ _) 4
  have hlt0 : w.heap.size < w0.heap.size := by rw [hw0]; simp
  have ht0 := ht.below hb0
  obtain ⟨l, hl⟩ : ∃ l, l = Larder.spellI N := ⟨_, rfl⟩
  have hs : Hid (Small l) := hide (by rw [hl]; exact fun i hi => Larder.nums_small _ i hi)
  have hlen : Hid (l.length ≤ 140737488355328) := hide (by rw [hl]; exact spellI_short N hN1 hN2)
  have HT : Hid (∀ w', (w'.cell? ⟨w.heap.size, 4, none⟩ = some (.int .i64 N) ∧ Below w0.heap.size w0 w') → Calls Tryd.prog 23 #[.int .i64 N] w' fun e w'' => ∃ a c, e = .returned (.slice a l.length c) ∧ OwnB w'' w'.heap.size (.slice a l.length c) l ∧ Below w'.heap.size w' w'') :=
    hide (fun w' hb => by rw [hl]; exact text_own N hN1 hN2 w' (ht0.below hb.2))
  have HR : Hid (∀ w', Calls Tryd.prog 24 #[.int .i64 N] w' fun e w'' => ∃ a c, e = .returned (.slice a l.length c) ∧ Bytes w'' a l ∧ (∀ b off, a = some ⟨b, off, none⟩ → w'.heap.size ≤ b) ∧ Below w'.heap.size w' w'') :=
    hide (fun w' => by rw [hl]; exact rtextF_any N hN1 hN2 w')
  clear hl ht ht0
  have HC0 := hide hc0
  have HB0 := hide hb0
  have HW0 := hide hw0
  have HLT := hide hlt0
  clear hc0 hb0 hlt0 hw0
  go_enter Tryd.func13, Tryd.ntmps13
  go_wp2_with fail
  rw [← unhide HW0]
  go_region_held3 (fun w' => w'.cell? ⟨w.heap.size, 4, none⟩ = some (.int .i64 N) ∧ Below w0.heap.size w0 w')
    (first | exact keepc_start (unhide HC0) | assumption | exact keepc_call (unhide HLT) (by assumption) (by assumption))
    (first
      | (go_at_call 23; refine (unhide HT _ (by assumption)).mono ?_; rintro e w1 ⟨a1, c1, rfl, hO1, hb1⟩)
      | (go_at_call 24; refine (unhide HR _).mono ?_; rintro e w2 ⟨a2, c2, rfl, hB2, hf2, hb2⟩))
  go_wp2
  go_ret2
  exact texts_join (chain (unhide HB0) (keepc_start (unhide HC0)).2 (unhide HB0).size) hO1 hb1 hB2 hf2 hb2 (unhide hs) (unhide hlen)
theorem texts_digits (A B C N M : Int)  (x : Nat) (hx : x < 18446744073709551616) (vT vW : Value) (w : World) (ht : Tab w) :
    Calls Tryd.prog 13 #[.agg #[.int .i64 10, .int .i64 A, .int .i64 B, .int .i64 C, .int .i64 N, .int .i64 M, .int .u64 x, vT, vW]] w fun e w' => TextsOut w w' e := by
  obtain ⟨w0, hw0⟩ : ∃ w0, w0 = w.alloc (.cells #[.int .i64 10, .int .i64 A, .int .i64 B, .int .i64 C, .int .i64 N, .int .i64 M, .int .u64 x, vT, vW] 49) := ⟨_, rfl⟩
  have hb0 : Below w.heap.size w w0 := by rw [hw0]; exact (Below.refl _ _).alloc (Nat.le_refl _) _
  have hc0 : w0.cell? ⟨w.heap.size, 6, none⟩ = some (.int .u64 x) := by rw [hw0]; exact field_at (Below.refl _ _) 6
  have hlt0 : w.heap.size < w0.heap.size := by rw [hw0]; simp
  have ht0 := ht.below hb0
  obtain ⟨l, hl⟩ : ∃ l, l = Larder.spell x := ⟨_, rfl⟩
  have hs : Hid (Small l) := hide (by rw [hl]; exact fun i hi => Larder.nums_small _ i hi)
  have hlen : Hid (l.length ≤ 140737488355328) := hide (by rw [hl]; have := spell_short x hx; omega)
  have HT : Hid (∀ w', (w'.cell? ⟨w.heap.size, 6, none⟩ = some (.int .u64 x) ∧ Below w0.heap.size w0 w') → Calls Tryd.prog 25 #[.int .u64 x] w' fun e w'' => ∃ a c, e = .returned (.slice a l.length c) ∧ OwnB w'' w'.heap.size (.slice a l.length c) l ∧ Below w'.heap.size w' w'') :=
    hide (fun w' hb => by rw [hl]; exact digits_own x hx w' (ht0.below hb.2))
  have HR : Hid (∀ w', Calls Tryd.prog 26 #[.int .u64 x] w' fun e w'' => ∃ a c, e = .returned (.slice a l.length c) ∧ Bytes w'' a l ∧ (∀ b off, a = some ⟨b, off, none⟩ → w'.heap.size ≤ b) ∧ Below w'.heap.size w' w'') :=
    hide (fun w' => by rw [hl]; exact rdigits_own x hx w')
  clear hl ht ht0
  have HC0 := hide hc0
  have HB0 := hide hb0
  have HW0 := hide hw0
  have HLT := hide hlt0
  clear hc0 hb0 hlt0 hw0
  go_enter Tryd.func13, Tryd.ntmps13
  go_wp2_with fail
  rw [← unhide HW0]
  go_region_held3 (fun w' => w'.cell? ⟨w.heap.size, 6, none⟩ = some (.int .u64 x) ∧ Below w0.heap.size w0 w')
    (first | exact keepc_start (unhide HC0) | assumption | exact keepc_call (unhide HLT) (by assumption) (by assumption))
    (first
      | (go_at_call 25; refine (unhide HT _ (by assumption)).mono ?_; rintro e w1 ⟨a1, c1, rfl, hO1, hb1⟩)
      | (go_at_call 26; refine (unhide HR _).mono ?_; rintro e w2 ⟨a2, c2, rfl, hB2, hf2, hb2⟩))
  go_wp2
  go_ret2
  exact texts_join (chain (unhide HB0) (keepc_start (unhide HC0)).2 (unhide HB0).size) hO1 hb1 hB2 hf2 hb2 (unhide hs) (unhide hlen)
theorem unpackL_bytes (ws : List Nat) (n : Nat) : Small (Larder.unpackL ws n) := Larder.unpackL_small ws n
theorem texts_unpack (A B C N M : Int) (hA1 : -9223372036854775808 ≤ A) (hA2 : A ≤ 9223372036854775807) (x : Nat) (vT : Value) (a : Option Addr) (cap : Nat) (w : World) (ws : List Nat) (hl : 8 * ws.length ≤ 140737488351232) (hW : Words w a ws) (hs : WSmall ws) :
    Calls Tryd.prog 13 #[.agg #[.int .i64 5, .int .i64 A, .int .i64 B, .int .i64 C, .int .i64 N, .int .i64 M, .int .u64 x, vT, .slice a ws.length cap]] w fun e w' => TextsOut w w' e := by
  obtain ⟨w0, hw0⟩ : ∃ w0, w0 = w.alloc (.cells #[.int .i64 5, .int .i64 A, .int .i64 B, .int .i64 C, .int .i64 N, .int .i64 M, .int .u64 x, vT, .slice a ws.length cap] 49) := ⟨_, rfl⟩
  have hb0 : Below w.heap.size w w0 := by rw [hw0]; exact (Below.refl _ _).alloc (Nat.le_refl _) _
  have hc1 : w0.cell? ⟨w.heap.size, 1, none⟩ = some (.int .i64 A) := by rw [hw0]; exact field_at (Below.refl _ _) 1
  have hc8 : w0.cell? ⟨w.heap.size, 8, none⟩ = some (.slice a ws.length cap) := by rw [hw0]; exact field_at (Below.refl _ _) 8
  have hlt0 : w.heap.size < w0.heap.size := by rw [hw0]; simp
  have HW0 := hide hw0
  have HB0 := hide hb0
  have hW0 := hW.below hb0
  clear hw0
  by_cases hbad : A < 0 ∨ (ws.length : Int) < wordsI A
  · have H1 := hide (fun w' => unpack_no a cap ws.length A w' hA1 hA2 hbad)
    have H2 := hide (fun w' => runpack_no a cap ws.length A w' hA1 hA2 hbad)
    clear hW hs hbad hW0 hb0
    go_enter Tryd.func13, Tryd.ntmps13
    go_wp2_with fail
    rw [← unhide HW0]
    refine (unhide H1 _).mono ?_
    rintro e w' ⟨rfl, hw'⟩
    obtain rfl := hw'.symm
    go_wp2_with fail
    refine (unhide H2 _).mono ?_
    rintro e w' ⟨rfl, hw'⟩
    obtain rfl := hw'.symm
    go_wp2
    go_ret2
    exact ⟨.slice none 0 0, none, 0, [], rfl, World.ownsRow_nil _ _ _ _, .inl rfl, (fun i hi => by simp at hi), by simp, (fun b off e => by cases e), unhide HB0⟩
  · have hA0 : 0 ≤ A := by
      by_cases e : 0 ≤ A
      · exact e
      · exact absurd (Or.inl (by omega)) hbad
    obtain ⟨n, rfl⟩ := Int.eq_ofNat_of_zero_le hA0
    have hwn : wordsI (n : Int) = (Larder.wn n : Int) := by unfold wordsI Larder.wn; split <;> omega
    have hle : Larder.wn n ≤ ws.length := by
      by_cases e : Larder.wn n ≤ ws.length
      · exact e
      · exact absurd (Or.inr (by rw [hwn]; omega)) hbad
    have hn8 : n ≤ 8 * ws.length := by unfold Larder.wn at hle; omega
    have H1 := hide (unpack_yes a cap n w0 ws (by omega) hle hW0 hs)
    have H2 : Hid (∀ w', Below w0.heap.size w0 w' → Calls Tryd.prog 22 #[.slice a ws.length cap, .int .i64 n] w' fun e w'' => ∃ v, e = .returned (.tuple #[v, .int .i64 0]) ∧ OwnB w'' w'.heap.size v (Larder.unpackL ws n) ∧ Below w'.heap.size w' w'') := hide (fun w' hb => runpack_yes a cap n w' ws hl hle (hW0.below hb) hs)
    have HC : Hid (∀ w', Below w0.heap.size w0 w' → w'.cell? ⟨w.heap.size, 1, none⟩ = some (.int .i64 n) ∧ w'.cell? ⟨w.heap.size, 8, none⟩ = some (.slice a ws.length cap)) := hide (fun w' hb => ⟨(hb.cell (p := ⟨w.heap.size, 1, none⟩) hlt0).trans hc1, (hb.cell (p := ⟨w.heap.size, 8, none⟩) hlt0).trans hc8⟩)
    obtain ⟨l, hll⟩ : ∃ l, l = Larder.unpackL ws n := ⟨_, rfl⟩
    have hsm : Hid (Small l) := hide (by rw [hll]; exact unpackL_bytes ws n)
    have hlen : Hid (l.length ≤ 140737488355328) := hide (by rw [hll, Larder.unpackL_length]; omega)
    rw [← hll] at H1 H2
    clear hW hs hbad hW0 hb0 hwn hle hll hn8 hA0
    go_enter Tryd.func13, Tryd.ntmps13
    go_wp2_with fail
    rw [← unhide HW0]
    refine (unhide H1).mono ?_
    rintro e w1 ⟨v1, rfl, ho1, hb1⟩
    obtain ⟨d1, d8⟩ := unhide HC w1 hb1
    have H2' := hide (unhide H2 w1 hb1)
    obtain ⟨a1, c1, hv1, _, _⟩ := ho1.shape
    have HO1 := hide ho1
    have HB1 := hide hb1
    clear ho1 hb1
    subst hv1
    go_wp2_with fail
    refine (unhide H2').mono ?_
    rintro e w2 ⟨v2, rfl, ho2, hb2⟩
    obtain ⟨a2, c2, hv2, hB2, _⟩ := ho2.shape
    have hf2 : ∀ b off, a2 = some ⟨b, off, none⟩ → w1.heap.size ≤ b := fun b off e => (line_of_own ho2).2 b (by rw [hv2, e]; rfl)
    have HE := hide (texts_join (c2 := c2) (unhide HB0) (unhide HO1) (unhide HB1) hB2 hf2 hb2 (unhide hsm) (unhide hlen))
    clear ho2 hb2 hB2 hf2
    subst hv2
    go_wp2
    go_ret2
    exact unhide HE
end Go.Proofs.YtochdajeocganabDoor
