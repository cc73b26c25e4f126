/- WordPlace: the law and the row. -/
import Derived.Test.YtochdajeocganaaUnpacks
import Derived.Test.YtochdajeocganaaScript
namespace Go.Proofs.Ytochdajeocganaa.WordPlace
open Go.ChangeShapes Go.WideShapes Go.ChangeAt Go.RowKit
set_option linter.unusedVariables false
set_option maxRecDepth 100000
set_option maxHeartbeats 4000000

/-- what is known of a call: its number, its lists -/
def Known (w : World) (_ A _ _ _ _ : Int) (_ : Nat) (aT : Option Addr) (nT cT : Nat) (aW : Option Addr) (nW cW : Nat) : Prop :=
  (-9223372036854775808 ≤ A ∧ A ≤ 9223372036854775807) ∧ (∃ l : List Nat, nT = l.length ∧ Bytes w aT l ∧ Small l ∧ (aT = none → cT = 0) ∧ l.length ≤ 140737488351232) ∧
  ∃ l : List Nat, nW = l.length ∧ Words w aW l ∧ WSmall l ∧ (aW = none → cW = 0) ∧ 8 * l.length ≤ 140737488351232
theorem known_below {w w' : World} {K A B C N M : Int} {x : Nat} {aT : Option Addr} {nT cT : Nat} {aW : Option Addr} {nW cW : Nat} (hb : Below w.heap.size w w') (h : Known w K A B C N M x aT nT cT aW nW cW) : Known w' K A B C N M x aT nT cT aW nW cW := by
  obtain ⟨hA, ⟨l, h1, h2, h3, h4, h5⟩, ⟨m, k1, k2, k3, k4, k5⟩⟩ := h
  exact ⟨hA, ⟨l, h1, h2.below hb, h3, h4, h5⟩, ⟨m, k1, k2.below hb, k3, k4, k5⟩⟩

theorem o_at {wr wx : World} {v0 v1 v2 v3 v4 v5 v6 v7 v8 : Value} {t : TypeId} (hb : Below (wr.alloc (.cells #[v0, v1, v2, v3, v4, v5, v6, v7, v8] t)).heap.size (wr.alloc (.cells #[v0, v1, v2, v3, v4, v5, v6, v7, v8] t)) wx) :
    wx.cell? ⟨wr.heap.size, 0, none⟩ = some v0 ∧ wx.cell? ⟨wr.heap.size, 1, none⟩ = some v1 ∧ wx.cell? ⟨wr.heap.size, 2, none⟩ = some v2 ∧ wx.cell? ⟨wr.heap.size, 3, none⟩ = some v3 ∧ wx.cell? ⟨wr.heap.size, 4, none⟩ = some v4 ∧
    wx.cell? ⟨wr.heap.size, 5, none⟩ = some v5 ∧ wx.cell? ⟨wr.heap.size, 6, none⟩ = some v6 ∧ wx.cell? ⟨wr.heap.size, 7, none⟩ = some v7 ∧ wx.cell? ⟨wr.heap.size, 8, none⟩ = some v8 :=
  ⟨pfield hb 0, pfield hb 1, pfield hb 2, pfield hb 3, pfield hb 4, pfield hb 5, pfield hb 6, pfield hb 7, pfield hb 8⟩

theorem Lent.caps {w : World} {base g cap : Nat} {l : List Nat} (h : Lent w base g cap l) : (l.length ≤ cap ∧ cap ≤ 9223372036854775807) ∧ base ≤ g ∧ g < w.heap.size := by
  have h' := h
  unfold Lent OwnB World.ownsRow at h'
  have hm := h.marks.1
  rcases h'.2 with ⟨e, _⟩ | ⟨g', cap', cur, e, hbb, hg, _, hcm, _⟩
  · cases e
  · cases e
    have : maxLen = 9223372036854775807 := rfl
    exact ⟨⟨by omega, by omega⟩, hbb, (Array.getElem?_eq_some_iff.1 hg).1⟩

theorem into_two (g c base : Nat) (a : Option Addr) (cap n : Nat) (w : World) (l m : List Nat) (hln : l.length = n) (hm : m.length = n) (hl : n ≤ 140737488351232) (hL : Lent w base g c l) (hB : Bytes w a m) (hbg : 0 < n → ∀ b off, a = some ⟨b, off, none⟩ → b ≠ g) :
    Calls Try.prog 25 #[.slice (some ⟨g, 0, none⟩) n c, .slice a n cap] w fun e w' => e = .returned (.tuple #[]) ∧ Lent w' base g c m ∧ Only g w w' := by
  subst hln
  by_cases h0 : l.length = 0
  · obtain rfl := List.eq_nil_of_length_eq_zero h0
    obtain rfl := List.eq_nil_of_length_eq_zero hm
    refine (into_none _ c _ w).mono ?_
    rintro e w' ⟨he, rfl⟩
    exact ⟨he, hL, Only.refl _ _⟩
  · exact into_both g c base a cap w l m hm hl hL hB (hbg (by omega))

theorem Only.bytes' {g : Nat} {w w' : World} {a : Option Addr} {l : List Nat} (h : Only g w w') (hbg : 0 < l.length → ∀ b off, a = some ⟨b, off, none⟩ → b ≠ g) (hB : Bytes w a l) : Bytes w' a l := by
  rcases hB with h0 | ⟨b, off, rfl, hb, hc⟩
  · exact .inl h0
  · by_cases hp : 0 < l.length
    · exact h.bytes (hbg hp b off rfl) (.inr ⟨b, off, rfl, hb, hc⟩)
    · exact .inl (List.eq_nil_of_length_eq_zero (by omega))
theorem Only.words' {g : Nat} {w w' : World} {a : Option Addr} {l : List Nat} (h : Only g w w') (hbg : 0 < l.length → ∀ b off, a = some ⟨b, off, none⟩ → b ≠ g) (hB : Words w a l) : Words w' a l := by
  rcases hB with h0 | ⟨b, off, rfl, hb, hc⟩
  · exact .inl h0
  · by_cases hp : 0 < l.length
    · exact .inr ⟨b, off, rfl, by rw [h.size]; exact hb, fun i hi => (h.cell (p := ⟨b, off + i, none⟩) (hbg hp b off rfl)).trans (hc i hi)⟩
    · exact .inl (List.eq_nil_of_length_eq_zero (by omega))
theorem old_block {w : World} {a : Option Addr} {l : List Nat} {g : Nat} (hB : Bytes w a l) (hg : w.heap.size ≤ g) : 0 < l.length → ∀ b off, a = some ⟨b, off, none⟩ → b ≠ g := by
  intro hp b off e
  rcases hB with h0 | ⟨b', off', e', hb, _⟩
  · rw [h0] at hp; simp at hp
  · rw [e] at e'; cases e'; omega
theorem old_words {w : World} {a : Option Addr} {l : List Nat} {g : Nat} (hB : Words w a l) (hg : w.heap.size ≤ g) : 0 < l.length → ∀ b off, a = some ⟨b, off, none⟩ → b ≠ g := by
  intro hp b off e
  rcases hB with h0 | ⟨b', off', e', hb, _⟩
  · rw [h0] at hp; simp at hp
  · rw [e] at e'; cases e'; omega
theorem new_block {w : World} {base g n cap : Nat} {a : Option Addr} {l : List Nat} (h : OwnB w base (.slice a n cap) l) (hg : g < base) : ∀ b off, a = some ⟨b, off, none⟩ → b ≠ g := by
  intro b off e
  rcases h.2 with ⟨e', _⟩ | ⟨g', cap', cur, e', hbb, _⟩
  · rw [e] at e'; cases e'
  · rw [e] at e'; cases e'; omega
theorem new_words {w : World} {base g n cap : Nat} {a : Option Addr} {l : List Nat} (h : OwnW w base (.slice a n cap) l) (hg : g < base) : ∀ b off, a = some ⟨b, off, none⟩ → b ≠ g := by
  intro b off e
  rcases h.2 with ⟨e', _⟩ | ⟨g', cap', cur, e', hbb, _⟩
  · rw [e] at e'; cases e'
  · rw [e] at e'; cases e'; omega

theorem law_some (b off cap n : Nat) (w : World) (hn : n ≤ 140737488355328) (hb : b < w.heap.size)
    (hE : ∀ k, k < n → ∃ (K A B C N M : Int) (x : Nat) (aT : Option Addr) (nT cT : Nat) (aW : Option Addr) (nW cW : Nat), x < 18446744073709551616 ∧ OpAt w b (off + k * 9) K A B C N M x aT nT cT aW nW cW ∧ Known w K A B C N M x aT nT cT aW nW cW) :
    Calls Try.prog 7 #[.slice (some ⟨b, off, none⟩) n cap] w fun e w' => e = .returned (.bool true) ∧ Below w.heap.size w w' := by
  have HE := hide hE
  clear hE
  go_enter Try.func7, Try.ntmps7
  go_wp2_with fail
  go_loopw [3] (fun i wr => ∃ k : Nat, k ≤ n ∧ i = .int .i64 k ∧ Below w.heap.size w wr) (fun i _ => n - (intOf i).toNat)
  case atStart => exact ⟨0, by omega, rfl, Below.refl _ _⟩
  case round =>
    obtain ⟨k, hk, rfl, hbl⟩ := hrel
    by_cases hlt : k < n ∧ k < 400
    · obtain ⟨hkn, hk4⟩ := hlt
      obtain ⟨K, A, B, C, N, M, x, aT, nT, cT, aW, nW, cW, hx, hop, hg⟩ := unhide HE k hkn
      obtain ⟨c0, c1, c2, c3, c4, c5, c6, c7, c8⟩ := hop.below hb hbl
      obtain ⟨⟨hA1, hA2⟩, ⟨l, rfl, hBT, hsT, hnilT, hlT⟩, ⟨lw, rfl, hWW, hsW, hnilW, hlW⟩⟩ := known_below hbl hg
      obtain ⟨w0, hw0⟩ : ∃ w0, w0 = wr.alloc (.cells #[.int .i64 K, .int .i64 A, .int .i64 B, .int .i64 C, .int .i64 N, .int .i64 M, .int .u64 x, .slice aT l.length cT, .slice aW lw.length cW] 54) := ⟨_, rfl⟩
      have hb00 : Below wr.heap.size wr w0 := by rw [hw0]; exact (Below.refl _ _).alloc (Nat.le_refl _) _
      have hsz0 : wr.heap.size < w0.heap.size := by rw [hw0]; simp
      have HO : Hid (∀ wx, Below w0.heap.size w0 wx → wx.cell? ⟨wr.heap.size, 0, none⟩ = some (.int .i64 K) ∧ wx.cell? ⟨wr.heap.size, 1, none⟩ = some (.int .i64 A) ∧ wx.cell? ⟨wr.heap.size, 2, none⟩ = some (.int .i64 B) ∧ wx.cell? ⟨wr.heap.size, 3, none⟩ = some (.int .i64 C) ∧ wx.cell? ⟨wr.heap.size, 4, none⟩ = some (.int .i64 N) ∧
        wx.cell? ⟨wr.heap.size, 5, none⟩ = some (.int .i64 M) ∧ wx.cell? ⟨wr.heap.size, 6, none⟩ = some (.int .u64 x) ∧ wx.cell? ⟨wr.heap.size, 7, none⟩ = some (.slice aT l.length cT) ∧ wx.cell? ⟨wr.heap.size, 8, none⟩ = some (.slice aW lw.length cW)) := hide (by rw [hw0]; exact fun wx h => o_at h)
      have HBT := hide (hBT.below hb00)
      have HWW := hide (hWW.below hb00)
      have HBT0 := hide hBT
      have HSB := hide hsT
      have HSW := hide hsW
      have HZ := hide (pchain hbl hb00 hbl.size)
      have HW0 := hide hw0
      clear hop hg hBT hWW hsT hsW hw0 hbl hb00
      go_wp2_with fail
      rw [← unhide HW0]
      refine (lend_any aT cT w0 l hlT (unhide HBT) hnilT).mono ?_
      rintro e w1 ⟨g, c, rfl, hL1, hb1⟩
      obtain ⟨hcap, hbg, hg1⟩ := Lent.caps hL1
      obtain ⟨o0, o1, o2, o3, o4, o5, o6, o7, o8⟩ := unhide HO w1 hb1
      clear c0 c1 c2 c3 c4 c5 c6 c7 c8
      go_wp2_with fail
      refine (other_any aT cT w1 l hlT ((unhide HBT).below hb1) (unhide HSB)).mono ?_
      rintro e w2 ⟨v2, m, rfl, hown2, hml, hms, hb2⟩
      obtain ⟨a2, cc2, hv2, hB2, -⟩ := hown2.shape
      have hne2 : ∀ b off, a2 = some ⟨b, off, none⟩ → b ≠ g := by rw [hv2] at hown2; exact new_block hown2 hg1
      rw [hml] at hv2
      subst hv2
      have hb02 := pchain hb1 hb2 hb1.size
      have HMS := hide hms
      clear hown2 hms o0 o1 o2 o3 o4 o5 o6 o7 o8
      obtain ⟨o0, o1, o2, o3, o4, o5, o6, o7, o8⟩ := unhide HO w2 hb02
      have hL2 := hL1.below hb2
      have hg2 : g < w2.heap.size := Nat.lt_of_lt_of_le hg1 hb2.size
      go_wp2_with fail
      refine (pack_any (some ⟨g, 0, none⟩) c w2 l (by omega) hL2.bytes (unhide HSB)).mono ?_
      rintro e w3 ⟨v3, rfl, hown3, hb3⟩
      obtain ⟨a3, cc3, hv3, hW3⟩ := hown3.shape
      have hne3 : ∀ b off, a3 = some ⟨b, off, none⟩ → b ≠ g := by rw [hv3] at hown3; exact new_words hown3 hg2
      subst hv3
      have hb03 := pchain hb02 hb3 hb02.size
      have hL3 := hL2.below hb3
      have hB3 := hB2.below hb3
      clear hown3 o0 o1 o2 o3 o4 o5 o6 o7 o8 hL1 hL2 hB2
      obtain ⟨o0, o1, o2, o3, o4, o5, o6, o7, o8⟩ := unhide HO w3 hb03
      have P3 := hide (places_any A B C N M K x hx (.slice aT l.length cT) (.slice aW lw.length cW) (some ⟨g, 0, none⟩) aT c cT w3 l hlT (unhide HSB) hL3.bytes ((unhide HBT).below hb03) hcap)
      go_wp2_with fail
      refine (unhide P3).mono ?_
      rintro e w4 ⟨rfl, hb4⟩
      have hb04 := pchain hb03 hb4 hb03.size
      have hL4 := hL3.below hb4
      have hB4 := hB3.below hb4
      have hW4 := hW3.below hb4
      clear o0 o1 o2 o3 o4 o5 o6 o7 o8 hL3 hB3 hW3 P3
      have I4 := hide (into_two g c w0.heap.size a2 cc2 l.length w4 l m rfl hml hlT hL4 hB4 (fun _ => hne2))
      go_wp2_with fail
      refine (unhide I4).mono ?_
      rintro e w5 ⟨rfl, hL5, ho5⟩
      have hb05 := ho5.below hb04 hbg
      have hB5 := Only.bytes' ho5 (fun _ => hne2) hB4
      have hW5 := Only.words' ho5 (fun _ => hne3) hW4
      clear hL4 hB4 hW4 I4
      obtain ⟨o0, o1, o2, o3, o4, o5, o6, o7, o8⟩ := unhide HO w5 hb05
      have P5 : Hid (Calls Try.prog 24 #[.agg #[.int .i64 K, .int .i64 A, .int .i64 B, .int .i64 C, .int .i64 N, .int .i64 M, .int .u64 x, .slice aT l.length cT, .slice aW lw.length cW], .slice (some ⟨g, 0, none⟩) l.length c, .slice a2 l.length cc2] w5 fun e w' => e = .returned (.bool true) ∧ Below w5.heap.size w5 w') := hide (by
        have h := places_any A B C N M K x hx (.slice aT l.length cT) (.slice aW lw.length cW) (some ⟨g, 0, none⟩) a2 c cc2 w5 m (by omega) (unhide HMS) hL5.bytes hB5 (by rw [hml]; exact hcap)
        rw [hml] at h; exact h)
      have HPL : Hid ((Larder.packL l).length ≤ 140737488355328) := hide (by rw [Larder.packL_length]; unfold Larder.wn; omega)
      go_wp2_with fail
      refine (unhide P5).mono ?_
      rintro e w6 ⟨rfl, hb6⟩
      have hb06 := pchain hb05 hb6 hb05.size
      have hL6 := hL5.below hb6
      have hW6 := hW5.below hb6
      clear o0 o1 o2 o3 o4 o5 o6 o7 o8 P5 hL5 hB5 hW5
      obtain ⟨o0, o1, o2, o3, o4, o5, o6, o7, o8⟩ := unhide HO w6 hb06
      go_wp2_with fail
      refine (rpack_any aT cT w6 l (by omega) ((unhide HBT).below hb06) (unhide HSB)).mono ?_
      rintro e w7 ⟨v7, rfl, hown7, hb7⟩
      obtain ⟨a7, cc7, hv7, hW7⟩ := hown7.shape
      subst hv7
      have hb07 := pchain hb06 hb7 hb06.size
      have hW67 := hW6.below hb7
      clear hown7
      go_wp2_with fail
      refine (samew_yes a3 a7 cc3 cc7 w7 (Larder.packL l) (unhide HPL) hW67 hW7).mono ?_
      rintro e w8 ⟨rfl, hb8⟩
      have hb08 := pchain hb07 hb8 hb07.size
      have hL8 := (hL6.below hb7).below hb8
      clear o0 o1 o2 o3 o4 o5 o6 o7 o8 hL6 hW6 hW67 hW7
      obtain ⟨o0, o1, o2, o3, o4, o5, o6, o7, o8⟩ := unhide HO w8 hb08
      have I8 := hide (into_two g c w0.heap.size aT cT l.length w8 m l hml rfl hlT hL8 ((unhide HBT).below hb08) (old_block (unhide HBT0) (by omega)))
      go_wp2_with fail
      refine (unhide I8).mono ?_
      rintro e w9 ⟨rfl, hL9, ho9⟩
      have hb09 := ho9.below hb08 hbg
      clear o0 o1 o2 o3 o4 o5 o6 o7 o8 hL8 I8
      obtain ⟨o0, o1, o2, o3, o4, o5, o6, o7, o8⟩ := unhide HO w9 hb09
      have P9 := hide (places_any A B C N M K x hx (.slice aT l.length cT) (.slice aW lw.length cW) (some ⟨g, 0, none⟩) aT c cT w9 l hlT (unhide HSB) hL9.bytes ((unhide HBT).below hb09) hcap)
      go_wp2_with fail
      refine (unhide P9).mono ?_
      rintro e w10 ⟨rfl, hb10⟩
      have hb010 := pchain hb09 hb10 hb09.size
      have HZ10 := hide (pchain (unhide HZ) hb010 (unhide HZ).size)
      clear o0 o1 o2 o3 o4 o5 o6 o7 o8 hL9 P9
      obtain ⟨o0, o1, o2, o3, o4, o5, o6, o7, o8⟩ := unhide HO w10 hb010
      by_cases hK5 : K = 5
      · subst hK5
        have U10 := hide (unpacks_any 5 A B C N M hA1 hA2 x (.slice aT l.length cT) aW cW w10 lw hlW ((unhide HWW).below hb010) (unhide HSW) hnilW)
        go_wp2_with fail
        refine (unhide U10).mono ?_
        rintro e w11 ⟨rfl, hb11⟩
        go_wp2
        go_roundw
        case rel => exact ⟨k + 1, by omega, by go_num, pchain (unhide HZ10) hb11 (unhide HZ10).size⟩
        case measure => simp [intOf]; omega
      · have e5 : (K == 5) = false := by rw [beq_eq_false_iff_ne]; exact hK5
        go_wp2
        go_roundw
        case rel => exact ⟨k + 1, by omega, by go_num, unhide HZ10⟩
        case measure => simp [intOf]; omega
    · by_cases hkn : k < n
      · have f1 : decide ((k : Int) < (n : Int)) = true := decide_eq_true (by omega)
        have f2 : decide ((k : Int) < 400) = false := decide_eq_false (by omega)
        go_wp2
        go_ret
        exact ⟨rfl, hbl⟩
      · have f1 : decide ((k : Int) < (n : Int)) = false := decide_eq_false (by omega)
        go_wp2
        go_ret
        exact ⟨rfl, hbl⟩

theorem law_none (a : Option Addr) (cap : Nat) (w : World) :
    Calls Try.prog 7 #[.slice a 0 cap] w fun e w' => e = .returned (.bool true) ∧ Below w.heap.size w w' := by
  go_enter Try.func7, Try.ntmps7
  go_wp2_with fail
  go_loopw [3] (fun i wr => i = .int .i64 0 ∧ wr = w) (fun _ _ => 0)
  case atStart => exact ⟨rfl, rfl⟩
  case round =>
    obtain ⟨rfl, rfl⟩ := hrel
    go_wp2
    go_ret
    exact ⟨rfl, Below.refl _ _⟩

theorem law (a : Option Addr) (n cap : Nat) (W : World) (hn : n ≤ 140737488355328)
    (h : n = 0 ∨ ∃ b off, a = some ⟨b, off, none⟩ ∧ b < W.heap.size ∧
        ∀ k, k < n → ∃ (K A B C N M : Int) (x : Nat) (aT : Option Addr) (nT cT : Nat) (aW : Option Addr) (nW cW : Nat), x < 18446744073709551616 ∧ OpAt W b (off + k * 9) K A B C N M x aT nT cT aW nW cW ∧ Known W K A B C N M x aT nT cT aW nW cW) :
    Calls Try.prog 7 #[.slice a n cap] W fun e w' => e = .returned (.bool true) ∧ Below W.heap.size W w' := by
  rcases h with rfl | ⟨b, off, rfl, hb, hE⟩
  · exact law_none a cap W
  · exact law_some b off cap n W hn hb hE

theorem lifted (os : Os) (started : os.Started) (H : Type) (enc : TypeId × Value → H) :
    ReturnsInHanded {} Try.checked os 7 .any (Rows.wordPlaceSpec.pre6 enc Try.prog Try.f7 Rows.wordPlaceRow.domain false) (Rows.wordPlaceSpec.post enc Try.prog Try.f7 false true false false) := by
  refine returnsInHanded_of_change_sized (C := Try.checked) own started (by kernel_rfl) Try.func7
    (ChangeSpec.witness6 (enc := enc) (C := Try.checked) false ⟨#[], #[.slice none 0 0], []⟩ 8 (by kernel_rfl) (by kernel_rfl) (by kernel_rfl) (by kernel_rfl)) ?_
  intro W base args ds gs before hval0 hW hcnd hsz0 _
  have hval : ∀ (j : Nat) t v, Try.f7.params[j]? = some t → args[j]? = some v → Value.okWide Try.prog W .any base t v := hval0
  have hsz : (DataW.weightsEach Try.prog (Try.f7.params.toList ++ Rows.wordPlaceSpec.plain.varTypes Try.prog) (ds ++ gs)).all (· ≤ reachBytes) = true := hsz0
  have hW' := hW
  obtain ⟨p, q, hA0, hV, rfl, hfz, hnd⟩ := hW
  have hA : DataW.TrodAll enc Try.prog W 0 (fun _ => true) true Try.f7.params.toList args.toList ds p := hA0
  rw [Try.params7] at hA hval hsz
  obtain ⟨v0, vs0, d0, ds0, p0, q0, hargs, rfl, rfl, h0, r0⟩ := trodAll_cons hA
  obtain ⟨rfl, rfl, rfl⟩ := trodAll_nil r0
  obtain rfl : args = #[v0] := by cases args; simp_all
  obtain ⟨rfl, rfl⟩ := trodVars_none hV
  have k0 := h0
  have lt0 : ∀ x ∈ p0, x.block < W.heap.size := by obtain ⟨m, hm⟩ := k0; exact DataW.trod_lt m _ _ _ hm
  obtain ⟨a0, len0, cap0, rfl⟩ := okWide_slice Try.underlying52 (hval 0 52 v0 rfl rfl)
  obtain ⟨fuel, hf⟩ := h0
  obtain ⟨a, n, cap, hv, hlen, hE⟩ := open_script Known (fun K A B C N M x c7 c8 y7 y8 q hA hN hM h7 h8 g7 g8 => by
    obtain ⟨aT, cT, l, e7, hB, hnil, hs, hlen⟩ := open_bytes h7
    obtain ⟨aW, cW, m, e8, hW, hwnil, hws, hwlen⟩ := open_words h8
    exact ⟨aT, l.length, cT, aW, m.length, cW, e7, e8, bounds_i64 hA, ⟨l, rfl, hB, hs, hnil, bytes_sized hlen (fun m hm => held_sized hsz (g7 m hm))⟩, ⟨m, rfl, hW, hws, hwnil, words_sized hwlen (fun m hm => held_sized hsz (g8 m hm))⟩⟩) hf
  cases hv
  have hn : len0 ≤ 140737488355328 := by
    rcases hlen with rfl | ⟨el, sp, he, hl⟩
    · exact Nat.zero_le _
    · have hd : d0 = .slice el sp := he
      subst hd
      have := sized_slice hsz (j := 0) (t := 52) (e := 54) rfl rfl Try.underlying52
      rw [Try.bytes54] at this
      simp only [reachBytes] at this
      omega
  clear hA0 hval0 hsz0
  refine (law a0 len0 cap0 W hn hE).mono fun e W' ⟨he, bel⟩ => ?_
  subst he
  exact ⟨_, rfl, _, _, _, [], _, [], hW', trodAll_mk1 (shut_bool Try.underlying4 _), (trodAll_cons_mk (Below.trod laidOut (by kernel_rfl) (of_decide_eq_true (by kernel_rfl)) k0 bel lt0) trodAll_mk0), rfl, bel.frame _, fun h => by cases h⟩

theorem over : Rows.wordPlaceRow.holds Try.pinned (OpenSpec.ofChange Rows.wordPlaceSpec) :=
  OpenClaim.holds_of_wide 7 Try.f7 rfl rfl rfl rfl rfl rfl rfl ⟨rfl, rfl, rfl, rfl, rfl⟩ rfl rfl rfl rfl rfl (by kernel_rfl) Try.func7 (by kernel_rfl)
    (of_decide_eq_true (by kernel_rfl)) (by unfold Func.isWrapper; first | (rw [if_pos (by decide +kernel)]; kernel_rfl) | (rw [if_neg (by decide +kernel)]; exact ⟨rfl, rfl⟩))
    (fun os started H enc _ => lifted os started H enc)
end Go.Proofs.Ytochdajeocganaa.WordPlace
namespace Go.Proofs.Ytochdajeocganaa
theorem wordPlace_holds : Rows.WordPlaceSaid := WordPlace.over
end Go.Proofs.Ytochdajeocganaa
