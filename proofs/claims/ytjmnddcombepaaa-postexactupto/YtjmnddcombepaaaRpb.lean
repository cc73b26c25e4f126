/- classAt. -/
import Derived.Test.YtjmnddcombepaaaRpa
namespace Larder
/-- a member: how it is read -/
theorem mem_cases (p : List Nat) (hs : ∀ i, p.getD i 0 < 256) (k : Nat) (hk : k < p.length) : ∃ n1 xa, byteAt p k = (xa, k + n1) ∧ 1 ≤ n1 ∧ k + n1 ≤ p.length ∧ xa < 256 ∧
    ((k + n1 + 1 < p.length ∧ p.getD (k + n1) 0 = 45 ∧ p.getD (k + n1 + 1) 0 ≠ 93 ∧ ∃ m xc, byteAt p (k + n1 + 1) = (xc, k + n1 + 1 + m) ∧ 1 ≤ m ∧ k + n1 + 1 + m ≤ p.length ∧ xc < 256 ∧ memAt p k = (xa, xc, k + n1 + 1 + m)) ∨
     (¬ (k + n1 + 1 < p.length ∧ p.getD (k + n1) 0 = 45 ∧ p.getD (k + n1 + 1) 0 ≠ 93) ∧ memAt p k = (xa, xa, k + n1))) := by
  have h1 := byteAt_prog p k hk
  have h2 := byteAt_small p k hs
  obtain ⟨n1, hn1⟩ : ∃ n1, (byteAt p k).2 = k + n1 := ⟨(byteAt p k).2 - k, by omega⟩
  refine ⟨n1, (byteAt p k).1, by rw [← hn1], by omega, by omega, h2, ?_⟩
  by_cases hc : k + n1 + 1 < p.length ∧ p.getD (k + n1) 0 = 45 ∧ p.getD (k + n1 + 1) 0 ≠ 93
  · have h3 := byteAt_prog p (k + n1 + 1) hc.1
    have h4 := byteAt_small p (k + n1 + 1) hs
    obtain ⟨m, hm⟩ : ∃ m, (byteAt p (k + n1 + 1)).2 = k + n1 + 1 + m := ⟨(byteAt p (k + n1 + 1)).2 - (k + n1 + 1), by omega⟩
    refine .inl ⟨hc.1, hc.2.1, hc.2.2, m, (byteAt p (k + n1 + 1)).1, by rw [← hm], by omega, by omega, h4, ?_⟩
    unfold memAt
    rw [hn1, if_pos hc, hm]
  · refine .inr ⟨hc, ?_⟩
    unfold memAt
    rw [hn1, if_neg hc]
end Larder
namespace Go.Proofs.Ytjmnddcombepaaa
open Go.ChangeShapes Go.WideShapes Go.ChangeAt Go.RowKit
set_option linter.unusedVariables false
set_option maxRecDepth 20000
set_option maxHeartbeats 2000000

/-- the class's own two blocks: the answer's, and the piece under way -/
def Cs (w W : World) (C : Array Value) : Prop := W.heap[w.heap.size]? = some (.cells zp 128 (0, 0)) ∧ W.heap[w.heap.size + 1]? = some (.cells C 128 (0, 0)) ∧ W.heap.size = w.heap.size + 2 ∧ Below w.heap.size w W
theorem Cs.set {w W : World} {C : Array Value} (h : Cs w W C) (k : Nat) (u : Value) : Cs w (W.setCell ⟨w.heap.size + 1, k, none⟩ u) (C.setIfInBounds k u) := by
  have t := setCell_turn W (w.heap.size + 1) k u
  exact ⟨by rw [t.other _ (by omega)]; exact h.1, setCell_row W _ k u C 128 _ h.2.1, by rw [t.size]; exact h.2.2.1, t.below h.2.2.2 (by omega)⟩
theorem Cs.at {w W : World} {C : Array Value} {s : Bool} {f : Nat → Bool} (h : Cs w W C) (hp : IsP C s f) (k : Nat) (hk : k < 256) : W.cell? ⟨w.heap.size + 1, 1 + k, none⟩ = some (.bool (f k)) ∧ W.frozen? ⟨w.heap.size + 1, 1 + k, none⟩ = false := by
  refine ⟨by rw [cell_of_row _ _ _ _ _ _ h.2.1]; exact hp.fits k hk, ?_⟩
  simp only [World.frozen?, h.2.1]
  simp
theorem Cs.start {w w1 w2 w3 : World} (h1 : w1.heap[w.heap.size]? = some (.cells zp 128 (0, 0)) ∧ w1.heap.size = w.heap.size + 1 ∧ Below w.heap.size w w1) (h2 : w2.heap[w.heap.size + 1]? = some (.cells zp 128 (0, 0)) ∧ w2.heap.size = w.heap.size + 1 + 1 ∧ Below (w.heap.size + 1) w1 w2) (h3 : w3.heap[w.heap.size + 1]? = some (.cells zp 128 (0, 0)) ∧ Turn (w.heap.size + 1) w2 w3) : Cs w w3 zp :=
  ⟨by rw [h3.2.other _ (by omega), h2.2.2.block _ (by omega)]; exact h1.1, h3.1, by rw [h3.2.size, h2.2.1], h3.2.below (h1.2.2.trans (h2.2.2.mono (by omega))) (by omega)⟩
theorem getD_small {p : List Nat} (h : Small p) : ∀ i, p.getD i 0 < 256 := fun j => by
  by_cases hj : j < p.length
  · exact h j hj
  · rw [List.getD_eq_getElem?_getD, List.getElem?_eq_none (by omega)]; decide
theorem ret_piece {C : Array Value} {a b : Int} (h : a = b) : Ending.returned (.tuple #[.agg C, .int .i64 a]) = .returned (.tuple #[.agg C, .int .i64 b]) := by rw [h]

theorem Bytes.at_below {w W : World} {b off : Nat} {p : List Nat} (hb : b < w.heap.size) (hc : ∀ i, i < p.length → w.cell? ⟨b, off + i, none⟩ = some (.int .u8 (p.getD i 0 : Nat))) (h : Below w.heap.size w W) : Bytes W (some ⟨b, off, none⟩) p :=
  .inr ⟨b, off, rfl, Nat.lt_of_lt_of_le hb h.size, fun i hi => (h.cell (p := ⟨b, off + i, none⟩) hb).trans (hc i hi)⟩
theorem rclass_in (b off : Nat) (cap : Nat) (w : World) (p : List Nat) (i : Nat) (hl : p.length ≤ 1073741824) (hs : Small p) (hb : b < w.heap.size) (hc : ∀ i, i < p.length → w.cell? ⟨b, off + i, none⟩ = some (.int .u8 (p.getD i 0 : Nat))) (hi : i < p.length) (hc2 : ¬ (i + 1 < p.length ∧ p.getD (i + 1) 0 = 94)) :
    Calls Try.prog 89 #[.slice (some ⟨b, off, none⟩) p.length cap, .int .i64 (i : Nat)] w fun e w' => ∃ C, e = .returned (.tuple #[.agg C, .int .i64 (((Larder.memsK p p.length (i + 1) (fun _ => false)).2 + 1 : Nat) : Nat)]) ∧ IsP C false (Larder.memsK p p.length (i + 1) (fun _ => false)).1 ∧ Below w.heap.size w w' := by
  generalize hR0 : Larder.memsK p p.length (i + 1) (fun _ => false) = R
  have HR := hide hR0
  clear hR0
  have HP := hide hc
  have HS := hide hs
  have BY : Hid (∀ W, Below w.heap.size w W → Bytes W (some ⟨b, off, none⟩) p) := hide (fun W h => Bytes.at_below hb hc h)
  by_cases hc3 : i + 1 < p.length
  · have c94 := hc (i + 1) hc3
    have l1 : decide ((i : Int) + 1 < (p.length : Int)) = true := decide_eq_true (by omega)
    have n94 : p.getD (i + 1) 0 ≠ 94 := fun h => hc2 ⟨hc3, h⟩
    generalize p.getD (i + 1) 0 = x9 at c94 n94
    have d94 : ((x9 : Int) == 94) = false := by rw [beq_eq_false_iff_ne]; omega
    clear hc hs hc2 n94
    go_enter Try.func89, Try.ntmps89
    go_wp2_with (first
      | (refine wpList_alloc91 rfl rfl w.heap.size rfl ?_; intro w1 k1)
      | (refine wpList_buildTo rfl 128 _ rfl (some 15) rfl zp (by as_aux_lemma => kernel_rfl) ?_)
      | (refine wpList_alloc91 rfl rfl (w.heap.size + 1) (unhide k1).2.1 ?_; intro w2 k2)
      | (refine wpList_store91 rfl _ _ rfl rfl (w.heap.size + 1) zp rfl rfl zp (unhide k2).1 zp_size zp_size IsP.zero.one ?_; intro w3 k3; have s0 := hide (Cs.start (unhide k1) (unhide k2) (unhide k3)); have x1 := ((unhide s0).2.2.2.cell (p := ⟨b, off + (i + 1), none⟩) hb).trans c94))
    go_loopw [1, 8, 9, 10, 11, 12, 13] (fun jv _ _ _ _ _ _ wr => ∃ (k n : Nat) (C : Array Value) (S : Nat → Bool), k ≤ p.length ∧ p.length - k ≤ n ∧ Larder.memsK p n k S = R ∧ jv = .int .i64 (k : Nat) ∧ Hid (Cs w wr C ∧ IsP C false S)) (fun jv _ _ _ _ _ _ _ => p.length - (intOf jv).toNat)
    case atStart => exact ⟨i + 1, p.length, zp, _, by omega, by omega, unhide HR, by simp, hide ⟨unhide s0, IsP.zero⟩⟩
    case round =>
      rename World => wo
      obtain ⟨k, n, C, S, hk, hn, hM, rfl, HC⟩ := hrel
      have HB := hide (unhide HC).1.2.2.2
      by_cases hlt : k < p.length
      · have c0 := ((unhide HB).cell (p := ⟨b, off + k, none⟩) hb).trans (unhide HP k hlt)
        have dk : decide ((k : Int) < (p.length : Int)) = true := decide_eq_true (by omega)
        by_cases h93 : p.getD k 0 = 93
        · rw [Larder.memsK_done p n k S (fun h => h.2 h93)] at hM
          rw [h93] at c0
          subst hM
          clear hk hn
          go_wp2_with (first
            | (refine wpList_load91 rfl _ rfl (w.heap.size + 1) rfl C (unhide HC).1.2.1 (unhide HC).2.size ?_)
            | (refine wpList_store91 rfl _ _ rfl rfl w.heap.size C rfl rfl zp (unhide HC).1.1 (unhide HC).2.size zp_size (unhide HC).2.one ?_; intro w6 k6))
          all_goals refine bodyPost_ret (results_cell_tmp (p := 4) (q := 5) (ty := 128) rfl _ _ w.heap.size 128 C (0, 0) _ rfl (unhide k6).1 Try.underlying128 rfl (size91 (unhide HC).2.size) _ rfl) rfl ?_
          all_goals exact ⟨C, ret_piece (by simp), (unhide HC).2, (unhide k6).2.below (unhide HB) (Nat.le_refl _)⟩
        · obtain ⟨n1, xa, hb1, hn1, hk1, hxa, hcase⟩ := Larder.mem_cases p (getD_small (unhide HS)) k hlt
          have B1 : Hid (Calls Try.prog 90 #[.slice (some ⟨b, off, none⟩) p.length cap, .int .i64 (k : Nat)] wo fun e w' => e = .returned (.tuple #[.int .i64 (xa : Nat), .int .i64 (n1 : Nat)]) ∧ w' = wo) := hide (by
            have h := rbyteAt_any (some ⟨b, off, none⟩) cap wo p k (by omega) (unhide HS) (unhide BY _ (unhide HB)) hlt
            rw [hb1] at h
            simpa using h)
          obtain ⟨n, rfl⟩ : ∃ m, n = m + 1 := ⟨n - 1, by omega⟩
          rw [Larder.memsK_step p n k S hlt h93] at hM
          have e93 : ((p.getD k 0 : Nat) : Int) ≠ 93 := by omega
          generalize p.getD k 0 = x0 at c0 e93
          have d93 : ((x0 : Int) != 93) = true := by rw [bne_iff_ne]; exact e93
          clear h93 e93 hb1
          rcases hcase with ⟨y1, y2, y3, m, xc, hb2, hm1, hm2, hxc, hma⟩ | ⟨hno, hma⟩
          · rw [hma] at hM
            have HM := hide hM
            have c1 := ((unhide HB).cell (p := ⟨b, off + (k + n1), none⟩) hb).trans (unhide HP (k + n1) (by omega))
            have c2 := ((unhide HB).cell (p := ⟨b, off + (k + n1 + 1), none⟩) hb).trans (unhide HP (k + n1 + 1) y1)
            rw [y2] at c1
            generalize p.getD (k + n1 + 1) 0 = x2 at c2 y3
            have e1 : ((x2 : Int) != 93) = true := by rw [bne_iff_ne]; omega
            have e2 : decide ((k : Int) + (n1 : Int) + 1 < (p.length : Int)) = true := decide_eq_true (by omega)
            have B2 : Hid (Calls Try.prog 90 #[.slice (some ⟨b, off, none⟩) p.length cap, .int .i64 ((k : Int) + (n1 : Int) + 1)] wo fun e w' => e = .returned (.tuple #[.int .i64 (xc : Nat), .int .i64 (m : Nat)]) ∧ w' = wo) := hide (by
              have h := rbyteAt_any (some ⟨b, off, none⟩) cap wo p (k + n1 + 1) (by omega) (unhide HS) (unhide BY _ (unhide HB)) y1
              rw [hb2] at h
              simpa using h)
            clear hM hma hb2 y2 y3
            go_wp2_with (first | (go_at_call 90; with_reducible refine (unhide B1).mono ?_; rintro e w4 ⟨rfl, h⟩; obtain rfl := h.symm) | (go_at_call 90; with_reducible refine (unhide B2).mono ?_; rintro e w5 ⟨rfl, h⟩; obtain rfl := h.symm))
            go_loopw [13] (fun kv wr => ∃ (j : Nat) (C : Array Value), kv = .int .i64 (j : Nat) ∧ j ≤ 256 ∧ Hid (Cs w wr C ∧ IsP C false (fun c => S c || (decide (c < j) && Larder.between xa xc c)))) (fun kv _ => 256 - (intOf kv).toNat)
            case atStart => exact ⟨0, C, rfl, Nat.zero_le _, hide ⟨(unhide HC).1, (unhide HC).2.congr (fun c hc => by simp)⟩⟩
            case round =>
              obtain ⟨j, D, rfl, hj, HD⟩ := hrel
              by_cases hjl : j < 256
              · have dj : decide ((j : Int) < 256) = true := decide_eq_true (by omega)
                obtain ⟨cj, fj⟩ := (unhide HD).1.at (unhide HD).2 j hjl
                generalize (S j || (decide (j < j) && Larder.between xa xc j)) = vj at cj
                have yes : Larder.between xa xc j = true → Hid (Cs w (wr.setCell ⟨w.heap.size + 1, 1 + j, none⟩ (.bool true)) (D.setIfInBounds (1 + j) (.bool true)) ∧ IsP (D.setIfInBounds (1 + j) (.bool true)) false (fun c => S c || (decide (c < j + 1) && Larder.between xa xc c))) := fun hb => hide ⟨(unhide HD).1.set _ _, ((unhide HD).2.set j hjl true).congr (fun c hc => by
                  show (if c = j then true else (S c || (decide (c < j) && Larder.between xa xc c))) = _
                  by_cases e : c = j
                  · subst e; rw [if_pos rfl, hb, decide_eq_true (by omega : c < c + 1)]; simp
                  · rw [if_neg e]
                    by_cases e2 : c < j
                    · rw [decide_eq_true e2, decide_eq_true (by omega : c < j + 1)]
                    · rw [decide_eq_false e2, decide_eq_false (by omega : ¬ c < j + 1)])⟩
                have no : Larder.between xa xc j = false → Hid (Cs w wr D ∧ IsP D false (fun c => S c || (decide (c < j + 1) && Larder.between xa xc c))) := fun hb => hide ⟨(unhide HD).1, (unhide HD).2.congr (fun c hc => by
                  by_cases e : c = j
                  · subst e; rw [hb]; simp
                  · by_cases e2 : c < j
                    · rw [decide_eq_true e2, decide_eq_true (by omega : c < j + 1)]
                    · rw [decide_eq_false e2, decide_eq_false (by omega : ¬ c < j + 1)])⟩
                by_cases o1 : xa ≤ j
                · have d1 : decide ((xa : Int) ≤ (j : Int)) = true := decide_eq_true (by omega)
                  by_cases o2 : j ≤ xc
                  · have d2 : decide ((j : Int) ≤ (xc : Int)) = true := decide_eq_true (by omega)
                    have hy := yes (decide_eq_true (.inl ⟨o1, o2⟩))
                    clear yes no
                    go_wp2
                    all_goals go_roundw
                    all_goals first | exact ⟨j + 1, _, by simp, by omega, hy⟩ | (simp only [intOf]; omega)
                  · have d2 : decide ((j : Int) ≤ (xc : Int)) = false := decide_eq_false (by omega)
                    have d3 : decide ((xc : Int) ≤ (j : Int)) = true := decide_eq_true (by omega)
                    by_cases o3 : j ≤ xa
                    · have d4 : decide ((j : Int) ≤ (xa : Int)) = true := decide_eq_true (by omega)
                      have hy := yes (decide_eq_true (.inr ⟨by omega, o3⟩))
                      clear yes no
                      go_wp2
                      all_goals go_roundw
                      all_goals first | exact ⟨j + 1, _, by simp, by omega, hy⟩ | (simp only [intOf]; omega)
                    · have d4 : decide ((j : Int) ≤ (xa : Int)) = false := decide_eq_false (by omega)
                      have hn := no (decide_eq_false (by omega))
                      clear yes no
                      go_wp2
                      all_goals go_roundw
                      all_goals first | exact ⟨j + 1, _, by simp, by omega, hn⟩ | (simp only [intOf]; omega)
                · have d1 : decide ((xa : Int) ≤ (j : Int)) = false := decide_eq_false (by omega)
                  by_cases o2 : xc ≤ j
                  · have d3 : decide ((xc : Int) ≤ (j : Int)) = true := decide_eq_true (by omega)
                    have d4 : decide ((j : Int) ≤ (xa : Int)) = true := decide_eq_true (by omega)
                    have hy := yes (decide_eq_true (.inr ⟨o2, by omega⟩))
                    clear yes no
                    go_wp2
                    all_goals go_roundw
                    all_goals first | exact ⟨j + 1, _, by simp, by omega, hy⟩ | (simp only [intOf]; omega)
                  · have d3 : decide ((xc : Int) ≤ (j : Int)) = false := decide_eq_false (by omega)
                    have hn := no (decide_eq_false (by omega))
                    clear yes no
                    go_wp2
                    all_goals go_roundw
                    all_goals first | exact ⟨j + 1, _, by simp, by omega, hn⟩ | (simp only [intOf]; omega)
              · have hjj : j = 256 := by omega
                subst hjj
                rw [show ((256 : Nat) : Int) = 256 from rfl]
                have dj : decide ((256 : Int) < 256) = false := decide_eq_false (by omega)
                have hE : IsP D false (fun c => S c || Larder.between xa xc c) := (unhide HD).2.congr (fun c hc => by rw [decide_eq_true hc]; simp)
                have HE := hide (And.intro (unhide HD).1 hE)
                clear hE
                go_wp2
                all_goals go_roundw
                all_goals first | exact ⟨k + n1 + 1 + m, n, D, _, by omega, by omega, unhide HM, by simp, HE⟩ | (simp only [intOf]; omega)
          · rw [hma] at hM
            have HM := hide hM
            clear hM hma
            by_cases z1 : k + n1 + 1 < p.length
            · have e2 : decide ((k : Int) + (n1 : Int) + 1 < (p.length : Int)) = true := decide_eq_true (by omega)
              have c1 := ((unhide HB).cell (p := ⟨b, off + (k + n1), none⟩) hb).trans (unhide HP (k + n1) (by omega))
              by_cases z2 : p.getD (k + n1) 0 = 45
              · have z3 : p.getD (k + n1 + 1) 0 = 93 := by
                  by_cases h : p.getD (k + n1 + 1) 0 = 93
                  · exact h
                  · exact absurd ⟨z1, z2, h⟩ hno
                have c2 := ((unhide HB).cell (p := ⟨b, off + (k + n1 + 1), none⟩) hb).trans (unhide HP (k + n1 + 1) z1)
                rw [z2] at c1
                rw [z3] at c2
                clear z2 z3 hno
                go_wp2_with (go_at_call 90; refine (unhide B1).mono ?_; rintro e w4 ⟨rfl, h⟩; obtain rfl := h.symm)
                go_loopw [13] (fun kv wr => ∃ (j : Nat) (C : Array Value), kv = .int .i64 (j : Nat) ∧ j ≤ 256 ∧ Hid (Cs w wr C ∧ IsP C false (fun c => S c || (decide (c < j) && Larder.between xa xa c)))) (fun kv _ => 256 - (intOf kv).toNat)
                case atStart => exact ⟨0, C, rfl, Nat.zero_le _, hide ⟨(unhide HC).1, (unhide HC).2.congr (fun c hc => by simp)⟩⟩
                case round =>
                  obtain ⟨j, D, rfl, hj, HD⟩ := hrel
                  by_cases hjl : j < 256
                  · have dj : decide ((j : Int) < 256) = true := decide_eq_true (by omega)
                    obtain ⟨cj, fj⟩ := (unhide HD).1.at (unhide HD).2 j hjl
                    generalize (S j || (decide (j < j) && Larder.between xa xa j)) = vj at cj
                    have yes : Larder.between xa xa j = true → Hid (Cs w (wr.setCell ⟨w.heap.size + 1, 1 + j, none⟩ (.bool true)) (D.setIfInBounds (1 + j) (.bool true)) ∧ IsP (D.setIfInBounds (1 + j) (.bool true)) false (fun c => S c || (decide (c < j + 1) && Larder.between xa xa c))) := fun hb => hide ⟨(unhide HD).1.set _ _, ((unhide HD).2.set j hjl true).congr (fun c hc => by
                      show (if c = j then true else (S c || (decide (c < j) && Larder.between xa xa c))) = _
                      by_cases e : c = j
                      · subst e; rw [if_pos rfl, hb, decide_eq_true (by omega : c < c + 1)]; simp
                      · rw [if_neg e]
                        by_cases e2 : c < j
                        · rw [decide_eq_true e2, decide_eq_true (by omega : c < j + 1)]
                        · rw [decide_eq_false e2, decide_eq_false (by omega : ¬ c < j + 1)])⟩
                    have no : Larder.between xa xa j = false → Hid (Cs w wr D ∧ IsP D false (fun c => S c || (decide (c < j + 1) && Larder.between xa xa c))) := fun hb => hide ⟨(unhide HD).1, (unhide HD).2.congr (fun c hc => by
                      by_cases e : c = j
                      · subst e; rw [hb]; simp
                      · by_cases e2 : c < j
                        · rw [decide_eq_true e2, decide_eq_true (by omega : c < j + 1)]
                        · rw [decide_eq_false e2, decide_eq_false (by omega : ¬ c < j + 1)])⟩
                    by_cases o1 : xa ≤ j
                    · have d1 : decide ((xa : Int) ≤ (j : Int)) = true := decide_eq_true (by omega)
                      by_cases o2 : j ≤ xa
                      · have d2 : decide ((j : Int) ≤ (xa : Int)) = true := decide_eq_true (by omega)
                        have hy := yes (decide_eq_true (.inl ⟨o1, o2⟩))
                        clear yes no
                        go_wp2
                        all_goals go_roundw
                        all_goals first | exact ⟨j + 1, _, by simp, by omega, hy⟩ | (simp only [intOf]; omega)
                      · have d2 : decide ((j : Int) ≤ (xa : Int)) = false := decide_eq_false (by omega)
                        have d3 : decide ((xa : Int) ≤ (j : Int)) = true := decide_eq_true (by omega)
                        by_cases o3 : j ≤ xa
                        · exact absurd o3 o2
                        · have d4 : decide ((j : Int) ≤ (xa : Int)) = false := decide_eq_false (by omega)
                          have hn := no (decide_eq_false (by omega))
                          clear yes no
                          go_wp2
                          all_goals go_roundw
                          all_goals first | exact ⟨j + 1, _, by simp, by omega, hn⟩ | (simp only [intOf]; omega)
                    · have d1 : decide ((xa : Int) ≤ (j : Int)) = false := decide_eq_false (by omega)
                      by_cases o2 : xa ≤ j
                      · exact absurd o2 o1
                      · have d3 : decide ((xa : Int) ≤ (j : Int)) = false := decide_eq_false (by omega)
                        have hn := no (decide_eq_false (by omega))
                        clear yes no
                        go_wp2
                        all_goals go_roundw
                        all_goals first | exact ⟨j + 1, _, by simp, by omega, hn⟩ | (simp only [intOf]; omega)
                  · have hjj : j = 256 := by omega
                    subst hjj
                    rw [show ((256 : Nat) : Int) = 256 from rfl]
                    have dj : decide ((256 : Int) < 256) = false := decide_eq_false (by omega)
                    have hE : IsP D false (fun c => S c || Larder.between xa xa c) := (unhide HD).2.congr (fun c hc => by rw [decide_eq_true hc]; simp)
                    have HE := hide (And.intro (unhide HD).1 hE)
                    clear hE
                    go_wp2
                    all_goals go_roundw
                    all_goals first | exact ⟨k + n1, n, D, _, by omega, by omega, unhide HM, by simp, HE⟩ | (simp only [intOf]; omega)
              · generalize p.getD (k + n1) 0 = x1 at c1 z2
                have e1 : ((x1 : Int) == 45) = false := by rw [beq_eq_false_iff_ne]; omega
                clear z2 hno
                go_wp2_with (go_at_call 90; refine (unhide B1).mono ?_; rintro e w4 ⟨rfl, h⟩; obtain rfl := h.symm)
                go_loopw [13] (fun kv wr => ∃ (j : Nat) (C : Array Value), kv = .int .i64 (j : Nat) ∧ j ≤ 256 ∧ Hid (Cs w wr C ∧ IsP C false (fun c => S c || (decide (c < j) && Larder.between xa xa c)))) (fun kv _ => 256 - (intOf kv).toNat)
                case atStart => exact ⟨0, C, rfl, Nat.zero_le _, hide ⟨(unhide HC).1, (unhide HC).2.congr (fun c hc => by simp)⟩⟩
                case round =>
                  obtain ⟨j, D, rfl, hj, HD⟩ := hrel
                  by_cases hjl : j < 256
                  · have dj : decide ((j : Int) < 256) = true := decide_eq_true (by omega)
                    obtain ⟨cj, fj⟩ := (unhide HD).1.at (unhide HD).2 j hjl
                    generalize (S j || (decide (j < j) && Larder.between xa xa j)) = vj at cj
                    have yes : Larder.between xa xa j = true → Hid (Cs w (wr.setCell ⟨w.heap.size + 1, 1 + j, none⟩ (.bool true)) (D.setIfInBounds (1 + j) (.bool true)) ∧ IsP (D.setIfInBounds (1 + j) (.bool true)) false (fun c => S c || (decide (c < j + 1) && Larder.between xa xa c))) := fun hb => hide ⟨(unhide HD).1.set _ _, ((unhide HD).2.set j hjl true).congr (fun c hc => by
                      show (if c = j then true else (S c || (decide (c < j) && Larder.between xa xa c))) = _
                      by_cases e : c = j
                      · subst e; rw [if_pos rfl, hb, decide_eq_true (by omega : c < c + 1)]; simp
                      · rw [if_neg e]
                        by_cases e2 : c < j
                        · rw [decide_eq_true e2, decide_eq_true (by omega : c < j + 1)]
                        · rw [decide_eq_false e2, decide_eq_false (by omega : ¬ c < j + 1)])⟩
                    have no : Larder.between xa xa j = false → Hid (Cs w wr D ∧ IsP D false (fun c => S c || (decide (c < j + 1) && Larder.between xa xa c))) := fun hb => hide ⟨(unhide HD).1, (unhide HD).2.congr (fun c hc => by
                      by_cases e : c = j
                      · subst e; rw [hb]; simp
                      · by_cases e2 : c < j
                        · rw [decide_eq_true e2, decide_eq_true (by omega : c < j + 1)]
                        · rw [decide_eq_false e2, decide_eq_false (by omega : ¬ c < j + 1)])⟩
                    by_cases o1 : xa ≤ j
                    · have d1 : decide ((xa : Int) ≤ (j : Int)) = true := decide_eq_true (by omega)
                      by_cases o2 : j ≤ xa
                      · have d2 : decide ((j : Int) ≤ (xa : Int)) = true := decide_eq_true (by omega)
                        have hy := yes (decide_eq_true (.inl ⟨o1, o2⟩))
                        clear yes no
                        go_wp2
                        all_goals go_roundw
                        all_goals first | exact ⟨j + 1, _, by simp, by omega, hy⟩ | (simp only [intOf]; omega)
                      · have d2 : decide ((j : Int) ≤ (xa : Int)) = false := decide_eq_false (by omega)
                        have d3 : decide ((xa : Int) ≤ (j : Int)) = true := decide_eq_true (by omega)
                        by_cases o3 : j ≤ xa
                        · exact absurd o3 o2
                        · have d4 : decide ((j : Int) ≤ (xa : Int)) = false := decide_eq_false (by omega)
                          have hn := no (decide_eq_false (by omega))
                          clear yes no
                          go_wp2
                          all_goals go_roundw
                          all_goals first | exact ⟨j + 1, _, by simp, by omega, hn⟩ | (simp only [intOf]; omega)
                    · have d1 : decide ((xa : Int) ≤ (j : Int)) = false := decide_eq_false (by omega)
                      by_cases o2 : xa ≤ j
                      · exact absurd o2 o1
                      · have d3 : decide ((xa : Int) ≤ (j : Int)) = false := decide_eq_false (by omega)
                        have hn := no (decide_eq_false (by omega))
                        clear yes no
                        go_wp2
                        all_goals go_roundw
                        all_goals first | exact ⟨j + 1, _, by simp, by omega, hn⟩ | (simp only [intOf]; omega)
                  · have hjj : j = 256 := by omega
                    subst hjj
                    rw [show ((256 : Nat) : Int) = 256 from rfl]
                    have dj : decide ((256 : Int) < 256) = false := decide_eq_false (by omega)
                    have hE : IsP D false (fun c => S c || Larder.between xa xa c) := (unhide HD).2.congr (fun c hc => by rw [decide_eq_true hc]; simp)
                    have HE := hide (And.intro (unhide HD).1 hE)
                    clear hE
                    go_wp2
                    all_goals go_roundw
                    all_goals first | exact ⟨k + n1, n, D, _, by omega, by omega, unhide HM, by simp, HE⟩ | (simp only [intOf]; omega)
            · have e2 : decide ((k : Int) + (n1 : Int) + 1 < (p.length : Int)) = false := decide_eq_false (by omega)
              clear hno
              go_wp2_with (go_at_call 90; refine (unhide B1).mono ?_; rintro e w4 ⟨rfl, h⟩; obtain rfl := h.symm)
              go_loopw [13] (fun kv wr => ∃ (j : Nat) (C : Array Value), kv = .int .i64 (j : Nat) ∧ j ≤ 256 ∧ Hid (Cs w wr C ∧ IsP C false (fun c => S c || (decide (c < j) && Larder.between xa xa c)))) (fun kv _ => 256 - (intOf kv).toNat)
              case atStart => exact ⟨0, C, rfl, Nat.zero_le _, hide ⟨(unhide HC).1, (unhide HC).2.congr (fun c hc => by simp)⟩⟩
              case round =>
                obtain ⟨j, D, rfl, hj, HD⟩ := hrel
                by_cases hjl : j < 256
                · have dj : decide ((j : Int) < 256) = true := decide_eq_true (by omega)
                  obtain ⟨cj, fj⟩ := (unhide HD).1.at (unhide HD).2 j hjl
                  generalize (S j || (decide (j < j) && Larder.between xa xa j)) = vj at cj
                  have yes : Larder.between xa xa j = true → Hid (Cs w (wr.setCell ⟨w.heap.size + 1, 1 + j, none⟩ (.bool true)) (D.setIfInBounds (1 + j) (.bool true)) ∧ IsP (D.setIfInBounds (1 + j) (.bool true)) false (fun c => S c || (decide (c < j + 1) && Larder.between xa xa c))) := fun hb => hide ⟨(unhide HD).1.set _ _, ((unhide HD).2.set j hjl true).congr (fun c hc => by
                    show (if c = j then true else (S c || (decide (c < j) && Larder.between xa xa c))) = _
                    by_cases e : c = j
                    · subst e; rw [if_pos rfl, hb, decide_eq_true (by omega : c < c + 1)]; simp
                    · rw [if_neg e]
                      by_cases e2 : c < j
                      · rw [decide_eq_true e2, decide_eq_true (by omega : c < j + 1)]
                      · rw [decide_eq_false e2, decide_eq_false (by omega : ¬ c < j + 1)])⟩
                  have no : Larder.between xa xa j = false → Hid (Cs w wr D ∧ IsP D false (fun c => S c || (decide (c < j + 1) && Larder.between xa xa c))) := fun hb => hide ⟨(unhide HD).1, (unhide HD).2.congr (fun c hc => by
                    by_cases e : c = j
                    · subst e; rw [hb]; simp
                    · by_cases e2 : c < j
                      · rw [decide_eq_true e2, decide_eq_true (by omega : c < j + 1)]
                      · rw [decide_eq_false e2, decide_eq_false (by omega : ¬ c < j + 1)])⟩
                  by_cases o1 : xa ≤ j
                  · have d1 : decide ((xa : Int) ≤ (j : Int)) = true := decide_eq_true (by omega)
                    by_cases o2 : j ≤ xa
                    · have d2 : decide ((j : Int) ≤ (xa : Int)) = true := decide_eq_true (by omega)
                      have hy := yes (decide_eq_true (.inl ⟨o1, o2⟩))
                      clear yes no
                      go_wp2
                      all_goals go_roundw
                      all_goals first | exact ⟨j + 1, _, by simp, by omega, hy⟩ | (simp only [intOf]; omega)
                    · have d2 : decide ((j : Int) ≤ (xa : Int)) = false := decide_eq_false (by omega)
                      have d3 : decide ((xa : Int) ≤ (j : Int)) = true := decide_eq_true (by omega)
                      by_cases o3 : j ≤ xa
                      · exact absurd o3 o2
                      · have d4 : decide ((j : Int) ≤ (xa : Int)) = false := decide_eq_false (by omega)
                        have hn := no (decide_eq_false (by omega))
                        clear yes no
                        go_wp2
                        all_goals go_roundw
                        all_goals first | exact ⟨j + 1, _, by simp, by omega, hn⟩ | (simp only [intOf]; omega)
                  · have d1 : decide ((xa : Int) ≤ (j : Int)) = false := decide_eq_false (by omega)
                    by_cases o2 : xa ≤ j
                    · exact absurd o2 o1
                    · have d3 : decide ((xa : Int) ≤ (j : Int)) = false := decide_eq_false (by omega)
                      have hn := no (decide_eq_false (by omega))
                      clear yes no
                      go_wp2
                      all_goals go_roundw
                      all_goals first | exact ⟨j + 1, _, by simp, by omega, hn⟩ | (simp only [intOf]; omega)
                · have hjj : j = 256 := by omega
                  subst hjj
                  rw [show ((256 : Nat) : Int) = 256 from rfl]
                  have dj : decide ((256 : Int) < 256) = false := decide_eq_false (by omega)
                  have hE : IsP D false (fun c => S c || Larder.between xa xa c) := (unhide HD).2.congr (fun c hc => by rw [decide_eq_true hc]; simp)
                  have HE := hide (And.intro (unhide HD).1 hE)
                  clear hE
                  go_wp2
                  all_goals go_roundw
                  all_goals first | exact ⟨k + n1, n, D, _, by omega, by omega, unhide HM, by simp, HE⟩ | (simp only [intOf]; omega)
      · obtain rfl : k = p.length := by omega
        have dk : decide ((p.length : Int) < (p.length : Int)) = false := decide_eq_false (by omega)
        rw [Larder.memsK_done p n p.length S (fun h => absurd h.1 (Nat.lt_irrefl _))] at hM
        subst hM
        clear hk hn
        go_wp2_with (first
          | (refine wpList_load91 rfl _ rfl (w.heap.size + 1) rfl C (unhide HC).1.2.1 (unhide HC).2.size ?_)
          | (refine wpList_store91 rfl _ _ rfl rfl w.heap.size C rfl rfl zp (unhide HC).1.1 (unhide HC).2.size zp_size (unhide HC).2.one ?_; intro w6 k6))
        all_goals refine bodyPost_ret (results_cell_tmp (p := 4) (q := 5) (ty := 128) rfl _ _ w.heap.size 128 C (0, 0) _ rfl (unhide k6).1 Try.underlying128 rfl (size91 (unhide HC).2.size) _ rfl) rfl ?_
        all_goals exact ⟨C, ret_piece (by simp), (unhide HC).2, (unhide k6).2.below (unhide HB) (Nat.le_refl _)⟩
  · have l1 : decide ((i : Int) + 1 < (p.length : Int)) = false := decide_eq_false (by omega)
    clear hc hs hc2
    go_enter Try.func89, Try.ntmps89
    go_wp2_with (first
      | (refine wpList_alloc91 rfl rfl w.heap.size rfl ?_; intro w1 k1)
      | (refine wpList_buildTo rfl 128 _ rfl (some 15) rfl zp (by as_aux_lemma => kernel_rfl) ?_)
      | (refine wpList_alloc91 rfl rfl (w.heap.size + 1) (unhide k1).2.1 ?_; intro w2 k2)
      | (refine wpList_store91 rfl _ _ rfl rfl (w.heap.size + 1) zp rfl rfl zp (unhide k2).1 zp_size zp_size IsP.zero.one ?_; intro w3 k3; have s0 := hide (Cs.start (unhide k1) (unhide k2) (unhide k3))))
    go_loopw [1, 8, 9, 10, 11, 12, 13] (fun jv _ _ _ _ _ _ wr => ∃ (k n : Nat) (C : Array Value) (S : Nat → Bool), k ≤ p.length ∧ p.length - k ≤ n ∧ Larder.memsK p n k S = R ∧ jv = .int .i64 (k : Nat) ∧ Hid (Cs w wr C ∧ IsP C false S)) (fun jv _ _ _ _ _ _ _ => p.length - (intOf jv).toNat)
    case atStart => exact ⟨i + 1, p.length, zp, _, by omega, by omega, unhide HR, by simp, hide ⟨unhide s0, IsP.zero⟩⟩
    case round =>
      rename World => wo
      obtain ⟨k, n, C, S, hk, hn, hM, rfl, HC⟩ := hrel
      have HB := hide (unhide HC).1.2.2.2
      by_cases hlt : k < p.length
      · have c0 := ((unhide HB).cell (p := ⟨b, off + k, none⟩) hb).trans (unhide HP k hlt)
        have dk : decide ((k : Int) < (p.length : Int)) = true := decide_eq_true (by omega)
        by_cases h93 : p.getD k 0 = 93
        · rw [Larder.memsK_done p n k S (fun h => h.2 h93)] at hM
          rw [h93] at c0
          subst hM
          clear hk hn
          go_wp2_with (first
            | (refine wpList_load91 rfl _ rfl (w.heap.size + 1) rfl C (unhide HC).1.2.1 (unhide HC).2.size ?_)
            | (refine wpList_store91 rfl _ _ rfl rfl w.heap.size C rfl rfl zp (unhide HC).1.1 (unhide HC).2.size zp_size (unhide HC).2.one ?_; intro w6 k6))
          all_goals refine bodyPost_ret (results_cell_tmp (p := 4) (q := 5) (ty := 128) rfl _ _ w.heap.size 128 C (0, 0) _ rfl (unhide k6).1 Try.underlying128 rfl (size91 (unhide HC).2.size) _ rfl) rfl ?_
          all_goals exact ⟨C, ret_piece (by simp), (unhide HC).2, (unhide k6).2.below (unhide HB) (Nat.le_refl _)⟩
        · obtain ⟨n1, xa, hb1, hn1, hk1, hxa, hcase⟩ := Larder.mem_cases p (getD_small (unhide HS)) k hlt
          have B1 : Hid (Calls Try.prog 90 #[.slice (some ⟨b, off, none⟩) p.length cap, .int .i64 (k : Nat)] wo fun e w' => e = .returned (.tuple #[.int .i64 (xa : Nat), .int .i64 (n1 : Nat)]) ∧ w' = wo) := hide (by
            have h := rbyteAt_any (some ⟨b, off, none⟩) cap wo p k (by omega) (unhide HS) (unhide BY _ (unhide HB)) hlt
            rw [hb1] at h
            simpa using h)
          obtain ⟨n, rfl⟩ : ∃ m, n = m + 1 := ⟨n - 1, by omega⟩
          rw [Larder.memsK_step p n k S hlt h93] at hM
          have e93 : ((p.getD k 0 : Nat) : Int) ≠ 93 := by omega
          generalize p.getD k 0 = x0 at c0 e93
          have d93 : ((x0 : Int) != 93) = true := by rw [bne_iff_ne]; exact e93
          clear h93 e93 hb1
          rcases hcase with ⟨y1, y2, y3, m, xc, hb2, hm1, hm2, hxc, hma⟩ | ⟨hno, hma⟩
          · rw [hma] at hM
            have HM := hide hM
            have c1 := ((unhide HB).cell (p := ⟨b, off + (k + n1), none⟩) hb).trans (unhide HP (k + n1) (by omega))
            have c2 := ((unhide HB).cell (p := ⟨b, off + (k + n1 + 1), none⟩) hb).trans (unhide HP (k + n1 + 1) y1)
            rw [y2] at c1
            generalize p.getD (k + n1 + 1) 0 = x2 at c2 y3
            have e1 : ((x2 : Int) != 93) = true := by rw [bne_iff_ne]; omega
            have e2 : decide ((k : Int) + (n1 : Int) + 1 < (p.length : Int)) = true := decide_eq_true (by omega)
            have B2 : Hid (Calls Try.prog 90 #[.slice (some ⟨b, off, none⟩) p.length cap, .int .i64 ((k : Int) + (n1 : Int) + 1)] wo fun e w' => e = .returned (.tuple #[.int .i64 (xc : Nat), .int .i64 (m : Nat)]) ∧ w' = wo) := hide (by
              have h := rbyteAt_any (some ⟨b, off, none⟩) cap wo p (k + n1 + 1) (by omega) (unhide HS) (unhide BY _ (unhide HB)) y1
              rw [hb2] at h
              simpa using h)
            clear hM hma hb2 y2 y3
            go_wp2_with (first | (go_at_call 90; with_reducible refine (unhide B1).mono ?_; rintro e w4 ⟨rfl, h⟩; obtain rfl := h.symm) | (go_at_call 90; with_reducible refine (unhide B2).mono ?_; rintro e w5 ⟨rfl, h⟩; obtain rfl := h.symm))
            go_loopw [13] (fun kv wr => ∃ (j : Nat) (C : Array Value), kv = .int .i64 (j : Nat) ∧ j ≤ 256 ∧ Hid (Cs w wr C ∧ IsP C false (fun c => S c || (decide (c < j) && Larder.between xa xc c)))) (fun kv _ => 256 - (intOf kv).toNat)
            case atStart => exact ⟨0, C, rfl, Nat.zero_le _, hide ⟨(unhide HC).1, (unhide HC).2.congr (fun c hc => by simp)⟩⟩
            case round =>
              obtain ⟨j, D, rfl, hj, HD⟩ := hrel
              by_cases hjl : j < 256
              · have dj : decide ((j : Int) < 256) = true := decide_eq_true (by omega)
                obtain ⟨cj, fj⟩ := (unhide HD).1.at (unhide HD).2 j hjl
                generalize (S j || (decide (j < j) && Larder.between xa xc j)) = vj at cj
                have yes : Larder.between xa xc j = true → Hid (Cs w (wr.setCell ⟨w.heap.size + 1, 1 + j, none⟩ (.bool true)) (D.setIfInBounds (1 + j) (.bool true)) ∧ IsP (D.setIfInBounds (1 + j) (.bool true)) false (fun c => S c || (decide (c < j + 1) && Larder.between xa xc c))) := fun hb => hide ⟨(unhide HD).1.set _ _, ((unhide HD).2.set j hjl true).congr (fun c hc => by
                  show (if c = j then true else (S c || (decide (c < j) && Larder.between xa xc c))) = _
                  by_cases e : c = j
                  · subst e; rw [if_pos rfl, hb, decide_eq_true (by omega : c < c + 1)]; simp
                  · rw [if_neg e]
                    by_cases e2 : c < j
                    · rw [decide_eq_true e2, decide_eq_true (by omega : c < j + 1)]
                    · rw [decide_eq_false e2, decide_eq_false (by omega : ¬ c < j + 1)])⟩
                have no : Larder.between xa xc j = false → Hid (Cs w wr D ∧ IsP D false (fun c => S c || (decide (c < j + 1) && Larder.between xa xc c))) := fun hb => hide ⟨(unhide HD).1, (unhide HD).2.congr (fun c hc => by
                  by_cases e : c = j
                  · subst e; rw [hb]; simp
                  · by_cases e2 : c < j
                    · rw [decide_eq_true e2, decide_eq_true (by omega : c < j + 1)]
                    · rw [decide_eq_false e2, decide_eq_false (by omega : ¬ c < j + 1)])⟩
                by_cases o1 : xa ≤ j
                · have d1 : decide ((xa : Int) ≤ (j : Int)) = true := decide_eq_true (by omega)
                  by_cases o2 : j ≤ xc
                  · have d2 : decide ((j : Int) ≤ (xc : Int)) = true := decide_eq_true (by omega)
                    have hy := yes (decide_eq_true (.inl ⟨o1, o2⟩))
                    clear yes no
                    go_wp2
                    all_goals go_roundw
                    all_goals first | exact ⟨j + 1, _, by simp, by omega, hy⟩ | (simp only [intOf]; omega)
                  · have d2 : decide ((j : Int) ≤ (xc : Int)) = false := decide_eq_false (by omega)
                    have d3 : decide ((xc : Int) ≤ (j : Int)) = true := decide_eq_true (by omega)
                    by_cases o3 : j ≤ xa
                    · have d4 : decide ((j : Int) ≤ (xa : Int)) = true := decide_eq_true (by omega)
                      have hy := yes (decide_eq_true (.inr ⟨by omega, o3⟩))
                      clear yes no
                      go_wp2
                      all_goals go_roundw
                      all_goals first | exact ⟨j + 1, _, by simp, by omega, hy⟩ | (simp only [intOf]; omega)
                    · have d4 : decide ((j : Int) ≤ (xa : Int)) = false := decide_eq_false (by omega)
                      have hn := no (decide_eq_false (by omega))
                      clear yes no
                      go_wp2
                      all_goals go_roundw
                      all_goals first | exact ⟨j + 1, _, by simp, by omega, hn⟩ | (simp only [intOf]; omega)
                · have d1 : decide ((xa : Int) ≤ (j : Int)) = false := decide_eq_false (by omega)
                  by_cases o2 : xc ≤ j
                  · have d3 : decide ((xc : Int) ≤ (j : Int)) = true := decide_eq_true (by omega)
                    have d4 : decide ((j : Int) ≤ (xa : Int)) = true := decide_eq_true (by omega)
                    have hy := yes (decide_eq_true (.inr ⟨o2, by omega⟩))
                    clear yes no
                    go_wp2
                    all_goals go_roundw
                    all_goals first | exact ⟨j + 1, _, by simp, by omega, hy⟩ | (simp only [intOf]; omega)
                  · have d3 : decide ((xc : Int) ≤ (j : Int)) = false := decide_eq_false (by omega)
                    have hn := no (decide_eq_false (by omega))
                    clear yes no
                    go_wp2
                    all_goals go_roundw
                    all_goals first | exact ⟨j + 1, _, by simp, by omega, hn⟩ | (simp only [intOf]; omega)
              · have hjj : j = 256 := by omega
                subst hjj
                rw [show ((256 : Nat) : Int) = 256 from rfl]
                have dj : decide ((256 : Int) < 256) = false := decide_eq_false (by omega)
                have hE : IsP D false (fun c => S c || Larder.between xa xc c) := (unhide HD).2.congr (fun c hc => by rw [decide_eq_true hc]; simp)
                have HE := hide (And.intro (unhide HD).1 hE)
                clear hE
                go_wp2
                all_goals go_roundw
                all_goals first | exact ⟨k + n1 + 1 + m, n, D, _, by omega, by omega, unhide HM, by simp, HE⟩ | (simp only [intOf]; omega)
          · rw [hma] at hM
            have HM := hide hM
            clear hM hma
            by_cases z1 : k + n1 + 1 < p.length
            · have e2 : decide ((k : Int) + (n1 : Int) + 1 < (p.length : Int)) = true := decide_eq_true (by omega)
              have c1 := ((unhide HB).cell (p := ⟨b, off + (k + n1), none⟩) hb).trans (unhide HP (k + n1) (by omega))
              by_cases z2 : p.getD (k + n1) 0 = 45
              · have z3 : p.getD (k + n1 + 1) 0 = 93 := by
                  by_cases h : p.getD (k + n1 + 1) 0 = 93
                  · exact h
                  · exact absurd ⟨z1, z2, h⟩ hno
                have c2 := ((unhide HB).cell (p := ⟨b, off + (k + n1 + 1), none⟩) hb).trans (unhide HP (k + n1 + 1) z1)
                rw [z2] at c1
                rw [z3] at c2
                clear z2 z3 hno
                go_wp2_with (go_at_call 90; refine (unhide B1).mono ?_; rintro e w4 ⟨rfl, h⟩; obtain rfl := h.symm)
                go_loopw [13] (fun kv wr => ∃ (j : Nat) (C : Array Value), kv = .int .i64 (j : Nat) ∧ j ≤ 256 ∧ Hid (Cs w wr C ∧ IsP C false (fun c => S c || (decide (c < j) && Larder.between xa xa c)))) (fun kv _ => 256 - (intOf kv).toNat)
                case atStart => exact ⟨0, C, rfl, Nat.zero_le _, hide ⟨(unhide HC).1, (unhide HC).2.congr (fun c hc => by simp)⟩⟩
                case round =>
                  obtain ⟨j, D, rfl, hj, HD⟩ := hrel
                  by_cases hjl : j < 256
                  · have dj : decide ((j : Int) < 256) = true := decide_eq_true (by omega)
                    obtain ⟨cj, fj⟩ := (unhide HD).1.at (unhide HD).2 j hjl
                    generalize (S j || (decide (j < j) && Larder.between xa xa j)) = vj at cj
                    have yes : Larder.between xa xa j = true → Hid (Cs w (wr.setCell ⟨w.heap.size + 1, 1 + j, none⟩ (.bool true)) (D.setIfInBounds (1 + j) (.bool true)) ∧ IsP (D.setIfInBounds (1 + j) (.bool true)) false (fun c => S c || (decide (c < j + 1) && Larder.between xa xa c))) := fun hb => hide ⟨(unhide HD).1.set _ _, ((unhide HD).2.set j hjl true).congr (fun c hc => by
                      show (if c = j then true else (S c || (decide (c < j) && Larder.between xa xa c))) = _
                      by_cases e : c = j
                      · subst e; rw [if_pos rfl, hb, decide_eq_true (by omega : c < c + 1)]; simp
                      · rw [if_neg e]
                        by_cases e2 : c < j
                        · rw [decide_eq_true e2, decide_eq_true (by omega : c < j + 1)]
                        · rw [decide_eq_false e2, decide_eq_false (by omega : ¬ c < j + 1)])⟩
                    have no : Larder.between xa xa j = false → Hid (Cs w wr D ∧ IsP D false (fun c => S c || (decide (c < j + 1) && Larder.between xa xa c))) := fun hb => hide ⟨(unhide HD).1, (unhide HD).2.congr (fun c hc => by
                      by_cases e : c = j
                      · subst e; rw [hb]; simp
                      · by_cases e2 : c < j
                        · rw [decide_eq_true e2, decide_eq_true (by omega : c < j + 1)]
                        · rw [decide_eq_false e2, decide_eq_false (by omega : ¬ c < j + 1)])⟩
                    by_cases o1 : xa ≤ j
                    · have d1 : decide ((xa : Int) ≤ (j : Int)) = true := decide_eq_true (by omega)
                      by_cases o2 : j ≤ xa
                      · have d2 : decide ((j : Int) ≤ (xa : Int)) = true := decide_eq_true (by omega)
                        have hy := yes (decide_eq_true (.inl ⟨o1, o2⟩))
                        clear yes no
                        go_wp2
                        all_goals go_roundw
                        all_goals first | exact ⟨j + 1, _, by simp, by omega, hy⟩ | (simp only [intOf]; omega)
                      · have d2 : decide ((j : Int) ≤ (xa : Int)) = false := decide_eq_false (by omega)
                        have d3 : decide ((xa : Int) ≤ (j : Int)) = true := decide_eq_true (by omega)
                        by_cases o3 : j ≤ xa
                        · exact absurd o3 o2
                        · have d4 : decide ((j : Int) ≤ (xa : Int)) = false := decide_eq_false (by omega)
                          have hn := no (decide_eq_false (by omega))
                          clear yes no
                          go_wp2
                          all_goals go_roundw
                          all_goals first | exact ⟨j + 1, _, by simp, by omega, hn⟩ | (simp only [intOf]; omega)
                    · have d1 : decide ((xa : Int) ≤ (j : Int)) = false := decide_eq_false (by omega)
                      by_cases o2 : xa ≤ j
                      · exact absurd o2 o1
                      · have d3 : decide ((xa : Int) ≤ (j : Int)) = false := decide_eq_false (by omega)
                        have hn := no (decide_eq_false (by omega))
                        clear yes no
                        go_wp2
                        all_goals go_roundw
                        all_goals first | exact ⟨j + 1, _, by simp, by omega, hn⟩ | (simp only [intOf]; omega)
                  · have hjj : j = 256 := by omega
                    subst hjj
                    rw [show ((256 : Nat) : Int) = 256 from rfl]
                    have dj : decide ((256 : Int) < 256) = false := decide_eq_false (by omega)
                    have hE : IsP D false (fun c => S c || Larder.between xa xa c) := (unhide HD).2.congr (fun c hc => by rw [decide_eq_true hc]; simp)
                    have HE := hide (And.intro (unhide HD).1 hE)
                    clear hE
                    go_wp2
                    all_goals go_roundw
                    all_goals first | exact ⟨k + n1, n, D, _, by omega, by omega, unhide HM, by simp, HE⟩ | (simp only [intOf]; omega)
              · generalize p.getD (k + n1) 0 = x1 at c1 z2
                have e1 : ((x1 : Int) == 45) = false := by rw [beq_eq_false_iff_ne]; omega
                clear z2 hno
                go_wp2_with (go_at_call 90; refine (unhide B1).mono ?_; rintro e w4 ⟨rfl, h⟩; obtain rfl := h.symm)
                go_loopw [13] (fun kv wr => ∃ (j : Nat) (C : Array Value), kv = .int .i64 (j : Nat) ∧ j ≤ 256 ∧ Hid (Cs w wr C ∧ IsP C false (fun c => S c || (decide (c < j) && Larder.between xa xa c)))) (fun kv _ => 256 - (intOf kv).toNat)
                case atStart => exact ⟨0, C, rfl, Nat.zero_le _, hide ⟨(unhide HC).1, (unhide HC).2.congr (fun c hc => by simp)⟩⟩
                case round =>
                  obtain ⟨j, D, rfl, hj, HD⟩ := hrel
                  by_cases hjl : j < 256
                  · have dj : decide ((j : Int) < 256) = true := decide_eq_true (by omega)
                    obtain ⟨cj, fj⟩ := (unhide HD).1.at (unhide HD).2 j hjl
                    generalize (S j || (decide (j < j) && Larder.between xa xa j)) = vj at cj
                    have yes : Larder.between xa xa j = true → Hid (Cs w (wr.setCell ⟨w.heap.size + 1, 1 + j, none⟩ (.bool true)) (D.setIfInBounds (1 + j) (.bool true)) ∧ IsP (D.setIfInBounds (1 + j) (.bool true)) false (fun c => S c || (decide (c < j + 1) && Larder.between xa xa c))) := fun hb => hide ⟨(unhide HD).1.set _ _, ((unhide HD).2.set j hjl true).congr (fun c hc => by
                      show (if c = j then true else (S c || (decide (c < j) && Larder.between xa xa c))) = _
                      by_cases e : c = j
                      · subst e; rw [if_pos rfl, hb, decide_eq_true (by omega : c < c + 1)]; simp
                      · rw [if_neg e]
                        by_cases e2 : c < j
                        · rw [decide_eq_true e2, decide_eq_true (by omega : c < j + 1)]
                        · rw [decide_eq_false e2, decide_eq_false (by omega : ¬ c < j + 1)])⟩
                    have no : Larder.between xa xa j = false → Hid (Cs w wr D ∧ IsP D false (fun c => S c || (decide (c < j + 1) && Larder.between xa xa c))) := fun hb => hide ⟨(unhide HD).1, (unhide HD).2.congr (fun c hc => by
                      by_cases e : c = j
                      · subst e; rw [hb]; simp
                      · by_cases e2 : c < j
                        · rw [decide_eq_true e2, decide_eq_true (by omega : c < j + 1)]
                        · rw [decide_eq_false e2, decide_eq_false (by omega : ¬ c < j + 1)])⟩
                    by_cases o1 : xa ≤ j
                    · have d1 : decide ((xa : Int) ≤ (j : Int)) = true := decide_eq_true (by omega)
                      by_cases o2 : j ≤ xa
                      · have d2 : decide ((j : Int) ≤ (xa : Int)) = true := decide_eq_true (by omega)
                        have hy := yes (decide_eq_true (.inl ⟨o1, o2⟩))
                        clear yes no
                        go_wp2
                        all_goals go_roundw
                        all_goals first | exact ⟨j + 1, _, by simp, by omega, hy⟩ | (simp only [intOf]; omega)
                      · have d2 : decide ((j : Int) ≤ (xa : Int)) = false := decide_eq_false (by omega)
                        have d3 : decide ((xa : Int) ≤ (j : Int)) = true := decide_eq_true (by omega)
                        by_cases o3 : j ≤ xa
                        · exact absurd o3 o2
                        · have d4 : decide ((j : Int) ≤ (xa : Int)) = false := decide_eq_false (by omega)
                          have hn := no (decide_eq_false (by omega))
                          clear yes no
                          go_wp2
                          all_goals go_roundw
                          all_goals first | exact ⟨j + 1, _, by simp, by omega, hn⟩ | (simp only [intOf]; omega)
                    · have d1 : decide ((xa : Int) ≤ (j : Int)) = false := decide_eq_false (by omega)
                      by_cases o2 : xa ≤ j
                      · exact absurd o2 o1
                      · have d3 : decide ((xa : Int) ≤ (j : Int)) = false := decide_eq_false (by omega)
                        have hn := no (decide_eq_false (by omega))
                        clear yes no
                        go_wp2
                        all_goals go_roundw
                        all_goals first | exact ⟨j + 1, _, by simp, by omega, hn⟩ | (simp only [intOf]; omega)
                  · have hjj : j = 256 := by omega
                    subst hjj
                    rw [show ((256 : Nat) : Int) = 256 from rfl]
                    have dj : decide ((256 : Int) < 256) = false := decide_eq_false (by omega)
                    have hE : IsP D false (fun c => S c || Larder.between xa xa c) := (unhide HD).2.congr (fun c hc => by rw [decide_eq_true hc]; simp)
                    have HE := hide (And.intro (unhide HD).1 hE)
                    clear hE
                    go_wp2
                    all_goals go_roundw
                    all_goals first | exact ⟨k + n1, n, D, _, by omega, by omega, unhide HM, by simp, HE⟩ | (simp only [intOf]; omega)
            · have e2 : decide ((k : Int) + (n1 : Int) + 1 < (p.length : Int)) = false := decide_eq_false (by omega)
              clear hno
              go_wp2_with (go_at_call 90; refine (unhide B1).mono ?_; rintro e w4 ⟨rfl, h⟩; obtain rfl := h.symm)
              go_loopw [13] (fun kv wr => ∃ (j : Nat) (C : Array Value), kv = .int .i64 (j : Nat) ∧ j ≤ 256 ∧ Hid (Cs w wr C ∧ IsP C false (fun c => S c || (decide (c < j) && Larder.between xa xa c)))) (fun kv _ => 256 - (intOf kv).toNat)
              case atStart => exact ⟨0, C, rfl, Nat.zero_le _, hide ⟨(unhide HC).1, (unhide HC).2.congr (fun c hc => by simp)⟩⟩
              case round =>
                obtain ⟨j, D, rfl, hj, HD⟩ := hrel
                by_cases hjl : j < 256
                · have dj : decide ((j : Int) < 256) = true := decide_eq_true (by omega)
                  obtain ⟨cj, fj⟩ := (unhide HD).1.at (unhide HD).2 j hjl
                  generalize (S j || (decide (j < j) && Larder.between xa xa j)) = vj at cj
                  have yes : Larder.between xa xa j = true → Hid (Cs w (wr.setCell ⟨w.heap.size + 1, 1 + j, none⟩ (.bool true)) (D.setIfInBounds (1 + j) (.bool true)) ∧ IsP (D.setIfInBounds (1 + j) (.bool true)) false (fun c => S c || (decide (c < j + 1) && Larder.between xa xa c))) := fun hb => hide ⟨(unhide HD).1.set _ _, ((unhide HD).2.set j hjl true).congr (fun c hc => by
                    show (if c = j then true else (S c || (decide (c < j) && Larder.between xa xa c))) = _
                    by_cases e : c = j
                    · subst e; rw [if_pos rfl, hb, decide_eq_true (by omega : c < c + 1)]; simp
                    · rw [if_neg e]
                      by_cases e2 : c < j
                      · rw [decide_eq_true e2, decide_eq_true (by omega : c < j + 1)]
                      · rw [decide_eq_false e2, decide_eq_false (by omega : ¬ c < j + 1)])⟩
                  have no : Larder.between xa xa j = false → Hid (Cs w wr D ∧ IsP D false (fun c => S c || (decide (c < j + 1) && Larder.between xa xa c))) := fun hb => hide ⟨(unhide HD).1, (unhide HD).2.congr (fun c hc => by
                    by_cases e : c = j
                    · subst e; rw [hb]; simp
                    · by_cases e2 : c < j
                      · rw [decide_eq_true e2, decide_eq_true (by omega : c < j + 1)]
                      · rw [decide_eq_false e2, decide_eq_false (by omega : ¬ c < j + 1)])⟩
                  by_cases o1 : xa ≤ j
                  · have d1 : decide ((xa : Int) ≤ (j : Int)) = true := decide_eq_true (by omega)
                    by_cases o2 : j ≤ xa
                    · have d2 : decide ((j : Int) ≤ (xa : Int)) = true := decide_eq_true (by omega)
                      have hy := yes (decide_eq_true (.inl ⟨o1, o2⟩))
                      clear yes no
                      go_wp2
                      all_goals go_roundw
                      all_goals first | exact ⟨j + 1, _, by simp, by omega, hy⟩ | (simp only [intOf]; omega)
                    · have d2 : decide ((j : Int) ≤ (xa : Int)) = false := decide_eq_false (by omega)
                      have d3 : decide ((xa : Int) ≤ (j : Int)) = true := decide_eq_true (by omega)
                      by_cases o3 : j ≤ xa
                      · exact absurd o3 o2
                      · have d4 : decide ((j : Int) ≤ (xa : Int)) = false := decide_eq_false (by omega)
                        have hn := no (decide_eq_false (by omega))
                        clear yes no
                        go_wp2
                        all_goals go_roundw
                        all_goals first | exact ⟨j + 1, _, by simp, by omega, hn⟩ | (simp only [intOf]; omega)
                  · have d1 : decide ((xa : Int) ≤ (j : Int)) = false := decide_eq_false (by omega)
                    by_cases o2 : xa ≤ j
                    · exact absurd o2 o1
                    · have d3 : decide ((xa : Int) ≤ (j : Int)) = false := decide_eq_false (by omega)
                      have hn := no (decide_eq_false (by omega))
                      clear yes no
                      go_wp2
                      all_goals go_roundw
                      all_goals first | exact ⟨j + 1, _, by simp, by omega, hn⟩ | (simp only [intOf]; omega)
                · have hjj : j = 256 := by omega
                  subst hjj
                  rw [show ((256 : Nat) : Int) = 256 from rfl]
                  have dj : decide ((256 : Int) < 256) = false := decide_eq_false (by omega)
                  have hE : IsP D false (fun c => S c || Larder.between xa xa c) := (unhide HD).2.congr (fun c hc => by rw [decide_eq_true hc]; simp)
                  have HE := hide (And.intro (unhide HD).1 hE)
                  clear hE
                  go_wp2
                  all_goals go_roundw
                  all_goals first | exact ⟨k + n1, n, D, _, by omega, by omega, unhide HM, by simp, HE⟩ | (simp only [intOf]; omega)
      · obtain rfl : k = p.length := by omega
        have dk : decide ((p.length : Int) < (p.length : Int)) = false := decide_eq_false (by omega)
        rw [Larder.memsK_done p n p.length S (fun h => absurd h.1 (Nat.lt_irrefl _))] at hM
        subst hM
        clear hk hn
        go_wp2_with (first
          | (refine wpList_load91 rfl _ rfl (w.heap.size + 1) rfl C (unhide HC).1.2.1 (unhide HC).2.size ?_)
          | (refine wpList_store91 rfl _ _ rfl rfl w.heap.size C rfl rfl zp (unhide HC).1.1 (unhide HC).2.size zp_size (unhide HC).2.one ?_; intro w6 k6))
        all_goals refine bodyPost_ret (results_cell_tmp (p := 4) (q := 5) (ty := 128) rfl _ _ w.heap.size 128 C (0, 0) _ rfl (unhide k6).1 Try.underlying128 rfl (size91 (unhide HC).2.size) _ rfl) rfl ?_
        all_goals exact ⟨C, ret_piece (by simp), (unhide HC).2, (unhide k6).2.below (unhide HB) (Nat.le_refl _)⟩
end Go.Proofs.Ytjmnddcombepaaa
