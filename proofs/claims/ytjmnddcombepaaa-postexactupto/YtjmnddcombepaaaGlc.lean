/- Glob, walked. -/
import Derived.Test.YtjmnddcombepaaaGlb
import Derived.Deep.RegionHeld3
import Derived.Deep.LoopGhost
import Derived.WalkMore
namespace Go.Proofs.Ytjmnddcombepaaa
open Go.ChangeShapes Go.WideShapes Go.ChangeAt Go.RowKit
set_option linter.unusedVariables false
set_option maxRecDepth 20000

/-- Glob has answered -/
def GlobEnd (l : List (Option (Nat → Bool))) (t : List Nat) (w : World) (e : Ending) (w' : World) : Prop := ∃ r : Bool, e = .returned (.bool r) ∧ (r = true ↔ Larder.Meets l t) ∧ Below w.heap.size w w'
/-- at the outer loop's head -/
def Outer (l : List (Option (Nat → Bool))) (t : List Nat) (b s : Nat) : Prop := Larder.Gst l t b s ∨ (b = 0 ∧ s = 1 ∧ ¬ Larder.Meets l t)
def meas (n m b s : Nat) : Nat := (n - b) * (m + 2) + (m + 1 - s)
theorem meas_lt {n m b s b' s' : Nat} (hb : b' ≤ n) (hs' : s' ≤ m) (h : (b' = b ∧ s' = s) ∨ b < b') : meas n m b' (s' + 1) < meas n m b s := by
  unfold meas
  rcases h with ⟨rfl, rfl⟩ | h
  · omega
  · have h1 : (n - b') + 1 ≤ n - b := by omega
    have h2 := Nat.mul_le_mul_right (m + 2) h1
    rw [Nat.add_mul] at h2
    omega
theorem Bytes.cell_lt {w : World} {a : Option Addr} {l : List Nat} (h : Bytes w a l) (i : Nat) (hi : i < l.length) : ∃ b off, a = some ⟨b, off, none⟩ ∧ b < w.heap.size ∧ w.cell? ⟨b, off + i, none⟩ = some (.int .u8 (l.getD i 0 : Nat)) := by
  obtain ⟨b, off, e, hb, hc⟩ := h.at (by omega)
  exact ⟨b, off, e, hb, hc i hi⟩

set_option maxHeartbeats 4000000 in
theorem glob_core (ap a2 : Option Addr) (cp ct : Nat) (w : World) (np : Nat) (t : List Nat) (l : List (Option (Nat → Bool))) (ht : t.length ≤ 140737488355328) (hll : l.length ≤ 1073741824) (hst : Small t) (hBt : Bytes w a2 t)
    (HP : Calls Try.prog 39 #[.slice ap np cp] w fun e w' => Below w.heap.size w w' ∧
      ((∃ v rs, e = .returned (.tuple #[v, .bool true]) ∧ RowIs rs l ∧ w'.ownsRow w.heap.size 90 5 v rs.length (rcells rs)) ∨
       (e = .returned (.tuple #[.slice none 0 0, .bool false]) ∧ ∃ f, some f ∈ l ∧ ∀ c, c < 256 → f c = false))) :
    Calls Try.prog 22 #[.slice ap np cp, .slice a2 t.length ct] w (GlobEnd l t w) := by
  have H1 := hide HP
  have HS := hide hst
  have HBt := hide hBt
  clear HP hst hBt
  go_enter Try.func22, Try.ntmps22
  go_wp2_with fail
  go_step3
  go_wp2_with fail
  refine (unhide H1).mono ?_
  rintro e w1 ⟨hb1, (⟨v, rs, rfl, hR, hO⟩ | ⟨rfl, f, hf, hfc⟩)⟩
  · obtain ⟨a, cap, rfl, hrow⟩ := row_at hR hO
    have hrl := hR.length
    have HRow := hide hrow
    have HR := hide hR
    have HB1 := hide hb1
    have HBt1 := hide ((unhide HBt).below hb1)
    rw [hrl]
    clear hrow hR hb1 hO
    go_wp2_with fail
    go_step3
    go_wp2_with fail
    go_loopg [7, 8] (meas l.length t.length 0 0) (fun g b s wr => ∃ (bb ss : Nat), b = .int .i64 bb ∧ s = .int .i64 ss ∧ g = meas l.length t.length bb ss ∧ Outer l t bb ss ∧ Below w1.heap.size w1 wr)
    case atStart => exact ⟨0, 0, rfl, rfl, rfl, .inl (Larder.Gst.start l t), Below.refl _ _⟩
    case round =>
      obtain ⟨b0, s0, rfl, rfl, hmeas, hOut, hbl⟩ := hrel
      have HM := hide hmeas
      clear hmeas
      rcases hOut with hG | ⟨rfl, rfl, hno⟩
      · have hb0 := hG.2.1
        have hs0 := hG.2.2.1
        have hz := hG.1
        have HG := hide hG
        have HBL := hide hbl
        clear hG hbl
        by_cases hs00 : s0 = 0
        · subst hs00
          go_wp2_with fail
          go_loopg [7, 8, 9, 10] (l.length - b0) (fun g x7 x8 x9 x10 wy => ∃ (b s p q : Nat), x7 = .int .i64 b ∧ x8 = .int .i64 s ∧ x9 = .int .i64 q ∧ x10 = .int .i64 p ∧ p + g = l.length ∧ Larder.Gst l t b s ∧ Larder.Runs l t b s p q ∧ ((b = b0 ∧ s = 0) ∨ b0 < b) ∧ Below w1.heap.size w1 wy)
          case atStart => exact ⟨b0, 0, b0, 0, rfl, rfl, rfl, rfl, by omega, unhide HG, Larder.Runs.start (unhide HG), .inl ⟨rfl, rfl⟩, unhide HBL⟩
          case round =>
            obtain ⟨b, s, p, q, rfl, rfl, rfl, rfl, hpg, hG, hRn, hbs, hbl⟩ := hrel
            have hb1 := hG.2.1
            have hs1 := hG.2.2.1
            have hq1 := hRn.2.2.2.1
            have HQ2 := hide hRn.2.2.1
            have hbp1 := hRn.1
            have hG1 := hG.1
            have HBY := hide hbl
            have HRN := hide hRn
            have HGG := hide hG
            clear hG hRn hbl HBL HG
            cases gk with
            | zero =>
              obtain rfl : p = l.length := by omega
              by_cases hqt : q = t.length
              · have hmeet : Larder.Meets l t := by rw [hqt] at HRN; exact Larder.Runs.whole (unhide HGG) (unhide HRN)
                have HME := hide hmeet
                clear hmeet
                subst hqt
                go_wp2
                try rw [Exit.noGoto_ret]
                go_ret
                exact ⟨true, rfl, ⟨fun _ => unhide HME, fun _ => rfl⟩, chain (unhide HB1) (unhide HBY) (Nat.le_refl _)⟩
              · have hrest := Larder.Runs.rest (unhide HGG) (unhide HRN) (by omega)
                have hsq : s ≤ q := by have := unhide HQ2; omega
                have HRE := hide hrest
                have hne : ((q : Int) == (t.length : Int)) = false := by rw [beq_eq_false_iff_ne]; omega
                clear hrest
                go_wp2
                go_roundg (meas l.length t.length b (s + 1))
                case measure => rw [unhide HM]; exact meas_lt hb1 hs1 hbs
                case rel =>
                  refine ⟨b, s + 1, rfl, by go_num, rfl, ?_, unhide HBY⟩
                  by_cases hb : b = 0
                  · have := hG1 hb
                    exact .inr ⟨hb, by omega, (unhide HRE).1 hb⟩
                  · exact .inl ((unhide HRE).2 (by omega))
            | succ g2 =>
              have hpl : p < l.length := by omega
              obtain ⟨pc, hpc⟩ : ∃ pc, l[p]? = some pc := ⟨_, List.getElem?_eq_getElem hpl⟩
              obtain ⟨r, hr, hPc⟩ := (unhide HR).get p pc hpc
              have hrs0 : rs ≠ [] := fun e => by rw [e] at hr; simp at hr
              obtain ⟨g, hga, hgl, hRA⟩ := (unhide HRow).resolve_left hrs0
              subst hga
              obtain ⟨c0, c1, c2, c3, c4⟩ := (hRA.below hgl (unhide HBY)) p r hr
              clear hRA
              obtain ⟨hr4, hcase⟩ := hPc
              obtain ⟨kd, xs⟩ := r
              rcases hcase with ⟨rfl, rfl⟩ | hcase
              · have hst := Larder.Runs.star (unhide HGG) (unhide HRN) hpc
                have HST := hide hst
                clear hst
                go_wp2
                go_roundg g2
                case measure => omega
                case rel => exact ⟨p + 1, q, p + 1, q, by go_num, rfl, rfl, by go_num, by omega, unhide HST, Larder.Runs.start (unhide HST), .inr (by omega), unhide HBY⟩
              · obtain ⟨f, hpf⟩ : ∃ f, pc = some f := by
                  rcases hcase with ⟨_, f, h, _⟩ | ⟨_, f, h, _⟩ <;> exact ⟨f, h⟩
                subst hpf
                have hk1 : ((kd : Int) == 1) = false := by rw [beq_eq_false_iff_ne]; omega
                by_cases hqt : q = t.length
                · have hsh := Larder.Runs.short (unhide HGG) (unhide HRN) hpc hqt
                  have HSH := hide hsh
                  clear hsh
                  subst hqt
                  go_wp2
                  try rw [Exit.noGoto_ret]
                  go_ret
                  exact ⟨false, rfl, ⟨fun h => absurd h (by decide), fun h => absurd h (unhide HSH)⟩, chain (unhide HB1) (unhide HBY) (Nat.le_refl _)⟩
                · have hql : q < t.length := by omega
                  have hne : ((q : Int) == (t.length : Int)) = false := by rw [beq_eq_false_iff_ne]; omega
                  obtain ⟨bt, ot, rfl, htl, ct1⟩ := (unhide HBt1).cell_lt q hql
                  have ct1 := ((unhide HBY).cell (p := ⟨bt, ot + q, none⟩) htl).trans ct1
                  have hd := unhide HS q hql
                  rcases hcase with ⟨rfl, f2, hf2, hall⟩ | ⟨rfl, f2, hf2, hI⟩
                  · cases hf2
                    have hone := Larder.Runs.one (unhide HRN) hpc hql (hall _ hd)
                    have HON := hide hone
                    clear hone hall
                    generalize t.getD q 0 = d at *
                    go_wp2_with fail
                    refine wp_region_noPanic ?_
                    go_region
                    all_goals refine NoPanic.normal ?_
                    all_goals
                      go_wp2
                      go_roundg g2
                      case measure => omega
                      case rel => exact ⟨b, s, p + 1, q + 1, rfl, rfl, by go_num, by go_num, by omega, unhide HGG, unhide HON, hbs, (unhide HBY).drew⟩
                  · cases hf2
                    obtain ⟨x0, x1, x2, x3, rfl⟩ := Larder.four hr4
                    have hm : Hid (f (t.getD q 0) = false → (b = 0 → ¬ Larder.Meets l t) ∧ (0 < b → Larder.Gst l t b (s + 1))) := hide (fun h => Larder.Runs.miss (unhide HGG) (unhide HRN) hpc hql h)
                    have hone : Hid (f (t.getD q 0) = true → Larder.Runs l t b s (p + 1) (q + 1)) := hide (fun h => Larder.Runs.one (unhide HRN) hpc hql h)
                    generalize t.getD q 0 = d at *
                    have c1 : wr.cell? ⟨g, p * 5 + 1, none⟩ = some (.int .u64 x0) := c1
                    have c2 : wr.cell? ⟨g, p * 5 + 2, none⟩ = some (.int .u64 x1) := c2
                    have c3 : wr.cell? ⟨g, p * 5 + 3, none⟩ = some (.int .u64 x2) := c3
                    have c4 : wr.cell? ⟨g, p * 5 + 4, none⟩ = some (.int .u64 x3) := c4
                    have c0 : wr.cell? ⟨g, p * 5, none⟩ = some (.int .i64 3) := c0
                    have hgy : g < wr.heap.size := Nat.lt_of_lt_of_le hgl (unhide HBY).size
                    have hty : bt < wr.heap.size := Nat.lt_of_lt_of_le htl (unhide HBY).size
                    have HH : Hid (Calls Try.prog 40 #[.agg #[.int .u64 x0, .int .u64 x1, .int .u64 x2, .int .u64 x3], .int .u8 d] wr.drew fun e w' => e = .returned (.bool (f d)) ∧ (w'.cell? ⟨g, p * 5, none⟩ = some (.int .i64 3) ∧ w'.cell? ⟨g, p * 5 + 1, none⟩ = some (.int .u64 x0) ∧ w'.cell? ⟨g, p * 5 + 2, none⟩ = some (.int .u64 x1) ∧ w'.cell? ⟨g, p * 5 + 3, none⟩ = some (.int .u64 x2) ∧ w'.cell? ⟨g, p * 5 + 4, none⟩ = some (.int .u64 x3) ∧ w'.cell? ⟨bt, ot + q, none⟩ = some (.int .u8 (d : Nat))) ∧ Below wr.drew.heap.size wr.drew w') := hide ((has_any [x0, x1, x2, x3] f hI d wr.drew hd).mono (fun e w' ⟨h1, h2⟩ => ⟨h1, ⟨(h2.cell (p := ⟨g, p * 5, none⟩) hgy).trans c0, (h2.cell (p := ⟨g, p * 5 + 1, none⟩) hgy).trans c1, (h2.cell (p := ⟨g, p * 5 + 2, none⟩) hgy).trans c2, (h2.cell (p := ⟨g, p * 5 + 3, none⟩) hgy).trans c3, (h2.cell (p := ⟨g, p * 5 + 4, none⟩) hgy).trans c4, (h2.cell (p := ⟨bt, ot + q, none⟩) hty).trans ct1⟩, h2⟩))
                    clear hI
                    cases hfd : f d with
                    | true =>
                      rw [hfd] at HH
                      go_wp2_with fail
                      go_region_held3 (fun w' => w'.cell? ⟨g, p * 5, none⟩ = some (.int .i64 3) ∧ w'.cell? ⟨g, p * 5 + 1, none⟩ = some (.int .u64 x0) ∧ w'.cell? ⟨g, p * 5 + 2, none⟩ = some (.int .u64 x1) ∧ w'.cell? ⟨g, p * 5 + 3, none⟩ = some (.int .u64 x2) ∧ w'.cell? ⟨g, p * 5 + 4, none⟩ = some (.int .u64 x3) ∧ w'.cell? ⟨bt, ot + q, none⟩ = some (.int .u8 (d : Nat))) (go_keep) (first | (go_at_call 40; refine (unhide HH).mono ?_; rintro e w2 ⟨rfl, ⟨k0, k1, k2, k3, k4, k5⟩, hb2⟩))
                      all_goals
                        go_wp2
                        go_roundg g2
                        case measure => omega
                        case rel => exact ⟨b, s, p + 1, q + 1, rfl, rfl, by go_num, by go_num, by omega, unhide HGG, unhide hone hfd, hbs, chain (unhide HBY).drew hb2 (Nat.le_refl _)⟩
                    | false =>
                      rw [hfd] at HH
                      have hmm := unhide hm hfd
                      have HMM := hide hmm
                      clear hmm
                      go_wp2_with fail
                      go_region_held3 (fun w' => w'.cell? ⟨g, p * 5, none⟩ = some (.int .i64 3) ∧ w'.cell? ⟨g, p * 5 + 1, none⟩ = some (.int .u64 x0) ∧ w'.cell? ⟨g, p * 5 + 2, none⟩ = some (.int .u64 x1) ∧ w'.cell? ⟨g, p * 5 + 3, none⟩ = some (.int .u64 x2) ∧ w'.cell? ⟨g, p * 5 + 4, none⟩ = some (.int .u64 x3) ∧ w'.cell? ⟨bt, ot + q, none⟩ = some (.int .u8 (d : Nat))) (go_keep) (first | (go_at_call 40; refine (unhide HH).mono ?_; rintro e w2 ⟨rfl, ⟨k0, k1, k2, k3, k4, k5⟩, hb2⟩))
                      all_goals
                        have HBY := hide (chain (unhide HBY).drew hb2 (Nat.le_refl _))
                        clear hb2
                        go_wp2
                        go_roundg (meas l.length t.length b (s + 1))
                        case measure => rw [unhide HM]; exact meas_lt hb1 hs1 hbs
                        case rel =>
                          refine ⟨b, s + 1, rfl, by go_num, rfl, ?_, unhide HBY⟩
                          by_cases hb : b = 0
                          · have := hG1 hb
                            exact .inr ⟨hb, by omega, (unhide HMM).1 hb⟩
                          · exact .inl ((unhide HMM).2 (by omega))
        · have hsp : ((s0 : Int) == 0) = false := by rw [beq_eq_false_iff_ne]; omega
          have hbp : (0 : Int) < (b0 : Int) := by
            by_cases h : b0 = 0
            · have := hz h; omega
            · omega
          have hbn : decide (0 < b0) = true := decide_eq_true (by omega)
          go_wp2_with fail
          go_loopg [7, 8, 9, 10] (l.length - b0) (fun g x7 x8 x9 x10 wy => ∃ (b s p q : Nat), x7 = .int .i64 b ∧ x8 = .int .i64 s ∧ x9 = .int .i64 q ∧ x10 = .int .i64 p ∧ p + g = l.length ∧ Larder.Gst l t b s ∧ Larder.Runs l t b s p q ∧ ((b = b0 ∧ s = s0) ∨ b0 < b) ∧ Below w1.heap.size w1 wy)
          case atStart => exact ⟨b0, s0, b0, s0, rfl, rfl, rfl, rfl, by omega, unhide HG, Larder.Runs.start (unhide HG), .inl ⟨rfl, rfl⟩, unhide HBL⟩
          case round =>
            obtain ⟨b, s, p, q, rfl, rfl, rfl, rfl, hpg, hG, hRn, hbs, hbl⟩ := hrel
            have hb1 := hG.2.1
            have hs1 := hG.2.2.1
            have hq1 := hRn.2.2.2.1
            have HQ2 := hide hRn.2.2.1
            have hbp1 := hRn.1
            have hG1 := hG.1
            have HBY := hide hbl
            have HRN := hide hRn
            have HGG := hide hG
            clear hG hRn hbl HBL HG
            cases gk with
            | zero =>
              obtain rfl : p = l.length := by omega
              by_cases hqt : q = t.length
              · have hmeet : Larder.Meets l t := by rw [hqt] at HRN; exact Larder.Runs.whole (unhide HGG) (unhide HRN)
                have HME := hide hmeet
                clear hmeet
                subst hqt
                go_wp2
                try rw [Exit.noGoto_ret]
                go_ret
                exact ⟨true, rfl, ⟨fun _ => unhide HME, fun _ => rfl⟩, chain (unhide HB1) (unhide HBY) (Nat.le_refl _)⟩
              · have hrest := Larder.Runs.rest (unhide HGG) (unhide HRN) (by omega)
                have hsq : s ≤ q := by have := unhide HQ2; omega
                have HRE := hide hrest
                have hne : ((q : Int) == (t.length : Int)) = false := by rw [beq_eq_false_iff_ne]; omega
                clear hrest
                go_wp2
                go_roundg (meas l.length t.length b (s + 1))
                case measure => rw [unhide HM]; exact meas_lt hb1 hs1 hbs
                case rel =>
                  refine ⟨b, s + 1, rfl, by go_num, rfl, ?_, unhide HBY⟩
                  by_cases hb : b = 0
                  · have := hG1 hb
                    exact .inr ⟨hb, by omega, (unhide HRE).1 hb⟩
                  · exact .inl ((unhide HRE).2 (by omega))
            | succ g2 =>
              have hpl : p < l.length := by omega
              obtain ⟨pc, hpc⟩ : ∃ pc, l[p]? = some pc := ⟨_, List.getElem?_eq_getElem hpl⟩
              obtain ⟨r, hr, hPc⟩ := (unhide HR).get p pc hpc
              have hrs0 : rs ≠ [] := fun e => by rw [e] at hr; simp at hr
              obtain ⟨g, hga, hgl, hRA⟩ := (unhide HRow).resolve_left hrs0
              subst hga
              obtain ⟨c0, c1, c2, c3, c4⟩ := (hRA.below hgl (unhide HBY)) p r hr
              clear hRA
              obtain ⟨hr4, hcase⟩ := hPc
              obtain ⟨kd, xs⟩ := r
              rcases hcase with ⟨rfl, rfl⟩ | hcase
              · have hst := Larder.Runs.star (unhide HGG) (unhide HRN) hpc
                have HST := hide hst
                clear hst
                go_wp2
                go_roundg g2
                case measure => omega
                case rel => exact ⟨p + 1, q, p + 1, q, by go_num, rfl, rfl, by go_num, by omega, unhide HST, Larder.Runs.start (unhide HST), .inr (by omega), unhide HBY⟩
              · obtain ⟨f, hpf⟩ : ∃ f, pc = some f := by
                  rcases hcase with ⟨_, f, h, _⟩ | ⟨_, f, h, _⟩ <;> exact ⟨f, h⟩
                subst hpf
                have hk1 : ((kd : Int) == 1) = false := by rw [beq_eq_false_iff_ne]; omega
                by_cases hqt : q = t.length
                · have hsh := Larder.Runs.short (unhide HGG) (unhide HRN) hpc hqt
                  have HSH := hide hsh
                  clear hsh
                  subst hqt
                  go_wp2
                  try rw [Exit.noGoto_ret]
                  go_ret
                  exact ⟨false, rfl, ⟨fun h => absurd h (by decide), fun h => absurd h (unhide HSH)⟩, chain (unhide HB1) (unhide HBY) (Nat.le_refl _)⟩
                · have hql : q < t.length := by omega
                  have hne : ((q : Int) == (t.length : Int)) = false := by rw [beq_eq_false_iff_ne]; omega
                  obtain ⟨bt, ot, rfl, htl, ct1⟩ := (unhide HBt1).cell_lt q hql
                  have ct1 := ((unhide HBY).cell (p := ⟨bt, ot + q, none⟩) htl).trans ct1
                  have hd := unhide HS q hql
                  rcases hcase with ⟨rfl, f2, hf2, hall⟩ | ⟨rfl, f2, hf2, hI⟩
                  · cases hf2
                    have hone := Larder.Runs.one (unhide HRN) hpc hql (hall _ hd)
                    have HON := hide hone
                    clear hone hall
                    generalize t.getD q 0 = d at *
                    go_wp2_with fail
                    refine wp_region_noPanic ?_
                    go_region
                    all_goals refine NoPanic.normal ?_
                    all_goals
                      go_wp2
                      go_roundg g2
                      case measure => omega
                      case rel => exact ⟨b, s, p + 1, q + 1, rfl, rfl, by go_num, by go_num, by omega, unhide HGG, unhide HON, hbs, (unhide HBY).drew⟩
                  · cases hf2
                    obtain ⟨x0, x1, x2, x3, rfl⟩ := Larder.four hr4
                    have hm : Hid (f (t.getD q 0) = false → (b = 0 → ¬ Larder.Meets l t) ∧ (0 < b → Larder.Gst l t b (s + 1))) := hide (fun h => Larder.Runs.miss (unhide HGG) (unhide HRN) hpc hql h)
                    have hone : Hid (f (t.getD q 0) = true → Larder.Runs l t b s (p + 1) (q + 1)) := hide (fun h => Larder.Runs.one (unhide HRN) hpc hql h)
                    generalize t.getD q 0 = d at *
                    have c1 : wr.cell? ⟨g, p * 5 + 1, none⟩ = some (.int .u64 x0) := c1
                    have c2 : wr.cell? ⟨g, p * 5 + 2, none⟩ = some (.int .u64 x1) := c2
                    have c3 : wr.cell? ⟨g, p * 5 + 3, none⟩ = some (.int .u64 x2) := c3
                    have c4 : wr.cell? ⟨g, p * 5 + 4, none⟩ = some (.int .u64 x3) := c4
                    have c0 : wr.cell? ⟨g, p * 5, none⟩ = some (.int .i64 3) := c0
                    have hgy : g < wr.heap.size := Nat.lt_of_lt_of_le hgl (unhide HBY).size
                    have hty : bt < wr.heap.size := Nat.lt_of_lt_of_le htl (unhide HBY).size
                    have HH : Hid (Calls Try.prog 40 #[.agg #[.int .u64 x0, .int .u64 x1, .int .u64 x2, .int .u64 x3], .int .u8 d] wr.drew fun e w' => e = .returned (.bool (f d)) ∧ (w'.cell? ⟨g, p * 5, none⟩ = some (.int .i64 3) ∧ w'.cell? ⟨g, p * 5 + 1, none⟩ = some (.int .u64 x0) ∧ w'.cell? ⟨g, p * 5 + 2, none⟩ = some (.int .u64 x1) ∧ w'.cell? ⟨g, p * 5 + 3, none⟩ = some (.int .u64 x2) ∧ w'.cell? ⟨g, p * 5 + 4, none⟩ = some (.int .u64 x3) ∧ w'.cell? ⟨bt, ot + q, none⟩ = some (.int .u8 (d : Nat))) ∧ Below wr.drew.heap.size wr.drew w') := hide ((has_any [x0, x1, x2, x3] f hI d wr.drew hd).mono (fun e w' ⟨h1, h2⟩ => ⟨h1, ⟨(h2.cell (p := ⟨g, p * 5, none⟩) hgy).trans c0, (h2.cell (p := ⟨g, p * 5 + 1, none⟩) hgy).trans c1, (h2.cell (p := ⟨g, p * 5 + 2, none⟩) hgy).trans c2, (h2.cell (p := ⟨g, p * 5 + 3, none⟩) hgy).trans c3, (h2.cell (p := ⟨g, p * 5 + 4, none⟩) hgy).trans c4, (h2.cell (p := ⟨bt, ot + q, none⟩) hty).trans ct1⟩, h2⟩))
                    clear hI
                    cases hfd : f d with
                    | true =>
                      rw [hfd] at HH
                      go_wp2_with fail
                      go_region_held3 (fun w' => w'.cell? ⟨g, p * 5, none⟩ = some (.int .i64 3) ∧ w'.cell? ⟨g, p * 5 + 1, none⟩ = some (.int .u64 x0) ∧ w'.cell? ⟨g, p * 5 + 2, none⟩ = some (.int .u64 x1) ∧ w'.cell? ⟨g, p * 5 + 3, none⟩ = some (.int .u64 x2) ∧ w'.cell? ⟨g, p * 5 + 4, none⟩ = some (.int .u64 x3) ∧ w'.cell? ⟨bt, ot + q, none⟩ = some (.int .u8 (d : Nat))) (go_keep) (first | (go_at_call 40; refine (unhide HH).mono ?_; rintro e w2 ⟨rfl, ⟨k0, k1, k2, k3, k4, k5⟩, hb2⟩))
                      all_goals
                        go_wp2
                        go_roundg g2
                        case measure => omega
                        case rel => exact ⟨b, s, p + 1, q + 1, rfl, rfl, by go_num, by go_num, by omega, unhide HGG, unhide hone hfd, hbs, chain (unhide HBY).drew hb2 (Nat.le_refl _)⟩
                    | false =>
                      rw [hfd] at HH
                      have hmm := unhide hm hfd
                      have HMM := hide hmm
                      clear hmm
                      go_wp2_with fail
                      go_region_held3 (fun w' => w'.cell? ⟨g, p * 5, none⟩ = some (.int .i64 3) ∧ w'.cell? ⟨g, p * 5 + 1, none⟩ = some (.int .u64 x0) ∧ w'.cell? ⟨g, p * 5 + 2, none⟩ = some (.int .u64 x1) ∧ w'.cell? ⟨g, p * 5 + 3, none⟩ = some (.int .u64 x2) ∧ w'.cell? ⟨g, p * 5 + 4, none⟩ = some (.int .u64 x3) ∧ w'.cell? ⟨bt, ot + q, none⟩ = some (.int .u8 (d : Nat))) (go_keep) (first | (go_at_call 40; refine (unhide HH).mono ?_; rintro e w2 ⟨rfl, ⟨k0, k1, k2, k3, k4, k5⟩, hb2⟩))
                      all_goals
                        have HBY := hide (chain (unhide HBY).drew hb2 (Nat.le_refl _))
                        clear hb2
                        go_wp2
                        go_roundg (meas l.length t.length b (s + 1))
                        case measure => rw [unhide HM]; exact meas_lt hb1 hs1 hbs
                        case rel =>
                          refine ⟨b, s + 1, rfl, by go_num, rfl, ?_, unhide HBY⟩
                          by_cases hb : b = 0
                          · have := hG1 hb
                            exact .inr ⟨hb, by omega, (unhide HMM).1 hb⟩
                          · exact .inl ((unhide HMM).2 (by omega))
      · have HNO := hide hno
        have HBL := hide hbl
        clear hno hbl
        go_wp2
        try rw [Exit.noGoto_ret]
        go_ret
        exact ⟨false, rfl, ⟨fun h => absurd h (by decide), fun h => absurd h (unhide HNO)⟩, chain (unhide HB1) (unhide HBL) (Nat.le_refl _)⟩
  · have HF : Hid (¬ Larder.Meets l t) := hide (Larder.none_fits l t f hf (fun c hc => by
      obtain ⟨i, hi, rfl⟩ := List.mem_iff_getElem.1 hc
      have := unhide HS i hi
      rw [List.getD_eq_getElem?_getD, List.getElem?_eq_getElem hi] at this
      exact hfc _ this))
    clear hf hfc
    go_wp2
    try rw [Exit.noGoto_ret]
    go_ret
    exact ⟨false, rfl, ⟨fun h => absurd h (by decide), fun h => absurd h (unhide HF)⟩, hb1⟩

theorem glob_any (ap a2 : Option Addr) (cp ct : Nat) (w : World) (p t : List Nat) (hp : p.length ≤ 1073741824) (ht : t.length ≤ 140737488355328) (hsp : Small p) (hst : Small t) (hBp : Bytes w ap p) (hBt : Bytes w a2 t) :
    Calls Try.prog 22 #[.slice ap p.length cp, .slice a2 t.length ct] w (GlobEnd (Larder.parse p) t w) :=
  glob_core ap a2 cp ct w p.length t (Larder.parse p) ht (Nat.le_trans (Larder.parseK_length p p.length 0) hp) hst hBt (pieces_all ap cp w p hp hsp hBp)
end Go.Proofs.Ytjmnddcombepaaa
