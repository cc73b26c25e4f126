/- Fold: letters made capital. -/
import Derived.Test.YtidfbelckdlbhabLxa
import Derived.Test.YtidfbelckdlbhabCpE
namespace Larder
/-- a letter made capital -/
def up (c : Nat) : Nat := if 97 ≤ c ∧ c ≤ 122 then c - 32 else c
/-- the first k made capital -/
def upK (k : Nat) (l : List Nat) : List Nat := (l.take k).map up ++ l.drop k
theorem upK_len (k : Nat) (l : List Nat) : (upK k l).length = l.length := by unfold upK; simp; omega
theorem upK_zero (l : List Nat) : upK 0 l = l := by unfold upK; simp
theorem upK_all (k : Nat) (l : List Nat) (h : l.length ≤ k) : upK k l = l.map up := by unfold upK; rw [List.take_of_length_le h, List.drop_eq_nil_of_le h, List.append_nil]
theorem upK_at (k : Nat) (l : List Nat) (h : k < l.length) : (upK k l).getD k 0 = l.getD k 0 := by
  unfold upK
  rw [List.getD_eq_getElem?_getD, List.getD_eq_getElem?_getD, List.getElem?_append_right (by simp; omega)]
  simp [Nat.min_eq_left (Nat.le_of_lt h)]
theorem upK_next (k : Nat) (l : List Nat) (h : k < l.length) (i : Nat) (hi : i < l.length) : (upK (k + 1) l).getD i 0 = if i = k then up (l.getD k 0) else (upK k l).getD i 0 := by
  unfold upK
  simp only [List.getD_eq_getElem?_getD]
  rcases Nat.lt_trichotomy i k with q | q | q
  · rw [if_neg (by omega), List.getElem?_append_left (by simp; omega), List.getElem?_append_left (by simp; omega)]
    simp [q, show i < k + 1 by omega]
  · subst q
    rw [if_pos rfl, List.getElem?_append_left (by simp; omega)]
    simp [List.getElem?_eq_getElem hi]
  · rw [if_neg (by omega), List.getElem?_append_right (by simp; omega), List.getElem?_append_right (by simp; omega)]
    simp only [List.length_map, List.length_take, List.getElem?_drop]
    rw [Nat.min_eq_left (by omega), Nat.min_eq_left (by omega)]
    congr 2
    omega
end Larder
namespace Go.Proofs.Ytidfbelckdlbhab
open Go.ChangeShapes Go.WideShapes Go.ChangeAt Go.RowKit
set_option linter.unusedVariables false
set_option maxRecDepth 20000
set_option maxHeartbeats 1000000

/-- the bytes l lie in the block g, which may be written -/
def Rw (w : World) (g : Nat) (l : List Nat) : Prop := ∃ cur, w.heap[g]? = some (.cells cur 5 (0, 0)) ∧ ∀ i, i < l.length → cur[i]? = some (.int .u8 (l.getD i 0 : Nat))
theorem Rw.cell {w : World} {g : Nat} {l : List Nat} (h : Rw w g l) (i : Nat) (hi : i < l.length) : w.cell? ⟨g, i, none⟩ = some (.int .u8 (l.getD i 0 : Nat)) := by
  obtain ⟨cur, h1, h2⟩ := h
  rw [cell_of_row _ _ _ _ _ _ h1]
  exact h2 i hi
theorem Rw.free {w : World} {g : Nat} {l : List Nat} (h : Rw w g l) (i : Nat) : w.frozen? ⟨g, i, none⟩ = false := by
  obtain ⟨cur, h1, h2⟩ := h
  simp [World.frozen?, h1]
theorem Rw.lt {w : World} {g : Nat} {l : List Nat} (h : Rw w g l) : g < w.heap.size := by
  obtain ⟨cur, h1, h2⟩ := h
  exact (Array.getElem?_eq_some_iff.1 h1).1
theorem Rw.bytes {w : World} {g : Nat} {l : List Nat} (h : Rw w g l) : Bytes w (some ⟨g, 0, none⟩) l := .inr ⟨g, 0, rfl, h.lt, fun i hi => by rw [Nat.zero_add]; exact h.cell i hi⟩
theorem Rw.set {w : World} {g : Nat} {l l' : List Nat} (h : Rw w g l) (k : Nat) (hk : k < l.length) (c : Nat) (hl : l'.length = l.length) (hc : ∀ i, i < l.length → l'.getD i 0 = if i = k then c else l.getD i 0) : Rw (w.setCell ⟨g, k, none⟩ (.int .u8 (c : Nat))) g l' := by
  obtain ⟨cur, h1, h2⟩ := h
  have hks : k < cur.size := (Array.getElem?_eq_some_iff.1 (h2 k hk)).1
  refine ⟨_, heap_setCell_same w g k cur 5 _ h1, fun i hi => ?_⟩
  rw [hl] at hi
  rw [hc i hi, Array.getElem?_setIfInBounds]
  by_cases e : i = k
  · subst e
    simp [hks]
  · rw [if_neg (fun q => e q.symm), if_neg e]
    exact h2 i hi

theorem fold_any (a : Option Addr) (cap : Nat) (w : World) (l : List Nat) (hl : l.length ≤ 140737488355328) (hs : Small l) (hB : Bytes w a l) :
    Calls Try.prog 19 #[.slice a l.length cap] w fun e w' => e = .returned (.string (str (l.map Larder.up))) ∧ Below w.heap.size w w' := by
  have H1 := hide (clone_any a cap w l hl hB)
  clear hB
  obtain ⟨R, hRE⟩ : ∃ R, R = str (l.map Larder.up) := ⟨_, rfl⟩
  rw [← hRE]
  have HRE := hide hRE
  clear hRE
  go_enter Try.func19, Try.ntmps19
  go_wp2_with fail
  refine (unhide H1).mono ?_
  rintro e w1 ⟨v, rfl, hO, hb1⟩
  rcases hO.2 with ⟨rfl, h0⟩ | ⟨g, c1, cur, rfl, hg, hrow, hn, hm, hsz, htk⟩
  · have : l = [] := List.eq_nil_of_length_eq_zero h0
    subst this
    have hcv : (convert 28 9 (.slice none 0 0)).run Try.prog w1 = .ok (.string R) w1 := by rw [unhide HRE]; exact conv_any none 0 w1 [] (.inl rfl)
    have HB := hide hb1
    clear hO hb1 h0 H1
    have HCV : Hid ((convert 28 9 (.slice none 0 0)).run Try.prog w1 = .ok (.string R) w1) := hide hcv
    go_wp2_with fail
    go_loopw [4, 5, 10] (fun u4 u5 iv wr => iv = .int .i64 0 ∧ wr = w1) (fun _ _ _ _ => 0)
    case atStart => exact ⟨rfl, rfl⟩
    case round =>
      obtain ⟨rfl, rfl⟩ := hrel
      have hcv' := unhide HCV
      go_wp2
      go_ret
      exact ⟨rfl, unhide HB⟩
  · have hR : Rw w1 g (Larder.upK 0 l) := by
      rw [Larder.upK_zero]
      refine ⟨cur, hrow, fun i hi => ?_⟩
      have h3 := cellsOf_at l i hi
      rw [← htk, List.getElem?_take, if_pos (by omega)] at h3
      simpa using h3
    have HR := hide hR
    have HB := hide hb1
    have HS := hide hs
    have HG := hide hg
    clear hO hb1 hrow hsz htk hm H1 hR hg hs
    go_wp2_with fail
    go_loopw [4, 5, 10] (fun u4 u5 iv wr => ∃ i : Nat, iv = .int .i64 (i : Nat) ∧ i ≤ l.length ∧ Rw wr g (Larder.upK i l) ∧ Below w.heap.size w wr) (fun _ _ iv _ => l.length - (intOf iv).toNat)
    case atStart => exact ⟨0, rfl, Nat.zero_le _, unhide HR, unhide HB⟩
    case round =>
      obtain ⟨i, rfl, hi, hr, hb⟩ := hrel
      have HRR := hide hr
      have HBB := hide hb
      by_cases hin : i < l.length
      · have c0 := hr.cell i (by rw [Larder.upK_len]; exact hin)
        rw [Larder.upK_at i l hin] at c0
        have f0 := hr.free i
        have hc := unhide HS i hin
        have HNX := hide (Larder.upK_next i l hin)
        have HLN := hide (Larder.upK_len i l)
        have HLN2 := hide (Larder.upK_len (i + 1) l)
        clear hr hb
        generalize hcc : l.getD i 0 = c at *
        clear hcc
        by_cases h1 : 97 ≤ c ∧ c ≤ 122
        · obtain ⟨h1, h2⟩ := h1
          have e1 : decide ((97 : Int) ≤ (c : Int)) = true := decide_eq_true (by omega)
          have e2 : decide ((c : Int) ≤ 122) = true := decide_eq_true (by omega)
          have k1 : IntKind.u8.wrap ((c : Int) - 97) = ((c - 97 : Nat) : Int) := by rw [IntKind.wrap_u8]; omega
          have k2 : IntKind.u8.wrap (((c - 97 : Nat) : Int) + 65) = ((c - 32 : Nat) : Int) := by rw [IntKind.wrap_u8]; omega
          go_wp2
          go_roundw
          case rel =>
            refine ⟨i + 1, by simp, by omega, ?_, (unhide HBB).setCell (unhide HG) _⟩
            exact (unhide HRR).set i (by rw [unhide HLN]; exact hin) (c - 32) ((unhide HLN2).trans (unhide HLN).symm) (fun j hj => by rw [unhide HNX j (by rw [unhide HLN] at hj; exact hj)]; rw [show Larder.up c = c - 32 from if_pos ⟨h1, h2⟩])
          case measure => simp [intOf]; omega
        · have hsame : Larder.upK (i + 1) l = Larder.upK i l := by
            refine List.ext_getElem? (fun j => ?_)
            by_cases hj : j < l.length
            · have q := unhide HNX j hj
              have z1 : (Larder.upK (i + 1) l)[j]? = some ((Larder.upK (i + 1) l).getD j 0) := by rw [List.getD_eq_getElem?_getD, List.getElem?_eq_getElem (by rw [unhide HLN2]; exact hj)]; rfl
              have z2 : (Larder.upK i l)[j]? = some ((Larder.upK i l).getD j 0) := by rw [List.getD_eq_getElem?_getD, List.getElem?_eq_getElem (by rw [unhide HLN]; exact hj)]; rfl
              rw [z1, z2, q]
              by_cases e : j = i
              · subst e
                have q2 := (unhide HRR).cell j (by rw [unhide HLN]; exact hj)
                rw [c0] at q2
                have q3 : c = (Larder.upK j l).getD j 0 := by
                  have := Option.some.inj q2
                  injection this with _ q4
                  exact Int.ofNat.inj q4
                rw [if_pos rfl, ← q3]
                unfold Larder.up
                rw [if_neg h1]
              · rw [if_neg e]
            · rw [List.getElem?_eq_none (by rw [unhide HLN2]; omega), List.getElem?_eq_none (by rw [unhide HLN]; omega)]
          have HSM := hide hsame
          clear hsame
          by_cases h2 : 97 ≤ c
          · have e1 : decide ((97 : Int) ≤ (c : Int)) = true := decide_eq_true (by omega)
            have e2 : decide ((c : Int) ≤ 122) = false := decide_eq_false (by omega)
            go_wp2
            go_roundw
            case rel => exact ⟨i + 1, by simp, by omega, by rw [unhide HSM]; exact unhide HRR, unhide HBB⟩
            case measure => simp [intOf]; omega
          · have e1 : decide ((97 : Int) ≤ (c : Int)) = false := decide_eq_false (by omega)
            go_wp2
            go_roundw
            case rel => exact ⟨i + 1, by simp, by omega, by rw [unhide HSM]; exact unhide HRR, unhide HBB⟩
            case measure => simp [intOf]; omega
      · have f1 : decide ((i : Int) < (l.length : Int)) = false := decide_eq_false (by omega)
        have hcv : (convert 28 9 (.slice (some ⟨g, 0, none⟩) l.length c1)).run Try.prog wr = .ok (.string R) wr := by
          have q := conv_any (some ⟨g, 0, none⟩) c1 wr (Larder.upK i l) hr.bytes
          rw [Larder.upK_len, Larder.upK_all i l (by omega)] at q
          rw [unhide HRE]
          exact q
        clear hr hb
        go_wp2
        go_ret
        exact ⟨rfl, unhide HBB⟩
end Go.Proofs.Ytidfbelckdlbhab
