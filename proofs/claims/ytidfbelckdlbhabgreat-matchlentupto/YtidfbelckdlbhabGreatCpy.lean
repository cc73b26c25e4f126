/- the document's Fill. -/
import Derived.Test.YtidfbelckdlbhabGreatLxa
import Derived.Test.YtidfbelckdlbhabGreatCpE
import Derived.Laws.IdiomCopy
namespace Larder
/-- a letter made capital -/
def up (c : Nat) : Nat := if 97 ≤ c ∧ c ≤ 122 then c - 32 else c
/-- the first k made capital -/
def upK (k : Nat) (l : List Nat) : List Nat := (l.take k).map up ++ l.drop k
theorem upK_len (k : Nat) (l : List Nat) : (upK k l).length = l.length := by unfold upK; simp; omega
theorem upK_zero (l : List Nat) : upK 0 l = l := by unfold upK; simp
theorem upK_all (k : Nat) (l : List Nat) (h : l.length ≤ k) : upK k l = l.map up := by unfold upK; rw [List.take_of_length_le h, List.drop_eq_nil_of_le h, List.append_nil]
theorem upK_at (k : Nat) (l : List Nat) (h : k < l.length) : (upK k l).getD k 0 = l.getD k 0 := by
  unfold upK
  rw [List.getD_eq_getElem?_getD, List.getD_eq_getElem?_getD, List.getElem?_append_right (by simp; omega)]
  simp [Nat.min_eq_left (Nat.le_of_lt h)]
theorem upK_next (k : Nat) (l : List Nat) (h : k < l.length) (i : Nat) (hi : i < l.length) : (upK (k + 1) l).getD i 0 = if i = k then up (l.getD k 0) else (upK k l).getD i 0 := by
  unfold upK
  simp only [List.getD_eq_getElem?_getD]
  rcases Nat.lt_trichotomy i k with q | q | q
  · rw [if_neg (by omega), List.getElem?_append_left (by simp; omega), List.getElem?_append_left (by simp; omega)]
    simp [q, show i < k + 1 by omega]
  · subst q
    rw [if_pos rfl, List.getElem?_append_left (by simp; omega)]
    simp [List.getElem?_eq_getElem hi]
  · rw [if_neg (by omega), List.getElem?_append_right (by simp; omega), List.getElem?_append_right (by simp; omega)]
    simp only [List.length_map, List.length_take, List.getElem?_drop]
    rw [Nat.min_eq_left (by omega), Nat.min_eq_left (by omega)]
    congr 2
    omega
end Larder
namespace Go.Proofs.YtidfbelckdlbhabGreat
open Go.ChangeShapes Go.WideShapes Go.ChangeAt Go.RowKit
set_option linter.unusedVariables false
set_option maxRecDepth 20000
set_option maxHeartbeats 1000000

/-- the bytes l lie in the block g, which may be written -/
def Rw (w : World) (g : Nat) (l : List Nat) : Prop := ∃ cur, w.heap[g]? = some (.cells cur 5 (0, 0)) ∧ ∀ i, i < l.length → cur[i]? = some (.int .u8 (l.getD i 0 : Nat))
theorem Rw.cell {w : World} {g : Nat} {l : List Nat} (h : Rw w g l) (i : Nat) (hi : i < l.length) : w.cell? ⟨g, i, none⟩ = some (.int .u8 (l.getD i 0 : Nat)) := by
  obtain ⟨cur, h1, h2⟩ := h
  rw [cell_of_row _ _ _ _ _ _ h1]
  exact h2 i hi
theorem Rw.free {w : World} {g : Nat} {l : List Nat} (h : Rw w g l) (i : Nat) : w.frozen? ⟨g, i, none⟩ = false := by
  obtain ⟨cur, h1, h2⟩ := h
  simp [World.frozen?, h1]
theorem Rw.lt {w : World} {g : Nat} {l : List Nat} (h : Rw w g l) : g < w.heap.size := by
  obtain ⟨cur, h1, h2⟩ := h
  exact (Array.getElem?_eq_some_iff.1 h1).1
theorem Rw.bytes {w : World} {g : Nat} {l : List Nat} (h : Rw w g l) : Bytes w (some ⟨g, 0, none⟩) l := .inr ⟨g, 0, rfl, h.lt, fun i hi => by rw [Nat.zero_add]; exact h.cell i hi⟩
theorem Rw.set {w : World} {g : Nat} {l l' : List Nat} (h : Rw w g l) (k : Nat) (hk : k < l.length) (c : Nat) (hl : l'.length = l.length) (hc : ∀ i, i < l.length → l'.getD i 0 = if i = k then c else l.getD i 0) : Rw (w.setCell ⟨g, k, none⟩ (.int .u8 (c : Nat))) g l' := by
  obtain ⟨cur, h1, h2⟩ := h
  have hks : k < cur.size := (Array.getElem?_eq_some_iff.1 (h2 k hk)).1
  refine ⟨_, heap_setCell_same w g k cur 5 _ h1, fun i hi => ?_⟩
  rw [hl] at hi
  rw [hc i hi, Array.getElem?_setIfInBounds]
  by_cases e : i = k
  · subst e
    simp [hks]
  · rw [if_neg (fun q => e q.symm), if_neg e]
    exact h2 i hi

theorem fold_any (a : Option Addr) (cap : Nat) (w : World) (l : List Nat) (hl : l.length ≤ 140737488355328) (hs : Small l) (hB : Bytes w a l) :
    Calls Tryz.prog 14 #[.slice a l.length cap] w fun e w' => e = .returned (.string (str (l.map Larder.up))) ∧ Below w.heap.size w w' := by
  have H1 := hide (clone_any a cap w l hl hB)
  clear hB
  obtain ⟨R, hRE⟩ : ∃ R, R = str (l.map Larder.up) := ⟨_, rfl⟩
  rw [← hRE]
  have HRE := hide hRE
  clear hRE
  go_enter Tryz.func14, Tryz.ntmps14
  go_wp2_with fail
  refine (unhide H1).mono ?_
  rintro e w1 ⟨v, rfl, hO, hb1⟩
  rcases hO.2 with ⟨rfl, h0⟩ | ⟨g, c1, cur, rfl, hg, hrow, hn, hm, hsz, htk⟩
  · have : l = [] := List.eq_nil_of_length_eq_zero h0
    subst this
    have hcv : (convert 34 9 (.slice none 0 0)).run Tryz.prog w1 = .ok (.string R) w1 := by rw [unhide HRE]; exact conv_any none 0 w1 [] (.inl rfl)
    have HB := hide hb1
    clear hO hb1 h0 H1
    have HCV : Hid ((convert 34 9 (.slice none 0 0)).run Tryz.prog w1 = .ok (.string R) w1) := hide hcv
    go_wp2_with fail
    go_loopw [4, 5, 10] (fun u4 u5 iv wr => iv = .int .i64 0 ∧ wr = w1) (fun _ _ _ _ => 0)
    case atStart => exact ⟨rfl, rfl⟩
    case round =>
      obtain ⟨rfl, rfl⟩ := hrel
      have hcv' := unhide HCV
      go_wp2
      go_ret
      exact ⟨rfl, unhide HB⟩
  · have hR : Rw w1 g (Larder.upK 0 l) := by
      rw [Larder.upK_zero]
      refine ⟨cur, hrow, fun i hi => ?_⟩
      have h3 := cellsOf_at l i hi
      rw [← htk, List.getElem?_take, if_pos (by omega)] at h3
      simpa using h3
    have HR := hide hR
    have HB := hide hb1
    have HS := hide hs
    have HG := hide hg
    clear hO hb1 hrow hsz htk hm H1 hR hg hs
    go_wp2_with fail
    go_loopw [4, 5, 10] (fun u4 u5 iv wr => ∃ i : Nat, iv = .int .i64 (i : Nat) ∧ i ≤ l.length ∧ Rw wr g (Larder.upK i l) ∧ Below w.heap.size w wr) (fun _ _ iv _ => l.length - (intOf iv).toNat)
    case atStart => exact ⟨0, rfl, Nat.zero_le _, unhide HR, unhide HB⟩
    case round =>
      obtain ⟨i, rfl, hi, hr, hb⟩ := hrel
      have HRR := hide hr
      have HBB := hide hb
      by_cases hin : i < l.length
      · have c0 := hr.cell i (by rw [Larder.upK_len]; exact hin)
        rw [Larder.upK_at i l hin] at c0
        have f0 := hr.free i
        have hc := unhide HS i hin
        have HNX := hide (Larder.upK_next i l hin)
        have HLN := hide (Larder.upK_len i l)
        have HLN2 := hide (Larder.upK_len (i + 1) l)
        clear hr hb
        generalize hcc : l.getD i 0 = c at *
        clear hcc
        by_cases h1 : 97 ≤ c ∧ c ≤ 122
        · obtain ⟨h1, h2⟩ := h1
          have e1 : decide ((97 : Int) ≤ (c : Int)) = true := decide_eq_true (by omega)
          have e2 : decide ((c : Int) ≤ 122) = true := decide_eq_true (by omega)
          have k1 : IntKind.u8.wrap ((c : Int) - 97) = ((c - 97 : Nat) : Int) := by rw [IntKind.wrap_u8]; omega
          have k2 : IntKind.u8.wrap (((c - 97 : Nat) : Int) + 65) = ((c - 32 : Nat) : Int) := by rw [IntKind.wrap_u8]; omega
          go_wp2
          go_roundw
          case rel =>
            refine ⟨i + 1, by simp, by omega, ?_, (unhide HBB).setCell (unhide HG) _⟩
            exact (unhide HRR).set i (by rw [unhide HLN]; exact hin) (c - 32) ((unhide HLN2).trans (unhide HLN).symm) (fun j hj => by rw [unhide HNX j (by rw [unhide HLN] at hj; exact hj)]; rw [show Larder.up c = c - 32 from if_pos ⟨h1, h2⟩])
          case measure => simp [intOf]; omega
        · have hsame : Larder.upK (i + 1) l = Larder.upK i l := by
            refine List.ext_getElem? (fun j => ?_)
            by_cases hj : j < l.length
            · have q := unhide HNX j hj
              have z1 : (Larder.upK (i + 1) l)[j]? = some ((Larder.upK (i + 1) l).getD j 0) := by rw [List.getD_eq_getElem?_getD, List.getElem?_eq_getElem (by rw [unhide HLN2]; exact hj)]; rfl
              have z2 : (Larder.upK i l)[j]? = some ((Larder.upK i l).getD j 0) := by rw [List.getD_eq_getElem?_getD, List.getElem?_eq_getElem (by rw [unhide HLN]; exact hj)]; rfl
              rw [z1, z2, q]
              by_cases e : j = i
              · subst e
                have q2 := (unhide HRR).cell j (by rw [unhide HLN]; exact hj)
                rw [c0] at q2
                have q3 : c = (Larder.upK j l).getD j 0 := by
                  have := Option.some.inj q2
                  injection this with _ q4
                  exact Int.ofNat.inj q4
                rw [if_pos rfl, ← q3]
                unfold Larder.up
                rw [if_neg h1]
              · rw [if_neg e]
            · rw [List.getElem?_eq_none (by rw [unhide HLN2]; omega), List.getElem?_eq_none (by rw [unhide HLN]; omega)]
          have HSM := hide hsame
          clear hsame
          by_cases h2 : 97 ≤ c
          · have e1 : decide ((97 : Int) ≤ (c : Int)) = true := decide_eq_true (by omega)
            have e2 : decide ((c : Int) ≤ 122) = false := decide_eq_false (by omega)
            go_wp2
            go_roundw
            case rel => exact ⟨i + 1, by simp, by omega, by rw [unhide HSM]; exact unhide HRR, unhide HBB⟩
            case measure => simp [intOf]; omega
          · have e1 : decide ((97 : Int) ≤ (c : Int)) = false := decide_eq_false (by omega)
            go_wp2
            go_roundw
            case rel => exact ⟨i + 1, by simp, by omega, by rw [unhide HSM]; exact unhide HRR, unhide HBB⟩
            case measure => simp [intOf]; omega
      · have f1 : decide ((i : Int) < (l.length : Int)) = false := decide_eq_false (by omega)
        have hcv : (convert 34 9 (.slice (some ⟨g, 0, none⟩) l.length c1)).run Tryz.prog wr = .ok (.string R) wr := by
          have q := conv_any (some ⟨g, 0, none⟩) c1 wr (Larder.upK i l) hr.bytes
          rw [Larder.upK_len, Larder.upK_all i l (by omega)] at q
          rw [unhide HRE]
          exact q
        clear hr hb
        go_wp2
        go_ret
        exact ⟨rfl, unhide HBB⟩
end Go.Proofs.YtidfbelckdlbhabGreat
namespace Go.Proofs.YtidfbelckdlbhabGreat
open Go.ChangeShapes Go.WideShapes Go.ChangeAt Go.RowKit
set_option linter.unusedVariables false
set_option maxRecDepth 20000
set_option maxHeartbeats 1000000

theorem copy1_some {w : World} {x : Addr} {cap : Nat} (l : List Nat) (hl : l.length ≤ 140737488355328) (hB : Bytes w (some x) l) :
    Calls Tryz.prog 32 #[.slice (some x) l.length cap] w fun e w' => e = .returned (.slice (some ⟨w.heap.size, 0, none⟩) l.length l.length) ∧ Rw w' w.heap.size l ∧ Below w.heap.size w w' := by
  obtain ⟨n, hn⟩ : ∃ n, n = l.length := ⟨_, rfl⟩
  have m1 := fun w' => run_make_row' (P := Tryz.prog) 34 5 (.int .u8 0) 1 Tryz.underlying34 Tryz.info5 rfl .i64 .i64 n (by omega) (by omega) w'
  have HB := hide ((Below.refl w.heap.size w).alloc (Nat.le_refl _) (.cells (madeCells #[.int .u8 0] n) 5))
  have HG := hide (heap_alloc_new w (.cells (madeCells #[.int .u8 0] n) 5))
  have HW : Hid (∀ j v, ((List.range n).map fun k => Value.int .u8 (l.getD k 0 : Nat))[j]? = some v → (w.alloc (.cells (madeCells #[.int .u8 0] n) 5)).cell? (x.add j) = some v) := hide (fun j v hj => by
    have hjl : j < n := by
      have := (List.getElem?_eq_some_iff.1 hj).1
      simpa using this
    rw [List.getElem?_map, List.getElem?_range hjl] at hj
    rcases hB with h | ⟨b, off, h, hb, hc⟩
    · subst h; simp at hn; omega
    · cases h
      have e : (⟨b, off, none⟩ : Addr).add j = ⟨b, off + j, none⟩ := by unfold Addr.add; split <;> simp_all
      rw [e, (unhide HB).cell (p := ⟨b, off + j, none⟩) hb, hc j (by omega)]
      exact hj)
  obtain ⟨i0, hi, hy0, hy1, hy2⟩ := info_parts Tryz.info5
  have hcopy : ∃ w2, (Builtin.copy_ #[34, 34] 3 #[.slice (some ⟨w.heap.size, 0, none⟩) n n, .slice (some x) n cap]).run Tryz.prog (w.alloc (.cells (madeCells #[.int .u8 0] n) 5)) = .ok (goInt n) w2 ∧ Hid (Rw w2 w.heap.size l) ∧ Below w.heap.size w w2 ∧ w2.heap.size = w.heap.size + 1 := by
    obtain ⟨cs, hcs⟩ : ∃ cs, cs = (List.range n).map fun k => Value.int .u8 (l.getD k 0 : Nat) := ⟨_, rfl⟩
    have hlen : cs.length = n := by rw [hcs]; simp
    rw [← hcs] at HW
    have hcp := run_copy_row (P := Tryz.prog) (w.alloc (.cells (madeCells #[.int .u8 0] n) 5)) 34 34 3 5 w.heap.size 0 n n x n cap (madeCells #[.int .u8 0] n) 5 cs Tryz.underlying34 (by rw [hi]; simp [hy1]) (unhide HG) (by rw [hlen]; show n = min _ _; omega) (unhide HW) (by rw [hlen]; simp [madeCells]) (fun v hv => by rw [hcs] at hv; obtain ⟨k, _, rfl⟩ := List.mem_map.1 hv; rfl)
    rw [hlen] at hcp
    have hrow := setRow_heap (w.alloc (.cells (madeCells #[.int .u8 0] n) 5)) w.heap.size _ ((madeCells #[.int .u8 0] n).toList.take 0 ++ cs ++ (madeCells #[.int .u8 0] n).toList.drop (0 + n)).toArray 5 (0, 0) (unhide HG)
    refine ⟨_, hcp, hide ⟨_, hrow, fun j hj => ?_⟩, below_setRow (unhide HB) (Nat.le_refl _) _, by simp [World.setRow]⟩
    have hj' : j < n := by omega
    rw [List.take_zero, List.nil_append]
    simp [List.getElem?_append, hj', hcs]
  obtain ⟨w2, hcp, HR, hbr, hsz⟩ := hcopy
  clear hB
  rw [← hn]
  have HN := hide hn
  clear hn hl
  go_enter Tryz.func32, Tryz.ntmps32
  go_wp2
  go_ret
  exact ⟨rfl, unhide HR, hbr⟩

theorem copy1_none (w : World) (cap n : Nat) (hn : n = 0) : Calls Tryz.prog 32 #[.slice none n cap] w fun e w' => e = .returned (.slice (some ⟨w.heap.size, 0, none⟩) n n) ∧ Rw w' w.heap.size [] ∧ Below w.heap.size w w' := by
  have m1 := fun w' => run_make_row' (P := Tryz.prog) 34 5 (.int .u8 0) 1 Tryz.underlying34 Tryz.info5 rfl .i64 .i64 n (by omega) (by omega) w'
  have HB := hide ((Below.refl w.heap.size w).alloc (Nat.le_refl _) (.cells (madeCells #[.int .u8 0] n) 5))
  have HG := hide (heap_alloc_new w (.cells (madeCells #[.int .u8 0] n) 5))
  obtain ⟨i0, hi, hy0, hy1, hy2⟩ := info_parts Tryz.info5
  have hcp := fun (W : World) (d : Option Addr) => run_copy_none (P := Tryz.prog) W 34 34 3 5 d none n n n cap Tryz.underlying34 (by rw [hi]; simp [hy1]) (by rw [hn]; rfl)
  clear hn
  go_enter Tryz.func32, Tryz.ntmps32
  go_wp2
  go_ret
  exact ⟨rfl, ⟨_, unhide HG, fun i hi => by simp at hi⟩, unhide HB⟩
theorem copy1_any (a : Option Addr) (cap : Nat) (w : World) (l : List Nat) (hl : l.length ≤ 140737488355328) (hB : Bytes w a l) :
    Calls Tryz.prog 32 #[.slice a l.length cap] w fun e w' => e = .returned (.slice (some ⟨w.heap.size, 0, none⟩) l.length l.length) ∧ Rw w' w.heap.size l ∧ Below w.heap.size w w' := by
  cases a with
  | none =>
    have hl0 : l = [] := by
      rcases hB with h | ⟨b, off, h, _⟩
      · exact h
      · cases h
    subst hl0
    exact copy1_none w cap 0 rfl
  | some x => exact copy1_some l hl hB

theorem upper_any (a : Option Addr) (cap : Nat) (w : World) (l : List Nat) (hl : l.length ≤ 140737488355328) (hs : Small l) (hB : Bytes w a l) :
    Calls Tryz.prog 24 #[.slice a l.length cap] w fun e w' => e = .returned (.string (str (l.map Larder.up))) ∧ Below w.heap.size w w' := by
  have H1 := hide (copy1_any a cap w l hl hB)
  clear hB
  obtain ⟨R, hRE⟩ : ∃ R, R = str (l.map Larder.up) := ⟨_, rfl⟩
  rw [← hRE]
  have HRE := hide hRE
  clear hRE
  go_enter Tryz.func24, Tryz.ntmps24
  go_wp2_with fail
  refine (unhide H1).mono ?_
  rintro e w1 ⟨rfl, hR0, hb1⟩
  obtain ⟨g, hgg⟩ : ∃ g, g = w.heap.size := ⟨_, rfl⟩
  rw [← hgg] at hR0 ⊢
  have hg : w.heap.size ≤ g := Nat.le_of_eq hgg.symm
  clear hgg
  · have hR : Rw w1 g (Larder.upK 0 l) := by
      rw [Larder.upK_zero]
      exact hR0
    have HR := hide hR
    have HB := hide hb1
    have HS := hide hs
    have HG := hide hg
    clear hb1 H1 hR hR0 hg hs
    go_wp2_with fail
    go_loopw [4] (fun iv wr => ∃ i : Nat, iv = .int .i64 (i : Nat) ∧ i ≤ l.length ∧ Rw wr g (Larder.upK i l) ∧ Below w.heap.size w wr) (fun iv _ => l.length - (intOf iv).toNat)
    case atStart => exact ⟨0, rfl, Nat.zero_le _, unhide HR, unhide HB⟩
    case round =>
      obtain ⟨i, rfl, hi, hr, hb⟩ := hrel
      have HRR := hide hr
      have HBB := hide hb
      by_cases hin : i < l.length
      · have c0 := hr.cell i (by rw [Larder.upK_len]; exact hin)
        rw [Larder.upK_at i l hin] at c0
        have f0 := hr.free i
        have hc := unhide HS i hin
        have HNX := hide (Larder.upK_next i l hin)
        have HLN := hide (Larder.upK_len i l)
        have HLN2 := hide (Larder.upK_len (i + 1) l)
        clear hr hb
        generalize hcc : l.getD i 0 = c at *
        clear hcc
        by_cases h1 : 97 ≤ c ∧ c ≤ 122
        · obtain ⟨h1, h2⟩ := h1
          have e1 : decide ((97 : Int) ≤ (c : Int)) = true := decide_eq_true (by omega)
          have e2 : decide ((c : Int) ≤ 122) = true := decide_eq_true (by omega)
          have k1 : IntKind.u8.wrap ((c : Int) - 32) = ((c - 32 : Nat) : Int) := by rw [IntKind.wrap_u8]; omega
          go_wp2
          go_roundw
          case rel =>
            refine ⟨i + 1, by simp, by omega, ?_, (unhide HBB).setCell (unhide HG) _⟩
            exact (unhide HRR).set i (by rw [unhide HLN]; exact hin) (c - 32) ((unhide HLN2).trans (unhide HLN).symm) (fun j hj => by rw [unhide HNX j (by rw [unhide HLN] at hj; exact hj)]; rw [show Larder.up c = c - 32 from if_pos ⟨h1, h2⟩])
          case measure => simp [intOf]; omega
        · have hsame : Larder.upK (i + 1) l = Larder.upK i l := by
            refine List.ext_getElem? (fun j => ?_)
            by_cases hj : j < l.length
            · have q := unhide HNX j hj
              have z1 : (Larder.upK (i + 1) l)[j]? = some ((Larder.upK (i + 1) l).getD j 0) := by rw [List.getD_eq_getElem?_getD, List.getElem?_eq_getElem (by rw [unhide HLN2]; exact hj)]; rfl
              have z2 : (Larder.upK i l)[j]? = some ((Larder.upK i l).getD j 0) := by rw [List.getD_eq_getElem?_getD, List.getElem?_eq_getElem (by rw [unhide HLN]; exact hj)]; rfl
              rw [z1, z2, q]
              by_cases e : j = i
              · subst e
                have q2 := (unhide HRR).cell j (by rw [unhide HLN]; exact hj)
                rw [c0] at q2
                have q3 : c = (Larder.upK j l).getD j 0 := by
                  have := Option.some.inj q2
                  injection this with _ q4
                  exact Int.ofNat.inj q4
                rw [if_pos rfl, ← q3]
                unfold Larder.up
                rw [if_neg h1]
              · rw [if_neg e]
            · rw [List.getElem?_eq_none (by rw [unhide HLN2]; omega), List.getElem?_eq_none (by rw [unhide HLN]; omega)]
          have HSM := hide hsame
          clear hsame
          by_cases h2 : 97 ≤ c
          · have e1 : decide ((97 : Int) ≤ (c : Int)) = true := decide_eq_true (by omega)
            have e2 : decide ((c : Int) ≤ 122) = false := decide_eq_false (by omega)
            go_wp2
            go_roundw
            case rel => exact ⟨i + 1, by simp, by omega, by rw [unhide HSM]; exact unhide HRR, unhide HBB⟩
            case measure => simp [intOf]; omega
          · have e1 : decide ((97 : Int) ≤ (c : Int)) = false := decide_eq_false (by omega)
            go_wp2
            go_roundw
            case rel => exact ⟨i + 1, by simp, by omega, by rw [unhide HSM]; exact unhide HRR, unhide HBB⟩
            case measure => simp [intOf]; omega
      · have f1 : decide ((i : Int) < (l.length : Int)) = false := decide_eq_false (by omega)
        have hcv : (convert 34 9 (.slice (some ⟨g, 0, none⟩) l.length l.length)).run Tryz.prog wr = .ok (.string R) wr := by
          have q := conv_any (some ⟨g, 0, none⟩) l.length wr (Larder.upK i l) hr.bytes
          rw [Larder.upK_len, Larder.upK_all i l (by omega)] at q
          rw [unhide HRE]
          exact q
        clear hr hb
        go_wp2
        go_ret
        exact ⟨rfl, unhide HBB⟩
end Go.Proofs.YtidfbelckdlbhabGreat
namespace Go.Proofs.YtidfbelckdlbhabGreat
open Go.ChangeShapes Go.WideShapes Go.ChangeAt Go.RowKit
set_option linter.unusedVariables false
set_option maxRecDepth 20000
set_option maxHeartbeats 1000000

/-- Copy, whose answer is the call's own -/
theorem copyB_any (a : Option Addr) (cap : Nat) (w : World) (l : List Nat) (hl : l.length ≤ 140737488355328) (hB : Bytes w a l) :
    Calls Tryz.prog 32 #[.slice a l.length cap] w fun e w' => ∃ v, e = .returned v ∧ OwnB w' w.heap.size v l ∧ Below w.heap.size w w' := by
  obtain ⟨n, hn⟩ : ∃ n, n = l.length := ⟨_, rfl⟩
  have m1 := fun w' => run_make_row' (P := Tryz.prog) 34 5 (.int .u8 0) 1 Tryz.underlying34 Tryz.info5 rfl .i64 .i64 n (by omega) (by omega) w'
  have HB := hide ((Below.refl w.heap.size w).alloc (Nat.le_refl _) (.cells (madeCells #[.int .u8 0] n) 5))
  have HG := hide (heap_alloc_new w (.cells (madeCells #[.int .u8 0] n) 5))
  obtain ⟨i0, hi, hy0, hy1, hy2⟩ := info_parts Tryz.info5
  cases a with
  | none =>
    have hl0 : l = [] := by
      rcases hB with h | ⟨b, off, h, _⟩
      · exact h
      · cases h
    have hcp := fun (W : World) (d : Option Addr) => run_copy_none (P := Tryz.prog) W 34 34 3 5 d none n n n cap Tryz.underlying34 (by rw [hi]; simp [hy1]) (by rw [hn, hl0]; rfl)
    rw [← hn]
    have hO : Hid (OwnB (w.alloc (.cells (madeCells #[.int .u8 0] n) 5)) w.heap.size (.slice (some ⟨w.heap.size, 0, none⟩) n n) l) := hide (by
      subst hl0
      subst hn
      exact ⟨rfl, .inr ⟨w.heap.size, 0, _, rfl, Nat.le_refl _, unhide HG, Nat.le_refl _, by simp [maxLen], by simp [madeCells], by simp [cellsOf]⟩⟩)
    clear hn hl0 hB
    go_enter Tryz.func32, Tryz.ntmps32
    go_wp2
    go_ret
    exact ⟨_, rfl, unhide hO, unhide HB⟩
  | some x =>
    have HW : Hid (∀ j v, (cellsOf l)[j]? = some v → (w.alloc (.cells (madeCells #[.int .u8 0] n) 5)).cell? (x.add j) = some v) := hide (fun j v hj => by
      obtain ⟨hj2, rfl⟩ := cellsOf_get l j v hj
      rcases hB with h | ⟨b, off, h, hb, hc⟩
      · subst h; simp at hj2
      · cases h
        rw [add_plain, (unhide HB).cell (p := ⟨b, off + j, none⟩) hb, hc j hj2])
    have hcopy : ∃ w2, (Builtin.copy_ #[34, 34] 3 #[.slice (some ⟨w.heap.size, 0, none⟩) n n, .slice (some x) n cap]).run Tryz.prog (w.alloc (.cells (madeCells #[.int .u8 0] n) 5)) = .ok (goInt n) w2 ∧ Hid (OwnB w2 w.heap.size (.slice (some ⟨w.heap.size, 0, none⟩) n n) l) ∧ Below w.heap.size w w2 := by
      have hlen : (cellsOf l).length = n := by rw [cellsOf_length, hn]
      have hcp := run_copy_row (P := Tryz.prog) (w.alloc (.cells (madeCells #[.int .u8 0] n) 5)) 34 34 3 5 w.heap.size 0 n n x n cap (madeCells #[.int .u8 0] n) 5 (cellsOf l) Tryz.underlying34 (by rw [hi]; simp [hy1]) (unhide HG) (by rw [hlen]; show n = min _ _; omega) (unhide HW) (by rw [hlen]; simp [madeCells]) (fun v hv => by obtain ⟨k, _, rfl⟩ := List.mem_map.1 hv; rfl)
      rw [hlen] at hcp
      have hrow := setRow_heap (w.alloc (.cells (madeCells #[.int .u8 0] n) 5)) w.heap.size _ ((madeCells #[.int .u8 0] n).toList.take 0 ++ cellsOf l ++ (madeCells #[.int .u8 0] n).toList.drop (0 + n)).toArray 5 (0, 0) (unhide HG)
      have hd : (madeCells #[.int .u8 0] n).toList.drop (0 + n) = [] := List.drop_eq_nil_of_le (by simp [madeCells])
      refine ⟨_, hcp, hide ?_, below_setRow (unhide HB) (Nat.le_refl _) _⟩
      rw [hd, List.take_zero, List.nil_append, List.append_nil] at hrow ⊢
      refine ⟨by rw [hlen, hn, Nat.mul_one], .inr ⟨w.heap.size, n, _, by rw [hn], Nat.le_refl _, hrow, by omega, by simp only [maxLen]; omega, by simp [hlen], ?_⟩⟩
      rw [List.toList_toArray, Nat.mul_one, ← hn, ← hlen, List.take_length]
    obtain ⟨w2, hcp, HR, hbr⟩ := hcopy
    clear hB
    rw [← hn]
    have HN := hide hn
    clear hn hl
    go_enter Tryz.func32, Tryz.ntmps32
    go_wp2
    go_ret
    exact ⟨_, rfl, unhide HR, hbr⟩
end Go.Proofs.YtidfbelckdlbhabGreat
