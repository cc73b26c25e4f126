/- Upper. -/
import Derived.Test.YtidfbelckdlbhabFld
import Derived.Test.YtidfbelckdlbhabCpE
import Derived.Laws.IdiomCopy
namespace Go.Proofs.Ytidfbelckdlbhab
open Go.ChangeShapes Go.WideShapes Go.ChangeAt Go.RowKit
set_option linter.unusedVariables false
set_option maxRecDepth 20000
set_option maxHeartbeats 1000000

theorem copy1_some {w : World} {x : Addr} {cap : Nat} (l : List Nat) (hl : l.length ≤ 140737488355328) (hB : Bytes w (some x) l) :
    Calls Try.prog 28 #[.slice (some x) l.length cap] w fun e w' => e = .returned (.slice (some ⟨w.heap.size, 0, none⟩) l.length l.length) ∧ Rw w' w.heap.size l ∧ Below w.heap.size w w' := by
  obtain ⟨n, hn⟩ : ∃ n, n = l.length := ⟨_, rfl⟩
  have m1 := fun w' => run_make_row' (P := Try.prog) 28 5 (.int .u8 0) 1 Try.underlying28 Try.info5 rfl .i64 .i64 n (by omega) (by omega) w'
  have HB := hide ((Below.refl w.heap.size w).alloc (Nat.le_refl _) (.cells (madeCells #[.int .u8 0] n) 5))
  have HG := hide (heap_alloc_new w (.cells (madeCells #[.int .u8 0] n) 5))
  have HW : Hid (∀ j v, ((List.range n).map fun k => Value.int .u8 (l.getD k 0 : Nat))[j]? = some v → (w.alloc (.cells (madeCells #[.int .u8 0] n) 5)).cell? (x.add j) = some v) := hide (fun j v hj => by
    have hjl : j < n := by
      have := (List.getElem?_eq_some_iff.1 hj).1
      simpa using this
    rw [List.getElem?_map, List.getElem?_range hjl] at hj
    rcases hB with h | ⟨b, off, h, hb, hc⟩
    · subst h; simp at hn; omega
    · cases h
      have e : (⟨b, off, none⟩ : Addr).add j = ⟨b, off + j, none⟩ := by unfold Addr.add; split <;> simp_all
      rw [e, (unhide HB).cell (p := ⟨b, off + j, none⟩) hb, hc j (by omega)]
      exact hj)
  obtain ⟨i0, hi, hy0, hy1, hy2⟩ := info_parts Try.info5
  have hcopy : ∃ w2, (Builtin.copy_ #[28, 28] 3 #[.slice (some ⟨w.heap.size, 0, none⟩) n n, .slice (some x) n cap]).run Try.prog (w.alloc (.cells (madeCells #[.int .u8 0] n) 5)) = .ok (goInt n) w2 ∧ Hid (Rw w2 w.heap.size l) ∧ Below w.heap.size w w2 ∧ w2.heap.size = w.heap.size + 1 := by
    obtain ⟨cs, hcs⟩ : ∃ cs, cs = (List.range n).map fun k => Value.int .u8 (l.getD k 0 : Nat) := ⟨_, rfl⟩
    have hlen : cs.length = n := by rw [hcs]; simp
    rw [← hcs] at HW
    have hcp := run_copy_row (P := Try.prog) (w.alloc (.cells (madeCells #[.int .u8 0] n) 5)) 28 28 3 5 w.heap.size 0 n n x n cap (madeCells #[.int .u8 0] n) 5 cs Try.underlying28 (by rw [hi]; simp [hy1]) (unhide HG) (by rw [hlen]; show n = min _ _; omega) (unhide HW) (by rw [hlen]; simp [madeCells]) (fun v hv => by rw [hcs] at hv; obtain ⟨k, _, rfl⟩ := List.mem_map.1 hv; rfl)
    rw [hlen] at hcp
    have hrow := setRow_heap (w.alloc (.cells (madeCells #[.int .u8 0] n) 5)) w.heap.size _ ((madeCells #[.int .u8 0] n).toList.take 0 ++ cs ++ (madeCells #[.int .u8 0] n).toList.drop (0 + n)).toArray 5 (0, 0) (unhide HG)
    refine ⟨_, hcp, hide ⟨_, hrow, fun j hj => ?_⟩, below_setRow (unhide HB) (Nat.le_refl _) _, by simp [World.setRow]⟩
    have hj' : j < n := by omega
    rw [List.take_zero, List.nil_append]
    simp [List.getElem?_append, hj', hcs]
  obtain ⟨w2, hcp, HR, hbr, hsz⟩ := hcopy
  clear hB
  rw [← hn]
  have HN := hide hn
  clear hn hl
  go_enter Try.func28, Try.ntmps28
  go_wp2
  go_ret
  exact ⟨rfl, unhide HR, hbr⟩

theorem copy1_none (w : World) (cap n : Nat) (hn : n = 0) : Calls Try.prog 28 #[.slice none n cap] w fun e w' => e = .returned (.slice (some ⟨w.heap.size, 0, none⟩) n n) ∧ Rw w' w.heap.size [] ∧ Below w.heap.size w w' := by
  have m1 := fun w' => run_make_row' (P := Try.prog) 28 5 (.int .u8 0) 1 Try.underlying28 Try.info5 rfl .i64 .i64 n (by omega) (by omega) w'
  have HB := hide ((Below.refl w.heap.size w).alloc (Nat.le_refl _) (.cells (madeCells #[.int .u8 0] n) 5))
  have HG := hide (heap_alloc_new w (.cells (madeCells #[.int .u8 0] n) 5))
  obtain ⟨i0, hi, hy0, hy1, hy2⟩ := info_parts Try.info5
  have hcp := fun (W : World) (d : Option Addr) => run_copy_none (P := Try.prog) W 28 28 3 5 d none n n n cap Try.underlying28 (by rw [hi]; simp [hy1]) (by rw [hn]; rfl)
  clear hn
  go_enter Try.func28, Try.ntmps28
  go_wp2
  go_ret
  exact ⟨rfl, ⟨_, unhide HG, fun i hi => by simp at hi⟩, unhide HB⟩
theorem copy1_any (a : Option Addr) (cap : Nat) (w : World) (l : List Nat) (hl : l.length ≤ 140737488355328) (hB : Bytes w a l) :
    Calls Try.prog 28 #[.slice a l.length cap] w fun e w' => e = .returned (.slice (some ⟨w.heap.size, 0, none⟩) l.length l.length) ∧ Rw w' w.heap.size l ∧ Below w.heap.size w w' := by
  cases a with
  | none =>
    have hl0 : l = [] := by
      rcases hB with h | ⟨b, off, h, _⟩
      · exact h
      · cases h
    subst hl0
    exact copy1_none w cap 0 rfl
  | some x => exact copy1_some l hl hB

theorem upper_any (a : Option Addr) (cap : Nat) (w : World) (l : List Nat) (hl : l.length ≤ 140737488355328) (hs : Small l) (hB : Bytes w a l) :
    Calls Try.prog 20 #[.slice a l.length cap] w fun e w' => e = .returned (.string (str (l.map Larder.up))) ∧ Below w.heap.size w w' := by
  have H1 := hide (copy1_any a cap w l hl hB)
  clear hB
  obtain ⟨R, hRE⟩ : ∃ R, R = str (l.map Larder.up) := ⟨_, rfl⟩
  rw [← hRE]
  have HRE := hide hRE
  clear hRE
  go_enter Try.func20, Try.ntmps20
  go_wp2_with fail
  refine (unhide H1).mono ?_
  rintro e w1 ⟨rfl, hR0, hb1⟩
  obtain ⟨g, hgg⟩ : ∃ g, g = w.heap.size := ⟨_, rfl⟩
  rw [← hgg] at hR0 ⊢
  have hg : w.heap.size ≤ g := Nat.le_of_eq hgg.symm
  clear hgg
  · have hR : Rw w1 g (Larder.upK 0 l) := by
      rw [Larder.upK_zero]
      exact hR0
    have HR := hide hR
    have HB := hide hb1
    have HS := hide hs
    have HG := hide hg
    clear hb1 H1 hR hR0 hg hs
    go_wp2_with fail
    go_loopw [4] (fun iv wr => ∃ i : Nat, iv = .int .i64 (i : Nat) ∧ i ≤ l.length ∧ Rw wr g (Larder.upK i l) ∧ Below w.heap.size w wr) (fun iv _ => l.length - (intOf iv).toNat)
    case atStart => exact ⟨0, rfl, Nat.zero_le _, unhide HR, unhide HB⟩
    case round =>
      obtain ⟨i, rfl, hi, hr, hb⟩ := hrel
      have HRR := hide hr
      have HBB := hide hb
      by_cases hin : i < l.length
      · have c0 := hr.cell i (by rw [Larder.upK_len]; exact hin)
        rw [Larder.upK_at i l hin] at c0
        have f0 := hr.free i
        have hc := unhide HS i hin
        have HNX := hide (Larder.upK_next i l hin)
        have HLN := hide (Larder.upK_len i l)
        have HLN2 := hide (Larder.upK_len (i + 1) l)
        clear hr hb
        generalize hcc : l.getD i 0 = c at *
        clear hcc
        by_cases h1 : 97 ≤ c ∧ c ≤ 122
        · obtain ⟨h1, h2⟩ := h1
          have e1 : decide ((97 : Int) ≤ (c : Int)) = true := decide_eq_true (by omega)
          have e2 : decide ((c : Int) ≤ 122) = true := decide_eq_true (by omega)
          have k1 : IntKind.u8.wrap ((c : Int) - 32) = ((c - 32 : Nat) : Int) := by rw [IntKind.wrap_u8]; omega
          go_wp2
          go_roundw
          case rel =>
            refine ⟨i + 1, by simp, by omega, ?_, (unhide HBB).setCell (unhide HG) _⟩
            exact (unhide HRR).set i (by rw [unhide HLN]; exact hin) (c - 32) ((unhide HLN2).trans (unhide HLN).symm) (fun j hj => by rw [unhide HNX j (by rw [unhide HLN] at hj; exact hj)]; rw [show Larder.up c = c - 32 from if_pos ⟨h1, h2⟩])
          case measure => simp [intOf]; omega
        · have hsame : Larder.upK (i + 1) l = Larder.upK i l := by
            refine List.ext_getElem? (fun j => ?_)
            by_cases hj : j < l.length
            · have q := unhide HNX j hj
              have z1 : (Larder.upK (i + 1) l)[j]? = some ((Larder.upK (i + 1) l).getD j 0) := by rw [List.getD_eq_getElem?_getD, List.getElem?_eq_getElem (by rw [unhide HLN2]; exact hj)]; rfl
              have z2 : (Larder.upK i l)[j]? = some ((Larder.upK i l).getD j 0) := by rw [List.getD_eq_getElem?_getD, List.getElem?_eq_getElem (by rw [unhide HLN]; exact hj)]; rfl
              rw [z1, z2, q]
              by_cases e : j = i
              · subst e
                have q2 := (unhide HRR).cell j (by rw [unhide HLN]; exact hj)
                rw [c0] at q2
                have q3 : c = (Larder.upK j l).getD j 0 := by
                  have := Option.some.inj q2
                  injection this with _ q4
                  exact Int.ofNat.inj q4
                rw [if_pos rfl, ← q3]
                unfold Larder.up
                rw [if_neg h1]
              · rw [if_neg e]
            · rw [List.getElem?_eq_none (by rw [unhide HLN2]; omega), List.getElem?_eq_none (by rw [unhide HLN]; omega)]
          have HSM := hide hsame
          clear hsame
          by_cases h2 : 97 ≤ c
          · have e1 : decide ((97 : Int) ≤ (c : Int)) = true := decide_eq_true (by omega)
            have e2 : decide ((c : Int) ≤ 122) = false := decide_eq_false (by omega)
            go_wp2
            go_roundw
            case rel => exact ⟨i + 1, by simp, by omega, by rw [unhide HSM]; exact unhide HRR, unhide HBB⟩
            case measure => simp [intOf]; omega
          · have e1 : decide ((97 : Int) ≤ (c : Int)) = false := decide_eq_false (by omega)
            go_wp2
            go_roundw
            case rel => exact ⟨i + 1, by simp, by omega, by rw [unhide HSM]; exact unhide HRR, unhide HBB⟩
            case measure => simp [intOf]; omega
      · have f1 : decide ((i : Int) < (l.length : Int)) = false := decide_eq_false (by omega)
        have hcv : (convert 28 9 (.slice (some ⟨g, 0, none⟩) l.length l.length)).run Try.prog wr = .ok (.string R) wr := by
          have q := conv_any (some ⟨g, 0, none⟩) l.length wr (Larder.upK i l) hr.bytes
          rw [Larder.upK_len, Larder.upK_all i l (by omega)] at q
          rw [unhide HRE]
          exact q
        clear hr hb
        go_wp2
        go_ret
        exact ⟨rfl, unhide HBB⟩
end Go.Proofs.Ytidfbelckdlbhab
