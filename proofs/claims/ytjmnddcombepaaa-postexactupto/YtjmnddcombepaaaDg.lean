/- The document's Copy, Copies. -/
import Derived.Test.YtjmnddcombepaaaDe
import Derived.WalkSpells
import Derived.Deep.OwnRows
import Derived.Laws.CopyRow
import Derived.Laws.CopyOwn
namespace Go.Proofs.Ytjmnddcombepaaa
open Go.ChangeShapes Go.WideShapes Go.ChangeAt Go.RowKit Go.Maps
set_option linter.unusedVariables false
set_option linter.unusedSimpArgs false
set_option maxRecDepth 100000
set_option maxHeartbeats 8000000
/-- how many connections below n listen to that text -/
def lisL (L : List Key) (T : List UInt8) (n : Nat) : Nat := ((List.range n).filter (fun c => decide ((((c : Nat) : Int), T, false) ∈ L))).length
theorem lisL_succ (L : List Key) (T : List UInt8) (n : Nat) : lisL L T (n + 1) = lisL L T n + (if (((n : Nat) : Int), T, false) ∈ L then 1 else 0) := by
  unfold lisL
  rw [List.range_succ, List.filter_append, List.length_append]
  by_cases h : (((n : Nat) : Int), T, false) ∈ L <;> simp [h]
theorem lisL_le (L : List Key) (T : List UInt8) (n : Nat) : lisL L T n ≤ n := by
  unfold lisL
  have := List.length_filter_le (fun c => decide ((((c : Nat) : Int), T, false) ∈ L)) (List.range n)
  rw [List.length_range] at this
  exact this
theorem dlisteners_any (w : World) (q : Nat) (L : List Key) (T : List UInt8) (h : RP w q L) (hL : L.length ≤ 500000) :
    Calls Try.prog 55 #[.pointer (some ⟨q, 0, none⟩), .string (bs T)] w fun e w' => e = .returned (.int .i64 (lisL L T 8 : Nat)) ∧ Hid (Below w.heap.size w w') := by
  have HH := hide h
  clear h
  go_enter Try.func55, Try.ntmps55
  go_wp2_with fail
  go_loopw [5, 6] (fun nv iv wr => ∃ i : Nat, nv = .int .i64 (lisL L T i : Nat) ∧ iv = .int .i64 ((i : Nat) : Int) ∧ i ≤ 8 ∧ Hid (Below w.heap.size w wr)) (fun _ iv _ => 8 - (intOf iv).toNat)
  case atStart => exact ⟨0, rfl, rfl, Nat.zero_le _, hide (Below.refl _ _)⟩
  case round =>
    obtain ⟨i, rfl, rfl, hi, HB⟩ := hrel
    by_cases hin : i < 8
    · have f1 : decide ((i : Int) < 8) = true := decide_eq_true (by omega)
      have f2 : decide (i < 8) = true := decide_eq_true hin
      have hle := lisL_le L T i
      have HS := hide (lisL_succ L T i)
      have C67 := dfind_any wr q L (((i : Nat) : Int), T, false) ((unhide HH).below (unhide HB)) (by omega)
      obtain ⟨fi, hfi⟩ : ∃ fi, fi = findDI L (((i : Nat) : Int), T, false) := ⟨_, rfl⟩
      rw [← hfi] at C67
      have HF := hide hfi
      clear hfi
      generalize lisL L T i = m at HS hle ⊢
      have q1 : IntKind.i64.wrap ((m : Int) + 1) = (m : Int) + 1 := by rw [IntKind.wrap_i64]; omega
      by_cases hc : 0 ≤ fi
      · have f3 : decide ((0 : Int) ≤ fi) = true := decide_eq_true hc
        have f4 : decide (fi ≥ 0) = true := decide_eq_true hc
        have HS2 : Hid (lisL L T (i + 1) = m + 1) := hide (by rw [unhide HS, if_pos (findDI_ge.1 (by rw [← unhide HF]; exact hc))])
        clear hc
        go_wp2_with (go_at_call 67; refine C67.mono ?_; clear C67; rintro e w3 ⟨rfl, H3⟩)
        exact ⟨⟨i + 1, congrArg (Value.int .i64) (by rw [unhide HS2]; omega), congrArg (Value.int .i64) (by omega), by omega, hide ((unhide HB).trans ((unhide H3).mono (unhide HB).size))⟩, by simp [intOf]; omega⟩
      · have f3 : decide ((0 : Int) ≤ fi) = false := decide_eq_false hc
        have f4 : decide (fi ≥ 0) = false := decide_eq_false hc
        have HS2 : Hid (lisL L T (i + 1) = m) := hide (by rw [unhide HS, if_neg (fun z => hc (by rw [unhide HF]; exact findDI_ge.2 z))]; rfl)
        clear hc
        go_wp2_with (go_at_call 67; refine C67.mono ?_; clear C67; rintro e w3 ⟨rfl, H3⟩)
        exact ⟨⟨i + 1, congrArg (Value.int .i64) (by rw [unhide HS2]), congrArg (Value.int .i64) (by omega), by omega, hide ((unhide HB).trans ((unhide H3).mono (unhide HB).size))⟩, by simp [intOf]; omega⟩
    · obtain rfl : i = 8 := by omega
      have f1 : decide (((8 : Nat) : Int) < 8) = false := by decide
      go_wp2_with fail
      go_ret
      exact ⟨rfl, HB⟩
/-- the connections that listen are those below 8: each counted once -/
theorem lis_cnt {L : List Key} (hn : L.Nodup) (hc : ∀ k ∈ L, 0 ≤ k.1 ∧ k.1 < 8) (T : List UInt8) : lisL L T 8 = cntT L T := by
  have hk : ∀ n : Nat, lisL L T n = (L.filter (fun k => decide (k.2 = (T, false)) && decide (k.1 < (n : Int)))).length := fun n => by
    induction n with
    | zero =>
      have : L.filter (fun k => decide (k.2 = (T, false)) && decide (k.1 < ((0 : Nat) : Int))) = [] := by
        rw [List.filter_eq_nil_iff]
        intro k hk
        have := hc k hk
        simp
        omega
      rw [this]
      rfl
    | succ n ih =>
      rw [lisL_succ, ih]
      have hp : (L.filter (fun k => decide (k.2 = (T, false)) && decide (k.1 < ((n + 1 : Nat) : Int)))).length = (L.filter (fun k => decide (k.2 = (T, false)) && decide (k.1 < (n : Int)))).length + (L.filter (fun k => decide (k = ((n : Int), T, false)))).length := by
        clear ih hn hc
        induction L with
        | nil => rfl
        | cons k r ih =>
          obtain ⟨c, t, p⟩ := k
          rw [List.filter_cons, List.filter_cons, List.filter_cons]
          by_cases e : ((t, p) : List UInt8 × Bool) = (T, false)
          · cases e
            by_cases z : c < (n : Int)
            · have z1 : c < ((n + 1 : Nat) : Int) := by omega
              have z2 : c ≠ (n : Int) := by omega
              simp [z, z2]
              have z3 : c < (n : Int) + 1 := by omega
              simp [z3] at *
              omega
            · by_cases z2 : c = (n : Int)
              · subst z2
                have z4 : (n : Int) < (n : Int) + 1 := by omega
                simp [z4] at *
                omega
              · have z3 : ¬ c < (n : Int) + 1 := by omega
                simp [z, z2, z3] at *
                omega
          · have e2 : ¬ (((c, t, p) : Key) = ((n : Int), T, false)) := fun z => e (congrArg (fun k : Key => k.2) z)
            have e3 : (decide (((c, t, p) : Key) = ((n : Int), T, false))) = false := decide_eq_false e2
            have e4 : decide (((t, p) : List UInt8 × Bool) = (T, false)) = false := decide_eq_false e
            simp only [e4, e3, Bool.false_and]
            exact ih
      rw [hp]
      congr 1
      by_cases hm : ((n : Int), T, false) ∈ L
      · rw [if_pos hm]
        have : L.filter (fun k => decide (k = ((n : Int), T, false))) = List.replicate (L.count ((n : Int), T, false)) ((n : Int), T, false) := by
          rw [← List.filter_beq]
          congr 1
          funext k
          rw [Bool.eq_iff_iff]
          simp
        rw [this, List.length_replicate]
        have h1 := hn.count (a := ((n : Int), T, false))
        rw [h1, if_pos hm]
      · rw [if_neg hm]
        have : L.filter (fun k => decide (k = ((n : Int), T, false))) = [] := by
          rw [List.filter_eq_nil_iff]
          intro k hk e
          exact hm ((of_decide_eq_true e) ▸ hk)
        rw [this]; rfl
  rw [hk 8]
  unfold cntT
  congr 1
  refine List.filter_congr fun k hk => ?_
  have := (hc k hk).2
  have z : decide (k.1 < ((8 : Nat) : Int)) = true := decide_eq_true (by omega)
  rw [z, Bool.and_true]
end Go.Proofs.Ytjmnddcombepaaa
namespace Go.Proofs.Ytjmnddcombepaaa
open Go.ChangeShapes Go.WideShapes Go.ChangeAt Go.RowKit Go.Maps
set_option linter.unusedVariables false
set_option linter.unusedSimpArgs false
set_option maxRecDepth 100000
set_option maxHeartbeats 8000000
theorem dinfo5 : (Try.prog.info? 5).map (fun i => (i.zero, i.size, i.bytes)) = some (some (.int .u8 0), 1, 1) := by kernel_rfl
theorem info_parts4 {t : TypeId} {z : Value} {s b : Nat} (h : (Try.prog.info? t).map (fun i => (i.zero, i.size, i.bytes)) = some (some z, s, b)) : ∃ i, Try.prog.info? t = some i ∧ i.zero = some z ∧ i.size = s ∧ i.bytes = b := by
  obtain ⟨i0, hi0, hzz⟩ := Option.map_eq_some_iff.1 h
  simp only [Prod.mk.injEq] at hzz
  exact ⟨i0, hi0, hzz.1, hzz.2.1, hzz.2.2⟩
theorem copy0_any {w : World} {x : Addr} {cap : Nat} (l : List Nat) (hl : l.length ≤ 140737488355328) (hB : Bytes w (some x) l) :
    Calls Try.prog 98 #[.slice (some x) l.length cap] w fun e w' => e = .returned (.slice (some ⟨w.heap.size, 0, none⟩) l.length l.length) ∧ Bytes w' (some ⟨w.heap.size, 0, none⟩) l ∧ Below w.heap.size w w' := by
  obtain ⟨n, hn⟩ : ∃ n, n = l.length := ⟨_, rfl⟩
  have m1 := fun w' => run_make_row' (P := Try.prog) 23 5 (.int .u8 0) 1 Try.underlying23 dinfo5 rfl .i64 .i64 n (by omega) (by omega) w'
  have HB := hide ((Below.refl w.heap.size w).alloc (Nat.le_refl _) (.cells (madeCells #[.int .u8 0] n) 5))
  have HG := hide (heap_alloc_new w (.cells (madeCells #[.int .u8 0] n) 5))
  have HW : Hid (∀ j v, ((List.range n).map fun k => Value.int .u8 (l.getD k 0 : Nat))[j]? = some v → (w.alloc (.cells (madeCells #[.int .u8 0] n) 5)).cell? (x.add j) = some v) := hide (fun j v hj => by
    have hjl : j < n := by
      have := (List.getElem?_eq_some_iff.1 hj).1
      simpa using this
    rw [List.getElem?_map, List.getElem?_range hjl] at hj
    rcases hB with h | ⟨b, off, h, hb, hc⟩
    · subst h; simp at hn; omega
    · cases h
      have e : (⟨b, off, none⟩ : Addr).add j = ⟨b, off + j, none⟩ := by unfold Addr.add; split <;> simp_all
      rw [e, (unhide HB).cell (p := ⟨b, off + j, none⟩) hb, hc j (by omega)]
      exact hj)
  obtain ⟨i0, hi, hy0, hy1, hy2⟩ := info_parts4 dinfo5
  have hcopy : ∃ w2, (Builtin.copy_ #[23, 23] 3 #[.slice (some ⟨w.heap.size, 0, none⟩) n n, .slice (some x) n cap]).run Try.prog (w.alloc (.cells (madeCells #[.int .u8 0] n) 5)) = .ok (goInt n) w2 ∧ Hid (∀ j, j < n → w2.cell? ⟨w.heap.size, j, none⟩ = some (.int .u8 (l.getD j 0 : Nat))) ∧ Below w.heap.size w w2 ∧ w2.heap.size = w.heap.size + 1 := by
    obtain ⟨cs, hcs⟩ : ∃ cs, cs = (List.range n).map fun k => Value.int .u8 (l.getD k 0 : Nat) := ⟨_, rfl⟩
    have hlen : cs.length = n := by rw [hcs]; simp
    rw [← hcs] at HW
    have hcp := run_copy_row (P := Try.prog) (w.alloc (.cells (madeCells #[.int .u8 0] n) 5)) 23 23 3 5 w.heap.size 0 n n x n cap (madeCells #[.int .u8 0] n) 5 cs Try.underlying23 (by rw [hi]; simp [hy1]) (unhide HG) (by rw [hlen]; show n = min _ _; omega) (unhide HW) (by rw [hlen]; simp [madeCells]) (fun v hv => by rw [hcs] at hv; obtain ⟨k, _, rfl⟩ := List.mem_map.1 hv; rfl)
    rw [hlen] at hcp
    refine ⟨_, hcp, hide (fun j hj => ?_), below_setRow (unhide HB) (Nat.le_refl _) _, by simp [World.setRow]⟩
    have hrow := setRow_heap (w.alloc (.cells (madeCells #[.int .u8 0] n) 5)) w.heap.size _ ((madeCells #[.int .u8 0] n).toList.take 0 ++ cs ++ (madeCells #[.int .u8 0] n).toList.drop (0 + n)).toArray 5 (0, 0) (unhide HG)
    simp only [World.cell?, hrow]
    rw [List.take_zero, List.nil_append]
    simp [List.getElem?_append, hj, hcs]
  obtain ⟨w2, hcp, HR, hbr, hsz⟩ := hcopy
  clear hB
  rw [← hn]
  have HN := hide hn
  clear hn hl
  go_enter Try.func98, Try.ntmps98
  go_wp2
  go_ret
  refine ⟨rfl, .inr ⟨w.heap.size, 0, rfl, by omega, fun i hi' => ?_⟩, hbr⟩
  rw [Nat.zero_add]
  exact unhide HR i (by rw [unhide HN]; exact hi')

theorem dcopy_any (w : World) (a : Option Addr) (cap : Nat) (l : List Nat) (hl : l.length ≤ 140737488355328) (hB : Bytes w a l) :
    Calls Try.prog 98 #[.slice a l.length cap] w fun e w' => e = .returned (.slice (some ⟨w.heap.size, 0, none⟩) l.length l.length) ∧ Hid (Bytes w' (some ⟨w.heap.size, 0, none⟩) l ∧ Below w.heap.size w w') := by
  cases a with
  | some x =>
    refine (copy0_any (cap := cap) l hl hB).mono ?_
    rintro e w' ⟨rfl, h1, h2⟩
    exact ⟨rfl, hide ⟨h1, h2⟩⟩
  | none =>
    have hl0 : l = [] := by
      rcases hB with h | ⟨b, off, h, _⟩
      · exact h
      · cases h
    subst hl0
    have m1 : ∀ w' : World, (Instr.makeSlice 23 (.int .i64 0) (.int .i64 0)).run Try.prog w' = .ok (.slice (some ⟨w'.heap.size, 0, none⟩) 0 0) (w'.alloc (.cells (madeCells #[.int .u8 0] 0) 5)) := fun w' => run_make_row' (P := Try.prog) 23 5 (.int .u8 0) 1 Try.underlying23 dinfo5 rfl .i64 .i64 0 (by omega) (by omega) w'
    have HB := hide ((Below.refl w.heap.size w).alloc (Nat.le_refl _) (.cells (madeCells #[.int .u8 0] 0) 5))
    obtain ⟨i0, hi, hy0, hy1, hy2⟩ := info_parts4 dinfo5
    have m2 : ∀ (g : Nat) (w' : World), (Builtin.copy_ #[23, 23] 3 #[.slice (some ⟨g, 0, none⟩) 0 0, .slice none 0 cap]).run Try.prog w' = .ok (.int .i64 0) w' := fun g w' => by
      simp [Builtin.copy_, run_underlying Try.underlying23, sizeOf, typeInfo, hi, Builtin.lenOf, Builtin.firstCells, storeCells, loadCells, loadCellsFrom, goInt]
    clear hB
    go_enter Try.func98, Try.ntmps98
    go_wp2
    go_ret
    exact ⟨rfl, hide ⟨.inl rfl, unhide HB⟩⟩
/-- a list of lists of bytes -/
def BL (w : World) (a : Option Addr) (l : List (List Nat)) : Prop := l = [] ∨ ∃ b off, a = some ⟨b, off, none⟩ ∧ b < w.heap.size ∧ ∀ i T, l[i]? = some T → ∃ ai ci, w.cell? ⟨b, off + i, none⟩ = some (.slice ai T.length ci) ∧ Bytes w ai T
theorem Bytes.below' {w w' : World} {a : Option Addr} {l : List Nat} (h : Bytes w a l) (hb : Below w.heap.size w w') : Bytes w' a l := by
  rcases h with h | ⟨b, off, e, hl, hc⟩
  · exact .inl h
  · exact .inr ⟨b, off, e, Nat.lt_of_lt_of_le hl hb.size, fun i hi => (hb.cell (p := ⟨b, off + i, none⟩) hl).trans (hc i hi)⟩
theorem BL.below {w w' : World} {a : Option Addr} {l : List (List Nat)} (h : BL w a l) (hb : Below w.heap.size w w') : BL w' a l := by
  rcases h with h | ⟨b, off, e, hl, hc⟩
  · exact .inl h
  · refine .inr ⟨b, off, e, Nat.lt_of_lt_of_le hl hb.size, fun i T hi => ?_⟩
    obtain ⟨ai, ci, k1, k2⟩ := hc i T hi
    exact ⟨ai, ci, (hb.cell (p := ⟨b, off + i, none⟩) hl).trans k1, k2.below' hb⟩
theorem info23 : (Try.prog.info? 23).map (fun i => (i.zero, i.size, i.bytes)) = some (some (.slice none 0 0), 1, 24) := by kernel_rfl
/-- copies under way -/
structure CpAt (w W : World) (n i : Nat) (l : List (List Nat)) : Prop where
  bel : Below w.heap.size w W
  row : ∃ cur, W.heap[w.heap.size]? = some (.cells cur 23 (0, 0)) ∧ cur.size = n ∧ ∀ j T, j < i → l[j]? = some T → ∃ aj cj, cur[j]? = some (.slice aj T.length cj) ∧ Bytes W aj T ∧ ∀ b off, aj = some ⟨b, off, none⟩ → b ≠ w.heap.size
theorem CpAt.store {w W W' : World} {n i : Nat} {l : List (List Nat)} (h : CpAt w W n i l) (hi : i < n) {T : List Nat} (hT : l[i]? = some T) (hb : Below W.heap.size W W') {g c : Nat} (hg : W.heap.size ≤ g) (hB : Bytes W' (some ⟨g, 0, none⟩) T) : CpAt w (W'.setCell ⟨w.heap.size, i, none⟩ (.slice (some ⟨g, 0, none⟩) T.length c)) n (i + 1) l := by
  obtain ⟨cur, k1, k2, k3⟩ := h.row
  have hlt := blk_lt k1
  have k1' : W'.heap[w.heap.size]? = some (.cells cur 23 (0, 0)) := (hb.block _ hlt).trans k1
  have hs := heap_setCell_same W' w.heap.size i cur 23 (.slice (some ⟨g, 0, none⟩) T.length c) k1'
  have ho : ∀ b, b ≠ w.heap.size → (W'.setCell ⟨w.heap.size, i, none⟩ (.slice (some ⟨g, 0, none⟩) T.length c)).heap[b]? = W'.heap[b]? := fun b hb => heap_setCell_other W' ⟨w.heap.size, i, none⟩ b _ hb
  have hsz : (W'.setCell ⟨w.heap.size, i, none⟩ (.slice (some ⟨g, 0, none⟩) T.length c)).heap.size = W'.heap.size := by simp
  have hmv : ∀ (aj : Option Addr) (U : List Nat), Bytes W' aj U → (∀ b off, aj = some ⟨b, off, none⟩ → b ≠ w.heap.size) → Bytes (W'.setCell ⟨w.heap.size, i, none⟩ (.slice (some ⟨g, 0, none⟩) T.length c)) aj U := fun aj U hU hn => by
    rcases hU with z | ⟨b, off, e, hl, hc⟩
    · exact .inl z
    · refine .inr ⟨b, off, e, by rw [hsz]; exact hl, fun q hq => ?_⟩
      rw [← hc q hq]
      unfold World.cell?
      rw [ho b (hn b off e)]
  have hbel := h.bel.trans (hb.mono h.bel.size)
  refine ⟨⟨hbel.os, hbel.tape, hbel.output, by rw [hsz]; exact hbel.size, fun b hb' => (ho b (by omega)).trans (hbel.block b hb')⟩, _, hs, by simpa using k2, fun j U hj hU => ?_⟩
  by_cases z : j < i
  · obtain ⟨aj, cj, q1, q2, q3⟩ := k3 j U z hU
    refine ⟨aj, cj, ?_, hmv aj U (q2.below' hb) q3, q3⟩
    rw [← q1]
    simp [Array.getElem?_setIfInBounds]
    omega
  · obtain rfl : j = i := by omega
    rw [hT] at hU
    cases hU
    refine ⟨some ⟨g, 0, none⟩, c, ?_, hmv _ _ hB (fun b off e => by cases e; omega), fun b off e => by cases e; omega⟩
    simp [Array.getElem?_setIfInBounds]
    omega
/-- the document's Copies -/
theorem dcopies_any (w : World) (a : Option Addr) (cap : Nat) (l : List (List Nat)) (hn : l.length ≤ 500000) (hl : ∀ T ∈ l, T.length ≤ 140737488355328) (hB : BL w a l) :
    Calls Try.prog 91 #[.slice a l.length cap] w fun e w' => e = .returned (.slice (some ⟨w.heap.size, 0, none⟩) l.length l.length) ∧ Hid (BL w' (some ⟨w.heap.size, 0, none⟩) l ∧ Below w.heap.size w w') := by
  obtain ⟨n, hnn⟩ : ∃ n, n = l.length := ⟨_, rfl⟩
  have m1 := fun w' => run_make_row' (P := Try.prog) 115 23 (.slice none 0 0) 24 Try.underlying115 info23 rfl .i64 .i64 n (by omega) (by omega) w'
  obtain ⟨w0, hw0⟩ : ∃ w0, w.alloc (.cells (madeCells #[.slice none 0 0] n) 23) = w0 := ⟨_, rfl⟩
  have H0 : Hid (CpAt w w0 n 0 l) := by
    rw [← hw0]
    exact hide ⟨(Below.refl _ _).alloc (Nat.le_refl _) _, _, heap_alloc_new _ _, by simp [madeCells], fun j T hj => by omega⟩
  have HB := hide hB
  have HN := hide hnn
  have HL := hide hl
  rw [← hnn]
  have hn5 : n ≤ 500000 := by omega
  clear hB hnn hl hn
  go_enter Try.func91, Try.ntmps91
  go_wp2_with fail
  go_loopw [4] (fun iv wr => ∃ i : Nat, iv = .int .i64 ((i : Nat) : Int) ∧ i ≤ n ∧ Hid (CpAt w wr n i l)) (fun iv _ => n - (intOf iv).toNat)
  case atStart => exact ⟨0, rfl, Nat.zero_le _, H0⟩
  case round =>
    obtain ⟨i, rfl, hi, HC⟩ := hrel
    by_cases hin : i < n
    · have f1 : decide ((i : Int) < (n : Int)) = true := decide_eq_true (by omega)
      have f9 : decide (i < n) = true := decide_eq_true hin
      have g1 : (0 : Int) ≤ (i : Int) := by omega
      have g2 : (i : Int) < (n : Int) := by omega
      obtain ⟨T, hT⟩ : ∃ T, l[i]? = some T := ⟨_, List.getElem?_eq_getElem (by have := unhide HN; omega)⟩
      obtain ⟨b, off, rfl, hb, ai, ci, k1, k2⟩ : ∃ b off, a = some ⟨b, off, none⟩ ∧ b < w.heap.size ∧ ∃ ai ci, w.cell? ⟨b, off + i, none⟩ = some (.slice ai T.length ci) ∧ Bytes w ai T := by
        rcases unhide HB with h | ⟨b, off, e, hl, hc⟩
        · rw [h] at hT; simp at hT
        · obtain ⟨ai, ci, q1, q2⟩ := hc i T hT
          exact ⟨b, off, e, hl, ai, ci, q1, q2⟩
      have k1 := ((unhide HC).bel.cell (p := ⟨b, off + i, none⟩) hb).trans k1
      have C98 := dcopy_any wr ai ci T ((unhide HL) T (List.mem_of_getElem? hT)) (k2.below' (unhide HC).bel)
      have HT := hide hT
      have hfz : ∀ W', Below wr.heap.size wr W' → W'.frozen? ⟨w.heap.size, i, none⟩ = false ∧ ∃ u, W'.cell? ⟨w.heap.size, i, none⟩ = some u := fun W' hb' => by
        obtain ⟨cur, q1, q2, -⟩ := (unhide HC).row
        have q3 := (hb'.block _ (blk_lt q1)).trans q1
        exact ⟨by simp [World.frozen?, q3], cur[i]'(by omega), by rw [cell_blk q3]; exact Array.getElem?_eq_getElem (by omega)⟩
      have HZ := hide hfz
      clear hT k2 hfz
      obtain ⟨t, ht⟩ : ∃ t, t = T.length := ⟨_, rfl⟩
      rw [← ht] at k1 C98
      have HTT := hide ht
      clear ht
      go_wp2_with (go_at_call 98; refine C98.mono ?_; clear C98; rintro e w3 ⟨rfl, H3⟩; obtain ⟨hz3, u3, hu3⟩ := (unhide HZ) w3 (unhide H3).2)
      exact ⟨⟨i + 1, congrArg (Value.int .i64) (by omega), by omega, hide (by have := (unhide HC).store (c := t) hin (unhide HT) (unhide H3).2 (Nat.le_refl _) (unhide H3).1; rw [← unhide HTT] at this; exact this)⟩, by simp [intOf]; omega⟩
    · obtain rfl : n = i := by omega
      have f1 : decide ((n : Int) < (n : Int)) = false := decide_eq_false (by omega)
      have f9 : decide (n < n) = false := decide_eq_false (by omega)
      go_wp2_with fail
      go_ret
      refine ⟨rfl, hide ⟨?_, (unhide HC).bel⟩⟩
      obtain ⟨cur, q1, q2, q3⟩ := (unhide HC).row
      refine .inr ⟨w.heap.size, 0, rfl, blk_lt q1, fun j U hU => ?_⟩
      have hj : j < n := by have := (List.getElem?_eq_some_iff.1 hU).1; have := unhide HN; omega
      obtain ⟨aj, cj, r1, r2, -⟩ := q3 j U hj hU
      exact ⟨aj, cj, by rw [cell_blk q1, Nat.zero_add]; exact r1, r2⟩
end Go.Proofs.Ytjmnddcombepaaa
