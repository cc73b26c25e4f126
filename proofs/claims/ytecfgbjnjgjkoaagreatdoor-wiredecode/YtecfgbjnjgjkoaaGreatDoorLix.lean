/- Line of the document: a word. -/
import Derived.Test.YtecfgbjnjgjkoaaGreatDoorLis
import Derived.Test.YtecfgbjnjgjkoaaGreatDoorLiw
import Derived.Test.YtecfgbjnjgjkoaaGreatDoorLit
import Derived.Test.YtecfgbjnjgjkoaaGreatDoorSpa
namespace Go.Proofs.YtecfgbjnjgjkoaaGreatDoor
open Go.ChangeShapes Go.WideShapes Go.ChangeAt Go.RowKit
set_option linter.unusedVariables false
set_option linter.unusedSimpArgs false
set_option maxRecDepth 20000
set_option maxHeartbeats 4000000

def clV : Option Nat → Int
  | some k => (k : Nat)
  | none => -1
theorem drop_at {T : List Nat} {i : Nat} (h : i < T.length) : T.drop i = T.getD i 0 :: T.drop (i + 1) := by
  rw [List.drop_eq_getElem_cons h]
  simp [List.getD, h]
theorem closing_step1 {q i : Nat} {T : List Nat} (h : i < T.length) (hc : T.getD i 0 ≠ q) (hs : ¬ (T.getD i 0 = 92 ∧ (q = 34 ∨ (i + 1 < T.length ∧ T.getD (i + 1) 0 = q)))) : Larder8.closingL q (T.drop i) = (Larder8.closingL q (T.drop (i + 1))).map (· + 1) := by
  rw [drop_at h, Larder8.closingL, if_neg hc, if_neg]
  rintro ⟨h1, h2⟩
  refine hs ⟨h1, h2.imp id (fun h3 => ?_)⟩
  rw [List.head?_drop] at h3
  obtain ⟨h4, h5⟩ := List.getElem?_eq_some_iff.1 h3
  exact ⟨h4, by simp [List.getD, h4, h5]⟩
theorem closing_step2 {q i : Nat} {T : List Nat} (h : i < T.length) (hc : T.getD i 0 ≠ q) (hs : T.getD i 0 = 92 ∧ (q = 34 ∨ (i + 1 < T.length ∧ T.getD (i + 1) 0 = q))) : Larder8.closingL q (T.drop i) = (Larder8.closingL q (T.drop (i + 2))).map (· + 2) := by
  rw [drop_at h, Larder8.closingL, if_neg hc, if_pos, List.drop_drop]
  refine ⟨hs.1, hs.2.imp id (fun ⟨h4, h5⟩ => ?_)⟩
  rw [List.head?_drop, List.getElem?_eq_getElem h4]
  simpa [List.getD, h4] using h5
theorem closing_here {q i : Nat} {T : List Nat} (h : i < T.length) (hc : T.getD i 0 = q) : Larder8.closingL q (T.drop i) = some 0 := by
  rw [drop_at h, Larder8.closingL, if_pos hc]
theorem closing_end {q i : Nat} {T : List Nat} (h : T.length ≤ i) : Larder8.closingL q (T.drop i) = none := by
  rw [List.drop_eq_nil_of_le h, Larder8.closingL]
theorem closing_any (w : World) (a : Option Addr) (cp tn q : Nat) (T : List Nat) (hq : q = 34 ∨ q = 39) (hn : tn = T.length) (hB : Bytes w a T) (hl : tn ≤ 1048576) :
    Calls Tryz.prog 61 #[.slice a tn cp, .int .u8 (q : Nat)] w fun e w' => e = .returned (.int .i64 (clV (Larder8.closingL q T))) ∧ w' = w := by
  obtain ⟨R, hR⟩ : ∃ R, R = clV (Larder8.closingL q T) := ⟨_, rfl⟩
  rw [← hR]
  have HR := hide hR
  have HN := hide hn
  have HB := hide hB
  clear hn hB hR
  rcases hq with rfl | rfl
  all_goals go_enter Tryz.func61, Tryz.ntmps61
  all_goals go_wp2
  · go_loopw [5] (fun iv wr => ∃ i : Nat, iv = .int .i64 (i : Nat) ∧ i ≤ tn + 1 ∧ Hid (Larder8.closingL 34 T = (Larder8.closingL 34 (T.drop i)).map (· + i)) ∧ Hid (wr = w)) (fun iv _ => tn + 1 - (intOf iv).toNat)
    case atStart => exact ⟨0, rfl, Nat.zero_le _, hide (by simp), hide rfl⟩
    case round =>
      obtain ⟨i, rfl, hi, hcl, hw⟩ := hrel
      obtain rfl := (unhide hw).symm
      clear hw
      rcases Nat.lt_or_ge i tn with hlt | hge
      · have f0 : decide ((i : Int) < (tn : Int)) = true := decide_eq_true (by omega)
        have g1 : (0 : Int) ≤ (i : Int) := by omega
        have g2 : (i : Int) < (tn : Int) := by omega
        have hN := unhide HN
        obtain ⟨b, off, rfl, hb, hc⟩ : ∃ b off, a = some ⟨b, off, none⟩ ∧ b < w.heap.size ∧ ∀ i, i < T.length → w.cell? ⟨b, off + i, none⟩ = some (.int .u8 (T.getD i 0 : Nat)) := by
          rcases unhide HB with h | h
          · rw [h] at hN; simp at hN; omega
          · exact h
        have c0 := hc i (by omega)
        obtain ⟨c, hcc⟩ : ∃ c, c = T.getD i 0 := ⟨_, rfl⟩
        have HC := hide hcc
        rw [← hcc] at c0
        have hil : Hid (i < T.length) := hide (by omega)
        clear hcc hc hN
        by_cases h34 : c = 34
        · subst h34
          go_wp2
          go_ret
          refine ⟨?_, rfl⟩
          rw [unhide HR, unhide hcl, closing_here (unhide hil) (unhide HC).symm]
          simp [clV]
        · have t1 : ((c : Int) == 34) = false := by rw [beq_eq_false_iff_ne]; omega
          by_cases h92 : c = 92
          · subst h92
            go_wp2
            refine ⟨⟨i + 2, by go_num, by omega, hide ?_, hide (by first | rfl | trivial)⟩, by simp [intOf]; omega⟩
            rw [unhide hcl, closing_step2 (unhide hil) (by rw [← unhide HC]; decide) ⟨(unhide HC).symm, .inl rfl⟩, Option.map_map]
            congr 1
            funext k
            simp only [Function.comp_apply]
            omega
          · have t2 : ((c : Int) == 92) = false := by rw [beq_eq_false_iff_ne]; omega
            go_wp2
            refine ⟨⟨i + 1, by go_num, by omega, hide ?_, hide (by first | rfl | trivial)⟩, by simp [intOf]; omega⟩
            rw [unhide hcl, closing_step1 (unhide hil) (by rw [← unhide HC]; exact h34) (by rw [← unhide HC]; exact fun h => h92 h.1), Option.map_map]
            congr 1
            funext k
            simp only [Function.comp_apply]
            omega
      · have f0 : decide ((i : Int) < (tn : Int)) = false := decide_eq_false (by omega)
        go_wp2
        go_ret
        refine ⟨?_, rfl⟩
        rw [unhide HR, unhide hcl, closing_end (by have := unhide HN; omega)]
        rfl
  · go_loopw [5] (fun iv wr => ∃ i : Nat, iv = .int .i64 (i : Nat) ∧ i ≤ tn + 1 ∧ Hid (Larder8.closingL 39 T = (Larder8.closingL 39 (T.drop i)).map (· + i)) ∧ Hid (wr = w)) (fun iv _ => tn + 1 - (intOf iv).toNat)
    case atStart => exact ⟨0, rfl, Nat.zero_le _, hide (by simp), hide rfl⟩
    case round =>
      obtain ⟨i, rfl, hi, hcl, hw⟩ := hrel
      obtain rfl := (unhide hw).symm
      clear hw
      rcases Nat.lt_or_ge i tn with hlt | hge
      · have f0 : decide ((i : Int) < (tn : Int)) = true := decide_eq_true (by omega)
        have g1 : (0 : Int) ≤ (i : Int) := by omega
        have g2 : (i : Int) < (tn : Int) := by omega
        have hN := unhide HN
        obtain ⟨b, off, rfl, hb, hc⟩ : ∃ b off, a = some ⟨b, off, none⟩ ∧ b < w.heap.size ∧ ∀ i, i < T.length → w.cell? ⟨b, off + i, none⟩ = some (.int .u8 (T.getD i 0 : Nat)) := by
          rcases unhide HB with h | h
          · rw [h] at hN; simp at hN; omega
          · exact h
        have c0 := hc i (by omega)
        have c1 : i + 1 < tn → w.cell? ⟨b, off + (i + 1), none⟩ = some (.int .u8 (T.getD (i + 1) 0 : Nat)) := fun h => hc (i + 1) (by omega)
        obtain ⟨c, hcc⟩ : ∃ c, c = T.getD i 0 := ⟨_, rfl⟩
        obtain ⟨d, hdd⟩ : ∃ d, d = T.getD (i + 1) 0 := ⟨_, rfl⟩
        have HC := hide hcc
        have HD := hide hdd
        rw [← hcc] at c0
        rw [← hdd] at c1
        have hil : Hid (i < T.length) := hide (by omega)
        clear hcc hc hN hdd
        have NX : ∀ (p : Nat), Hid (p = 1 ∨ p = 2) → Hid (p = 1 → ¬ (T.getD i 0 = 92 ∧ ((39 : Nat) = 34 ∨ (i + 1 < T.length ∧ T.getD (i + 1) 0 = 39)))) → Hid (p = 2 → (T.getD i 0 = 92 ∧ ((39 : Nat) = 34 ∨ (i + 1 < T.length ∧ T.getD (i + 1) 0 = 39)))) → Hid (c ≠ 39) → Larder8.closingL 39 T = (Larder8.closingL 39 (T.drop (i + p))).map (· + (i + p)) := fun p hp h1 h2 h3 => by
          rcases unhide hp with rfl | rfl
          · rw [unhide hcl, closing_step1 (unhide hil) (by rw [← unhide HC]; exact unhide h3) (unhide h1 rfl), Option.map_map]
            congr 1
            funext k
            simp only [Function.comp_apply]
            omega
          · rw [unhide hcl, closing_step2 (unhide hil) (by rw [← unhide HC]; exact unhide h3) (unhide h2 rfl), Option.map_map]
            congr 1
            funext k
            simp only [Function.comp_apply]
            omega
        have HNX := hide NX
        clear NX
        by_cases h39 : c = 39
        · subst h39
          clear c1
          go_wp2
          go_ret
          refine ⟨?_, rfl⟩
          rw [unhide HR, unhide hcl, closing_here (unhide hil) (unhide HC).symm]
          simp [clV]
        · have t1 : ((c : Int) == 39) = false := by rw [beq_eq_false_iff_ne]; omega
          by_cases h92 : c = 92
          · subst h92
            by_cases hlast : i + 1 < tn
            · have f1 : decide ((i : Int) + 1 < (tn : Int)) = true := decide_eq_true (by omega)
              have g3 : (0 : Int) ≤ (i : Int) + 1 := by omega
              have g4 : (i : Int) + 1 < (tn : Int) := by omega
              have c1' := c1 hlast
              clear c1
              by_cases hd : d = 39
              · subst hd
                go_wp2
                refine ⟨⟨i + 2, by go_num, by omega, hide (unhide HNX 2 (hide (.inr rfl)) (hide (fun h => by omega)) (hide (fun _ => ⟨(unhide HC).symm, .inr ⟨by have := unhide HN; omega, (unhide HD).symm⟩⟩)) (hide (by decide))), hide (by first | rfl | trivial)⟩, by simp [intOf]; omega⟩
              · have t3 : ((d : Int) == 39) = false := by rw [beq_eq_false_iff_ne]; omega
                go_wp2
                refine ⟨⟨i + 1, by go_num, by omega, hide (unhide HNX 1 (hide (.inl rfl)) (hide (fun _ h => hd (by rw [unhide HD]; exact (h.2.resolve_left (by decide)).2))) (hide (fun h => by omega)) (hide (by decide))), hide (by first | rfl | trivial)⟩, by simp [intOf]; omega⟩
            · have f1 : decide ((i : Int) + 1 < (tn : Int)) = false := decide_eq_false (by omega)
              clear c1
              go_wp2
              refine ⟨⟨i + 1, by go_num, by omega, hide (unhide HNX 1 (hide (.inl rfl)) (hide (fun _ h => by have := unhide HN; have := (h.2.resolve_left (by decide)).1; omega)) (hide (fun h => by omega)) (hide (by decide))), hide (by first | rfl | trivial)⟩, by simp [intOf]; omega⟩
          · have t2 : ((c : Int) == 92) = false := by rw [beq_eq_false_iff_ne]; omega
            clear c1
            go_wp2
            refine ⟨⟨i + 1, by go_num, by omega, hide (unhide HNX 1 (hide (.inl rfl)) (hide (fun _ h => h92 (by rw [unhide HC]; exact h.1))) (hide (fun h => by omega)) (hide h39)), hide (by first | rfl | trivial)⟩, by simp [intOf]; omega⟩
      · have f0 : decide ((i : Int) < (tn : Int)) = false := decide_eq_false (by omega)
        go_wp2
        go_ret
        refine ⟨?_, rfl⟩
        rw [unhide HR, unhide hcl, closing_end (by have := unhide HN; omega)]
        rfl
end Go.Proofs.YtecfgbjnjgjkoaaGreatDoor
namespace Go.Proofs.YtecfgbjnjgjkoaaGreatDoor
open Go.ChangeShapes Go.WideShapes Go.ChangeAt Go.RowKit
set_option linter.unusedVariables false
set_option linter.unusedSimpArgs false
set_option maxRecDepth 20000
set_option maxHeartbeats 4000000

/-- Copy, with its row -/
theorem copyR_any {w : World} {x : Addr} {cap : Nat} (l : List Nat) (hl : l.length ≤ 140737488355328) (hB : Bytes w (some x) l) :
    Calls Tryz.prog 60 #[.slice (some x) l.length cap] w fun e w' => e = .returned (.slice (some ⟨w.heap.size, 0, none⟩) l.length l.length) ∧ Hid (Gro w w' w.heap.size (.slice (some ⟨w.heap.size, 0, none⟩) l.length l.length) l.length l) := by
  obtain ⟨n, hn⟩ : ∃ n, n = l.length := ⟨_, rfl⟩
  have m1 := fun w' => run_make_row' (P := Tryz.prog) 25 5 (.int .u8 0) 1 Tryz.underlying25 Tryz.info5 rfl .i64 .i64 n (by omega) (by omega) w'
  have HB := (Below.refl w.heap.size w).alloc (Nat.le_refl _) (.cells (madeCells #[.int .u8 0] n) 5)
  have HG := heap_alloc_new w (.cells (madeCells #[.int .u8 0] n) 5)
  obtain ⟨i0, hi, hy0, hy1, hy2⟩ := info_parts Tryz.info5
  have hcopy : ∃ w2, (Builtin.copy_ #[25, 25] 3 #[.slice (some ⟨w.heap.size, 0, none⟩) n n, .slice (some x) n cap]).run Tryz.prog (w.alloc (.cells (madeCells #[.int .u8 0] n) 5)) = .ok (goInt n) w2 ∧ Hid (Gro w w2 w.heap.size (.slice (some ⟨w.heap.size, 0, none⟩) n n) n l) := by
    obtain ⟨cs, hcs⟩ : ∃ cs, cs = (List.range l.length).map (byV l) := ⟨_, rfl⟩
    have hlen : cs.length = n := by rw [hcs, hn]; simp
    have hw : ∀ j v, cs[j]? = some v → (w.alloc (.cells (madeCells #[.int .u8 0] n) 5)).cell? (x.add j) = some v := fun j v hj => by
      have hjl : j < l.length := by have := (List.getElem?_eq_some_iff.1 hj).1; omega
      rw [hcs, List.getElem?_map, List.getElem?_range hjl] at hj
      rcases hB with h | ⟨b, off, h, hb, hc⟩
      · subst h; simp at hjl
      · cases h
        rw [add_plain, HB.cell (p := ⟨b, off + j, none⟩) hb, hc j hjl]
        exact hj
    have hcp := run_copy_row (P := Tryz.prog) (w.alloc (.cells (madeCells #[.int .u8 0] n) 5)) 25 25 3 5 w.heap.size 0 n n x n cap (madeCells #[.int .u8 0] n) 5 cs Tryz.underlying25 (by rw [hi]; simp [hy1]) HG (by rw [hlen]; show n = min _ _; omega) hw (by rw [hlen]; simp [madeCells]) (fun v hv => by rw [hcs] at hv; obtain ⟨k, _, rfl⟩ := List.mem_map.1 hv; rfl)
    rw [hlen] at hcp
    have hrow := setRow_heap (w.alloc (.cells (madeCells #[.int .u8 0] n) 5)) w.heap.size _ ((madeCells #[.int .u8 0] n).toList.take 0 ++ cs ++ (madeCells #[.int .u8 0] n).toList.drop (0 + n)).toArray 5 (0, 0) HG
    have hbel := below_setRow HB (Nat.le_refl _) ((madeCells #[.int .u8 0] n).toList.take 0 ++ cs ++ (madeCells #[.int .u8 0] n).toList.drop (0 + n)).toArray
    refine ⟨_, hcp, hide ⟨hbel, hbel.size, .inr ⟨w.heap.size, n, _, rfl, hrow, Nat.le_refl _, by simp only [maxLen]; omega, by simp [madeCells, hlen], fun k hk => ?_⟩, fun g hg => ?_, hn⟩⟩
    · rw [List.take_zero, List.nil_append, List.getElem?_toArray, List.getElem?_append_left (by omega), hcs, List.getElem?_map, List.getElem?_range (by omega)]
      rfl
    · simp [Value.ownBlock] at hg
      omega
  obtain ⟨w2, hcp, HR⟩ := hcopy
  clear hB HB HG
  rw [← hn]
  clear hn hl
  go_enter Tryz.func60, Tryz.ntmps60
  go_wp2
  go_ret
  exact ⟨rfl, HR⟩
theorem Bytes.take {w : World} {a : Option Addr} {T : List Nat} (h : Bytes w a T) (k : Nat) : Bytes w a (T.take k) := by
  rcases h with e | ⟨b, off, e, h1, h2⟩
  · exact .inl (by rw [e]; simp)
  · refine .inr ⟨b, off, e, h1, fun i hi => ?_⟩
    simp only [List.length_take] at hi
    rw [h2 i (by omega), List.getD_eq_getElem?_getD, List.getD_eq_getElem?_getD, List.getElem?_take, if_pos (by omega)]
theorem first_step {T : List Nat} {i : Nat} (hi : i < T.length) (h1 : Larder8.blankL (T.getD i 0) = false) (h2 : Larder8.quoteC (T.getD i 0) = false) (h : Larder8.firstL T = (Larder8.firstL (T.drop i)).map (fun x => (T.take i ++ x.1, x.2))) : Larder8.firstL T = (Larder8.firstL (T.drop (i + 1))).map (fun x => (T.take (i + 1) ++ x.1, x.2)) := by
  rw [h, drop_at' hi, first_plain _ _ h1 h2, Option.map_map]
  congr 1
  funext x
  have e : T.take (i + 1) = T.take i ++ [T.getD i 0] := by
    rw [List.take_add_one, List.getElem?_eq_getElem hi]
    simp [List.getD, hi]
  simp only [Function.comp_apply]
  rw [e]
  simp
/-- what a quoted part makes of a word's end -/
def shutL : Option (List Nat × List Nat) → Option (List Nat × List Nat)
  | none => none
  | some (s, []) => some (s, [])
  | some (s, d :: r') => if Larder8.blankL d then some (s, d :: r') else none
theorem first_shutL (c : Nat) (r : List Nat) (h : c = 34 ∨ c = 39) : Larder8.firstL (c :: r) = shutL (Larder8.quotedP c r) := by
  rw [first_quote c r h]
  cases hq : Larder8.quotedP c r with
  | none => rfl
  | some y =>
    obtain ⟨s, t⟩ := y
    cases t <;> rfl
theorem closing_lt (q : Nat) : ∀ (n : Nat) (b : List Nat), b.length ≤ n → ∀ k, Larder8.closingL q b = some k → k < b.length
  | n, [], _, k, h => by simp [Larder8.closingL] at h
  | 0, c :: r, hl, k, h => by simp at hl
  | n + 1, c :: r, hl, k, h => by
    rw [Larder8.closingL] at h
    split at h
    · cases h; simp
    · split at h
      · cases h2 : Larder8.closingL q (r.drop 1) with
        | none => rw [h2] at h; cases h
        | some j =>
          rw [h2] at h
          have := closing_lt q n (r.drop 1) (by simp at hl ⊢; omega) j h2
          simp at h this ⊢
          omega
      · cases h2 : Larder8.closingL q r with
        | none => rw [h2] at h; cases h
        | some j =>
          rw [h2] at h
          have := closing_lt q n r (by simp at hl; omega) j h2
          simp at h ⊢
          omega
def FstEnd (w : World) (a : Option Addr) (tn cp : Nat) (T : List Nat) (e : Ending) (w' : World) : Prop := ∃ (va : Option Addr) (n vc : Nat) (ra : Option Addr) (rn rc : Nat) (ok : Bool), e = .returned (.tuple #[.slice va n vc, .slice ra rn rc, .bool ok]) ∧ Hid (Below w.heap.size w w' ∧ (ok = false → Larder8.firstL T = none) ∧ (ok = true → ∃ x, Larder8.firstL T = some x ∧ Gro w w' w.heap.size (.slice va n vc) n x.1 ∧ ∀ W0, Rst W0 a tn cp T → Rst W0 ra rn rc x.2))
theorem rfirst_any (w : World) (a : Option Addr) (tn cp : Nat) (T : List Nat) (hR : Rst w a tn cp T) (h0 : 0 < tn) (hsm : tn ≤ 1024) :
    Calls Tryz.prog 44 #[.slice a tn cp] w (FstEnd w a tn cp T) := by
  obtain ⟨b, off, rfl, hb, hcell⟩ := hR.at h0
  have hTl := hR.len
  have hle := hR.le
  have htop := hR.top
  have HTl := hide hTl
  have HR := hide hR
  have HC : Hid (∀ W, Below w.heap.size w W → ∀ k, k < tn → W.cell? ⟨b, off + k, none⟩ = some (.int .u8 (T.getD k 0 : Nat))) := hide (fun W hW k hk => by
    rw [hW.cell hb]
    exact hcell k hk)
  have CB : Hid (∀ W (c : Nat), Calls Tryz.prog 43 #[.int .u8 (c : Nat)] W fun e w' => e = .returned (.bool (Larder8.blankL c)) ∧ W = w') := hide (fun W c => (rblank_any W c).mono (fun e w' h => ⟨h.1, h.2.symm⟩))
  have CC : Hid (∀ i, i ≤ tn → Calls Tryz.prog 60 #[.slice (some ⟨b, off, none⟩) i cp] w fun e w' => e = .returned (.slice (some ⟨w.heap.size, 0, none⟩) i i) ∧ Hid (Gro w w' w.heap.size (.slice (some ⟨w.heap.size, 0, none⟩) i i) i (T.take i))) := hide (fun i hi => by
    have hl : (T.take i).length = i := by simp; omega
    have := copyR_any (cap := cp) (T.take i) (by omega) (hR.bytes.take i)
    rw [hl] at this
    exact this)
  clear hR hTl hcell
  obtain ⟨i5, hi5, hz5, hs5, hb5⟩ := info_partsS Tryz.info5s
  go_enter Tryz.func44, Tryz.ntmps44
  go_wp2
  go_loopw [5] (fun iv wr => ∃ i : Nat, iv = .int .i64 (i : Nat) ∧ i ≤ tn ∧ Hid (Larder8.firstL T = (Larder8.firstL (T.drop i)).map (fun x => (T.take i ++ x.1, x.2))) ∧ Hid (wr = w)) (fun iv _ => tn - (intOf iv).toNat)
  case atStart => exact ⟨0, rfl, Nat.zero_le _, hide (by simp), hide rfl⟩
  case round =>
    obtain ⟨i, rfl, hi, HF, hw⟩ := hrel
    obtain rfl := (unhide hw).symm
    clear hw
    have CCi := hide (unhide CC i hi)
    have gi0 : (0 : Int) ≤ (i : Int) := by omega
    have gi1 : (i : Int) ≤ (tn : Int) := by omega
    have gi2 : (i : Int) ≤ (cp : Int) := by omega
    rcases Nat.lt_or_ge i tn with hlt | hge
    · have f0 : decide ((i : Int) < (tn : Int)) = true := decide_eq_true (by omega)
      have e0 : ((i : Int) == (tn : Int)) = false := by rw [beq_eq_false_iff_ne]; omega
      have e0n : (i == tn) = false := by rw [beq_eq_false_iff_ne]; omega
      have g2 : (i : Int) < (tn : Int) := by omega
      have ci := unhide HC w (Below.refl _ _) i hlt
      obtain ⟨c, hc⟩ : ∃ c, c = T.getD i 0 := ⟨_, rfl⟩
      have HCC := hide hc
      rw [← hc] at ci
      clear hc
      cases hbl : Larder8.blankL c with
      | true =>
        have CBc : Hid (∀ W, Calls Tryz.prog 43 #[.int .u8 (c : Nat)] W fun e w' => e = .returned (.bool true) ∧ W = w') := hide (fun W => by have := unhide CB W c; rw [hbl] at this; exact this)
        have HE : Hid (∃ x, Larder8.firstL T = some x ∧ x.1 = T.take i ∧ x.2 = T.drop i) := hide ⟨(T.take i, T.drop i), by
          have hT := unhide HTl
          rw [unhide HF, drop_at' (by omega), ← unhide HCC, first_blank c _ hbl]
          simp, rfl, rfl⟩
        have hne : (cp = i) = False := eq_false (by omega)
        go_wp2_with (first
          | (go_at_call 43; with_reducible refine (unhide CBc _).mono ?_; rintro e w5 ⟨rfl, h5⟩; subst h5)
          | (go_at_call 60; with_reducible refine (unhide CCi).mono ?_; rintro e w6 ⟨rfl, h6⟩; have ci6 := unhide HC w6 (unhide h6).bel i hlt; rw [← unhide HCC] at ci6))
        go_region_held3 (fun w' => w'.cell? ⟨b, off + i, none⟩ = some (.int .u8 (c : Nat))) (go_keep) (fail)
        go_wp2
        go_ret3
        refine ⟨_, _, _, _, _, _, true, rfl, hide ⟨(unhide h6).bel.trans ⟨rfl, rfl, rfl, Nat.le_refl _, fun _ _ => rfl⟩, fun h => (by cases h), fun _ => ?_⟩⟩
        obtain ⟨x, hx1, hx2, hx3⟩ := unhide HE
        refine ⟨x, hx1, ?_, ?_⟩
        · rw [hx2]; exact (unhide h6).below ⟨rfl, rfl, rfl, Nat.le_refl _, fun _ _ => rfl⟩
        · intro W0 hW0; rw [hx3]; exact hW0.drop i hi
      | false =>
        have CBc : Hid (∀ W, Calls Tryz.prog 43 #[.int .u8 (c : Nat)] W fun e w' => e = .returned (.bool false) ∧ W = w') := hide (fun W => by have := unhide CB W c; rw [hbl] at this; exact this)
        by_cases hq : c = 34 ∨ c = 39
        · have hqs : (((c : Int) != 34) = false) ∨ (((c : Int) != 34) = true ∧ ((c : Int) != 39) = false) := by
            rcases hq with e | e
            · exact .inl (by rw [e]; rfl)
            · exact .inr ⟨by rw [e]; rfl, by rw [e]; rfl⟩
          have g5 : (i : Int) + 1 ≤ (tn : Int) := by omega
          have g6 : (0 : Int) ≤ (i : Int) + 1 := by omega
          obtain ⟨R1, hR1⟩ : ∃ R1, R1 = T.drop (i + 1) := ⟨_, rfl⟩
          have HR1 := hide hR1
          have hl1 : R1.length = tn - (i + 1) := by have := unhide HTl; rw [hR1]; simp; omega
          have hfq : Larder8.firstL (T.drop i) = shutL (Larder8.quotedP c R1) := by
            rw [drop_at' (by have := unhide HTl; omega), ← unhide HCC, first_shutL c _ hq, hR1]
          have HFQ := hide hfq
          clear hfq hR1
          cases hK : Larder8.closingL c R1 with
          | none =>
            have HE : Hid (Larder8.firstL T = none) := hide (by rw [unhide HF, unhide HFQ, Larder8.quoted_same c hq _ _ (Nat.le_refl _), hK]; rfl)
            have RA : Hid (Rst w (some ⟨b, off + (i + 1), none⟩) (tn - (i + 1)) (cp - (i + 1)) R1) := hide (by rw [unhide HR1]; exact (unhide HR).drop (i + 1) (by omega))
            have CLa : Hid (∀ W, Below w.heap.size w W → Calls Tryz.prog 61 #[.slice (some ⟨b, off + (i + 1), none⟩) (tn - (i + 1)) (cp - (i + 1)), .int .u8 (c : Nat)] W fun e w' => e = .returned (.int .i64 (-1)) ∧ W = w') := hide (fun W hW => by
              have := closing_any W (some ⟨b, off + (i + 1), none⟩) (cp - (i + 1)) (tn - (i + 1)) c R1 hq (unhide RA).len ((unhide RA).bytes.below hW) (by omega)
              rw [hK] at this
              exact this.mono (fun e w' h => ⟨h.1, h.2.symm⟩))
            have CLb : Hid (∀ W, cp = i + 1 → Calls Tryz.prog 61 #[.slice (some ⟨b, off, none⟩) (tn - (i + 1)) 0, .int .u8 (c : Nat)] W fun e w' => e = .returned (.int .i64 (-1)) ∧ W = w') := hide (fun W hh => by
              have hnil : R1 = [] := List.eq_nil_of_length_eq_zero (by omega)
              have := closing_any W (some ⟨b, off, none⟩) 0 (tn - (i + 1)) c R1 hq (by omega) (.inl hnil) (by omega)
              rw [hK] at this
              exact this.mono (fun e w' h => ⟨h.1, h.2.symm⟩))
            clear hK hl1
            rcases hqs with t1 | ⟨t1, t2⟩
            all_goals go_wp2_with (first
              | (go_at_call 43; with_reducible refine (unhide CBc _).mono ?_; rintro e w5 ⟨rfl, h5⟩; subst h5)
              | (go_at_call 60; with_reducible refine (unhide CCi).mono ?_; rintro e w6 ⟨rfl, h6⟩; have ci6 := unhide HC w6 (unhide h6).bel i hlt; rw [← unhide HCC] at ci6)
              | (go_at_call 61; with_reducible refine (unhide CLa _ (unhide h6).bel).mono ?_; rintro e w7 ⟨rfl, h7⟩; subst h7)
              | (go_at_call 61; with_reducible refine (unhide CLb _ (by omega)).mono ?_; rintro e w7 ⟨rfl, h7⟩; subst h7))
            all_goals go_ret3
            all_goals exact ⟨none, 0, 0, none, 0, 0, false, rfl, hide ⟨(unhide h6).bel, fun _ => unhide HE, fun h => (by cases h)⟩⟩
          | some k =>
            have hk : k < R1.length := closing_lt c _ _ (Nat.le_refl _) _ hK
            have hne : (cp = i + 1) = False := eq_false (by omega)
            have RA : Hid (Rst w (some ⟨b, off + (i + 1), none⟩) (tn - (i + 1)) (cp - (i + 1)) R1) := hide (by rw [unhide HR1]; exact (unhide HR).drop (i + 1) (by omega))
            have CLa : Hid (∀ W, Below w.heap.size w W → Calls Tryz.prog 61 #[.slice (some ⟨b, off + (i + 1), none⟩) (tn - (i + 1)) (cp - (i + 1)), .int .u8 (c : Nat)] W fun e w' => e = .returned (.int .i64 (k : Nat)) ∧ W = w') := hide (fun W hW => by
              have := closing_any W (some ⟨b, off + (i + 1), none⟩) (cp - (i + 1)) (tn - (i + 1)) c R1 hq (unhide RA).len ((unhide RA).bytes.below hW) (by omega)
              rw [hK] at this
              exact this.mono (fun e w' h => ⟨h.1, h.2.symm⟩))
            have CSa : Hid (∀ W, Below w.heap.size w W → Calls Tryz.prog 62 #[.slice (some ⟨b, off + (i + 1), none⟩) k (cp - (i + 1)), .int .u8 (c : Nat)] W fun e w' => ∃ (va : Option Addr) (n vc : Nat), e = .returned (.slice va n vc) ∧ Hid (Gro W w' W.heap.size (.slice va n vc) n (Larder8.saidL c (R1.take k)))) := hide (fun W hW => said_any W (some ⟨b, off + (i + 1), none⟩) k (cp - (i + 1)) c (R1.take k) hq ⟨((unhide RA).bytes.below hW).take k, by simp; omega, by omega, by omega⟩ (by omega))
            have HQ : Hid (Larder8.firstL (T.drop i) = shutL (some (Larder8.saidL c (R1.take k), R1.drop (k + 1)))) := hide (by rw [unhide HFQ, Larder8.quoted_same c hq _ _ (Nat.le_refl _), hK]; rfl)
            have hsl : (Larder8.saidL c (R1.take k)).length ≤ 1024 := by
              have h1 : Larder8.quotedP c R1 = some (Larder8.saidL c (R1.take k), R1.drop (k + 1)) := by rw [Larder8.quoted_same c hq _ _ (Nat.le_refl _), hK]; rfl
              have := quoted_say c _ _ (Nat.le_refl _) _ h1
              simp only at this
              omega
            have RD : Hid (∀ W0 ra, Rst W0 (some ⟨b, off, none⟩) tn cp T → (ra = some ⟨b, off + (i + 1) + (k + 1), none⟩ ∨ (cp - (i + 1)) = k + 1) → Rst W0 ra ((tn - (i + 1)) - (k + 1)) ((cp - (i + 1)) - (k + 1)) (R1.drop (k + 1))) := hide (fun W0 ra h0 h => by
              rcases h with rfl | h
              · have := h0.drop (i + 1) (by omega)
                rw [← unhide HR1] at this
                exact this.drop (k + 1) (by omega)
              · exact ⟨.inl (List.drop_eq_nil_of_le (by omega)), by simp; omega, by omega, by omega⟩)
            have hr0 : (0 : Int) ≤ (k : Int) := by omega
            have hr1 : (k : Int) ≤ ((cp - (i + 1) : Nat) : Int) := by omega
            have hr2 : (k : Int) + 1 ≤ ((tn - (i + 1) : Nat) : Int) := by omega
            have hr3 : (0 : Int) ≤ (k : Int) + 1 := by omega
            have hr4 : decide ((k : Int) < 0) = false := decide_eq_false (by omega)
            have hr5 : (k : Int) ≤ ((tn - (i + 1) : Nat) : Int) := by omega
            have hBR := (unhide RA).bytes
            have HC2 : Hid (∀ W, Below w.heap.size w W → k + 1 < (tn - (i + 1)) → W.cell? ⟨b, off + (i + 1) + (k + 1), none⟩ = some (.int .u8 (R1.getD (k + 1) 0 : Nat))) := hide (fun W hW hh => by
              have := unhide HC W hW (i + 1 + (k + 1)) (by omega)
              rw [show off + (i + 1) + (k + 1) = off + (i + 1 + (k + 1)) by omega, this, unhide HR1]
              simp [List.getD])
            have hNk : (tn - (i + 1)) = R1.length := by omega
            have HNk := hide hNk
            have EX : Hid (∀ l2 : List Nat, (k + 1 < (tn - (i + 1)) → Larder8.blankL (R1.getD (k + 1) 0) = true) → l2 = Larder8.saidL c (R1.take k) → Larder8.firstL T = some (T.take i ++ l2, R1.drop (k + 1))) := hide (fun l2 h1 h2 => by
              rw [unhide HF, unhide HQ, h2]
              rcases Nat.lt_or_ge (k + 1) R1.length with q | q
              · rw [drop_at' q]
                show (if Larder8.blankL (R1.getD (k + 1) 0) = true then _ else _ : Option (List Nat × List Nat)).map _ = _
                rw [if_pos (h1 (by omega))]
                rfl
              · rw [List.drop_eq_nil_of_le q]
                rfl)
            have EN : Hid (k + 1 < (tn - (i + 1)) → Larder8.blankL (R1.getD (k + 1) 0) = false → Larder8.firstL T = none) := hide (fun h1 h2 => by
              rw [unhide HF, unhide HQ, drop_at' (by omega)]
              show (if Larder8.blankL (R1.getD (k + 1) 0) = true then _ else _ : Option (List Nat × List Nat)).map _ = _
              rw [if_neg (by rw [h2]; decide)]
              rfl)
            obtain ⟨sl, hsle⟩ : ∃ sl, sl = Larder8.saidL c (R1.take k) := ⟨_, rfl⟩
            rw [← hsle] at CSa hsl
            have HSL := hide hsle
            clear hsle hBR hK hl1 HQ HFQ hNk
            rcases Nat.lt_or_ge (k + 1) (tn - (i + 1)) with hh | hh
            · have f7 : decide ((k : Int) + 1 < ((tn - (i + 1) : Nat) : Int)) = true := decide_eq_true (by omega)
              have f8 : (k : Int) + 1 < ((tn - (i + 1) : Nat) : Int) := by omega
              obtain ⟨d, hd⟩ : ∃ d, d = R1.getD (k + 1) 0 := ⟨_, rfl⟩
              have HD := hide hd
              clear hd
              cases hbd : Larder8.blankL d with
              | true =>
                have CBd : Hid (∀ W, Calls Tryz.prog 43 #[.int .u8 (d : Nat)] W fun e w' => e = .returned (.bool true) ∧ W = w') := hide (fun W => by have := unhide CB W d; rw [hbd] at this; exact this)
                have HE := hide (unhide EX sl (fun _ => by rw [← unhide HD]; exact hbd) (unhide HSL))
                have hbr : (cp - (i + 1) = k + 1) = False := eq_false (by omega)
                rcases hqs with t1 | ⟨t1, t2⟩
                all_goals go_wp2_with (first
                  | (go_at_call 43; with_reducible refine (unhide CBc _).mono ?_; rintro e w5 ⟨rfl, h5⟩; subst h5)
                  | (go_at_call 60; with_reducible refine (unhide CCi).mono ?_; rintro e w6 ⟨rfl, h6⟩; have ci6 := unhide HC w6 (unhide h6).bel i hlt; rw [← unhide HCC] at ci6; have d6 := unhide HC2 w6 (unhide h6).bel hh; rw [← unhide HD] at d6)
                  | (go_at_call 61; with_reducible refine (unhide CLa _ (unhide h6).bel).mono ?_; rintro e w7 ⟨rfl, h7⟩; subst h7)
                  | (go_at_call 43; with_reducible refine (unhide CBd _).mono ?_; rintro e w5 ⟨rfl, h5⟩; subst h5)
                  | (go_at_call 62; with_reducible refine (unhide CSa _ (unhide h6).bel).mono ?_; rintro e w8 ⟨sa, sn, sc, rfl, h8⟩; have G8 := hide ((unhide h6).below (unhide h8).bel); obtain rfl : sn = sl.length := (unhide h8).len)
                  | (at_builtin; refine append_bytes rfl _ _ 25 rfl i5 Tryz.underlying25 hi5 hz5 hs5 hb5 (.slice (some ⟨w.heap.size, 0, none⟩) i i) i (byV (T.take i)) rfl (unhide G8).row sa sc sl (by rfl) (unhide h8).row.inb'.1 (by omega) ?_; intro v9 w9 h9 g9; have G9 := hide ((unhide G8).app h9 g9); obtain ⟨a9, c9, rfl⟩ := h9.shape; clear h9 g9; have ci9 := unhide HC w9 (unhide G9).bel i hlt; rw [← unhide HCC] at ci9))
                all_goals generalize hP1 : cp - (i + 1) = P1 at *
                all_goals generalize hN1 : tn - (i + 1) = N1 at *
                all_goals obtain ⟨k1, hk1⟩ : ∃ k1, k1 = k + 1 := ⟨_, rfl⟩
                all_goals have hwr : IntKind.i64.wrap ((k : Int) + 1) = (k1 : Int) := by rw [IntKind.wrap_i64]; omega
                all_goals have hq1 : (0 : Int) ≤ (k1 : Int) := by omega
                all_goals have hq2 : (k1 : Int) ≤ (N1 : Int) := by omega
                all_goals rw [← hk1] at hbr
                all_goals have HK1 := hide hk1
                all_goals clear hk1 hr2 hr3 hP1 hN1
                all_goals go_region_held3 (fun w' => w'.cell? ⟨b, off + i, none⟩ = some (.int .u8 (c : Nat))) (go_keep) (fail)
                all_goals go_wp2
                all_goals go_ret3
                all_goals
                  refine ⟨_, _, _, _, _, _, true, rfl, hide ⟨(unhide G9).bel.trans ⟨rfl, rfl, rfl, Nat.le_refl _, fun _ _ => rfl⟩, fun h => (by cases h), fun _ => ⟨_, unhide HE, ?_, ?_⟩⟩⟩
                  · exact (unhide G9).below ⟨rfl, rfl, rfl, Nat.le_refl _, fun _ _ => rfl⟩
                  · have hz := unhide HK1
                    subst hz
                    exact fun W0 hW0 => unhide RD W0 _ hW0 (by first | exact .inl rfl | exact .inr (of_eq_true hbr))
              | false =>
                have CBd : Hid (∀ W, Calls Tryz.prog 43 #[.int .u8 (d : Nat)] W fun e w' => e = .returned (.bool false) ∧ W = w') := hide (fun W => by have := unhide CB W d; rw [hbd] at this; exact this)
                have HE := hide (unhide EN hh (by rw [← unhide HD]; exact hbd))
                rcases hqs with t1 | ⟨t1, t2⟩
                all_goals go_wp2_with (first
                  | (go_at_call 43; with_reducible refine (unhide CBc _).mono ?_; rintro e w5 ⟨rfl, h5⟩; subst h5)
                  | (go_at_call 60; with_reducible refine (unhide CCi).mono ?_; rintro e w6 ⟨rfl, h6⟩; have ci6 := unhide HC w6 (unhide h6).bel i hlt; rw [← unhide HCC] at ci6; have d6 := unhide HC2 w6 (unhide h6).bel hh; rw [← unhide HD] at d6)
                  | (go_at_call 61; with_reducible refine (unhide CLa _ (unhide h6).bel).mono ?_; rintro e w7 ⟨rfl, h7⟩; subst h7)
                  | (go_at_call 43; with_reducible refine (unhide CBd _).mono ?_; rintro e w5 ⟨rfl, h5⟩; subst h5))
                all_goals go_ret3
                all_goals exact ⟨none, 0, 0, none, 0, 0, false, rfl, hide ⟨(unhide h6).bel, fun _ => unhide HE, fun h => (by cases h)⟩⟩
            · have f7 : decide ((k : Int) + 1 < ((tn - (i + 1) : Nat) : Int)) = false := decide_eq_false (by omega)
              have HE := hide (unhide EX sl (fun h => by omega) (unhide HSL))
              have hbr : (cp - (i + 1) = k + 1) = True ∨ (cp - (i + 1) = k + 1) = False := by
                by_cases h : cp - (i + 1) = k + 1
                · exact .inl (eq_true h)
                · exact .inr (eq_false h)
              rcases hqs with t1 | ⟨t1, t2⟩ <;> rcases hbr with hbr | hbr
              all_goals go_wp2_with (first
                | (go_at_call 43; with_reducible refine (unhide CBc _).mono ?_; rintro e w5 ⟨rfl, h5⟩; subst h5)
                | (go_at_call 60; with_reducible refine (unhide CCi).mono ?_; rintro e w6 ⟨rfl, h6⟩; have ci6 := unhide HC w6 (unhide h6).bel i hlt; rw [← unhide HCC] at ci6)
                | (go_at_call 61; with_reducible refine (unhide CLa _ (unhide h6).bel).mono ?_; rintro e w7 ⟨rfl, h7⟩; subst h7)
                | (go_at_call 62; with_reducible refine (unhide CSa _ (unhide h6).bel).mono ?_; rintro e w8 ⟨sa, sn, sc, rfl, h8⟩; have G8 := hide ((unhide h6).below (unhide h8).bel); obtain rfl : sn = sl.length := (unhide h8).len)
                | (at_builtin; refine append_bytes rfl _ _ 25 rfl i5 Tryz.underlying25 hi5 hz5 hs5 hb5 (.slice (some ⟨w.heap.size, 0, none⟩) i i) i (byV (T.take i)) rfl (unhide G8).row sa sc sl (by rfl) (unhide h8).row.inb'.1 (by omega) ?_; intro v9 w9 h9 g9; have G9 := hide ((unhide G8).app h9 g9); obtain ⟨a9, c9, rfl⟩ := h9.shape; clear h9 g9; have ci9 := unhide HC w9 (unhide G9).bel i hlt; rw [← unhide HCC] at ci9))
              all_goals generalize hP1 : cp - (i + 1) = P1 at *
              all_goals generalize hN1 : tn - (i + 1) = N1 at *
              all_goals obtain ⟨k1, hk1⟩ : ∃ k1, k1 = k + 1 := ⟨_, rfl⟩
              all_goals have hwr : IntKind.i64.wrap ((k : Int) + 1) = (k1 : Int) := by rw [IntKind.wrap_i64]; omega
              all_goals have hq1 : (0 : Int) ≤ (k1 : Int) := by omega
              all_goals have hq2 : (k1 : Int) ≤ (N1 : Int) := by omega
              all_goals rw [← hk1] at hbr
              all_goals have HK1 := hide hk1
              all_goals clear hk1 hr2 hr3 hP1 hN1
              all_goals go_region_held3 (fun w' => w'.cell? ⟨b, off + i, none⟩ = some (.int .u8 (c : Nat))) (go_keep) (fail)
              all_goals go_wp2
              all_goals go_ret3
              all_goals
                refine ⟨_, _, _, _, _, _, true, rfl, hide ⟨(unhide G9).bel.trans ⟨rfl, rfl, rfl, Nat.le_refl _, fun _ _ => rfl⟩, fun h => (by cases h), fun _ => ⟨_, unhide HE, ?_, ?_⟩⟩⟩
                · exact (unhide G9).below ⟨rfl, rfl, rfl, Nat.le_refl _, fun _ _ => rfl⟩
                · have hz := unhide HK1
                  subst hz
                  exact fun W0 hW0 => unhide RD W0 _ hW0 (by first | exact .inl rfl | exact .inr (of_eq_true hbr))
        · have t1 : ((c : Int) == 34) = false := by rw [beq_eq_false_iff_ne]; omega
          have t2 : ((c : Int) == 39) = false := by rw [beq_eq_false_iff_ne]; omega
          have t1' : ((c : Int) != 34) = true := by rw [bne, t1]; rfl
          have t2' : ((c : Int) != 39) = true := by rw [bne, t2]; rfl
          have HE : Hid (Larder8.firstL T = (Larder8.firstL (T.drop (i + 1))).map (fun x => (T.take (i + 1) ++ x.1, x.2))) := hide (first_step (by have := unhide HTl; omega) (by rw [← unhide HCC]; exact hbl) (by rw [← unhide HCC]; unfold Larder8.quoteC; simp; omega) (unhide HF))
          go_wp2_with (go_at_call 43; with_reducible refine (unhide CBc _).mono ?_; rintro e w5 ⟨rfl, h5⟩; subst h5)
          go_roundw
          case rel => exact ⟨i + 1, by go_num, by omega, HE, hide (by first | rfl | trivial)⟩
          case measure => simp [intOf]; omega
    · obtain rfl : i = tn := by omega
      have f0 : decide ((i : Int) < (i : Int)) = false := decide_eq_false (by omega)
      have e0 : ((i : Int) == (i : Int)) = true := by simp
      have HE : Hid (∃ x, Larder8.firstL T = some x ∧ x.1 = T.take i ∧ x.2 = []) := hide ⟨(T.take i, []), by
        have hT := unhide HTl
        rw [unhide HF, List.drop_eq_nil_of_le (by omega), first_end]
        simp, rfl, rfl⟩
      obtain ⟨t0, ht0⟩ : ∃ t0, t0 = T.getD 0 0 := ⟨_, rfl⟩
      have HC0 : Hid (∀ W, Below w.heap.size w W → W.cell? ⟨b, off, none⟩ = some (.int .u8 (t0 : Nat))) := hide (fun W hW => by rw [ht0]; exact unhide HC W hW 0 h0)
      clear ht0
      go_wp2_with (go_at_call 60; with_reducible refine (unhide CCi).mono ?_; rintro e w6 ⟨rfl, h6⟩; have c06 := unhide HC0 w6 (unhide h6).bel)
      go_region_held3 (fun w' => w'.cell? ⟨b, off, none⟩ = some (.int .u8 (t0 : Nat))) (go_keep) (fail)
      all_goals go_wp2
      all_goals go_ret3
      all_goals
        refine ⟨_, _, _, _, _, _, true, rfl, hide ⟨(unhide h6).bel.trans ⟨rfl, rfl, rfl, Nat.le_refl _, fun _ _ => rfl⟩, fun h => (by cases h), fun _ => ?_⟩⟩
        obtain ⟨x, hx1, hx2, hx3⟩ := unhide HE
        refine ⟨x, hx1, ?_, ?_⟩
        · rw [hx2]; exact (unhide h6).below ⟨rfl, rfl, rfl, Nat.le_refl _, fun _ _ => rfl⟩
        · intro W0 hW0; rw [hx3]; exact ⟨.inl rfl, by simp, by omega, by omega⟩
end Go.Proofs.YtecfgbjnjgjkoaaGreatDoor
