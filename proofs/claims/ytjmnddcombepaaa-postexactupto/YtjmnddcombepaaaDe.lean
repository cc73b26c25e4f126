/- The document's Cmp; Listeners. -/
import Derived.Test.YtjmnddcombepaaaDc
namespace Go.Proofs.Ytjmnddcombepaaa
open Go.ChangeShapes Go.WideShapes Go.ChangeAt Go.RowKit Go.Maps
set_option linter.unusedVariables false
set_option linter.unusedSimpArgs false
set_option maxRecDepth 100000
set_option maxHeartbeats 8000000
theorem restC_snoc (S : List Key) (k : Key) (c : Int) : restC (S ++ [k]) c = if k.1 = c then restC S c else restC S c ++ [k] := by
  unfold restC
  rw [List.filter_append]
  by_cases h : k.1 = c
  · rw [if_pos h]; simp [h]
  · rw [if_neg h]; simp [h]
theorem ddrop_any (w : World) (q : Nat) (v : Value) (L : List Key) (c : Int) (h : RPv w q v L) (hL : L.length ≤ 500000) :
    Calls Try.prog 48 #[.pointer (some ⟨q, 0, none⟩), .int .i64 c] w fun e w' => e = .returned (.tuple #[]) ∧ Hid (∃ v', RPv w' q v' (restC L c) ∧ DCh w w' q v v') := by
  obtain ⟨i0, hi0, hz0, hz1, hz2⟩ : ∃ i, Try.prog.info? 113 = some i ∧ i.zero = some (.agg #[.int .i64 0, .string ⟨#[]⟩, .bool false]) ∧ i.size = 3 ∧ i.bytes = 32 := by
    obtain ⟨i0, hi0, hzz⟩ := Option.map_eq_some_iff.1 info113
    simp only [Prod.mk.injEq] at hzz
    exact ⟨i0, hi0, hzz.1, hzz.2.1, hzz.2.2⟩
  obtain ⟨a, cap, rfl⟩ := h.row.shape
  obtain ⟨n, hn⟩ : ∃ n, n = L.length := ⟨_, rfl⟩
  have HR : Hid (∀ i x, L[i]? = some x → ∃ b, a = some ⟨b, 0, none⟩ ∧ b < w.heap.size ∧ w.cell? ⟨b, i * 3, none⟩ = some (.int .i64 x.1) ∧ w.cell? ⟨b, i * 3 + 1, none⟩ = some (.string (bs x.2.1)) ∧ w.cell? ⟨b, i * 3 + 2, none⟩ = some (.bool x.2.2)) := hide fun i x hx => by
    obtain ⟨g, cp, e, k0, k1, k2⟩ := h.at hx
    cases e
    exact ⟨g, rfl, h.row.lt g rfl, k0, k1, k2⟩
  have HH : Hid (q < w.heap.size ∧ w.heap[q]? = some (.cells #[.slice a n cap] 99 (0, 0))) := by rw [hn]; exact hide ⟨h.lt, h.cell⟩
  have c0 : w.cell? ⟨q, 0, none⟩ = some (.slice a n cap) := cell_blk (unhide HH).2 0
  have HN := hide hn
  have hn5 : n ≤ 500000 := by omega
  rw [← hn]
  clear h hn hL
  go_enter Try.func48, Try.ntmps48
  go_wp2_with fail
  clear c0
  go_loopw [4, 5] (fun lv iv wr => ∃ (i m : Nat) (a' : Option Addr) (c' : Nat), lv = .slice a' m c' ∧ iv = .int .i64 ((i : Nat) : Int) ∧ i ≤ n ∧ m ≤ i ∧ Hid (Nw w wr (.slice a' m c') ∧ m = (restC (L.take i) c).length ∧ Rws wr 113 3 (.slice a' m c') (restC (L.take i) c).length (fun k => ((restC (L.take i) c).flatMap nmC).getD k undef))) (fun _ iv _ => n - (intOf iv).toNat)
  case atStart => exact ⟨0, 0, none, 0, rfl, rfl, Nat.zero_le _, Nat.le_refl _, hide ⟨Nw.nil w, rfl, .inl ⟨rfl, rfl⟩⟩⟩
  case round =>
    obtain ⟨i, m, a', c', rfl, rfl, hi, hm, HB⟩ := hrel
    have c0 : wr.cell? ⟨q, 0, none⟩ = some (.slice a n cap) := by
      obtain ⟨l0, l1⟩ := unhide HH
      exact ((unhide HB).1.bel.cell (p := ⟨q, 0, none⟩) l0).trans (cell_blk l1 0)
    by_cases hin : i < n
    · have f1 : decide ((i : Int) < (n : Int)) = true := decide_eq_true (by omega)
      have f9 : decide (i < n) = true := decide_eq_true (by omega)
      have g1 : (0 : Int) ≤ (i : Int) := by omega
      have g2 : (i : Int) < (n : Int) := by omega
      obtain ⟨⟨kc, kt, kp⟩, hx⟩ : ∃ x, L[i]? = some x := ⟨_, List.getElem?_eq_getElem (by have := unhide HN; omega)⟩
      obtain ⟨b, rfl, hb, k0, k1, k2⟩ := (unhide HR) i _ hx
      have ht : L.take (i + 1) = L.take i ++ [(kc, kt, kp)] := by rw [List.take_add_one, hx]; rfl
      have hs := restC_snoc (L.take i) (kc, kt, kp) c
      rw [← ht] at hs
      have HS := hide hs
      have k0 := ((unhide HB).1.bel.cell (p := ⟨b, i * 3, none⟩) hb).trans k0
      have k1 := ((unhide HB).1.bel.cell (p := ⟨b, i * 3 + 1, none⟩) hb).trans k1
      have k2 := ((unhide HB).1.bel.cell (p := ⟨b, i * 3 + 2, none⟩) hb).trans k2
      clear hs ht hx
      by_cases hc : kc = c
      · have f2 : (kc != c) = false := by simpa using hc
        have HS2 : Hid (restC (L.take (i + 1)) c = restC (L.take i) c) := hide (by rw [unhide HS, if_pos hc])
        clear hc
        go_wp2_with fail
        exact ⟨⟨i + 1, m, a', c', rfl, congrArg (Value.int .i64) (by omega), by omega, by omega, (by rw [unhide HS2]; exact HB)⟩, by simp [intOf]; omega⟩
      · have f2 : (kc != c) = true := by simpa using hc
        have HS2 : Hid (restC (L.take (i + 1)) c = restC (L.take i) c ++ [(kc, kt, kp)]) := hide (by rw [unhide HS, if_neg hc])
        clear hc
        have hal := (Below.refl wr.heap.size wr).alloc (Nat.le_refl _) (.cells #[.int .i64 kc, .string (bs kt), .bool kp] 113)
        have HA := hide hal
        clear hal
        go_wp2_with (first
          | (at_builtin; refine append_rws rfl _ _ 97 rfl 113 i0 _ 3 32 Try.underlying97 hi0 hz0 hz1 hz2 rfl 113 (.slice a' m c') m (fun k => ((restC (L.take i) c).flatMap nmC).getD k undef) rfl (by obtain ⟨-, e, z⟩ := unhide HB; rw [← e] at z; exact z.below (unhide HA)) (.inl rfl) wr.heap.size 1 rfl [.int .i64 kc, .string (bs kt), .bool kp] (by decide) rfl (made_cells wr [.int .i64 kc, .string (bs kt), .bool kp] 113) (by simp [Value.oneCell']) (by omega) (by omega) ?_; intro v5 w5 h5 k5; obtain ⟨a5, c5, rfl⟩ := h5.shape; have N5 := hide (((unhide HB).1.on (unhide HA)).ga (.inr k5)); have R5 := hide (nm_snoc (k := (kc, kt, kp)) (unhide HB).2.1 h5); clear h5 k5; go_frame))
        exact ⟨⟨i + 1, m + 1, a5, c5, rfl, congrArg (Value.int .i64) (by omega), by omega, by omega, (by rw [unhide HS2]; exact hide ⟨unhide N5, by rw [List.length_append, ← (unhide HB).2.1]; rfl, unhide R5⟩)⟩, by simp [intOf]; omega⟩
    · obtain rfl : n = i := by omega
      have f1 : decide ((n : Int) < (n : Int)) = false := decide_eq_false (by omega)
      have f9 : decide (n < n) = false := decide_eq_false (by omega)
      have hq : wr.heap[q]? = some (.cells #[.slice a n cap] 99 (0, 0)) := ((unhide HB).1.bel.block q (unhide HH).1).trans (unhide HH).2
      have hfz : wr.frozen? ⟨q, 0, none⟩ = false := by simp [World.frozen?, hq]
      have ht : L.take n = L := List.take_of_length_le (by have := unhide HN; omega)
      rw [ht] at HB
      have S5 := hide (RP_store hq (unhide HB).2.2)
      clear hq ht
      go_wp2_with fail
      go_end0
      exact ⟨rfl, hide ⟨_, (unhide S5).1, DCh.stored (Below.refl _ _) (unhide HB).1 (unhide S5).2⟩⟩
end Go.Proofs.Ytjmnddcombepaaa
namespace Go.Proofs.Ytjmnddcombepaaa
open Go.ChangeShapes Go.WideShapes Go.ChangeAt Go.RowKit Go.Maps
set_option linter.unusedVariables false
set_option linter.unusedSimpArgs false
set_option maxRecDepth 100000
set_option maxHeartbeats 8000000
/-- which comes first -/
def cmpL : List Nat → List Nat → Int
  | [], [] => 0
  | [], _ :: _ => -1
  | _ :: _, [] => 1
  | a :: A, b :: B => if a < b then -1 else if b < a then 1 else cmpL A B
theorem cmpL_at {A B : List Nat} {i : Nat} (ha : i < A.length) (hb : i < B.length) : cmpL (A.drop i) (B.drop i) = if A.getD i 0 < B.getD i 0 then -1 else if B.getD i 0 < A.getD i 0 then 1 else cmpL (A.drop (i + 1)) (B.drop (i + 1)) := by
  rw [List.drop_eq_getElem_cons ha, List.drop_eq_getElem_cons hb, cmpL, List.getD_eq_getElem?_getD, List.getD_eq_getElem?_getD, List.getElem?_eq_getElem ha, List.getElem?_eq_getElem hb]
  rfl
theorem cmpL_end {A B : List Nat} {i : Nat} (h : ¬(i < A.length ∧ i < B.length)) (ha : i ≤ A.length) (hb : i ≤ B.length) : cmpL (A.drop i) (B.drop i) = if A.length < B.length then -1 else if B.length < A.length then 1 else 0 := by
  by_cases h1 : i < A.length
  · have h2 : i = B.length := by omega
    subst h2
    rw [List.drop_eq_getElem_cons h1, List.drop_length, cmpL, if_neg (by omega), if_pos (by omega)]
  · have h2 : i = A.length := by omega
    subst h2
    rw [List.drop_length]
    by_cases h3 : A.length < B.length
    · rw [List.drop_eq_getElem_cons h3, cmpL, if_pos h3]
    · rw [List.drop_of_length_le (by omega), cmpL, if_neg h3, if_neg (by omega)]
theorem dcmp_any (w : World) (a b : Option Addr) (n m c1 c2 : Nat) (A B : List Nat) (hA : Bytes w a A) (hB : Bytes w b B) (hn : n = A.length) (hm : m = B.length) (hn2 : n ≤ 140737488355328) (hm2 : m ≤ 140737488355328) :
    Calls Try.prog 76 #[.slice a n c1, .slice b m c2] w fun e w' => e = .returned (.int .i64 (cmpL A B)) ∧ Hid (Below w.heap.size w w') := by
  have HA := hide hA
  have HB := hide hB
  have HN := hide hn
  have HM := hide hm
  clear hA hB hn hm
  go_enter Try.func76, Try.ntmps76
  go_wp2_with fail
  go_loopw [5] (fun iv wr => ∃ i : Nat, iv = .int .i64 ((i : Nat) : Int) ∧ i ≤ n ∧ i ≤ m ∧ Hid (Below w.heap.size w wr ∧ cmpL A B = cmpL (A.drop i) (B.drop i))) (fun iv _ => n - (intOf iv).toNat)
  case atStart => exact ⟨0, rfl, Nat.zero_le _, Nat.zero_le _, hide ⟨Below.refl _ _, rfl⟩⟩
  case round =>
    obtain ⟨i, rfl, hi, hj, HW⟩ := hrel
    by_cases hin : i < n ∧ i < m
    · have f1 : decide ((i : Int) < (n : Int)) = true := decide_eq_true (by omega)
      have f2 : decide ((i : Int) < (m : Int)) = true := decide_eq_true (by omega)
      have f3 : decide (i < n) = true := decide_eq_true (by omega)
      have f4 : decide (i < m) = true := decide_eq_true (by omega)
      have g1 : (0 : Int) ≤ (i : Int) := by omega
      have g2 : (i : Int) < (n : Int) := by omega
      have g3 : (i : Int) < (m : Int) := by omega
      obtain ⟨ga, oa, rfl, k1⟩ : ∃ ga oa, a = some ⟨ga, oa, none⟩ ∧ wr.cell? ⟨ga, oa + i, none⟩ = some (.int .u8 (A.getD i 0 : Nat)) := by
        rcases unhide HA with h | ⟨ga, oa, e, hl, hc⟩
        · have := unhide HN; rw [h] at this; simp at this; omega
        · exact ⟨ga, oa, e, ((unhide HW).1.cell (p := ⟨ga, oa + i, none⟩) hl).trans (hc i (by have := unhide HN; omega))⟩
      obtain ⟨gb, ob, rfl, k2⟩ : ∃ gb ob, b = some ⟨gb, ob, none⟩ ∧ wr.cell? ⟨gb, ob + i, none⟩ = some (.int .u8 (B.getD i 0 : Nat)) := by
        rcases unhide HB with h | ⟨gb, ob, e, hl, hc⟩
        · have := unhide HM; rw [h] at this; simp at this; omega
        · exact ⟨gb, ob, e, ((unhide HW).1.cell (p := ⟨gb, ob + i, none⟩) hl).trans (hc i (by have := unhide HM; omega))⟩
      have hat := cmpL_at (A := A) (B := B) (i := i) (by have := unhide HN; omega) (by have := unhide HM; omega)
      have HT : Hid (cmpL A B = if A.getD i 0 < B.getD i 0 then -1 else if B.getD i 0 < A.getD i 0 then 1 else cmpL (A.drop (i + 1)) (B.drop (i + 1))) := hide ((unhide HW).2.trans hat)
      clear hat
      have HD := hide (below_drew (unhide HW).1)
      have HD2 := hide (below_drew (below_drew (unhide HW).1))
      generalize A.getD i 0 = x at HT k1
      generalize B.getD i 0 = y at HT k2
      by_cases h1 : x < y
      · have f5 : decide ((x : Int) < (y : Int)) = true := decide_eq_true (by omega)
        have f6 : decide (x < y) = true := decide_eq_true h1
        have HR : Hid (cmpL A B = -1) := hide (by rw [unhide HT, if_pos h1])
        clear h1
        go_wp2_with fail
        go_region_held3 (fun W => W.cell? ⟨ga, oa + i, none⟩ = some (.int .u8 (x : Nat)) ∧ W.cell? ⟨gb, ob + i, none⟩ = some (.int .u8 (y : Nat))) (go_keep) (fail)
        all_goals go_wp2_with fail
        all_goals go_ret
        all_goals exact ⟨congrArg (fun z => Ending.returned (.int .i64 z)) (unhide HR).symm, HD⟩
      · have f5 : decide ((x : Int) < (y : Int)) = false := decide_eq_false (by omega)
        have f6 : decide (x < y) = false := decide_eq_false h1
        by_cases h2 : y < x
        · have f7 : decide ((y : Int) < (x : Int)) = true := decide_eq_true (by omega)
          have f8 : decide ((x : Int) > (y : Int)) = true := decide_eq_true (by omega)
          have f9 : decide (y < x) = true := decide_eq_true h2
          have HR : Hid (cmpL A B = 1) := hide (by rw [unhide HT, if_neg h1, if_pos h2])
          clear h1 h2
          go_wp2_with fail
          go_region_held3 (fun W => W.cell? ⟨ga, oa + i, none⟩ = some (.int .u8 (x : Nat)) ∧ W.cell? ⟨gb, ob + i, none⟩ = some (.int .u8 (y : Nat))) (go_keep) (fail)
          all_goals go_wp2_with fail
          all_goals go_region_held3 (fun W => W.cell? ⟨ga, oa + i, none⟩ = some (.int .u8 (x : Nat)) ∧ W.cell? ⟨gb, ob + i, none⟩ = some (.int .u8 (y : Nat))) (go_keep) (fail)
          all_goals go_wp2_with fail
          all_goals go_ret
          all_goals exact ⟨congrArg (fun z => Ending.returned (.int .i64 z)) (unhide HR).symm, HD2⟩
        · have f7 : decide ((y : Int) < (x : Int)) = false := decide_eq_false (by omega)
          have f8 : decide ((x : Int) > (y : Int)) = false := decide_eq_false (by omega)
          have f9 : decide (y < x) = false := decide_eq_false h2
          have HR : Hid (cmpL A B = cmpL (A.drop (i + 1)) (B.drop (i + 1))) := hide (by rw [unhide HT, if_neg h1, if_neg h2])
          clear h1 h2
          go_wp2_with fail
          go_region_held3 (fun W => W.cell? ⟨ga, oa + i, none⟩ = some (.int .u8 (x : Nat)) ∧ W.cell? ⟨gb, ob + i, none⟩ = some (.int .u8 (y : Nat))) (go_keep) (fail)
          all_goals go_wp2_with fail
          all_goals go_region_held3 (fun W => W.cell? ⟨ga, oa + i, none⟩ = some (.int .u8 (x : Nat)) ∧ W.cell? ⟨gb, ob + i, none⟩ = some (.int .u8 (y : Nat))) (go_keep) (fail)
          all_goals go_wp2_with fail
          all_goals exact ⟨⟨i + 1, congrArg (Value.int .i64) (by omega), by omega, by omega, hide ⟨unhide HD2, unhide HR⟩⟩, by simp [intOf]; omega⟩
    · have HE : Hid (cmpL A B = if n < m then -1 else if m < n then 1 else 0) := hide (by
        have h1 := unhide HN
        have h2 := unhide HM
        rw [(unhide HW).2, cmpL_end (by rw [← h1, ← h2]; exact hin) (by omega) (by omega), ← h1, ← h2])
      have HL := hide (unhide HW).1
      clear HA HB
      by_cases h0 : i < n
      · have f1 : decide ((i : Int) < (n : Int)) = true := decide_eq_true (by omega)
        have f2 : decide ((i : Int) < (m : Int)) = false := decide_eq_false (by omega)
        have f3 : decide (i < n) = true := decide_eq_true (by omega)
        have f4 : decide (i < m) = false := decide_eq_false (by omega)
        have f5 : decide ((n : Int) < (m : Int)) = false := decide_eq_false (by omega)
        have f6 : decide (n < m) = false := decide_eq_false (by omega)
        have f7 : decide ((m : Int) < (n : Int)) = true := decide_eq_true (by omega)
        have f8 : decide (m < n) = true := decide_eq_true (by omega)
        have HR : Hid (cmpL A B = 1) := hide (by rw [unhide HE, if_neg (by omega), if_pos (by omega)])
        clear h0 hin
        go_wp2_with fail
        go_ret
        exact ⟨congrArg (fun z => Ending.returned (.int .i64 z)) (unhide HR).symm, HL⟩
      · have f1 : decide ((i : Int) < (n : Int)) = false := decide_eq_false (by omega)
        have f3 : decide (i < n) = false := decide_eq_false (by omega)
        by_cases h3 : n < m
        · have f5 : decide ((n : Int) < (m : Int)) = true := decide_eq_true (by omega)
          have f6 : decide (n < m) = true := decide_eq_true (by omega)
          have HR : Hid (cmpL A B = -1) := hide (by rw [unhide HE, if_pos h3])
          clear h0 hin h3
          go_wp2_with fail
          go_ret
          exact ⟨congrArg (fun z => Ending.returned (.int .i64 z)) (unhide HR).symm, HL⟩
        · have f5 : decide ((n : Int) < (m : Int)) = false := decide_eq_false (by omega)
          have f6 : decide (n < m) = false := decide_eq_false (by omega)
          have f7 : decide ((m : Int) < (n : Int)) = false := decide_eq_false (by omega)
          have f8 : decide (m < n) = false := decide_eq_false (by omega)
          have HR : Hid (cmpL A B = 0) := hide (by rw [unhide HE, if_neg h3, if_neg (by omega)])
          clear h0 hin h3
          go_wp2_with fail
          go_ret
          exact ⟨congrArg (fun z => Ending.returned (.int .i64 z)) (unhide HR).symm, HL⟩
end Go.Proofs.Ytjmnddcombepaaa
