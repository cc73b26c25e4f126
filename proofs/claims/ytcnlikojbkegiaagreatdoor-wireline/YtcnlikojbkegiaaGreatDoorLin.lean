/- Line: blanks. -/
import Derived.Test.YtcnlikojbkegiaaGreatDoorBase
namespace Larder8
set_option linter.unusedVariables false

def blankL (c : Nat) : Bool := c == 32 || (decide (9 ≤ c) && decide (c ≤ 13))
def hexV (c : Nat) : Option Nat := if 48 ≤ c ∧ c ≤ 57 then some (c - 48) else if 97 ≤ c ∧ c ≤ 102 then some (c - 87) else if 65 ≤ c ∧ c ≤ 70 then some (c - 55) else none
def shortC (c : Nat) : Nat := if c = 110 then 10 else if c = 114 then 13 else if c = 116 then 9 else if c = 98 then 8 else if c = 97 then 7 else c
/-- two hexadecimal digits at the head -/
def hex2 : List Nat → Option Nat
  | h :: l :: _ => match hexV h, hexV l with
    | some a, some b => some (16 * a + b)
    | _, _ => none
  | _ => none
/-- the program's step: the byte that is said, and by how many bytes beyond the first -/
def qByte (q c : Nat) (r : List Nat) : Nat × Nat :=
  if c ≠ 92 then (c, 0) else
  match r with
  | [] => (c, 0)
  | d :: r' => if q = 34 then (if d = 120 then (match hex2 r' with | some x => (x, 3) | none => (120, 1)) else (shortC d, 1)) else if d = q then (q, 1) else (c, 0)
def quotedP (q : Nat) : List Nat → Option (List Nat × List Nat)
  | [] => none
  | c :: r => if c = q then some ([], r) else (quotedP q (r.drop (qByte q c r).2)).map (fun x => ((qByte q c r).1 :: x.1, x.2))
termination_by l => l.length
decreasing_by simp; omega
/-- the document's -/
def closingL (q : Nat) : List Nat → Option Nat
  | [] => none
  | c :: r => if c = q then some 0 else if c = 92 ∧ (q = 34 ∨ r.head? = some q) then (closingL q (r.drop 1)).map (· + 2) else (closingL q r).map (· + 1)
termination_by l => l.length
decreasing_by all_goals simp; try omega
def saidL (q : Nat) : List Nat → List Nat
  | [] => []
  | c :: r => if c ≠ 92 ∨ r = [] ∨ (q ≠ 34 ∧ r.head? ≠ some q) then c :: saidL q r else
      if r.head? = some 120 ∧ (hex2 (r.drop 1)).isSome then (hex2 (r.drop 1)).getD 0 :: saidL q (r.drop 3) else shortC (r.headD 0) :: saidL q (r.drop 1)
termination_by l => l.length
decreasing_by all_goals simp; try omega
theorem hexV_not {c a : Nat} (h : hexV c = some a) : c ≠ 34 ∧ c ≠ 39 ∧ c ≠ 92 := by
  unfold hexV at h
  split at h
  · omega
  · split at h
    · omega
    · split at h
      · omega
      · cases h
theorem hex2_cases {r : List Nat} {x : Nat} (h : hex2 r = some x) : ∃ a b r', r = a :: b :: r' ∧ a ≠ 34 ∧ a ≠ 39 ∧ a ≠ 92 ∧ b ≠ 34 ∧ b ≠ 39 ∧ b ≠ 92 := by
  match r, h with
  | a :: b :: r', h =>
    cases ha : hexV a with
    | none => simp [hex2, ha] at h
    | some u =>
      cases hb : hexV b with
      | none => simp [hex2, ha, hb] at h
      | some v =>
        have h1 := hexV_not ha
        have h2 := hexV_not hb
        exact ⟨a, b, r', rfl, h1.1, h1.2.1, h1.2.2, h2.1, h2.2.1, h2.2.2⟩
theorem hex2_take (r : List Nat) (k : Nat) {x : Nat} (h : hex2 (r.take k) = some x) : hex2 r = some x := by
  match r, k with
  | [], k => simp [hex2] at h
  | a :: r, 0 => simp [hex2] at h
  | [a], k + 1 => simp [hex2] at h
  | a :: b :: r, 1 => simp [hex2] at h
  | a :: b :: r, k + 2 =>
    simp only [List.take_succ_cons] at h
    unfold hex2 at h ⊢
    exact h
theorem hex2_take2 (a b : Nat) (r : List Nat) (k : Nat) : hex2 (a :: b :: r.take k) = hex2 (a :: b :: r) := rfl
/-- both read quoted parts alike -/
theorem quoted_same (q : Nat) (hq : q = 34 ∨ q = 39) : ∀ (n : Nat) (b : List Nat), b.length ≤ n → quotedP q b = (closingL q b).map (fun k => (saidL q (b.take k), b.drop (k + 1)))
  | n, [], _ => by simp [quotedP, closingL]
  | 0, c :: r, h => by simp at h
  | n + 1, c :: r, h => by
    have IH := quoted_same q hq n
    have hr : r.length ≤ n := by simpa using h
    rw [quotedP, closingL]
    by_cases hc : c = q
    · subst hc
      simp [saidL]
    · rw [if_neg hc, if_neg hc]
      by_cases h92 : c = 92
      · subst h92
        match r, hr with
        | [], _ =>
          simp [qByte, quotedP, closingL]
        | d :: r', hr =>
          have hr' : r'.length ≤ n := by simp at hr; omega
          rcases hq with rfl | rfl
          · -- double quotes
            rw [if_pos ⟨rfl, .inl rfl⟩]
            by_cases hd : d = 120
            · subst hd
              cases hx : hex2 r' with
              | some x =>
                obtain ⟨a, b, r'', rfl, a1, a2, a3, b1, b2, b3⟩ := hex2_cases hx
                have hr'' : r''.length ≤ n := by simp at hr'; omega
                have e1 : qByte 34 92 (120 :: a :: b :: r'') = (x, 3) := by simp [qByte, hx]
                rw [e1]
                simp only [List.drop_succ_cons, List.drop_zero]
                rw [IH r'' hr'']
                have e2 : closingL 34 (a :: b :: r'') = (closingL 34 r'').map (· + 2) := by
                  rw [closingL, if_neg a1, if_neg (by simp [a3]), closingL, if_neg b1, if_neg (by simp [b3])]
                  simp [Option.map_map, Function.comp_def]
                rw [e2]
                simp only [Option.map_map]
                congr 1
                funext k
                simp only [Function.comp_apply]
                have e3 : (92 :: 120 :: a :: b :: r'').take (k + 2 + 2) = 92 :: 120 :: a :: b :: r''.take k := by simp
                rw [e3]
                have e4 : saidL 34 (92 :: 120 :: a :: b :: r''.take k) = x :: saidL 34 (r''.take k) := by
                  rw [saidL, if_neg (by simp), if_pos (by simp [hex2_take2, hx])]
                  simp [hex2_take2, hx]
                rw [e4]
                simp
              | none =>
                have e1 : qByte 34 92 (120 :: r') = (120, 1) := by simp [qByte, hx]
                rw [e1]
                simp only [List.drop_succ_cons, List.drop_zero]
                rw [IH r' hr']
                simp only [Option.map_map]
                congr 1
                funext k
                simp only [Function.comp_apply]
                have e3 : (92 :: 120 :: r').take (k + 2) = 92 :: 120 :: r'.take k := by simp
                have e5 : (hex2 (r'.take k)).isSome = false := by
                  cases hy : hex2 (r'.take k) with
                  | none => rfl
                  | some y => rw [hex2_take r' k hy] at hx; cases hx
                have e4 : saidL 34 (92 :: 120 :: r'.take k) = 120 :: saidL 34 (r'.take k) := by
                  rw [saidL, if_neg (by simp), if_neg (by simp [e5])]
                  simp [shortC]
                rw [e3, e4]
                simp
            · have e1 : qByte 34 92 (d :: r') = (shortC d, 1) := by simp [qByte, hd]
              rw [e1]
              simp only [List.drop_succ_cons, List.drop_zero]
              rw [IH r' hr']
              simp only [Option.map_map]
              congr 1
              funext k
              simp only [Function.comp_apply]
              have e3 : (92 :: d :: r').take (k + 2) = 92 :: d :: r'.take k := by simp
              have e4 : saidL 34 (92 :: d :: r'.take k) = shortC d :: saidL 34 (r'.take k) := by
                rw [saidL, if_neg (by simp), if_neg (by simp [hd])]
                simp
              rw [e3, e4]
              simp
          · -- single quotes
            by_cases hd : d = 39
            · subst hd
              rw [if_pos ⟨rfl, .inr rfl⟩]
              have e1 : qByte 39 92 (39 :: r') = (39, 1) := by simp [qByte]
              rw [e1]
              simp only [List.drop_succ_cons, List.drop_zero]
              rw [IH r' hr']
              simp only [Option.map_map]
              congr 1
              funext k
              simp only [Function.comp_apply]
              have e3 : (92 :: 39 :: r').take (k + 2) = 92 :: 39 :: r'.take k := by simp
              have e4 : saidL 39 (92 :: 39 :: r'.take k) = 39 :: saidL 39 (r'.take k) := by
                rw [saidL, if_neg (by simp), if_neg (by simp)]
                simp [shortC]
              rw [e3, e4]
              simp
            · rw [if_neg (by simp [hd])]
              have e1 : qByte 39 92 (d :: r') = (92, 0) := by simp [qByte, hd]
              rw [e1]
              simp only [List.drop_zero]
              rw [IH (d :: r') hr]
              cases hk : closingL 39 (d :: r') with
              | none => rfl
              | some k =>
                have k0 : k ≠ 0 := by
                  rw [closingL, if_neg hd] at hk
                  split at hk
                  · cases h2 : closingL 39 (List.drop 1 r') with
                    | none => rw [h2] at hk; cases hk
                    | some j => rw [h2] at hk; simp at hk; omega
                  · cases h2 : closingL 39 r' with
                    | none => rw [h2] at hk; cases hk
                    | some j => rw [h2] at hk; simp at hk; omega
                obtain ⟨j, rfl⟩ : ∃ j, k = j + 1 := ⟨k - 1, by omega⟩
                simp only [Option.map_some]
                have e4 : saidL 39 ((92 :: d :: r').take (j + 1 + 1)) = 92 :: saidL 39 ((d :: r').take (j + 1)) := by
                  rw [List.take_succ_cons, saidL, if_pos (by simp [hd])]
                rw [e4]
                simp
      · rw [if_neg (fun h => h92 h.1)]
        have e1 : qByte q c r = (c, 0) := by simp [qByte, h92]
        rw [e1]
        simp only [List.drop_zero]
        rw [IH r hr]
        simp only [Option.map_map]
        congr 1
        funext k
        simp only [Function.comp_apply, List.take_succ_cons, List.drop_succ_cons]
        rw [saidL, if_pos (.inl h92)]
theorem quoted_len (q : Nat) : ∀ (n : Nat) (b : List Nat), b.length ≤ n → ∀ x, quotedP q b = some x → x.2.length < b.length
  | n, [], _, x, h => by simp [quotedP] at h
  | 0, c :: r, hl, x, h => by simp at hl
  | n + 1, c :: r, hl, x, h => by
    rw [quotedP] at h
    by_cases hc : c = q
    · rw [if_pos hc] at h
      cases h
      simp
    · rw [if_neg hc] at h
      cases h2 : quotedP q (r.drop (qByte q c r).2) with
      | none => rw [h2] at h; cases h
      | some y =>
        rw [h2] at h
        cases h
        have hdl : (r.drop (qByte q c r).2).length ≤ r.length := by simp
        have := quoted_len q n (r.drop (qByte q c r).2) (by simp at hl ⊢; omega) y h2
        simp
        omega
def quoteC (c : Nat) : Bool := c == 34 || c == 39
/-- what is behind a word: at a blank, at the end or at a quote -/
def closeP : List Nat → Option (List Nat × List Nat)
  | [] => some ([], [])
  | c :: r => if blankL c then some ([], c :: r) else
      match quotedP c r with
      | none => none
      | some (s, []) => some (s, [])
      | some (s, d :: r') => if blankL d then some (s, d :: r') else none
/-- so many bytes stand ahead of it -/
def pre : List Nat → Nat
  | [] => 0
  | c :: r => if blankL c || quoteC c then 0 else pre r + 1
theorem pre_le : ∀ b, pre b ≤ b.length
  | [] => Nat.le_refl _
  | c :: r => by
    unfold pre
    split
    · simp
    · have := pre_le r
      simp
      omega
theorem pre_in : ∀ (b : List Nat) (i : Nat), i < pre b → ∃ c, b[i]? = some c ∧ blankL c = false ∧ quoteC c = false
  | [], i, h => by simp [pre] at h
  | c :: r, i, h => by
    unfold pre at h
    split at h
    · simp at h
    · rename_i hc
      cases i with
      | zero => exact ⟨c, rfl, by simpa using hc⟩
      | succ i => simpa using pre_in r i (by omega)
theorem pre_at : ∀ (b : List Nat) (c : Nat), b[pre b]? = some c → (blankL c || quoteC c) = true
  | [], c, h => by simp at h
  | d :: r, c, h => by
    unfold pre at h
    split at h
    · rename_i hd
      simp at h
      subst h
      exact hd
    · exact pre_at r c (by simpa using h)
/-- a word, and what is behind it -/
def firstL (b : List Nat) : Option (List Nat × List Nat) := (closeP (b.drop (pre b))).map (fun x => (b.take (pre b) ++ x.1, x.2))
theorem close_len (b : List Nat) (x : List Nat × List Nat) (h : closeP b = some x) : x.2.length ≤ b.length ∧ (∀ c r, b = c :: r → blankL c = false → x.2.length < b.length) := by
  match b, h with
  | [], h => cases h; exact ⟨Nat.le_refl _, fun c r e => by cases e⟩
  | c :: r, h =>
    cases hb : blankL c with
    | true =>
      simp only [closeP, hb, if_true] at h
      cases h
      exact ⟨Nat.le_refl _, fun c' r' e h' => by cases e; rw [hb] at h'; cases h'⟩
    | false =>
      simp only [closeP, hb, Bool.false_eq_true, if_false] at h
      have lt : x.2.length < (c :: r).length := by
        cases hq : quotedP c r with
        | none => rw [hq] at h; cases h
        | some y =>
          have hl := quoted_len c r.length r (Nat.le_refl _) y hq
          obtain ⟨s, t⟩ := y
          rw [hq] at h
          cases t with
          | nil => cases h; simp
          | cons d t =>
            simp only at h
            split at h
            · cases h
              simp at hl ⊢
              omega
            · cases h
      exact ⟨Nat.le_of_lt lt, fun _ _ _ _ => lt⟩
theorem first_len (c : Nat) (r : List Nat) (hc : blankL c = false) (x : List Nat × List Nat) (h : firstL (c :: r) = some x) : x.2.length < (c :: r).length := by
  unfold firstL at h
  cases hk : closeP ((c :: r).drop (pre (c :: r))) with
  | none => rw [hk] at h; cases h
  | some y =>
    rw [hk] at h
    cases h
    have h1 := close_len _ y hk
    rcases Nat.eq_zero_or_pos (pre (c :: r)) with q | q
    · rw [q] at h1
      exact h1.2 c r rfl hc
    · have := h1.1
      simp only [List.length_drop, List.length_cons] at this ⊢
      omega
/-- a line's words; none: its quotes are wrong -/
def lineW : List Nat → Option (List (List Nat))
  | [] => some []
  | c :: r => if hb : blankL c = true then lineW r else
      match h : firstL (c :: r) with
      | none => none
      | some x => (lineW x.2).map (x.1 :: ·)
termination_by l => l.length
decreasing_by
  · simp
  · exact first_len c r (by simpa using hb) x h
/-- what Line answers: its words, and its error -/
def lineL (b : List Nat) : List (List Nat) × Int :=
  if 1024 < b.length then ([], 83) else match lineW b with
  | none => ([], 84)
  | some w => if 128 < w.length then ([], 83) else (w, 0)
end Larder8
namespace Go.Proofs.YtcnlikojbkegiaaGreatDoor
open Go.ChangeShapes Go.WideShapes Go.ChangeAt Go.RowKit
set_option linter.unusedVariables false
set_option linter.unusedSimpArgs false
set_option maxRecDepth 20000
set_option maxHeartbeats 4000000

theorem blank_any (w : World) (c : Nat) : Calls Tryz.prog 41 #[.int .u8 (c : Nat)] w fun e w' => e = .returned (.bool (Larder8.blankL c)) ∧ w' = w := by
  by_cases h32 : c = 32
  · subst h32
    go_enter Tryz.func41, Tryz.ntmps41
    go_wp2
    go_ret
    exact ⟨rfl, rfl⟩
  have t1 : ((c : Int) == 32) = false := by rw [beq_eq_false_iff_ne]; omega
  by_cases h9 : 9 ≤ c
  · have f1 : decide ((9 : Int) ≤ (c : Int)) = true := decide_eq_true (by omega)
    have f1n : decide (9 ≤ c) = true := decide_eq_true h9
    by_cases h13 : c ≤ 13
    · have f2 : decide ((c : Int) ≤ 13) = true := decide_eq_true (by omega)
      have f2n : decide (c ≤ 13) = true := decide_eq_true h13
      have E : Larder8.blankL c = true := by simp [Larder8.blankL, h9, h13]
      rw [E]
      clear E
      go_enter Tryz.func41, Tryz.ntmps41
      go_wp2
      go_ret
      exact ⟨rfl, rfl⟩
    · have f2 : decide ((c : Int) ≤ 13) = false := decide_eq_false (by omega)
      have f2n : decide (c ≤ 13) = false := decide_eq_false h13
      have E : Larder8.blankL c = false := by simp [Larder8.blankL, h32, h13]
      rw [E]
      clear E
      go_enter Tryz.func41, Tryz.ntmps41
      go_wp2
      go_ret
      exact ⟨rfl, rfl⟩
  · have f1 : decide ((9 : Int) ≤ (c : Int)) = false := decide_eq_false (by omega)
    have f1n : decide (9 ≤ c) = false := decide_eq_false h9
    have E : Larder8.blankL c = false := by simp [Larder8.blankL, h32, h9]
    rw [E]
    clear E
    go_enter Tryz.func41, Tryz.ntmps41
    go_wp2
    go_ret
    exact ⟨rfl, rfl⟩
theorem rblank_any (w : World) (c : Nat) : Calls Tryz.prog 43 #[.int .u8 (c : Nat)] w fun e w' => e = .returned (.bool (Larder8.blankL c)) ∧ w' = w := by
  by_cases h : c = 32 ∨ c = 9 ∨ c = 10 ∨ c = 11 ∨ c = 12 ∨ c = 13
  · rcases h with rfl | rfl | rfl | rfl | rfl | rfl
    all_goals go_enter Tryz.func43, Tryz.ntmps43
    all_goals go_wp2
    all_goals go_ret
    all_goals exact ⟨rfl, rfl⟩
  · have E : Larder8.blankL c = false := by
      unfold Larder8.blankL
      rw [Bool.or_eq_false_iff, Bool.and_eq_false_iff]
      refine ⟨by rw [beq_eq_false_iff_ne]; omega, ?_⟩
      by_cases h9 : 9 ≤ c
      · exact .inr (decide_eq_false (by omega))
      · exact .inl (decide_eq_false h9)
    have t1 : ((c : Int) == 32) = false := by rw [beq_eq_false_iff_ne]; omega
    have t2 : ((c : Int) == 9) = false := by rw [beq_eq_false_iff_ne]; omega
    have t3 : ((c : Int) == 10) = false := by rw [beq_eq_false_iff_ne]; omega
    have t4 : ((c : Int) == 11) = false := by rw [beq_eq_false_iff_ne]; omega
    have t5 : ((c : Int) == 12) = false := by rw [beq_eq_false_iff_ne]; omega
    have t6 : ((c : Int) == 13) = false := by rw [beq_eq_false_iff_ne]; omega
    rw [E]
    clear E h
    go_enter Tryz.func43, Tryz.ntmps43
    go_wp2
    go_ret
    exact ⟨rfl, rfl⟩
theorem skip_any (w : World) (a : Option Addr) (cp tn i : Nat) (T : List Nat) (hn : tn = T.length) (hB : Bytes w a T) (hi : i ≤ tn) (hl : tn ≤ 1048576) :
    Calls Tryz.prog 40 #[.slice a tn cp, .int .i64 (i : Nat)] w fun e w' => ∃ j : Nat, e = .returned (.int .i64 (j : Nat)) ∧ i ≤ j ∧ j ≤ tn ∧ Hid ((∀ k, i ≤ k → k < j → Larder8.blankL (T.getD k 0) = true) ∧ (j < tn → Larder8.blankL (T.getD j 0) = false)) ∧ w' = w := by
  have HN := hide hn
  have HB := hide hB
  clear hn hB
  go_enter Tryz.func40, Tryz.ntmps40
  go_wp2
  go_loopw [1] (fun iv wr => ∃ j : Nat, iv = .int .i64 (j : Nat) ∧ i ≤ j ∧ j ≤ tn ∧ Hid (∀ k, i ≤ k → k < j → Larder8.blankL (T.getD k 0) = true) ∧ Hid (wr = w)) (fun iv _ => tn - (intOf iv).toNat)
  case atStart => exact ⟨i, rfl, Nat.le_refl _, hi, hide (fun k h1 h2 => by omega), hide rfl⟩
  case round =>
    obtain ⟨j, rfl, hij, hj, hall, hw⟩ := hrel
    obtain rfl := (unhide hw).symm
    clear hw
    rcases Nat.lt_or_ge j tn with hlt | hge
    · have f0 : decide ((j : Int) < (tn : Int)) = true := decide_eq_true (by omega)
      have g1 : (0 : Int) ≤ (j : Int) := by omega
      have g2 : (j : Int) < (tn : Int) := by omega
      have hN := unhide HN
      obtain ⟨b, off, rfl, hb, hc⟩ : ∃ b off, a = some ⟨b, off, none⟩ ∧ b < w.heap.size ∧ ∀ i, i < T.length → w.cell? ⟨b, off + i, none⟩ = some (.int .u8 (T.getD i 0 : Nat)) := by
        rcases unhide HB with h | h
        · rw [h] at hN; simp at hN; omega
        · exact h
      have c0 := hc j (by omega)
      obtain ⟨c, hcc⟩ : ∃ c, c = T.getD j 0 := ⟨_, rfl⟩
      have HC := hide hcc
      rw [← hcc] at c0
      clear hcc hc hN
      have CB : Hid (Calls Tryz.prog 41 #[.int .u8 (c : Nat)] w fun e w' => ∃ q, e = .returned (.bool q) ∧ Hid (q = Larder8.blankL c) ∧ w = w') := hide ((blank_any w c).mono (fun e w' h => ⟨_, h.1, hide rfl, h.2.symm⟩))
      go_wp2_with (go_at_call 41; refine (unhide CB).mono ?_; rintro e w5 ⟨q, rfl, hq, rfl⟩; cases q)
      · go_ret
        exact ⟨j, rfl, hij, hj, hide ⟨unhide hall, fun _ => by rw [← unhide HC, ← unhide hq]⟩, rfl⟩
      · refine ⟨⟨j + 1, by go_num, by omega, by omega, hide (fun k h1 h2 => ?_), hide (by first | rfl | trivial)⟩, by simp [intOf]; omega⟩
        rcases Nat.lt_or_ge k j with r | r
        · exact unhide hall k h1 r
        · obtain rfl : k = j := by omega
          rw [← unhide HC, ← unhide hq]
    · obtain rfl : j = tn := by omega
      have f0 : decide ((j : Int) < (j : Int)) = false := decide_eq_false (by omega)
      go_wp2
      go_ret
      exact ⟨j, rfl, hij, hj, hide ⟨unhide hall, fun h => by omega⟩, rfl⟩
end Go.Proofs.YtcnlikojbkegiaaGreatDoor
