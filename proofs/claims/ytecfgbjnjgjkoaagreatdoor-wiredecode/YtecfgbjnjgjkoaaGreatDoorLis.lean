/- Line: the program's quoted parts. -/
import Derived.Test.YtecfgbjnjgjkoaaGreatDoorSame
import Derived.Test.YtecfgbjnjgjkoaaGreatDoorWra
import Derived.Deep.RegionHeld3
import Derived.BigQuiet
namespace Larder8
set_option linter.unusedVariables false

def blankL (c : Nat) : Bool := c == 32 || (decide (9 ≤ c) && decide (c ≤ 13))
def hexV (c : Nat) : Option Nat := if 48 ≤ c ∧ c ≤ 57 then some (c - 48) else if 97 ≤ c ∧ c ≤ 102 then some (c - 87) else if 65 ≤ c ∧ c ≤ 70 then some (c - 55) else none
def shortC (c : Nat) : Nat := if c = 110 then 10 else if c = 114 then 13 else if c = 116 then 9 else if c = 98 then 8 else if c = 97 then 7 else c
/-- two hexadecimal digits at the head -/
def hex2 : List Nat → Option Nat
  | h :: l :: _ => match hexV h, hexV l with
    | some a, some b => some (16 * a + b)
    | _, _ => none
  | _ => none
/-- the program's step: the byte that is said, and by how many bytes beyond the first -/
def qByte (q c : Nat) (r : List Nat) : Nat × Nat :=
  if c ≠ 92 then (c, 0) else
  match r with
  | [] => (c, 0)
  | d :: r' => if q = 34 then (if d = 120 then (match hex2 r' with | some x => (x, 3) | none => (120, 1)) else (shortC d, 1)) else if d = q then (q, 1) else (c, 0)
def quotedP (q : Nat) : List Nat → Option (List Nat × List Nat)
  | [] => none
  | c :: r => if c = q then some ([], r) else (quotedP q (r.drop (qByte q c r).2)).map (fun x => ((qByte q c r).1 :: x.1, x.2))
termination_by l => l.length
decreasing_by simp; omega
/-- the document's -/
def closingL (q : Nat) : List Nat → Option Nat
  | [] => none
  | c :: r => if c = q then some 0 else if c = 92 ∧ (q = 34 ∨ r.head? = some q) then (closingL q (r.drop 1)).map (· + 2) else (closingL q r).map (· + 1)
termination_by l => l.length
decreasing_by all_goals simp; try omega
def saidL (q : Nat) : List Nat → List Nat
  | [] => []
  | c :: r => if c ≠ 92 ∨ r = [] ∨ (q ≠ 34 ∧ r.head? ≠ some q) then c :: saidL q r else
      if r.head? = some 120 ∧ (hex2 (r.drop 1)).isSome then (hex2 (r.drop 1)).getD 0 :: saidL q (r.drop 3) else shortC (r.headD 0) :: saidL q (r.drop 1)
termination_by l => l.length
decreasing_by all_goals simp; try omega
theorem hexV_not {c a : Nat} (h : hexV c = some a) : c ≠ 34 ∧ c ≠ 39 ∧ c ≠ 92 := by
  unfold hexV at h
  split at h
  · omega
  · split at h
    · omega
    · split at h
      · omega
      · cases h
theorem hex2_cases {r : List Nat} {x : Nat} (h : hex2 r = some x) : ∃ a b r', r = a :: b :: r' ∧ a ≠ 34 ∧ a ≠ 39 ∧ a ≠ 92 ∧ b ≠ 34 ∧ b ≠ 39 ∧ b ≠ 92 := by
  match r, h with
  | a :: b :: r', h =>
    cases ha : hexV a with
    | none => simp [hex2, ha] at h
    | some u =>
      cases hb : hexV b with
      | none => simp [hex2, ha, hb] at h
      | some v =>
        have h1 := hexV_not ha
        have h2 := hexV_not hb
        exact ⟨a, b, r', rfl, h1.1, h1.2.1, h1.2.2, h2.1, h2.2.1, h2.2.2⟩
theorem hex2_take (r : List Nat) (k : Nat) {x : Nat} (h : hex2 (r.take k) = some x) : hex2 r = some x := by
  match r, k with
  | [], k => simp [hex2] at h
  | a :: r, 0 => simp [hex2] at h
  | [a], k + 1 => simp [hex2] at h
  | a :: b :: r, 1 => simp [hex2] at h
  | a :: b :: r, k + 2 =>
    simp only [List.take_succ_cons] at h
    unfold hex2 at h ⊢
    exact h
theorem hex2_take2 (a b : Nat) (r : List Nat) (k : Nat) : hex2 (a :: b :: r.take k) = hex2 (a :: b :: r) := rfl
/-- both read quoted parts alike -/
theorem quoted_same (q : Nat) (hq : q = 34 ∨ q = 39) : ∀ (n : Nat) (b : List Nat), b.length ≤ n → quotedP q b = (closingL q b).map (fun k => (saidL q (b.take k), b.drop (k + 1)))
  | n, [], _ => by simp [quotedP, closingL]
  | 0, c :: r, h => by simp at h
  | n + 1, c :: r, h => by
    have IH := quoted_same q hq n
    have hr : r.length ≤ n := by simpa using h
    rw [quotedP, closingL]
    by_cases hc : c = q
    · subst hc
      simp [saidL]
    · rw [if_neg hc, if_neg hc]
      by_cases h92 : c = 92
      · subst h92
        match r, hr with
        | [], _ =>
          simp [qByte, quotedP, closingL]
        | d :: r', hr =>
          have hr' : r'.length ≤ n := by simp at hr; omega
          rcases hq with rfl | rfl
          · -- double quotes
            rw [if_pos ⟨rfl, .inl rfl⟩]
            by_cases hd : d = 120
            · subst hd
              cases hx : hex2 r' with
              | some x =>
                obtain ⟨a, b, r'', rfl, a1, a2, a3, b1, b2, b3⟩ := hex2_cases hx
                have hr'' : r''.length ≤ n := by simp at hr'; omega
                have e1 : qByte 34 92 (120 :: a :: b :: r'') = (x, 3) := by simp [qByte, hx]
                rw [e1]
                simp only [List.drop_succ_cons, List.drop_zero]
                rw [IH r'' hr'']
                have e2 : closingL 34 (a :: b :: r'') = (closingL 34 r'').map (· + 2) := by
                  rw [closingL, if_neg a1, if_neg (by simp [a3]), closingL, if_neg b1, if_neg (by simp [b3])]
                  simp [Option.map_map, Function.comp_def]
                rw [e2]
                simp only [Option.map_map]
                congr 1
                funext k
                simp only [Function.comp_apply]
                have e3 : (92 :: 120 :: a :: b :: r'').take (k + 2 + 2) = 92 :: 120 :: a :: b :: r''.take k := by simp
                rw [e3]
                have e4 : saidL 34 (92 :: 120 :: a :: b :: r''.take k) = x :: saidL 34 (r''.take k) := by
                  rw [saidL, if_neg (by simp), if_pos (by simp [hex2_take2, hx])]
                  simp [hex2_take2, hx]
                rw [e4]
                simp
              | none =>
                have e1 : qByte 34 92 (120 :: r') = (120, 1) := by simp [qByte, hx]
                rw [e1]
                simp only [List.drop_succ_cons, List.drop_zero]
                rw [IH r' hr']
                simp only [Option.map_map]
                congr 1
                funext k
                simp only [Function.comp_apply]
                have e3 : (92 :: 120 :: r').take (k + 2) = 92 :: 120 :: r'.take k := by simp
                have e5 : (hex2 (r'.take k)).isSome = false := by
                  cases hy : hex2 (r'.take k) with
                  | none => rfl
                  | some y => rw [hex2_take r' k hy] at hx; cases hx
                have e4 : saidL 34 (92 :: 120 :: r'.take k) = 120 :: saidL 34 (r'.take k) := by
                  rw [saidL, if_neg (by simp), if_neg (by simp [e5])]
                  simp [shortC]
                rw [e3, e4]
                simp
            · have e1 : qByte 34 92 (d :: r') = (shortC d, 1) := by simp [qByte, hd]
              rw [e1]
              simp only [List.drop_succ_cons, List.drop_zero]
              rw [IH r' hr']
              simp only [Option.map_map]
              congr 1
              funext k
              simp only [Function.comp_apply]
              have e3 : (92 :: d :: r').take (k + 2) = 92 :: d :: r'.take k := by simp
              have e4 : saidL 34 (92 :: d :: r'.take k) = shortC d :: saidL 34 (r'.take k) := by
                rw [saidL, if_neg (by simp), if_neg (by simp [hd])]
                simp
              rw [e3, e4]
              simp
          · -- single quotes
            by_cases hd : d = 39
            · subst hd
              rw [if_pos ⟨rfl, .inr rfl⟩]
              have e1 : qByte 39 92 (39 :: r') = (39, 1) := by simp [qByte]
              rw [e1]
              simp only [List.drop_succ_cons, List.drop_zero]
              rw [IH r' hr']
              simp only [Option.map_map]
              congr 1
              funext k
              simp only [Function.comp_apply]
              have e3 : (92 :: 39 :: r').take (k + 2) = 92 :: 39 :: r'.take k := by simp
              have e4 : saidL 39 (92 :: 39 :: r'.take k) = 39 :: saidL 39 (r'.take k) := by
                rw [saidL, if_neg (by simp), if_neg (by simp)]
                simp [shortC]
              rw [e3, e4]
              simp
            · rw [if_neg (by simp [hd])]
              have e1 : qByte 39 92 (d :: r') = (92, 0) := by simp [qByte, hd]
              rw [e1]
              simp only [List.drop_zero]
              rw [IH (d :: r') hr]
              cases hk : closingL 39 (d :: r') with
              | none => rfl
              | some k =>
                have k0 : k ≠ 0 := by
                  rw [closingL, if_neg hd] at hk
                  split at hk
                  · cases h2 : closingL 39 (List.drop 1 r') with
                    | none => rw [h2] at hk; cases hk
                    | some j => rw [h2] at hk; simp at hk; omega
                  · cases h2 : closingL 39 r' with
                    | none => rw [h2] at hk; cases hk
                    | some j => rw [h2] at hk; simp at hk; omega
                obtain ⟨j, rfl⟩ : ∃ j, k = j + 1 := ⟨k - 1, by omega⟩
                simp only [Option.map_some]
                have e4 : saidL 39 ((92 :: d :: r').take (j + 1 + 1)) = 92 :: saidL 39 ((d :: r').take (j + 1)) := by
                  rw [List.take_succ_cons, saidL, if_pos (by simp [hd])]
                rw [e4]
                simp
      · rw [if_neg (fun h => h92 h.1)]
        have e1 : qByte q c r = (c, 0) := by simp [qByte, h92]
        rw [e1]
        simp only [List.drop_zero]
        rw [IH r hr]
        simp only [Option.map_map]
        congr 1
        funext k
        simp only [Function.comp_apply, List.take_succ_cons, List.drop_succ_cons]
        rw [saidL, if_pos (.inl h92)]
theorem quoted_len (q : Nat) : ∀ (n : Nat) (b : List Nat), b.length ≤ n → ∀ x, quotedP q b = some x → x.2.length < b.length
  | n, [], _, x, h => by simp [quotedP] at h
  | 0, c :: r, hl, x, h => by simp at hl
  | n + 1, c :: r, hl, x, h => by
    rw [quotedP] at h
    by_cases hc : c = q
    · rw [if_pos hc] at h
      cases h
      simp
    · rw [if_neg hc] at h
      cases h2 : quotedP q (r.drop (qByte q c r).2) with
      | none => rw [h2] at h; cases h
      | some y =>
        rw [h2] at h
        cases h
        have hdl : (r.drop (qByte q c r).2).length ≤ r.length := by simp
        have := quoted_len q n (r.drop (qByte q c r).2) (by simp at hl ⊢; omega) y h2
        simp
        omega
def quoteC (c : Nat) : Bool := c == 34 || c == 39
/-- what is behind a word: at a blank, at the end or at a quote -/
def closeP : List Nat → Option (List Nat × List Nat)
  | [] => some ([], [])
  | c :: r => if blankL c then some ([], c :: r) else
      match quotedP c r with
      | none => none
      | some (s, []) => some (s, [])
      | some (s, d :: r') => if blankL d then some (s, d :: r') else none
/-- so many bytes stand ahead of it -/
def pre : List Nat → Nat
  | [] => 0
  | c :: r => if blankL c || quoteC c then 0 else pre r + 1
theorem pre_le : ∀ b, pre b ≤ b.length
  | [] => Nat.le_refl _
  | c :: r => by
    unfold pre
    split
    · simp
    · have := pre_le r
      simp
      omega
theorem pre_in : ∀ (b : List Nat) (i : Nat), i < pre b → ∃ c, b[i]? = some c ∧ blankL c = false ∧ quoteC c = false
  | [], i, h => by simp [pre] at h
  | c :: r, i, h => by
    unfold pre at h
    split at h
    · simp at h
    · rename_i hc
      cases i with
      | zero => exact ⟨c, rfl, by simpa using hc⟩
      | succ i => simpa using pre_in r i (by omega)
theorem pre_at : ∀ (b : List Nat) (c : Nat), b[pre b]? = some c → (blankL c || quoteC c) = true
  | [], c, h => by simp at h
  | d :: r, c, h => by
    unfold pre at h
    split at h
    · rename_i hd
      simp at h
      subst h
      exact hd
    · exact pre_at r c (by simpa using h)
/-- a word, and what is behind it -/
def firstL (b : List Nat) : Option (List Nat × List Nat) := (closeP (b.drop (pre b))).map (fun x => (b.take (pre b) ++ x.1, x.2))
theorem close_len (b : List Nat) (x : List Nat × List Nat) (h : closeP b = some x) : x.2.length ≤ b.length ∧ (∀ c r, b = c :: r → blankL c = false → x.2.length < b.length) := by
  match b, h with
  | [], h => cases h; exact ⟨Nat.le_refl _, fun c r e => by cases e⟩
  | c :: r, h =>
    cases hb : blankL c with
    | true =>
      simp only [closeP, hb, if_true] at h
      cases h
      exact ⟨Nat.le_refl _, fun c' r' e h' => by cases e; rw [hb] at h'; cases h'⟩
    | false =>
      simp only [closeP, hb, Bool.false_eq_true, if_false] at h
      have lt : x.2.length < (c :: r).length := by
        cases hq : quotedP c r with
        | none => rw [hq] at h; cases h
        | some y =>
          have hl := quoted_len c r.length r (Nat.le_refl _) y hq
          obtain ⟨s, t⟩ := y
          rw [hq] at h
          cases t with
          | nil => cases h; simp
          | cons d t =>
            simp only at h
            split at h
            · cases h
              simp at hl ⊢
              omega
            · cases h
      exact ⟨Nat.le_of_lt lt, fun _ _ _ _ => lt⟩
theorem first_len (c : Nat) (r : List Nat) (hc : blankL c = false) (x : List Nat × List Nat) (h : firstL (c :: r) = some x) : x.2.length < (c :: r).length := by
  unfold firstL at h
  cases hk : closeP ((c :: r).drop (pre (c :: r))) with
  | none => rw [hk] at h; cases h
  | some y =>
    rw [hk] at h
    cases h
    have h1 := close_len _ y hk
    rcases Nat.eq_zero_or_pos (pre (c :: r)) with q | q
    · rw [q] at h1
      exact h1.2 c r rfl hc
    · have := h1.1
      simp only [List.length_drop, List.length_cons] at this ⊢
      omega
/-- a line's words; none: its quotes are wrong -/
def lineW : List Nat → Option (List (List Nat))
  | [] => some []
  | c :: r => if hb : blankL c = true then lineW r else
      match h : firstL (c :: r) with
      | none => none
      | some x => (lineW x.2).map (x.1 :: ·)
termination_by l => l.length
decreasing_by
  · simp
  · exact first_len c r (by simpa using hb) x h
/-- what Line answers: its words, and its error -/
def lineL (b : List Nat) : List (List Nat) × Int :=
  if 1024 < b.length then ([], 83) else match lineW b with
  | none => ([], 84)
  | some w => if 128 < w.length then ([], 83) else (w, 0)
end Larder8
namespace Go.Proofs.YtecfgbjnjgjkoaaGreatDoor
open Go.ChangeShapes Go.WideShapes Go.ChangeAt Go.RowKit
set_option linter.unusedVariables false
set_option linter.unusedSimpArgs false
set_option maxRecDepth 20000
set_option maxHeartbeats 4000000

theorem blank_any (w : World) (c : Nat) : Calls Tryz.prog 41 #[.int .u8 (c : Nat)] w fun e w' => e = .returned (.bool (Larder8.blankL c)) ∧ w' = w := by
  by_cases h32 : c = 32
  · subst h32
    go_enter Tryz.func41, Tryz.ntmps41
    go_wp2
    go_ret
    exact ⟨rfl, rfl⟩
  have t1 : ((c : Int) == 32) = false := by rw [beq_eq_false_iff_ne]; omega
  by_cases h9 : 9 ≤ c
  · have f1 : decide ((9 : Int) ≤ (c : Int)) = true := decide_eq_true (by omega)
    have f1n : decide (9 ≤ c) = true := decide_eq_true h9
    by_cases h13 : c ≤ 13
    · have f2 : decide ((c : Int) ≤ 13) = true := decide_eq_true (by omega)
      have f2n : decide (c ≤ 13) = true := decide_eq_true h13
      have E : Larder8.blankL c = true := by simp [Larder8.blankL, h9, h13]
      rw [E]
      clear E
      go_enter Tryz.func41, Tryz.ntmps41
      go_wp2
      go_ret
      exact ⟨rfl, rfl⟩
    · have f2 : decide ((c : Int) ≤ 13) = false := decide_eq_false (by omega)
      have f2n : decide (c ≤ 13) = false := decide_eq_false h13
      have E : Larder8.blankL c = false := by simp [Larder8.blankL, h32, h13]
      rw [E]
      clear E
      go_enter Tryz.func41, Tryz.ntmps41
      go_wp2
      go_ret
      exact ⟨rfl, rfl⟩
  · have f1 : decide ((9 : Int) ≤ (c : Int)) = false := decide_eq_false (by omega)
    have f1n : decide (9 ≤ c) = false := decide_eq_false h9
    have E : Larder8.blankL c = false := by simp [Larder8.blankL, h32, h9]
    rw [E]
    clear E
    go_enter Tryz.func41, Tryz.ntmps41
    go_wp2
    go_ret
    exact ⟨rfl, rfl⟩
theorem rblank_any (w : World) (c : Nat) : Calls Tryz.prog 43 #[.int .u8 (c : Nat)] w fun e w' => e = .returned (.bool (Larder8.blankL c)) ∧ w' = w := by
  by_cases h : c = 32 ∨ c = 9 ∨ c = 10 ∨ c = 11 ∨ c = 12 ∨ c = 13
  · rcases h with rfl | rfl | rfl | rfl | rfl | rfl
    all_goals go_enter Tryz.func43, Tryz.ntmps43
    all_goals go_wp2
    all_goals go_ret
    all_goals exact ⟨rfl, rfl⟩
  · have E : Larder8.blankL c = false := by
      unfold Larder8.blankL
      rw [Bool.or_eq_false_iff, Bool.and_eq_false_iff]
      refine ⟨by rw [beq_eq_false_iff_ne]; omega, ?_⟩
      by_cases h9 : 9 ≤ c
      · exact .inr (decide_eq_false (by omega))
      · exact .inl (decide_eq_false h9)
    have t1 : ((c : Int) == 32) = false := by rw [beq_eq_false_iff_ne]; omega
    have t2 : ((c : Int) == 9) = false := by rw [beq_eq_false_iff_ne]; omega
    have t3 : ((c : Int) == 10) = false := by rw [beq_eq_false_iff_ne]; omega
    have t4 : ((c : Int) == 11) = false := by rw [beq_eq_false_iff_ne]; omega
    have t5 : ((c : Int) == 12) = false := by rw [beq_eq_false_iff_ne]; omega
    have t6 : ((c : Int) == 13) = false := by rw [beq_eq_false_iff_ne]; omega
    rw [E]
    clear E h
    go_enter Tryz.func43, Tryz.ntmps43
    go_wp2
    go_ret
    exact ⟨rfl, rfl⟩
theorem skip_any (w : World) (a : Option Addr) (cp tn i : Nat) (T : List Nat) (hn : tn = T.length) (hB : Bytes w a T) (hi : i ≤ tn) (hl : tn ≤ 1048576) :
    Calls Tryz.prog 40 #[.slice a tn cp, .int .i64 (i : Nat)] w fun e w' => ∃ j : Nat, e = .returned (.int .i64 (j : Nat)) ∧ i ≤ j ∧ j ≤ tn ∧ Hid ((∀ k, i ≤ k → k < j → Larder8.blankL (T.getD k 0) = true) ∧ (j < tn → Larder8.blankL (T.getD j 0) = false)) ∧ w' = w := by
  have HN := hide hn
  have HB := hide hB
  clear hn hB
  go_enter Tryz.func40, Tryz.ntmps40
  go_wp2
  go_loopw [1] (fun iv wr => ∃ j : Nat, iv = .int .i64 (j : Nat) ∧ i ≤ j ∧ j ≤ tn ∧ Hid (∀ k, i ≤ k → k < j → Larder8.blankL (T.getD k 0) = true) ∧ Hid (wr = w)) (fun iv _ => tn - (intOf iv).toNat)
  case atStart => exact ⟨i, rfl, Nat.le_refl _, hi, hide (fun k h1 h2 => by omega), hide rfl⟩
  case round =>
    obtain ⟨j, rfl, hij, hj, hall, hw⟩ := hrel
    obtain rfl := (unhide hw).symm
    clear hw
    rcases Nat.lt_or_ge j tn with hlt | hge
    · have f0 : decide ((j : Int) < (tn : Int)) = true := decide_eq_true (by omega)
      have g1 : (0 : Int) ≤ (j : Int) := by omega
      have g2 : (j : Int) < (tn : Int) := by omega
      have hN := unhide HN
      obtain ⟨b, off, rfl, hb, hc⟩ : ∃ b off, a = some ⟨b, off, none⟩ ∧ b < w.heap.size ∧ ∀ i, i < T.length → w.cell? ⟨b, off + i, none⟩ = some (.int .u8 (T.getD i 0 : Nat)) := by
        rcases unhide HB with h | h
        · rw [h] at hN; simp at hN; omega
        · exact h
      have c0 := hc j (by omega)
      obtain ⟨c, hcc⟩ : ∃ c, c = T.getD j 0 := ⟨_, rfl⟩
      have HC := hide hcc
      rw [← hcc] at c0
      clear hcc hc hN
      have CB : Hid (Calls Tryz.prog 41 #[.int .u8 (c : Nat)] w fun e w' => ∃ q, e = .returned (.bool q) ∧ Hid (q = Larder8.blankL c) ∧ w = w') := hide ((blank_any w c).mono (fun e w' h => ⟨_, h.1, hide rfl, h.2.symm⟩))
      go_wp2_with (go_at_call 41; refine (unhide CB).mono ?_; rintro e w5 ⟨q, rfl, hq, rfl⟩; cases q)
      · go_ret
        exact ⟨j, rfl, hij, hj, hide ⟨unhide hall, fun _ => by rw [← unhide HC, ← unhide hq]⟩, rfl⟩
      · refine ⟨⟨j + 1, by go_num, by omega, by omega, hide (fun k h1 h2 => ?_), hide (by first | rfl | trivial)⟩, by simp [intOf]; omega⟩
        rcases Nat.lt_or_ge k j with r | r
        · exact unhide hall k h1 r
        · obtain rfl : k = j := by omega
          rw [← unhide HC, ← unhide hq]
    · obtain rfl : j = tn := by omega
      have f0 : decide ((j : Int) < (j : Int)) = false := decide_eq_false (by omega)
      go_wp2
      go_ret
      exact ⟨j, rfl, hij, hj, hide ⟨unhide hall, fun h => by omega⟩, rfl⟩
end Go.Proofs.YtecfgbjnjgjkoaaGreatDoor
namespace Go.Proofs.YtecfgbjnjgjkoaaGreatDoor
open Go.ChangeShapes Go.WideShapes Go.ChangeAt Go.RowKit
set_option linter.unusedVariables false
set_option linter.unusedSimpArgs false
set_option maxRecDepth 20000
set_option maxHeartbeats 4000000

theorem hexDigit_any (w : World) (c : Nat) : Calls Tryz.prog 131 #[.int .u8 (c : Nat)] w fun e w' => e = .returned (.tuple #[.int .u8 (((Larder8.hexV c).getD 0 : Nat) : Int), .bool (Larder8.hexV c).isSome]) ∧ w' = w := by
  by_cases hd : (48 ≤ c ∧ c ≤ 57) ∨ (97 ≤ c ∧ c ≤ 102) ∨ (65 ≤ c ∧ c ≤ 70)
  · have h : c = 48 ∨ c = 49 ∨ c = 50 ∨ c = 51 ∨ c = 52 ∨ c = 53 ∨ c = 54 ∨ c = 55 ∨ c = 56 ∨ c = 57 ∨ c = 97 ∨ c = 98 ∨ c = 99 ∨ c = 100 ∨ c = 101 ∨ c = 102 ∨ c = 65 ∨ c = 66 ∨ c = 67 ∨ c = 68 ∨ c = 69 ∨ c = 70 := by omega
    clear hd
    rcases h with rfl | rfl | rfl | rfl | rfl | rfl | rfl | rfl | rfl | rfl | rfl | rfl | rfl | rfl | rfl | rfl | rfl | rfl | rfl | rfl | rfl | rfl
    all_goals go_enter Tryz.func131, Tryz.ntmps131
    all_goals go_wp2
    all_goals go_ret2
    all_goals exact ⟨rfl, rfl⟩
  · have E : Larder8.hexV c = none := by
      unfold Larder8.hexV
      rw [if_neg (by omega), if_neg (by omega), if_neg (by omega)]
    rw [E]
    have h4 : c < 48 ∨ (57 < c ∧ c < 65) ∨ (70 < c ∧ c < 97) ∨ 102 < c := by omega
    clear hd E
    rcases h4 with h | h | h | h
    all_goals try have f1 : decide ((48 : Int) ≤ (c : Int)) = true := decide_eq_true (by omega)
    all_goals try have f1 : decide ((48 : Int) ≤ (c : Int)) = false := decide_eq_false (by omega)
    all_goals try have f2 : decide ((c : Int) ≤ 57) = true := decide_eq_true (by omega)
    all_goals try have f2 : decide ((c : Int) ≤ 57) = false := decide_eq_false (by omega)
    all_goals try have f3 : decide ((97 : Int) ≤ (c : Int)) = true := decide_eq_true (by omega)
    all_goals try have f3 : decide ((97 : Int) ≤ (c : Int)) = false := decide_eq_false (by omega)
    all_goals try have f4 : decide ((c : Int) ≤ 102) = true := decide_eq_true (by omega)
    all_goals try have f4 : decide ((c : Int) ≤ 102) = false := decide_eq_false (by omega)
    all_goals try have f5 : decide ((65 : Int) ≤ (c : Int)) = true := decide_eq_true (by omega)
    all_goals try have f5 : decide ((65 : Int) ≤ (c : Int)) = false := decide_eq_false (by omega)
    all_goals try have f6 : decide ((c : Int) ≤ 70) = true := decide_eq_true (by omega)
    all_goals try have f6 : decide ((c : Int) ≤ 70) = false := decide_eq_false (by omega)
    all_goals try have n1 : decide (48 ≤ c) = true := decide_eq_true (by omega)
    all_goals try have n1 : decide (48 ≤ c) = false := decide_eq_false (by omega)
    all_goals try have n2 : decide (c ≤ 57) = true := decide_eq_true (by omega)
    all_goals try have n2 : decide (c ≤ 57) = false := decide_eq_false (by omega)
    all_goals try have n3 : decide (97 ≤ c) = true := decide_eq_true (by omega)
    all_goals try have n3 : decide (97 ≤ c) = false := decide_eq_false (by omega)
    all_goals try have n4 : decide (c ≤ 102) = true := decide_eq_true (by omega)
    all_goals try have n4 : decide (c ≤ 102) = false := decide_eq_false (by omega)
    all_goals try have n5 : decide (65 ≤ c) = true := decide_eq_true (by omega)
    all_goals try have n5 : decide (65 ≤ c) = false := decide_eq_false (by omega)
    all_goals try have n6 : decide (c ≤ 70) = true := decide_eq_true (by omega)
    all_goals try have n6 : decide (c ≤ 70) = false := decide_eq_false (by omega)
    all_goals go_enter Tryz.func131, Tryz.ntmps131
    all_goals go_wp2
    all_goals go_ret2
    all_goals exact ⟨rfl, rfl⟩
end Go.Proofs.YtecfgbjnjgjkoaaGreatDoor
namespace Go.Proofs.YtecfgbjnjgjkoaaGreatDoor
open Go.ChangeShapes Go.WideShapes Go.ChangeAt Go.RowKit
set_option linter.unusedVariables false
set_option linter.unusedSimpArgs false
set_option maxRecDepth 20000
set_option maxHeartbeats 4000000
theorem hexV_lt (c : Nat) : (Larder8.hexV c).getD 0 < 16 := by
  unfold Larder8.hexV
  split
  · simp; omega
  · split
    · simp; omega
    · split
      · simp; omega
      · simp
theorem or_hex : ∀ (x y : Fin 16), bits BinOp.or IntKind.u8 (((x : Nat) : Int) * 16) ((y : Nat) : Int) = (((16 * (x : Nat) + (y : Nat) : Nat)) : Int) := by decide +kernel
theorem hexByte_any (w : World) (a : Option Addr) (cp tn : Nat) (T : List Nat) (hn : tn = T.length) (hB : Bytes w a T) :
    Calls Tryz.prog 116 #[.slice a tn cp] w fun e w' => ∃ (v : Nat) (q : Bool), e = .returned (.tuple #[.int .u8 (v : Nat), .bool q]) ∧ q = (Larder8.hex2 T).isSome ∧ (∀ x, Larder8.hex2 T = some x → v = x) ∧ w' = w := by
  by_cases h2 : tn < 2
  · have E : Larder8.hex2 T = none := by
      match T, hn with
      | [], _ => rfl
      | [_], _ => rfl
      | _ :: _ :: _, h => simp at h; omega
    have f1 : decide ((tn : Int) < 2) = true := decide_eq_true (by omega)
    have f1n : decide (tn < 2) = true := decide_eq_true h2
    have HE := hide E
    clear hB hn E
    go_enter Tryz.func116, Tryz.ntmps116
    go_wp2
    go_ret2
    refine ⟨0, false, rfl, by rw [unhide HE]; rfl, fun x h => ?_, rfl⟩
    rw [unhide HE] at h
    cases h
  · obtain ⟨h, l, r, rfl⟩ : ∃ h l r, T = h :: l :: r := by
      match T, hn with
      | [], e => simp at e; omega
      | [_], e => simp at e; omega
      | h :: l :: r, _ => exact ⟨h, l, r, rfl⟩
    have f1 : decide ((tn : Int) < 2) = false := decide_eq_false (by omega)
    have f1n : decide (tn < 2) = false := decide_eq_false h2
    have g1 : (0 : Int) < (tn : Int) := by omega
    have g2 : (1 : Int) < (tn : Int) := by omega
    obtain ⟨b, off, rfl, hb, hc⟩ : ∃ b off, a = some ⟨b, off, none⟩ ∧ b < w.heap.size ∧ ∀ i, i < (h :: l :: r).length → w.cell? ⟨b, off + i, none⟩ = some (.int .u8 ((h :: l :: r).getD i 0 : Nat)) := by
      rcases hB with e | e
      · cases e
      · exact e
    have c0 : w.cell? ⟨b, off, none⟩ = some (.int .u8 (h : Nat)) := hc 0 (by simp)
    have c1 : w.cell? ⟨b, off + 1, none⟩ = some (.int .u8 (l : Nat)) := hc 1 (by simp)
    have HX : Hid (Larder8.hex2 (h :: l :: r) = (match Larder8.hexV h, Larder8.hexV l with | some a, some b => some (16 * a + b) | _, _ => none)) := hide rfl
    have l1 := hexV_lt h
    have l2 := hexV_lt l
    have C1 := hide (hexDigit_any w h)
    have C2 := hide (hexDigit_any w l)
    obtain ⟨x, hx⟩ : ∃ x, x = (Larder8.hexV h).getD 0 := ⟨_, rfl⟩
    obtain ⟨y, hy⟩ : ∃ y, y = (Larder8.hexV l).getD 0 := ⟨_, rfl⟩
    obtain ⟨p, hp⟩ : ∃ p, p = (Larder8.hexV h).isSome := ⟨_, rfl⟩
    obtain ⟨q, hq⟩ : ∃ q, q = (Larder8.hexV l).isSome := ⟨_, rfl⟩
    rw [← hx, ← hp] at C1
    rw [← hy, ← hq] at C2
    rw [← hx] at l1
    rw [← hy] at l2
    have OR : bits BinOp.or IntKind.u8 ((x : Int) * 16) (y : Int) = ((16 * x + y : Nat) : Int) := or_hex ⟨x, l1⟩ ⟨y, l2⟩
    have HP := hide (And.intro hx (And.intro hp (And.intro hy hq)))
    clear hx hy hp hq hc hB hn
    have HF : Hid (∀ u : Nat, u = 16 * x + y → (p && q) = (Larder8.hex2 (h :: l :: r)).isSome ∧ ∀ z, Larder8.hex2 (h :: l :: r) = some z → u = z) := hide (fun u hu => by
      obtain ⟨e1, e2, e3, e4⟩ := unhide HP
      rw [unhide HX, hu, e1, e2, e3, e4]
      cases Larder8.hexV h <;> cases Larder8.hexV l <;> simp)
    clear HP HX
    cases p
    all_goals go_enter Tryz.func116, Tryz.ntmps116
    all_goals go_wp2_with (first | (go_at_call 131; refine (unhide C1).mono ?_; rintro e w1 ⟨rfl, e1⟩; subst e1; clear C1) | (go_at_call 131; refine (unhide C2).mono ?_; rintro e w1 ⟨rfl, e1⟩; subst e1))
    all_goals go_ret2
    · exact ⟨16 * x + y, false, by first | rfl | (rw [← OR]; rfl), by simpa using (unhide HF _ rfl).1, (unhide HF _ rfl).2, rfl⟩
    · exact ⟨16 * x + y, q, by first | rfl | (rw [← OR]; rfl), by simpa using (unhide HF _ rfl).1, (unhide HF _ rfl).2, rfl⟩
end Go.Proofs.YtecfgbjnjgjkoaaGreatDoor
namespace Go.Proofs.YtecfgbjnjgjkoaaGreatDoor
open Go.ChangeShapes Go.WideShapes Go.ChangeAt Go.RowKit
set_option linter.unusedVariables false
set_option linter.unusedSimpArgs false
set_option maxRecDepth 20000
set_option maxHeartbeats 4000000

theorem escaped_any (w : World) (b off cp tn c d : Nat) (r : List Nat) (hn : tn = r.length + 2) (hcp : tn ≤ cp) (hcl : cp ≤ 9223372036854775807) (hB : Bytes w (some ⟨b, off, none⟩) (c :: d :: r)) :
    Calls Tryz.prog 85 #[.slice (some ⟨b, off, none⟩) tn cp] w fun e w' => e = .returned (.tuple #[.int .u8 ((Larder8.qByte 34 92 (d :: r)).1 : Nat), .int .i64 ((Larder8.qByte 34 92 (d :: r)).2 + 1 : Nat)]) ∧ w' = w := by
  obtain ⟨hb, hc⟩ : b < w.heap.size ∧ ∀ i, i < (c :: d :: r).length → w.cell? ⟨b, off + i, none⟩ = some (.int .u8 ((c :: d :: r).getD i 0 : Nat)) := by
    rcases hB with e | ⟨b', off', e, h1, h2⟩
    · cases e
    · cases e; exact ⟨h1, h2⟩
  have c1 : w.cell? ⟨b, off + 1, none⟩ = some (.int .u8 (d : Nat)) := hc 1 (by simp)
  have g1 : (1 : Int) < (tn : Int) := by omega
  have g2 : (2 : Int) ≤ (tn : Int) := by omega
  have g3 : (tn : Int) ≤ (cp : Int) := by omega
  by_cases h120 : d = 120
  · subst h120
    have CH : Hid (∀ a' cp', Bytes w a' r → Calls Tryz.prog 116 #[.slice a' r.length cp'] w fun e w' => ∃ (v : Nat) (q : Bool), e = .returned (.tuple #[.int .u8 (v : Nat), .bool q]) ∧ Hid (q = (Larder8.hex2 r).isSome ∧ ∀ x, Larder8.hex2 r = some x → v = x) ∧ w' = w) := hide (fun a' cp' h => (hexByte_any w a' cp' r.length r rfl h).mono (fun e w' ⟨v, q, h1, h2, h3, h4⟩ => ⟨v, q, h1, hide ⟨h2, h3⟩, h4⟩))
    have HB2 : Hid (Bytes w (some ⟨b, off + 2, none⟩) r) := hide (.inr ⟨b, off + 2, rfl, hb, fun i hi => by
      have := hc (i + 2) (by simp; omega)
      rw [show off + 2 + i = off + (i + 2) by omega, this]
      rfl⟩)
    have HB0 : Hid (cp = 2 → Bytes w (some ⟨b, off, none⟩) r) := hide (fun h => .inl (List.eq_nil_of_length_eq_zero (by omega)))
    have QN : Hid (∀ q : Bool, q = (Larder8.hex2 r).isSome → q = false → Larder8.qByte 34 92 (120 :: r) = (120, 1)) := hide (fun q h1 h2 => by
      subst h2
      cases hx : Larder8.hex2 r with
      | none => simp [Larder8.qByte, hx]
      | some x => rw [hx] at h1; cases h1)
    have QY : Hid (∀ (v : Nat) (q : Bool), q = (Larder8.hex2 r).isSome → (∀ x, Larder8.hex2 r = some x → v = x) → q = true → Larder8.qByte 34 92 (120 :: r) = (v, 3)) := hide (fun v q h1 h3 h2 => by
      subst h2
      cases hx : Larder8.hex2 r with
      | none => rw [hx] at h1; cases h1
      | some x => rw [h3 x hx]; simp [Larder8.qByte, hx])
    clear hc hB
    go_enter Tryz.func85, Tryz.ntmps85
    go_wp2_with (go_at_call 116; refine (unhide CH _ _ (by first | exact unhide HB2 | exact unhide HB0 (by first | assumption | omega))).mono ?_; rintro e w5 ⟨v, q, rfl, hq, h5⟩; subst h5; cases q)
    all_goals go_ret2
    all_goals first | (rw [unhide QN false (unhide hq).1 rfl]; exact ⟨rfl, rfl⟩) | (rw [unhide QY v true (unhide hq).1 (unhide hq).2 rfl]; exact ⟨rfl, rfl⟩)
  · have E : Larder8.qByte 34 92 (d :: r) = (Larder8.shortC d, 1) := by simp [Larder8.qByte, h120]
    rw [E]
    clear E hc hB
    by_cases h : d = 110 ∨ d = 114 ∨ d = 116 ∨ d = 98 ∨ d = 97
    · rcases h with rfl | rfl | rfl | rfl | rfl
      all_goals go_enter Tryz.func85, Tryz.ntmps85
      all_goals go_wp2
      all_goals go_ret2
      all_goals exact ⟨rfl, rfl⟩
    · have t0 : ((d : Int) == 120) = false := by rw [beq_eq_false_iff_ne]; omega
      have t1 : ((d : Int) == 110) = false := by rw [beq_eq_false_iff_ne]; omega
      have t2 : ((d : Int) == 114) = false := by rw [beq_eq_false_iff_ne]; omega
      have t3 : ((d : Int) == 116) = false := by rw [beq_eq_false_iff_ne]; omega
      have t4 : ((d : Int) == 98) = false := by rw [beq_eq_false_iff_ne]; omega
      have t5 : ((d : Int) == 97) = false := by rw [beq_eq_false_iff_ne]; omega
      have E : Larder8.shortC d = d := by
        unfold Larder8.shortC
        rw [if_neg (by omega), if_neg (by omega), if_neg (by omega), if_neg (by omega), if_neg (by omega)]
      rw [E]
      clear E h
      go_enter Tryz.func85, Tryz.ntmps85
      go_wp2
      go_ret2
      exact ⟨rfl, rfl⟩
/-- a byte inside quotes -/
theorem quotedByte_any (w : World) (b off cp tn q c : Nat) (r : List Nat) (hq : q = 34 ∨ q = 39) (hn : tn = r.length + 1) (hcp : tn ≤ cp) (hcl : cp ≤ 9223372036854775807) (hB : Bytes w (some ⟨b, off, none⟩) (c :: r)) :
    Calls Tryz.prog 59 #[.slice (some ⟨b, off, none⟩) tn cp, .int .u8 (q : Nat)] w fun e w' => e = .returned (.tuple #[.int .u8 ((Larder8.qByte q c r).1 : Nat), .int .i64 ((Larder8.qByte q c r).2 + 1 : Nat)]) ∧ w' = w := by
  obtain ⟨hb, hc⟩ : b < w.heap.size ∧ ∀ i, i < (c :: r).length → w.cell? ⟨b, off + i, none⟩ = some (.int .u8 ((c :: r).getD i 0 : Nat)) := by
    rcases hB with e | ⟨b', off', e, h1, h2⟩
    · cases e
    · cases e; exact ⟨h1, h2⟩
  have c0 : w.cell? ⟨b, off, none⟩ = some (.int .u8 (c : Nat)) := hc 0 (by simp)
  have g0 : (0 : Int) < (tn : Int) := by omega
  by_cases h92 : c = 92
  · subst h92
    cases r with
    | nil =>
      have E : Larder8.qByte q 92 [] = (92, 0) := by simp [Larder8.qByte]
      rw [E]
      simp only [List.length_nil] at hn
      subst hn
      clear E hc hB
      go_enter Tryz.func59, Tryz.ntmps59
      go_wp2
      go_ret2
      exact ⟨rfl, rfl⟩
    | cons d r =>
      have c1 : w.cell? ⟨b, off + 1, none⟩ = some (.int .u8 (d : Nat)) := hc 1 (by simp)
      have g1 : (1 : Int) < (tn : Int) := by simp at hn; omega
      have t1 : ((tn : Int) == 1) = false := by rw [beq_eq_false_iff_ne]; omega
      have t1' : (tn == 1) = false := by rw [beq_eq_false_iff_ne]; simp at hn; omega
      rcases hq with rfl | rfl
      · have CE := hide (escaped_any w b off cp tn 92 d r (by simp at hn; omega) hcp hcl hB)
        obtain ⟨u, hu⟩ : ∃ u, u = (Larder8.qByte 34 92 (d :: r)).1 := ⟨_, rfl⟩
        obtain ⟨v, hv⟩ : ∃ v, v = (Larder8.qByte 34 92 (d :: r)).2 + 1 := ⟨_, rfl⟩
        rw [← hu, ← hv] at CE ⊢
        clear hu hv hc hB hn
        go_enter Tryz.func59, Tryz.ntmps59
        go_wp2_with (go_at_call 85; refine (unhide CE).mono ?_; rintro e w5 ⟨rfl, h5⟩; subst h5)
        go_ret2
        exact ⟨rfl, rfl⟩
      · by_cases hd : d = 39
        · subst hd
          have E : Larder8.qByte 39 92 (39 :: r) = (39, 1) := by simp [Larder8.qByte]
          rw [E]
          clear E hc hB hn
          go_enter Tryz.func59, Tryz.ntmps59
          go_wp2
          go_ret2
          exact ⟨rfl, rfl⟩
        · have E : Larder8.qByte 39 92 (d :: r) = (92, 0) := by simp [Larder8.qByte, hd]
          have t3 : ((d : Int) == 39) = false := by rw [beq_eq_false_iff_ne]; omega
          rw [E]
          clear E hc hB hn
          go_enter Tryz.func59, Tryz.ntmps59
          go_wp2
          go_ret2
          exact ⟨rfl, rfl⟩
  · have E : Larder8.qByte q c r = (c, 0) := by simp [Larder8.qByte, h92]
    have t0 : ((c : Int) == 92) = false := by rw [beq_eq_false_iff_ne]; omega
    have t0' : ((c : Int) != 92) = true := by simp; omega
    rw [E]
    clear E hc hB hn
    go_enter Tryz.func59, Tryz.ntmps59
    go_wp2
    go_ret2
    exact ⟨rfl, rfl⟩
end Go.Proofs.YtecfgbjnjgjkoaaGreatDoor
namespace Go.Proofs.YtecfgbjnjgjkoaaGreatDoor
open Go.ChangeShapes Go.WideShapes Go.ChangeAt Go.RowKit
set_option linter.unusedVariables false
set_option linter.unusedSimpArgs false
set_option maxRecDepth 20000
set_option maxHeartbeats 4000000

theorem below_drewN (w : World) (n : Nat) : Below w.heap.size w (w.drewN n) := ⟨rfl, rfl, rfl, Nat.le_refl _, fun _ _ => rfl⟩
theorem drop_at' {T : List Nat} {i : Nat} (h : i < T.length) : T.drop i = T.getD i 0 :: T.drop (i + 1) := by
  rw [List.drop_eq_getElem_cons h]
  simp [List.getD, h]
theorem Bytes.drop {w : World} {b off i : Nat} {T : List Nat} (h : Bytes w (some ⟨b, off, none⟩) T) : Bytes w (some ⟨b, off + i, none⟩) (T.drop i) := by
  rcases h with e | ⟨b', off', e, h1, h2⟩
  · exact .inl (by rw [e]; simp)
  · cases e
    refine .inr ⟨b, off + i, rfl, h1, fun k hk => ?_⟩
    have := h2 (i + k) (by simp at hk; omega)
    rw [show off + i + k = off + (i + k) by omega, this]
    simp [List.getD]
/-- a step of the program's -/
theorem quotedP_here {q i : Nat} {T : List Nat} (h : i < T.length) (hc : T.getD i 0 = q) : Larder8.quotedP q (T.drop i) = some ([], T.drop (i + 1)) := by
  rw [drop_at' h, Larder8.quotedP, if_pos hc]
theorem quotedP_step {q i : Nat} {T : List Nat} (h : i < T.length) (hc : T.getD i 0 ≠ q) : Larder8.quotedP q (T.drop i) = (Larder8.quotedP q (T.drop (i + ((Larder8.qByte q (T.getD i 0) (T.drop (i + 1))).2 + 1)))).map (fun x => ((Larder8.qByte q (T.getD i 0) (T.drop (i + 1))).1 :: x.1, x.2)) := by
  rw [drop_at' h, Larder8.quotedP, if_neg hc, List.drop_drop]
  congr 3
  omega
theorem quotedP_end {q i : Nat} {T : List Nat} (h : T.length ≤ i) : Larder8.quotedP q (T.drop i) = none := by
  rw [List.drop_eq_nil_of_le h, Larder8.quotedP]
theorem qByte_len (q c : Nat) (r : List Nat) : (Larder8.qByte q c r).2 ≤ r.length := by
  unfold Larder8.qByte
  split
  · simp
  · split
    · simp
    · rename_i d r' 
      split
      · split
        · split
          · rename_i x hx
            obtain ⟨a, b, r'', rfl, -⟩ := Larder8.hex2_cases hx
            simp
          · simp
        · simp
      · split <;> simp
/-- what quoted answers: what is said, and by how many bytes -/
theorem quoted_any (w : World) (b off cp tn q : Nat) (r : List Nat) (hq : q = 34 ∨ q = 39) (hn : tn = r.length + 1) (hcp : tn ≤ cp) (hcl : cp ≤ 1073741824) (hB : Bytes w (some ⟨b, off, none⟩) (q :: r)) :
    Calls Tryz.prog 42 #[.slice (some ⟨b, off, none⟩) tn cp] w fun e w' => ∃ (va : Option Addr) (n vc k : Nat), e = .returned (.tuple #[.slice va n vc, .int .i64 (k : Nat)]) ∧ k ≤ tn ∧ (k = 0 → Hid (Larder8.quotedP q r = none ∧ Below w.heap.size w w')) ∧ (0 < k → Hid (∃ l, Larder8.quotedP q r = some (l, (q :: r).drop k) ∧ Gro w w' w.heap.size (.slice va n vc) n l)) := by
  obtain ⟨T, hT⟩ : ∃ T, T = q :: r := ⟨_, rfl⟩
  rw [← hT] at hB ⊢
  have hTl : tn = T.length := by rw [hT, hn]; simp
  have h1 : T.drop 1 = r := by rw [hT]; rfl
  have h0 : T.getD 0 0 = q := by rw [hT]; rfl
  rw [← h1]
  have HB := hide hB
  have HTl := hide hTl
  have hb : b < w.heap.size := by
    rcases hB with e | ⟨b', off', e, h1, h2⟩
    · rw [hT] at e; cases e
    · cases e; exact h1
  have g00 : (0 : Int) < (tn : Int) := by omega
  have HC : Hid (∀ W, Below w.heap.size w W → ∀ i, i < tn → W.cell? ⟨b, off + i, none⟩ = some (.int .u8 (T.getD i 0 : Nat))) := hide (fun W hW i hi => by
    rw [hW.cell hb]
    rcases hB with e | ⟨b', off', e, h1, h2⟩
    · rw [hT] at e; cases e
    · cases e; exact h2 i (by omega))
  have H0 := hide h0
  clear hB hTl h1 h0 hT hn
  obtain ⟨i5, hi5, hz5, hs5, hb5⟩ := info_partsS Tryz.info5s
  go_enter Tryz.func42, Tryz.ntmps42
  go_wp2_with fail
  go_loopw [4, 5] (fun v iv wr => ∃ (i n vc : Nat) (va : Option Addr) (l : List Nat), v = .slice va n vc ∧ iv = .int .i64 (i : Nat) ∧ 1 ≤ i ∧ i ≤ tn ∧ n ≤ i ∧ Hid (Larder8.quotedP q (T.drop 1) = (Larder8.quotedP q (T.drop i)).map (fun x => (l ++ x.1, x.2))) ∧ Hid (Gro w wr w.heap.size (.slice va n vc) n l)) (fun _ iv _ => tn - (intOf iv).toNat)
  case atStart => exact ⟨1, 0, 0, none, [], rfl, rfl, Nat.le_refl _, by omega, by omega, hide (by simp), hide (Gro.start w _ (Nat.le_refl _))⟩
  case round =>
    obtain ⟨i, n, vc, va, l, rfl, rfl, hi1, hi2, hni, hQ, hG⟩ := hrel
    rename World => wr
    rcases Nat.lt_or_ge i tn with hlt | hge
    · have f0 : decide ((i : Int) < (tn : Int)) = true := decide_eq_true (by omega)
      have g1 : (0 : Int) ≤ (i : Int) := by omega
      have g2 : (i : Int) < (tn : Int) := by omega
      have c0 : wr.cell? ⟨b, off, none⟩ = some (.int .u8 (q : Nat)) := by
        have := unhide HC wr (unhide hG).bel 0 (by omega)
        rw [unhide H0] at this
        exact this
      have ci := unhide HC wr (unhide hG).bel i hlt
      obtain ⟨c, hc⟩ : ∃ c, c = T.getD i 0 := ⟨_, rfl⟩
      have HCC := hide hc
      rw [← hc] at ci
      clear hc
      by_cases hcq : c = q
      · subst hcq
        have t1 : ((c : Int) == (c : Int)) = true := by simp
        have HEN : Hid (Larder8.quotedP c (T.drop 1) = some (l, T.drop (i + 1))) := hide (by
          rw [unhide hQ, quotedP_here (by have := unhide HTl; omega) (unhide HCC).symm]
          simp)
        go_wp2_with fail
        go_quiet (fail)
        have HG2 := hide ((unhide hG).below (below_drewN wr nq))
        generalize wr.drewN nq = w2 at *
        clear c0 ci hG HC HB
        go_wp2
        go_ret2
        refine ⟨va, n, vc, i + 1, rfl, by omega, fun h => by omega, fun _ => hide ⟨l, unhide HEN, unhide HG2⟩⟩
      · have t1 : ((c : Int) == (q : Int)) = false := by rw [beq_eq_false_iff_ne]; omega
        obtain ⟨u, hu⟩ : ∃ u, u = (Larder8.qByte q c (T.drop (i + 1))).1 := ⟨_, rfl⟩
        obtain ⟨p, hp⟩ : ∃ p, p = (Larder8.qByte q c (T.drop (i + 1))).2 + 1 := ⟨_, rfl⟩
        have hpl : i + p ≤ tn := by
          have h1 := qByte_len q c (T.drop (i + 1))
          have h2 := unhide HTl
          simp only [List.length_drop] at h1
          omega
        have hp1 : 1 ≤ p := by omega
        have HEN : Hid (Larder8.quotedP q (T.drop 1) = (Larder8.quotedP q (T.drop (i + p))).map (fun x => ((l ++ [u]) ++ x.1, x.2))) := hide (by
          rw [unhide hQ, quotedP_step (by have := unhide HTl; omega) (by rw [← unhide HCC]; exact hcq), Option.map_map, hp, hu, unhide HCC]
          congr 1
          funext x
          simp)
        have HAT : Hid (∀ W, Below wr.heap.size wr W → Calls Tryz.prog 59 #[.slice (some ⟨b, off + i, none⟩) (tn - i) (cp - i), .int .u8 (q : Nat)] W fun e w' => e = .returned (.tuple #[.int .u8 (u : Nat), .int .i64 (p : Nat)]) ∧ w' = W) := hide (fun W hW => by
          have hb2 : Bytes W (some ⟨b, off + i, none⟩) (c :: T.drop (i + 1)) := by
            have h1 := (((unhide HB).below ((unhide hG).bel)).below hW).drop (i := i)
            rw [drop_at' (by have := unhide HTl; omega), ← unhide HCC] at h1
            exact h1
          rw [hu, hp]
          exact quotedByte_any W b (off + i) (cp - i) (tn - i) q c (T.drop (i + 1)) hq (by have := unhide HTl; simp only [List.length_drop]; omega) (by omega) (by omega) hb2)
        have hne : (cp = i) = False := eq_false (by omega)
        have g0n : 0 < tn := by omega
        clear hu hp
        go_wp2_with fail
        go_quiet (fail)
        have HB3 := hide (below_drewN wr nq)
        have c02 : (wr.drewN nq).cell? ⟨b, off, none⟩ = some (.int .u8 (q : Nat)) := c0
        generalize wr.drewN nq = w2 at *
        have HBD : Hid (Below wr.heap.size wr w2.drew) := hide ((unhide HB3).trans ⟨rfl, rfl, rfl, Nat.le_refl _, fun _ _ => rfl⟩)
        have HG2 := hide ((unhide hG).below (unhide HBD))
        clear c0 ci
        go_wp2_with fail
        go_region_held3 (fun w' => w'.cell? ⟨b, off, none⟩ = some (.int .u8 (q : Nat))) (go_keep) (first | (go_at_call 59; refine (unhide HAT _ (unhide HBD)).mono ?_; rintro e w5 ⟨rfl, h5⟩; subst h5))
        have AL : Hid (∀ W : World, ∀ o, Below W.heap.size W (W.alloc o)) := hide (fun W o => (Below.refl _ _).alloc (Nat.le_refl _) _)
        have MB : Hid (∀ W : World, Bytes (W.alloc (.cells #[.int .u8 (u : Nat)] 5)) (some ⟨W.heap.size, 0, none⟩) [u]) := hide (fun W => made_bytes W [u])
        go_wp2_with (at_builtin; refine append_bytes rfl _ _ 25 rfl i5 Tryz.underlying25 hi5 hz5 hs5 hb5 (.slice va n vc) n (byV l) rfl ((unhide HG2).row.below (unhide AL _ _)) (some ⟨w2.heap.size, 0, none⟩) 1 [u] rfl (unhide MB _) (by simp; omega) ?_; intro v1 w1 h1 g1; have HG3 := hide (((unhide HG2).below (unhide AL _ _)).app h1 g1); obtain ⟨a1, c1, rfl⟩ := h1.shape; clear h1 g1)
        refine ⟨⟨i + p, n + 1, c1, a1, l ++ [u], rfl, by go_num, by omega, hpl, by omega, hide (unhide HEN), hide (unhide HG3)⟩, by simp [intOf]; omega⟩
    · obtain rfl : i = tn := by omega
      have f0 : decide ((i : Int) < (i : Int)) = false := decide_eq_false (by omega)
      have HEN : Hid (Larder8.quotedP q (T.drop 1) = none) := hide (by
        rw [unhide hQ, quotedP_end (by have := unhide HTl; omega)]
        rfl)
      clear HC HB
      go_wp2
      go_ret2
      exact ⟨none, 0, 0, 0, rfl, by omega, fun _ => hide ⟨unhide HEN, (unhide hG).bel⟩, fun h => by omega⟩
end Go.Proofs.YtecfgbjnjgjkoaaGreatDoor
