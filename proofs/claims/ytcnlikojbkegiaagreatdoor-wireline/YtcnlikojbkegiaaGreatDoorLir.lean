/- Line: what a backslash says. -/
import Derived.Test.YtcnlikojbkegiaaGreatDoorLin
namespace Go.Proofs.YtcnlikojbkegiaaGreatDoor
open Go.ChangeShapes Go.WideShapes Go.ChangeAt Go.RowKit
set_option linter.unusedVariables false
set_option linter.unusedSimpArgs false
set_option maxRecDepth 20000
set_option maxHeartbeats 4000000

theorem hexDigit_any (w : World) (c : Nat) : Calls Tryz.prog 131 #[.int .u8 (c : Nat)] w fun e w' => e = .returned (.tuple #[.int .u8 (((Larder8.hexV c).getD 0 : Nat) : Int), .bool (Larder8.hexV c).isSome]) ∧ w' = w := by
  by_cases hd : (48 ≤ c ∧ c ≤ 57) ∨ (97 ≤ c ∧ c ≤ 102) ∨ (65 ≤ c ∧ c ≤ 70)
  · have h : c = 48 ∨ c = 49 ∨ c = 50 ∨ c = 51 ∨ c = 52 ∨ c = 53 ∨ c = 54 ∨ c = 55 ∨ c = 56 ∨ c = 57 ∨ c = 97 ∨ c = 98 ∨ c = 99 ∨ c = 100 ∨ c = 101 ∨ c = 102 ∨ c = 65 ∨ c = 66 ∨ c = 67 ∨ c = 68 ∨ c = 69 ∨ c = 70 := by omega
    clear hd
    rcases h with rfl | rfl | rfl | rfl | rfl | rfl | rfl | rfl | rfl | rfl | rfl | rfl | rfl | rfl | rfl | rfl | rfl | rfl | rfl | rfl | rfl | rfl
    all_goals go_enter Tryz.func131, Tryz.ntmps131
    all_goals go_wp2
    all_goals go_ret2
    all_goals exact ⟨rfl, rfl⟩
  · have E : Larder8.hexV c = none := by
      unfold Larder8.hexV
      rw [if_neg (by omega), if_neg (by omega), if_neg (by omega)]
    rw [E]
    have h4 : c < 48 ∨ (57 < c ∧ c < 65) ∨ (70 < c ∧ c < 97) ∨ 102 < c := by omega
    clear hd E
    rcases h4 with h | h | h | h
    all_goals try have f1 : decide ((48 : Int) ≤ (c : Int)) = true := decide_eq_true (by omega)
    all_goals try have f1 : decide ((48 : Int) ≤ (c : Int)) = false := decide_eq_false (by omega)
    all_goals try have f2 : decide ((c : Int) ≤ 57) = true := decide_eq_true (by omega)
    all_goals try have f2 : decide ((c : Int) ≤ 57) = false := decide_eq_false (by omega)
    all_goals try have f3 : decide ((97 : Int) ≤ (c : Int)) = true := decide_eq_true (by omega)
    all_goals try have f3 : decide ((97 : Int) ≤ (c : Int)) = false := decide_eq_false (by omega)
    all_goals try have f4 : decide ((c : Int) ≤ 102) = true := decide_eq_true (by omega)
    all_goals try have f4 : decide ((c : Int) ≤ 102) = false := decide_eq_false (by omega)
    all_goals try have f5 : decide ((65 : Int) ≤ (c : Int)) = true := decide_eq_true (by omega)
    all_goals try have f5 : decide ((65 : Int) ≤ (c : Int)) = false := decide_eq_false (by omega)
    all_goals try have f6 : decide ((c : Int) ≤ 70) = true := decide_eq_true (by omega)
    all_goals try have f6 : decide ((c : Int) ≤ 70) = false := decide_eq_false (by omega)
    all_goals try have n1 : decide (48 ≤ c) = true := decide_eq_true (by omega)
    all_goals try have n1 : decide (48 ≤ c) = false := decide_eq_false (by omega)
    all_goals try have n2 : decide (c ≤ 57) = true := decide_eq_true (by omega)
    all_goals try have n2 : decide (c ≤ 57) = false := decide_eq_false (by omega)
    all_goals try have n3 : decide (97 ≤ c) = true := decide_eq_true (by omega)
    all_goals try have n3 : decide (97 ≤ c) = false := decide_eq_false (by omega)
    all_goals try have n4 : decide (c ≤ 102) = true := decide_eq_true (by omega)
    all_goals try have n4 : decide (c ≤ 102) = false := decide_eq_false (by omega)
    all_goals try have n5 : decide (65 ≤ c) = true := decide_eq_true (by omega)
    all_goals try have n5 : decide (65 ≤ c) = false := decide_eq_false (by omega)
    all_goals try have n6 : decide (c ≤ 70) = true := decide_eq_true (by omega)
    all_goals try have n6 : decide (c ≤ 70) = false := decide_eq_false (by omega)
    all_goals go_enter Tryz.func131, Tryz.ntmps131
    all_goals go_wp2
    all_goals go_ret2
    all_goals exact ⟨rfl, rfl⟩
end Go.Proofs.YtcnlikojbkegiaaGreatDoor
namespace Go.Proofs.YtcnlikojbkegiaaGreatDoor
open Go.ChangeShapes Go.WideShapes Go.ChangeAt Go.RowKit
set_option linter.unusedVariables false
set_option linter.unusedSimpArgs false
set_option maxRecDepth 20000
set_option maxHeartbeats 4000000
theorem hexV_lt (c : Nat) : (Larder8.hexV c).getD 0 < 16 := by
  unfold Larder8.hexV
  split
  · simp; omega
  · split
    · simp; omega
    · split
      · simp; omega
      · simp
theorem or_hex : ∀ (x y : Fin 16), bits BinOp.or IntKind.u8 (((x : Nat) : Int) * 16) ((y : Nat) : Int) = (((16 * (x : Nat) + (y : Nat) : Nat)) : Int) := by decide +kernel
theorem hexByte_any (w : World) (a : Option Addr) (cp tn : Nat) (T : List Nat) (hn : tn = T.length) (hB : Bytes w a T) :
    Calls Tryz.prog 116 #[.slice a tn cp] w fun e w' => ∃ (v : Nat) (q : Bool), e = .returned (.tuple #[.int .u8 (v : Nat), .bool q]) ∧ q = (Larder8.hex2 T).isSome ∧ (∀ x, Larder8.hex2 T = some x → v = x) ∧ w' = w := by
  by_cases h2 : tn < 2
  · have E : Larder8.hex2 T = none := by
      match T, hn with
      | [], _ => rfl
      | [_], _ => rfl
      | _ :: _ :: _, h => simp at h; omega
    have f1 : decide ((tn : Int) < 2) = true := decide_eq_true (by omega)
    have f1n : decide (tn < 2) = true := decide_eq_true h2
    have HE := hide E
    clear hB hn E
    go_enter Tryz.func116, Tryz.ntmps116
    go_wp2
    go_ret2
    refine ⟨0, false, rfl, by rw [unhide HE]; rfl, fun x h => ?_, rfl⟩
    rw [unhide HE] at h
    cases h
  · obtain ⟨h, l, r, rfl⟩ : ∃ h l r, T = h :: l :: r := by
      match T, hn with
      | [], e => simp at e; omega
      | [_], e => simp at e; omega
      | h :: l :: r, _ => exact ⟨h, l, r, rfl⟩
    have f1 : decide ((tn : Int) < 2) = false := decide_eq_false (by omega)
    have f1n : decide (tn < 2) = false := decide_eq_false h2
    have g1 : (0 : Int) < (tn : Int) := by omega
    have g2 : (1 : Int) < (tn : Int) := by omega
    obtain ⟨b, off, rfl, hb, hc⟩ : ∃ b off, a = some ⟨b, off, none⟩ ∧ b < w.heap.size ∧ ∀ i, i < (h :: l :: r).length → w.cell? ⟨b, off + i, none⟩ = some (.int .u8 ((h :: l :: r).getD i 0 : Nat)) := by
      rcases hB with e | e
      · cases e
      · exact e
    have c0 : w.cell? ⟨b, off, none⟩ = some (.int .u8 (h : Nat)) := by simpa using hc 0 (by simp)
    have c1 : w.cell? ⟨b, off + 1, none⟩ = some (.int .u8 (l : Nat)) := by simpa using hc 1 (by simp)
    have HX : Hid (Larder8.hex2 (h :: l :: r) = (match Larder8.hexV h, Larder8.hexV l with | some a, some b => some (16 * a + b) | _, _ => none)) := hide rfl
    have l1 := hexV_lt h
    have l2 := hexV_lt l
    have C1 := hide (hexDigit_any w h)
    have C2 := hide (hexDigit_any w l)
    obtain ⟨x, hx⟩ : ∃ x, x = (Larder8.hexV h).getD 0 := ⟨_, rfl⟩
    obtain ⟨y, hy⟩ : ∃ y, y = (Larder8.hexV l).getD 0 := ⟨_, rfl⟩
    obtain ⟨p, hp⟩ : ∃ p, p = (Larder8.hexV h).isSome := ⟨_, rfl⟩
    obtain ⟨q, hq⟩ : ∃ q, q = (Larder8.hexV l).isSome := ⟨_, rfl⟩
    rw [← hx, ← hp] at C1
    rw [← hy, ← hq] at C2
    rw [← hx] at l1
    rw [← hy] at l2
    have OR : bits BinOp.or IntKind.u8 ((x : Int) * 16) (y : Int) = ((16 * x + y : Nat) : Int) := or_hex ⟨x, l1⟩ ⟨y, l2⟩
    have HP := hide (And.intro hx (And.intro hp (And.intro hy hq)))
    clear hx hy hp hq hc hB hn
    have HF : Hid (∀ u : Nat, u = 16 * x + y → (p && q) = (Larder8.hex2 (h :: l :: r)).isSome ∧ ∀ z, Larder8.hex2 (h :: l :: r) = some z → u = z) := hide (fun u hu => by
      obtain ⟨e1, e2, e3, e4⟩ := unhide HP
      rw [unhide HX, hu, e1, e2, e3, e4]
      cases Larder8.hexV h <;> cases Larder8.hexV l <;> simp)
    clear HP HX
    cases p
    all_goals go_enter Tryz.func116, Tryz.ntmps116
    all_goals go_wp2_with (first | (go_at_call 131; refine (unhide C1).mono ?_; rintro e w1 ⟨rfl, e1⟩; subst e1; clear C1) | (go_at_call 131; refine (unhide C2).mono ?_; rintro e w1 ⟨rfl, e1⟩; subst e1))
    all_goals go_ret2
    · exact ⟨16 * x + y, false, by first | rfl | (rw [← OR]; rfl), by simpa using (unhide HF _ rfl).1, (unhide HF _ rfl).2, rfl⟩
    · exact ⟨16 * x + y, q, by first | rfl | (rw [← OR]; rfl), by simpa using (unhide HF _ rfl).1, (unhide HF _ rfl).2, rfl⟩
end Go.Proofs.YtcnlikojbkegiaaGreatDoor
namespace Go.Proofs.YtcnlikojbkegiaaGreatDoor
open Go.ChangeShapes Go.WideShapes Go.ChangeAt Go.RowKit
set_option linter.unusedVariables false
set_option linter.unusedSimpArgs false
set_option maxRecDepth 20000
set_option maxHeartbeats 4000000

theorem escaped_any (w : World) (b off cp tn c d : Nat) (r : List Nat) (hn : tn = r.length + 2) (hcp : tn ≤ cp) (hcl : cp ≤ 9223372036854775807) (hB : Bytes w (some ⟨b, off, none⟩) (c :: d :: r)) :
    Calls Tryz.prog 85 #[.slice (some ⟨b, off, none⟩) tn cp] w fun e w' => e = .returned (.tuple #[.int .u8 ((Larder8.qByte 34 92 (d :: r)).1 : Nat), .int .i64 ((Larder8.qByte 34 92 (d :: r)).2 + 1 : Nat)]) ∧ w' = w := by
  obtain ⟨hb, hc⟩ : b < w.heap.size ∧ ∀ i, i < (c :: d :: r).length → w.cell? ⟨b, off + i, none⟩ = some (.int .u8 ((c :: d :: r).getD i 0 : Nat)) := by
    rcases hB with e | ⟨b', off', e, h1, h2⟩
    · cases e
    · cases e; exact ⟨h1, h2⟩
  have c1 : w.cell? ⟨b, off + 1, none⟩ = some (.int .u8 (d : Nat)) := by simpa using hc 1 (by simp)
  have g1 : (1 : Int) < (tn : Int) := by omega
  have g2 : (2 : Int) ≤ (tn : Int) := by omega
  have g3 : (tn : Int) ≤ (cp : Int) := by omega
  by_cases h120 : d = 120
  · subst h120
    have CH : Hid (∀ a' cp', Bytes w a' r → Calls Tryz.prog 116 #[.slice a' r.length cp'] w fun e w' => ∃ (v : Nat) (q : Bool), e = .returned (.tuple #[.int .u8 (v : Nat), .bool q]) ∧ Hid (q = (Larder8.hex2 r).isSome ∧ ∀ x, Larder8.hex2 r = some x → v = x) ∧ w' = w) := hide (fun a' cp' h => (hexByte_any w a' cp' r.length r rfl h).mono (fun e w' ⟨v, q, h1, h2, h3, h4⟩ => ⟨v, q, h1, hide ⟨h2, h3⟩, h4⟩))
    have HB2 : Hid (Bytes w (some ⟨b, off + 2, none⟩) r) := hide (.inr ⟨b, off + 2, rfl, hb, fun i hi => by
      have := hc (i + 2) (by simp; omega)
      rw [show off + 2 + i = off + (i + 2) by omega, this]
      rfl⟩)
    have HB0 : Hid (cp = 2 → Bytes w (some ⟨b, off, none⟩) r) := hide (fun h => .inl (List.eq_nil_of_length_eq_zero (by omega)))
    have QN : Hid (∀ q : Bool, q = (Larder8.hex2 r).isSome → q = false → Larder8.qByte 34 92 (120 :: r) = (120, 1)) := hide (fun q h1 h2 => by
      subst h2
      cases hx : Larder8.hex2 r with
      | none => simp [Larder8.qByte, hx]
      | some x => rw [hx] at h1; cases h1)
    have QY : Hid (∀ (v : Nat) (q : Bool), q = (Larder8.hex2 r).isSome → (∀ x, Larder8.hex2 r = some x → v = x) → q = true → Larder8.qByte 34 92 (120 :: r) = (v, 3)) := hide (fun v q h1 h3 h2 => by
      subst h2
      cases hx : Larder8.hex2 r with
      | none => rw [hx] at h1; cases h1
      | some x => rw [h3 x hx]; simp [Larder8.qByte, hx])
    clear hc hB
    go_enter Tryz.func85, Tryz.ntmps85
    go_wp2_with (go_at_call 116; refine (unhide CH _ _ (by first | exact unhide HB2 | exact unhide HB0 (by first | assumption | omega))).mono ?_; rintro e w5 ⟨v, q, rfl, hq, h5⟩; subst h5; cases q)
    all_goals go_ret2
    all_goals first | (rw [unhide QN false (unhide hq).1 rfl]; exact ⟨rfl, rfl⟩) | (rw [unhide QY v true (unhide hq).1 (unhide hq).2 rfl]; exact ⟨rfl, rfl⟩)
  · have E : Larder8.qByte 34 92 (d :: r) = (Larder8.shortC d, 1) := by simp [Larder8.qByte, h120]
    rw [E]
    clear E hc hB
    by_cases h : d = 110 ∨ d = 114 ∨ d = 116 ∨ d = 98 ∨ d = 97
    · rcases h with rfl | rfl | rfl | rfl | rfl
      all_goals go_enter Tryz.func85, Tryz.ntmps85
      all_goals go_wp2
      all_goals go_ret2
      all_goals exact ⟨rfl, rfl⟩
    · have t0 : ((d : Int) == 120) = false := by rw [beq_eq_false_iff_ne]; omega
      have t1 : ((d : Int) == 110) = false := by rw [beq_eq_false_iff_ne]; omega
      have t2 : ((d : Int) == 114) = false := by rw [beq_eq_false_iff_ne]; omega
      have t3 : ((d : Int) == 116) = false := by rw [beq_eq_false_iff_ne]; omega
      have t4 : ((d : Int) == 98) = false := by rw [beq_eq_false_iff_ne]; omega
      have t5 : ((d : Int) == 97) = false := by rw [beq_eq_false_iff_ne]; omega
      have E : Larder8.shortC d = d := by
        unfold Larder8.shortC
        rw [if_neg (by omega), if_neg (by omega), if_neg (by omega), if_neg (by omega), if_neg (by omega)]
      rw [E]
      clear E h
      go_enter Tryz.func85, Tryz.ntmps85
      go_wp2
      go_ret2
      exact ⟨rfl, rfl⟩
/-- a byte inside quotes -/
theorem quotedByte_any (w : World) (b off cp tn q c : Nat) (r : List Nat) (hq : q = 34 ∨ q = 39) (hn : tn = r.length + 1) (hcp : tn ≤ cp) (hcl : cp ≤ 9223372036854775807) (hB : Bytes w (some ⟨b, off, none⟩) (c :: r)) :
    Calls Tryz.prog 59 #[.slice (some ⟨b, off, none⟩) tn cp, .int .u8 (q : Nat)] w fun e w' => e = .returned (.tuple #[.int .u8 ((Larder8.qByte q c r).1 : Nat), .int .i64 ((Larder8.qByte q c r).2 + 1 : Nat)]) ∧ w' = w := by
  obtain ⟨hb, hc⟩ : b < w.heap.size ∧ ∀ i, i < (c :: r).length → w.cell? ⟨b, off + i, none⟩ = some (.int .u8 ((c :: r).getD i 0 : Nat)) := by
    rcases hB with e | ⟨b', off', e, h1, h2⟩
    · cases e
    · cases e; exact ⟨h1, h2⟩
  have c0 : w.cell? ⟨b, off, none⟩ = some (.int .u8 (c : Nat)) := by simpa using hc 0 (by simp)
  have g0 : (0 : Int) < (tn : Int) := by omega
  by_cases h92 : c = 92
  · subst h92
    cases r with
    | nil =>
      have E : Larder8.qByte q 92 [] = (92, 0) := by simp [Larder8.qByte]
      rw [E]
      simp only [List.length_nil] at hn
      subst hn
      clear E hc hB
      go_enter Tryz.func59, Tryz.ntmps59
      go_wp2
      go_ret2
      exact ⟨rfl, rfl⟩
    | cons d r =>
      have c1 : w.cell? ⟨b, off + 1, none⟩ = some (.int .u8 (d : Nat)) := by simpa using hc 1 (by simp)
      have g1 : (1 : Int) < (tn : Int) := by simp at hn; omega
      have t1 : ((tn : Int) == 1) = false := by rw [beq_eq_false_iff_ne]; omega
      have t1' : (tn == 1) = false := by rw [beq_eq_false_iff_ne]; simp at hn; omega
      rcases hq with rfl | rfl
      · have CE := hide (escaped_any w b off cp tn 92 d r (by simp at hn; omega) hcp hcl hB)
        obtain ⟨u, hu⟩ : ∃ u, u = (Larder8.qByte 34 92 (d :: r)).1 := ⟨_, rfl⟩
        obtain ⟨v, hv⟩ : ∃ v, v = (Larder8.qByte 34 92 (d :: r)).2 + 1 := ⟨_, rfl⟩
        rw [← hu, ← hv] at CE ⊢
        clear hu hv hc hB hn
        go_enter Tryz.func59, Tryz.ntmps59
        go_wp2_with (go_at_call 85; refine (unhide CE).mono ?_; rintro e w5 ⟨rfl, h5⟩; subst h5)
        go_ret2
        exact ⟨rfl, rfl⟩
      · by_cases hd : d = 39
        · subst hd
          have E : Larder8.qByte 39 92 (39 :: r) = (39, 1) := by simp [Larder8.qByte]
          rw [E]
          clear E hc hB hn
          go_enter Tryz.func59, Tryz.ntmps59
          go_wp2
          go_ret2
          exact ⟨rfl, rfl⟩
        · have E : Larder8.qByte 39 92 (d :: r) = (92, 0) := by simp [Larder8.qByte, hd]
          have t3 : ((d : Int) == 39) = false := by rw [beq_eq_false_iff_ne]; omega
          rw [E]
          clear E hc hB hn
          go_enter Tryz.func59, Tryz.ntmps59
          go_wp2
          go_ret2
          exact ⟨rfl, rfl⟩
  · have E : Larder8.qByte q c r = (c, 0) := by simp [Larder8.qByte, h92]
    have t0 : ((c : Int) == 92) = false := by rw [beq_eq_false_iff_ne]; omega
    have t0' : ((c : Int) != 92) = true := by simp; omega
    rw [E]
    clear E hc hB hn
    go_enter Tryz.func59, Tryz.ntmps59
    go_wp2
    go_ret2
    exact ⟨rfl, rfl⟩
end Go.Proofs.YtcnlikojbkegiaaGreatDoor
