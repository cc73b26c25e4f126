/- record: the reader: lists of texts. -/
import Derived.Test.YtljeedgnjgeopaaYe
namespace Larder
set_option linter.unusedVariables false
set_option linter.unusedSimpArgs false
/-- i elements read -/
def prt {α : Type} (f : List Nat → Option (α × List Nat)) (S : Rd) (i : Nat) : Option (List α × List Nat) := S.bind (rdL f i)
theorem prt_zero {α : Type} {f : List Nat → Option (α × List Nat)} (l : List Nat) : prt f (some l) 0 = some ([], l) := rfl
theorem prt_none {α : Type} {f : List Nat → Option (α × List Nat)} {S : Rd} {i : Nat} (h : prt f S i = none) (n : Nat) (hn : i ≤ n) : prt f S n = none := by
  cases S with
  | none => rfl
  | some l => exact rdL_none h n hn
theorem prt_all {α : Type} (f : List Nat → Option (α × List Nat)) (s : Rd) : s.bind (rdLst f) = prt f (tkS s 4) (ofBig (tkV s 4)) := by
  cases s with
  | none => rfl
  | some l =>
    show rdLst f l = _
    unfold rdLst prt
    rw [rdN_tk]
    cases tkS (some l) 4 <;> rfl
theorem prt_nil {s : Rd} {k : Nat} (h : tkS s k = none) : ofBig (tkV s k) = 0 := by
  unfold tkS at h
  unfold tkV
  cases s with
  | none => rfl
  | some l =>
    dsimp only at h ⊢
    by_cases hk : k ≤ l.length
    · rw [if_pos hk] at h; cases h
    · rw [if_neg hk]; rfl
theorem prt_succ {S : Rd} {i : Nat} {xs : List (List Nat)} {r : List Nat} (h : prt rdT S i = some (xs, r)) : prt rdT S (i + 1) = (txS (some r)).map fun r' => (xs ++ [txV (some r)], r') := by
  cases S with
  | none => cases h
  | some l =>
    show rdL rdT (i + 1) l = _
    have h' : rdL rdT i l = some (xs, r) := h
    unfold rdL
    rw [h']
    dsimp only
    rw [rdT_tx]
    cases txS (some r) <;> rfl
theorem prt_len {α : Type} {f : List Nat → Option (α × List Nat)} (hf : ∀ l x r, f l = some (x, r) → r.length < l.length) {S : Rd} {i : Nat} {xs : List α} {r : List Nat} (h : prt f S i = some (xs, r)) : xs.length = i ∧ i + r.length ≤ (S.getD []).length := by
  cases S with
  | none => cases h
  | some l => exact rdL_len hf i l r xs h
theorem tkS_len (s : Rd) (k : Nat) : ((tkS s k).getD []).length ≤ (s.getD []).length := by
  unfold tkS
  cases s with
  | none => exact Nat.le_refl _
  | some l =>
    dsimp only
    split
    · show (l.drop k).length ≤ l.length
      rw [List.length_drop]; omega
    · exact Nat.zero_le _
end Larder
namespace Go.Proofs.Ytljeedgnjgeopaa
open Go.ChangeShapes Go.WideShapes Go.ChangeAt Go.RowKit
set_option linter.unusedVariables false
set_option linter.unusedSimpArgs false
set_option maxRecDepth 100000
set_option maxHeartbeats 4000000
theorem SmS.txS {s : Larder.Rd} (h : SmS s) : SmS (Larder.txS s) := by
  unfold Larder.txS
  split
  · exact (h.tkS 4).tkS _
  · intro c hc; cases hc
theorem info27 : (Try.prog.info? 27).map (fun i => (i.zero, i.size, i.bytes)) = some (some (.slice none 0 0), 1, 24) := by kernel_rfl
/-- where a list's loop stands -/
def LsAt (w0 w : World) (g : Nat) (P : Nat → Option (List (List Nat) × List Nat)) (i : Nat) (v : Value) (k : Nat) (S : Larder.Rd) : Prop :=
  Kx g w0 w ∧ RdAt w g S ∧ SmS S ∧ (∀ q, v.ownBlock = some q → w0.heap.size ≤ q) ∧ ((S = none ∧ P i = none) ∨ ∃ xs r, S = some r ∧ P i = some (xs, r) ∧ k = xs.length ∧ TL w v xs)
theorem list_texts (w : World) (g : Nat) (s : Larder.Rd) (h : RdAt w g s) (hs : SmS s) (hl : (s.getD []).length ≤ 1099511627776) : Calls Try.prog 75 #[.pointer (some ⟨g, 0, none⟩), .func (.func 76) #[] #[]] w (LsEnd w g (s.bind (Larder.rdLst Larder.rdT))) := by
  have C73 := num32 w g s h hs
  have hgw := rdlt h
  rw [Larder.prt_all]
  have hN : Larder.ofBig (Larder.tkV s 4) < 4294967296 := by
    have h1 := ofBig_lt (Larder.tkV s 4) (hs.tkV 4)
    rcases tk_len s 4 with e | e <;> rw [e] at h1 <;> omega
  have h0 : Larder.tkS s 4 = none → Larder.ofBig (Larder.tkV s 4) = 0 := Larder.prt_nil
  have hS := hs.tkS 4
  have hL := Nat.le_trans (Larder.tkS_len s 4) hl
  unfold NmEnd at C73
  generalize Larder.tkS s 4 = S0 at C73 h0 hS hL ⊢
  generalize Larder.ofBig (Larder.tkV s 4) = N at C73 hN h0 ⊢
  have PL : Hid (∀ i xs r, Larder.prt Larder.rdT S0 i = some (xs, r) → xs.length = i ∧ i ≤ 1099511627776) := hide (fun i xs r hp => by
    have := Larder.prt_len (fun l x r => Larder.rdT_less) hp
    exact ⟨this.1, by omega⟩)
  have PN : Hid (∀ i n, i ≤ n → Larder.prt Larder.rdT S0 i = none → Larder.prt Larder.rdT S0 n = none) := hide (fun i n hi hp => Larder.prt_none hp n hi)
  have PS : Hid (∀ i xs r, Larder.prt Larder.rdT S0 i = some (xs, r) → Larder.prt Larder.rdT S0 (i + 1) = (Larder.txS (some r)).map fun r' => (xs ++ [Larder.txV (some r)], r')) := hide (fun i xs r hp => Larder.prt_succ hp)
  have P0 : Hid (∀ W, RdAt W g S0 → Kx g w W → LsAt w W g (Larder.prt Larder.rdT S0) 0 (.slice none 0 0) 0 S0) := hide (fun W h1 h2 => ⟨h2, h1, hS, fun q hq => (by cases hq), by
    cases S0 with
    | none => exact .inl ⟨rfl, rfl⟩
    | some l => exact .inr ⟨[], l, rfl, rfl, rfl, TL.nil _⟩⟩)
  generalize Larder.prt Larder.rdT S0 = P at PL PN PS P0 ⊢
  obtain ⟨i0, hi0, hz0, hz1, hz2⟩ := info_parts4 info27
  have HGW := hide hgw
  clear h hs hl hS hL h0 hgw
  unfold LsEnd
  go_enter Try.func75, Try.ntmps75
  go_wp2_with (go_at_call 73; refine C73.mono ?_; clear C73; rintro e w2 ⟨rfl, k2⟩)
  go_loopw [5, 8] (fun fv iv wr => ∃ (i k : Nat) (a' : Option Addr) (c' : Nat) (S : Larder.Rd), fv = .slice a' k c' ∧ iv = .int .u32 ((i : Nat) : Int) ∧ i ≤ N ∧ Hid (LsAt w wr g P i (.slice a' k c') k S)) (fun _ iv _ => N - (intOf iv).toNat)
  case atStart => exact ⟨0, 0, none, 0, S0, rfl, rfl, Nat.zero_le _, hide ((unhide P0) w2 (unhide k2).2 (unhide k2).1)⟩
  case round =>
    clear k2
    obtain ⟨i, k, a', c', S, rfl, rfl, hi, HS⟩ := hrel
    by_cases hin : i < N
    · have e1 : decide ((i : Int) < (N : Int)) = true := decide_eq_true (by omega)
      have e2 : decide (i < N) = true := decide_eq_true hin
      have y1 := (unhide HS).2.1.flag
      obtain ⟨b, hb⟩ : ∃ b, b = S.isNone := ⟨_, rfl⟩
      rw [← hb] at y1
      cases S with
      | none =>
        obtain rfl : b = true := hb
        go_wp2_with fail
        go_ret
        refine ⟨none, 0, 0, rfl, hide ⟨(unhide HS).1, fun q hq => (by cases hq), .inl ⟨?_, (unhide HS).2.1⟩⟩⟩
        rcases (unhide HS).2.2.2.2 with ⟨-, hp⟩ | ⟨xs, r, hx, -⟩
        · exact (unhide PN) i N (by omega) hp
        · cases hx
      | some r =>
        obtain rfl : b = false := hb
        obtain ⟨xs, hp, hk, f, hf1, hf2⟩ : ∃ xs, P i = some (xs, r) ∧ k = xs.length ∧ TL wr (.slice a' k c') xs := by
          rcases (unhide HS).2.2.2.2 with ⟨hx, -⟩ | ⟨xs, r', hx, q1, q2, q3⟩
          · cases hx
          · cases hx
            exact ⟨xs, q1, q2, q3⟩
        have hpl := (unhide PL) i xs r hp
        have hk4 : k ≤ 1099511627776 := by omega
        have hps := (unhide PS) i xs r hp
        have C76 := arg_any wr g (some r) (unhide HS).2.1 (unhide HS).2.2.1
        have hsm := (unhide HS).2.2.1.txS
        generalize Larder.txV (some r) = V at C76 hps
        generalize Larder.txS (some r) = S' at C76 hps hsm
        rw [← hk] at hf1
        have HF1 := hide hf1
        have HF2 := hide hf2
        have HK := hide hk
        have HPS := hide hps
        have HSM := hide hsm
        have C76' : Calls Try.prog 76 #[.pointer (some ⟨g, 0, none⟩)] wr fun e w' => ∃ a c, e = .returned (.slice a V.length c) ∧ Hid (Kx g wr w' ∧ RdAt w' g S' ∧ RB w' (.slice a V.length c) V) := C76.mono fun e w' ⟨a, n, c, q1, q2, q3⟩ => ⟨a, c, by rw [q1, q2], by rw [q2] at q3; exact hide ⟨(unhide q3).1, (unhide q3).2.1, (unhide q3).2.2.1⟩⟩
        have HR1 : Hid (∀ w3, Kx g wr w3 → Rws w3 27 1 (.slice a' k c') k f) := hide (fun w3 hx => hf1.kt (hx.kt (unhide HS).2.1) (by decide))
        clear C76 hf1 hf2 hk hps hsm hp hpl
        go_wp2_with (first
          | (go_at_call 76; refine C76'.mono ?_; clear C76'; rintro e w3 ⟨a3, c3, rfl, k3⟩; have HAL := hide ((Below.refl w3.heap.size w3).alloc (Nat.le_refl _) (.cells #[.slice a3 V.length c3] 27)))
          | (at_builtin; refine append_gen rfl _ _ 42 rfl 27 i0 _ 1 24 Try.underlying42 hi0 hz0 hz1 hz2 rfl (.slice a' k c') k f rfl (((unhide HR1) w3 (unhide k3).1).below (unhide HAL)) (some ⟨w3.heap.size, 0, none⟩) 1 1 rfl [.slice a3 V.length c3] rfl (by simp) (new_cells w3 [.slice a3 V.length c3] 27) (by simp [Value.oneCell']) (by omega) (by unfold maxLen; omega) ?_; intro v5 w5 h5 k5; obtain ⟨a5, c5, rfl⟩ := h5.shape; replace h5 := hide h5; replace k5 := hide k5; go_frame))
        all_goals go_roundw
        case rel =>
          refine ⟨i + 1, k + 1, a5, c5, S', rfl, by go_num, by omega, hide ?_⟩
          have hx := (unhide HS)
          have hx3 : Kx g wr (w3.alloc (.cells #[.slice a3 V.length c3] 27)) := (unhide k3).1.trans (.below (unhide HAL))
          have hrd := (unhide k3).2.1.below (unhide HAL)
          have hgw := unhide HGW
          refine ⟨(hx.1.trans hx3).ga (unhide k5) hx.2.2.2.1, hrd.ga (unhide k5) (fun q hq => Nat.lt_of_lt_of_le hgw (hx.2.2.2.1 q hq)), unhide HSM, own_ga (unhide k5) hx.2.2.2.1 (by have := hx.1.size; have := hx3.size; omega), ?_⟩
          cases S' with
          | none => exact .inl ⟨rfl, unhide HPS⟩
          | some r' =>
            refine .inr ⟨xs ++ [V], r', rfl, unhide HPS, by rw [List.length_append, ← unhide HK]; rfl, ?_⟩
            exact TL.push (unhide HK) (fun j T hT => by
              obtain ⟨ai, ci, q1, q2⟩ := (unhide HF2) j T hT
              exact ⟨ai, ci, q1, Rws.kt q2 (hx3.kt hx.2.1) (by decide)⟩) ((unhide HR1 _ (unhide k3).1).below (unhide HAL)) ((unhide k3).2.2.below (unhide HAL)) (unhide h5) (unhide k5)
        case measure => simp [intOf]; omega
    · obtain rfl : i = N := by omega
      have e1 : decide ((i : Int) < (i : Int)) = false := decide_eq_false (by omega)
      have e2 : decide (i < i) = false := decide_eq_false (by omega)
      go_wp2_with fail
      go_ret
      have hx := (unhide HS)
      refine ⟨a', k, c', rfl, hide ⟨hx.1, hx.2.2.2.1, ?_⟩⟩
      rcases hx.2.2.2.2 with ⟨rfl, hp⟩ | ⟨xs, r, rfl, q1, q2, q3⟩
      · exact .inl ⟨hp, hx.2.1⟩
      · exact .inr ⟨xs, r, q1, hx.2.1, q2, q3⟩
end Go.Proofs.Ytljeedgnjgeopaa
