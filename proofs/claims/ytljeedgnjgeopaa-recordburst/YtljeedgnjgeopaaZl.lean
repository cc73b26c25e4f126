/- record: the law's turned. -/
import Derived.Test.YtljeedgnjgeopaaZg
namespace Larder
/-- the first byte that is turned, of n8 bits -/
def firstK (n8 a x : Nat) : Nat → Option Nat
  | 0 => none
  | k + 1 => match firstK n8 a x k with
    | some v => some v
    | none => if x.testBit (63 - k) = true ∧ a + k < n8 then some ((a + k) / 8) else none
def fI : Option Nat → Int
  | none => -1
  | some v => v
end Larder
namespace Go.Proofs.Ytljeedgnjgeopaa
open Go.ChangeShapes Go.WideShapes Go.ChangeAt Go.RowKit Go.Shelf
set_option linter.unusedVariables false
set_option linter.unusedSimpArgs false
set_option maxRecDepth 100000
set_option maxHeartbeats 4000000
theorem bit_test (x n : Nat) (hx : x < 18446744073709551616) : bits BinOp.and IntKind.u64 ((x : Int) / 2 ^ n) 1 = (((x / 2 ^ n) % 2 : Nat) : Int) := by
  have e : (x : Int) / 2 ^ n = ((x / 2 ^ n : Nat) : Int) := by simp
  have hlt : x / 2 ^ n < 18446744073709551616 := Nat.lt_of_le_of_lt (Nat.div_le_self _ _) hx
  have := u64_and_nat (x / 2 ^ n) 1 hlt (by decide)
  rw [e]
  rw [nat_mask1] at this
  exact this
theorem bit_iff (x n : Nat) (hx : x < 18446744073709551616) : bits BinOp.and IntKind.u64 ((x : Int) / 2 ^ n) 1 = 1 ↔ x.testBit n = true := by
  rw [bit_test x n hx, Nat.testBit_eq_decide_div_mod_eq, decide_eq_true_iff]; omega
theorem xor_128 (c r : Nat) (hc : c < 256) (hr : r < 8) : bits BinOp.xor IntKind.u8 (c : Int) (128 / 2 ^ r) = ((c ^^^ 2 ^ (7 - r) : Nat) : Int) := by
  have e : (128 : Int) / 2 ^ r = ((2 ^ (7 - r) : Nat) : Int) := by
    obtain rfl | rfl | rfl | rfl | rfl | rfl | rfl | rfl : r = 0 ∨ r = 1 ∨ r = 2 ∨ r = 3 ∨ r = 4 ∨ r = 5 ∨ r = 6 ∨ r = 7 := by omega
    all_goals rfl
  have hp : 2 ^ (7 - r) < 256 := by
    have : 2 ^ (7 - r) ≤ 2 ^ 7 := Nat.pow_le_pow_right (by omega) (by omega)
    omega
  rw [e]; exact u8_xor_nat c _ hc hp
/-- the copy in which bits are turned -/
structure TuS (w : World) (n : Nat) (M : List Nat) (W : World) : Prop where
  bel : Below w.heap.size w W
  len : n = M.length
  row : ∃ cur, W.heap[w.heap.size]? = some (.cells cur 5 (0, 0)) ∧ cur.size = n ∧ ∀ j, j < n → cur[j]? = some (.int .u8 (M.getD j 0 : Nat))
theorem TuS.flip {w W : World} {n i : Nat} {M : List Nat} (h : TuS w n M W) (hs : Larder.SmallL M) (hi : i < 8 * n) :
    W.cell? ⟨w.heap.size, i / 8, none⟩ = some (.int .u8 (M.getD (i / 8) 0 : Nat)) ∧ W.frozen? ⟨w.heap.size, i / 8, none⟩ = false ∧ TuS w n (Larder.flip M i) (W.setCell ⟨w.heap.size, i / 8, none⟩ (.int .u8 (bits BinOp.xor IntKind.u8 (M.getD (i / 8) 0 : Nat) (128 / 2 ^ (i % 8))))) := by
  obtain ⟨cur, h1, h2, h3⟩ := h.row
  have hl := h.len
  have hM := hs (i / 8) (by omega)
  refine ⟨by rw [cell_blk h1]; exact h3 _ (by omega), frz h1 _, ⟨h.bel.trans ⟨rfl, rfl, rfl, by simp, fun b hb => set_else _ _ _ _ _ (by omega)⟩, by rw [Larder.flip_length]; exact hl, _, set_block W w.heap.size (i / 8) _ cur 5 (0, 0) h1, by simpa using h2, fun j hj => ?_⟩⟩
  rw [xor_128 _ _ hM (by omega), Array.getElem?_setIfInBounds]
  unfold Larder.flip
  rw [Larder.getD_set]
  by_cases e : i / 8 = j
  · subst e
    rw [if_pos rfl, if_pos (by omega), if_pos ⟨rfl, by omega⟩]
  · rw [if_neg e, if_neg (fun hh => e hh.1)]
    exact h3 j hj
theorem TuS.drew {w W : World} {n : Nat} {M : List Nat} (h : TuS w n M W) : TuS w n M W.drew := ⟨below_drew h.bel, h.len, h.row⟩
theorem turned_any (w : World) (a : Option Addr) (n cap : Nat) (L : List Nat) (at' x : Nat) (hn : n = L.length) (hx : x < 18446744073709551616) (hat : at' ≤ 2251799813685248) (hl : n ≤ 140737488355328) (hB : Bytes w a L) (hs : Larder.SmallL L) :
    Calls Try.prog 13 #[.slice a n cap, .int .i64 at', .int .u64 x] w fun e w' => e = .returned (.tuple #[.slice (some ⟨w.heap.size, 0, none⟩) n n, .int .i64 (Larder.fI (Larder.firstK (8 * n) at' x 64))]) ∧ Hid (TuS w n (Larder.turnK L at' x 64) w') := by
  have C11 := dcopy_any w a cap L (by omega) hB
  rw [← hn] at C11
  have HN := hide hn
  have HTS : Hid (∀ w', RB w' (.slice (some ⟨w.heap.size, 0, none⟩) n n) L ∧ Below w.heap.size w w' → TuS w n L w') := hide (fun w' h => by
    refine ⟨h.2, hn, ?_⟩
    rcases h.1 with ⟨e, -⟩ | ⟨g, cp, cur, e, q1, q2, q3, q4, q5⟩
    · cases e
    · injection e with e1 e2 e3
      cases e1
      exact ⟨cur, q1, by omega, fun j hj => q5 j (by omega)⟩)
  clear hB hn
  go_enter Try.func13, Try.ntmps13
  go_wp2_with (go_at_call 11; refine C11.mono ?_; clear C11; rintro e w1 ⟨rfl, h1⟩)
  go_loopw [9, 10] (fun fv iv wr => ∃ (k : Nat) (fo : Int), fv = .int .i64 fo ∧ iv = .int .i64 k ∧ k ≤ 64 ∧ Hid (fo = Larder.fI (Larder.firstK (8 * n) at' x k) ∧ TuS w n (Larder.turnK L at' x k) wr)) (fun _ iv _ => 64 - (intOf iv).toNat)
  case atStart => exact ⟨0, -1, rfl, rfl, by omega, hide ⟨rfl, (unhide HTS) w1 (unhide h1)⟩⟩
  case round =>
    clear h1 HTS
    obtain ⟨k, fo, rfl, rfl, hk, HW⟩ := hrel
    obtain ⟨hfo, hT⟩ := unhide HW
    by_cases hlt : k < 64
    · have htb := bit_iff x (63 - k) hx
      by_cases hbit : bits BinOp.and IntKind.u64 (↑x / 2 ^ (63 - k)) 1 = 1
      · by_cases hin : at' + k < 8 * n
        · have htl := Larder.turnK_length L at' x k
          have hts := Larder.turnK_small (l := L) hs at' x k
          have hstep : Larder.turnK L at' x (k + 1) = Larder.flip (Larder.turnK L at' x k) (at' + k) := by
            rw [Larder.turnK, if_pos ⟨htb.1 hbit, by rw [← unhide HN]; exact hin⟩]
          obtain ⟨k1, k2, k3⟩ := hT.flip hts hin
          obtain ⟨q, hq⟩ : ∃ q, q = (at' + k) / 8 := ⟨_, rfl⟩
          obtain ⟨r, hr⟩ : ∃ r, r = (at' + k) % 8 := ⟨_, rfl⟩
          obtain ⟨c, hc⟩ : ∃ c, c = (Larder.turnK L at' x k).getD q 0 := ⟨_, rfl⟩
          rw [← hstep] at k3
          rw [← hq] at k1 k2 k3
          rw [← hr] at k3
          rw [← hc] at k1 k3
          have HW2 := hide k3
          have hql : q < n := by omega
          have hc256 : c < 256 := by rw [hc]; exact hts _ (by rw [htl, ← unhide HN]; exact hql)
          have eq : ((at' : Int) + k) / 8 = (q : Int) := by omega
          have er : ((at' : Int) + k) % 8 = (r : Int) := by omega
          have hr8 : r < 8 := by omega
          have HF : Hid (Larder.firstK (8 * n) at' x (k + 1) = match Larder.firstK (8 * n) at' x k with | some v => some v | none => some q) := hide (by
            rw [Larder.firstK, hq]
            cases Larder.firstK (8 * n) at' x k with
            | some v => rfl
            | none => exact if_pos ⟨htb.1 hbit, hin⟩)
          by_cases hneg : fo < 0
          · have g1 : decide (fo < 0) = true := decide_eq_true hneg
            have HF2 : Hid ((q : Int) = Larder.fI (Larder.firstK (8 * n) at' x (k + 1))) := hide (by
              rw [unhide HF]
              cases hfk : Larder.firstK (8 * n) at' x k with
              | some v => rw [hfk] at hfo; have : fo = (v : Int) := hfo; omega
              | none => rfl)
            clear hc hstep htl hts htb hs hq hr k3 hT HW hfo HF hneg
            go_wp2
            go_region
            all_goals go_wp2
            all_goals exact ⟨⟨k + 1, (q : Int), by first | rfl | exact congrArg (Value.int .i64) eq, congrArg (Value.int .i64) (by omega), by omega, hide ⟨unhide HF2, (unhide HW2).drew⟩⟩, by simp [intOf]; omega⟩
          · have g1 : decide (fo < 0) = false := decide_eq_false hneg
            have HF2 : Hid (fo = Larder.fI (Larder.firstK (8 * n) at' x (k + 1))) := hide (by
              rw [unhide HF]
              cases hfk : Larder.firstK (8 * n) at' x k with
              | some v => rw [hfk] at hfo; exact hfo
              | none => rw [hfk] at hfo; have : fo = -1 := hfo; omega)
            clear hc hstep htl hts htb hs hq hr k3 hT HW hfo HF hneg
            go_wp2
            go_region
            all_goals go_wp2
            all_goals exact ⟨⟨k + 1, fo, rfl, congrArg (Value.int .i64) (by omega), by omega, hide ⟨unhide HF2, (unhide HW2).drew⟩⟩, by simp [intOf]; omega⟩
        · have hstep : Larder.turnK L at' x (k + 1) = Larder.turnK L at' x k := by
            rw [Larder.turnK, if_neg (fun h => hin (by rw [unhide HN]; exact h.2))]
          have hf2 : Larder.firstK (8 * n) at' x (k + 1) = Larder.firstK (8 * n) at' x k := by
            rw [Larder.firstK]
            cases Larder.firstK (8 * n) at' x k with
            | some v => rfl
            | none => exact if_neg (fun h => hin h.2)
          have HS := hide (show fo = Larder.fI (Larder.firstK (8 * n) at' x (k + 1)) ∧ TuS w n (Larder.turnK L at' x (k + 1)) wr from ⟨by rw [hf2]; exact hfo, by rw [hstep]; exact hT⟩)
          clear hstep htb hs hf2 hfo hT HW
          go_wp2
          all_goals exact ⟨⟨k + 1, fo, rfl, congrArg (Value.int .i64) (by omega), by omega, HS⟩, by simp [intOf]; omega⟩
      · have hnt : ¬ x.testBit (63 - k) = true := fun h => hbit (htb.2 h)
        have hstep : Larder.turnK L at' x (k + 1) = Larder.turnK L at' x k := by
          rw [Larder.turnK, if_neg (fun h => hnt h.1)]
        have hf2 : Larder.firstK (8 * n) at' x (k + 1) = Larder.firstK (8 * n) at' x k := by
          rw [Larder.firstK]
          cases Larder.firstK (8 * n) at' x k with
          | some v => rfl
          | none => exact if_neg (fun h => hnt h.1)
        have HS := hide (show fo = Larder.fI (Larder.firstK (8 * n) at' x (k + 1)) ∧ TuS w n (Larder.turnK L at' x (k + 1)) wr from ⟨by rw [hf2]; exact hfo, by rw [hstep]; exact hT⟩)
        clear hstep htb hs hf2 hfo hT HW hnt
        go_wp2
        all_goals exact ⟨⟨k + 1, fo, rfl, congrArg (Value.int .i64) (by omega), by omega, HS⟩, by simp [intOf]; omega⟩
    · obtain rfl : k = 64 := by omega
      have HE : Hid (fo = Larder.fI (Larder.firstK (8 * n) at' x 64) ∧ TuS w n (Larder.turnK L at' x 64) wr) := HW
      clear hT hfo HW
      go_wp2
      go_ret2
      exact ⟨by rw [← (unhide HE).1]; rfl, hide (unhide HE).2⟩
end Go.Proofs.Ytljeedgnjgeopaa
