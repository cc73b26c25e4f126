/- Line of the document: what the inside of a quoted part says. -/
import Derived.Test.YtecfgbjnjgjkoaaGreatDoorLiv
namespace Go.Proofs.YtecfgbjnjgjkoaaGreatDoor
open Go.ChangeShapes Go.WideShapes Go.ChangeAt Go.RowKit
set_option linter.unusedVariables false
set_option linter.unusedSimpArgs false
set_option maxRecDepth 20000
set_option maxHeartbeats 4000000

/-- a list of bytes as it is handed on -/
structure Rst (w : World) (a : Option Addr) (n cp : Nat) (T : List Nat) : Prop where
  bytes : Bytes w a T
  len : n = T.length
  le : n ≤ cp
  top : cp ≤ 9223372036854775807
theorem Rst.below {w W : World} {a : Option Addr} {n cp : Nat} {T : List Nat} (h : Rst w a n cp T) (hb : Below w.heap.size w W) : Rst W a n cp T := ⟨h.bytes.below hb, h.len, h.le, h.top⟩
/-- without its first k: the address is as it was where nothing is behind it -/
theorem Rst.drop {w : World} {b off n cp : Nat} {T : List Nat} (h : Rst w (some ⟨b, off, none⟩) n cp T) (k : Nat) (hk : k ≤ n) : Rst w (some ⟨b, off + k, none⟩) (n - k) (cp - k) (T.drop k) := ⟨h.bytes.drop, by have := h.len; simp; omega, by have := h.le; omega, by have := h.top; omega⟩
theorem Rst.brim {w : World} {b off n cp : Nat} {T : List Nat} (h : Rst w (some ⟨b, off, none⟩) n cp T) (k : Nat) (hk : cp = k) : Rst w (some ⟨b, off, none⟩) (n - k) (cp - k) (T.drop k) := ⟨.inl (List.drop_eq_nil_of_le (by have := h.len; have := h.le; omega)), by have := h.len; simp; omega, by have := h.le; omega, by have := h.top; omega⟩
theorem Rst.at {w : World} {a : Option Addr} {n cp : Nat} {T : List Nat} (h : Rst w a n cp T) (h0 : 0 < n) : ∃ b off, a = some ⟨b, off, none⟩ ∧ b < w.heap.size ∧ ∀ i, i < n → w.cell? ⟨b, off + i, none⟩ = some (.int .u8 (T.getD i 0 : Nat)) := by
  rcases h.bytes with e | ⟨b, off, e, h1, h2⟩
  · have := h.len; rw [e] at this; simp at this; omega
  · exact ⟨b, off, e, h1, fun i hi => h2 i (by have := h.len; omega)⟩
theorem said_plain {q c : Nat} {r : List Nat} (h : c ≠ 92 ∨ r = [] ∨ (q ≠ 34 ∧ r.head? ≠ some q)) : Larder8.saidL q (c :: r) = c :: Larder8.saidL q r := by rw [Larder8.saidL, if_pos h]
theorem said_hex {q : Nat} {a b x : Nat} {r : List Nat} (hq : q = 34) (h : Larder8.hex2 (a :: b :: r) = some x) : Larder8.saidL q (92 :: 120 :: a :: b :: r) = x :: Larder8.saidL q r := by
  rw [Larder8.saidL, if_neg (by simp [hq]), if_pos (by simp [h])]
  simp [h]
theorem said_short {q d : Nat} {r : List Nat} (hq : q = 34 ∨ d = q) (h : ¬ (d = 120 ∧ (Larder8.hex2 r).isSome = true)) : Larder8.saidL q (92 :: d :: r) = Larder8.shortC d :: Larder8.saidL q r := by
  rw [Larder8.saidL, if_neg (by
    rintro (h | h | h)
    · exact h rfl
    · cases h
    · rcases hq with e | e
      · exact h.1 e
      · exact h.2 (by simp [e])), if_neg (by
    rintro ⟨h1, h2⟩
    exact h ⟨by simpa using h1, by simpa using h2⟩)]
  simp
theorem said_any (w : World) (a : Option Addr) (tn cp q : Nat) (T : List Nat) (hq : q = 34 ∨ q = 39) (hR : Rst w a tn cp T) (htn : tn ≤ 1073741824) :
    Calls Tryz.prog 62 #[.slice a tn cp, .int .u8 (q : Nat)] w fun e w' => ∃ (va : Option Addr) (n vc : Nat), e = .returned (.slice va n vc) ∧ Hid (Gro w w' w.heap.size (.slice va n vc) n (Larder8.saidL q T)) := by
  have HR := hide hR
  have AL : Hid (∀ W : World, ∀ o, Below W.heap.size W (W.alloc o)) := hide (fun W o => (Below.refl _ _).alloc (Nat.le_refl _) _)
  have MB : Hid (∀ (W : World) (u : Nat), Bytes (W.alloc (.cells #[.int .u8 (u : Nat)] 5)) (some ⟨W.heap.size, 0, none⟩) [u]) := hide (fun W u => made_bytes W [u])
  have CX : Hid (∀ (W : World) (c : Nat), Calls Tryz.prog 86 #[.int .u8 (c : Nat)] W fun e w' => e = .returned (.int .i64 (hxV (Larder8.hexV c))) ∧ W = w') := hide (fun W c => (rhex_any W c).mono (fun e w' h => ⟨h.1, h.2.symm⟩))
  have CT : Hid (∀ (W : World) (c : Nat), Calls Tryz.prog 87 #[.int .u8 (c : Nat)] W fun e w' => e = .returned (.int .u8 (Larder8.shortC c : Nat)) ∧ Hid (Below W.heap.size W w')) := hide (fun W c => rshort_any W c)
  obtain ⟨i5, hi5, hz5, hs5, hb5⟩ := info_partsS Tryz.info5s
  clear hR
  go_enter Tryz.func62, Tryz.ntmps62
  go_wp2
  go_loopw [0, 5] (fun bv ov wr => ∃ (a' : Option Addr) (n cp' : Nat) (va : Option Addr) (m vc : Nat) (r l : List Nat), bv = .slice a' n cp' ∧ ov = .slice va m vc ∧ m + n ≤ tn ∧ Hid (Rst w a' n cp' r ∧ Larder8.saidL q T = l ++ Larder8.saidL q r) ∧ Hid (Gro w wr w.heap.size (.slice va m vc) m l)) (fun bv _ _ => Bk.lenOf bv)
  case atStart => exact ⟨a, tn, cp, none, 0, 0, T, [], rfl, rfl, by omega, hide ⟨unhide HR, by simp⟩, hide (Gro.start w _ (Nat.le_refl _))⟩
  case round =>
    obtain ⟨a', n, cp', va, m, vc, r, l, rfl, rfl, hmn, hS, hG⟩ := hrel
    rename World => wr
    have hr3 : r = [] ∨ (∃ c, r = [c]) ∨ ∃ c d r2, r = c :: d :: r2 := by
      match r with
      | [] => exact .inl rfl
      | [c] => exact .inr (.inl ⟨c, rfl⟩)
      | c :: d :: r2 => exact .inr (.inr ⟨c, d, r2, rfl⟩)
    rcases hr3 with rfl | ⟨c, rfl⟩ | ⟨c, d, r2, rfl⟩
    all_goals
      obtain ⟨hr1, hr2⟩ := unhide hS
      have hlen := hr1.len
      have hle := hr1.le
      have htop := hr1.top
      have HR1 := hide hr1
      have HR2 := hide hr2
      clear hS
    · simp only [List.length_nil] at hlen
      subst hlen
      have HE : Hid (l = Larder8.saidL q T) := hide (by rw [hr2]; simp [Larder8.saidL])
      clear hr1 hr2 HR1 HR2
      go_wp2
      go_ret
      refine ⟨va, m, vc, rfl, hide ?_⟩
      rw [← unhide HE]
      exact unhide hG
    · simp only [List.length_cons, List.length_nil] at hlen
      subst hlen
      obtain ⟨b, off, rfl, hb, hc⟩ := hr1.at (by omega)
      have c0 : wr.cell? ⟨b, off, none⟩ = some (.int .u8 (c : Nat)) := by
        rw [(unhide hG).bel.cell hb]
        exact hc 0 (by omega)
      have HE : Hid (∀ x n2 c2, n2 = 0 → n2 ≤ c2 → c2 ≤ 9223372036854775807 → Rst w x n2 c2 [] ∧ Larder8.saidL q T = (l ++ [c]) ++ Larder8.saidL q []) := hide (fun x n2 c2 h1 h2 h3 => ⟨⟨.inl rfl, by rw [h1]; rfl, h2, h3⟩, by rw [unhide HR2, said_plain (.inr (.inl rfl))]; simp⟩)
      clear hr1 hr2 hc HR1 HR2
      by_cases h92 : c = 92
      · have t0 : ((c : Int) == 92) = true := by rw [h92]; rfl
        have t0' : ((c : Int) != 92) = false := by rw [bne, t0]; rfl
        clear h92
        go_wp2_with (at_builtin; refine append_bytes rfl _ _ 25 rfl i5 Tryz.underlying25 hi5 hz5 hs5 hb5 (.slice va m vc) m (byV l) rfl ((unhide hG).row.below (unhide AL _ _)) (some ⟨wr.heap.size, 0, none⟩) 1 [c] (by rfl) (unhide MB _ c) (by simp; omega) ?_; intro v1 w1 h1 g1; have HG3 := hide (((unhide hG).below (unhide AL _ _)).app h1 g1); obtain ⟨a1, c1, rfl⟩ := h1.shape; clear h1 g1)
        all_goals refine ⟨⟨_, 0, _, a1, m + 1, c1, [], l ++ [c], by first | rfl | simp, rfl, by omega, hide (unhide HE _ _ _ rfl (by omega) (by omega)), HG3⟩, by simp [Bk.lenOf]⟩
      · have t0 : ((c : Int) == 92) = false := by rw [beq_eq_false_iff_ne]; omega
        have t0' : ((c : Int) != 92) = true := by rw [bne, t0]; rfl
        go_wp2_with (at_builtin; refine append_bytes rfl _ _ 25 rfl i5 Tryz.underlying25 hi5 hz5 hs5 hb5 (.slice va m vc) m (byV l) rfl ((unhide hG).row.below (unhide AL _ _)) (some ⟨wr.heap.size, 0, none⟩) 1 [c] (by rfl) (unhide MB _ c) (by simp; omega) ?_; intro v1 w1 h1 g1; have HG3 := hide (((unhide hG).below (unhide AL _ _)).app h1 g1); obtain ⟨a1, c1, rfl⟩ := h1.shape; clear h1 g1)
        all_goals refine ⟨⟨_, 0, _, a1, m + 1, c1, [], l ++ [c], by first | rfl | simp, rfl, by omega, hide (unhide HE _ _ _ rfl (by omega) (by omega)), HG3⟩, by simp [Bk.lenOf]⟩
    · simp only [List.length_cons] at hlen
      obtain ⟨b, off, rfl, hb, hc⟩ := hr1.at (by omega)
      have c0 : wr.cell? ⟨b, off, none⟩ = some (.int .u8 (c : Nat)) := by
        rw [(unhide hG).bel.cell hb]
        exact hc 0 (by omega)
      have d0 : wr.cell? ⟨b, off + 1, none⟩ = some (.int .u8 (d : Nat)) := by
        rw [(unhide hG).bel.cell hb]
        exact hc 1 (by omega)
      have f0 : decide ((0 : Int) < (n : Int)) = true := decide_eq_true (by omega)
      have f0n : decide (0 < n) = true := decide_eq_true (by omega)
      have g0 : (0 : Int) < (n : Int) := by omega
      have g0n : 0 < n := by omega
      have g1 : (1 : Int) ≤ (n : Int) := by omega
      have g1n : 1 ≤ n := by omega
      have g2 : (0 : Int) < ((n - 1 : Nat) : Int) := by omega
      have g2n : 0 < n - 1 := by omega
      have ne1 : (cp' = 1) = False := eq_false (by omega)
      have z1 : (((n - 1 : Nat) : Int) == 0) = false := by rw [beq_eq_false_iff_ne]; omega
      have z1n : ((n - 1) == 0) = false := by rw [beq_eq_false_iff_ne]; omega
      have HLEN := hide hlen
      clear hlen
      by_cases hpl : c ≠ 92 ∨ (q ≠ 34 ∧ d ≠ q)
      · have HE : Hid (Rst w (some ⟨b, off + 1, none⟩) (n - 1) (cp' - 1) (d :: r2) ∧ Larder8.saidL q T = (l ++ [c]) ++ Larder8.saidL q (d :: r2)) := hide ⟨(unhide HR1).drop 1 g1n, by rw [unhide HR2, said_plain (hpl.imp id (fun h => .inr ⟨h.1, by simpa using h.2⟩))]; simp⟩
        clear hr1 hr2 hc HR1 HR2
        by_cases h92 : c = 92
        · obtain ⟨hq1, hq2⟩ := hpl.resolve_left (fun h => h h92)
          have t0 : ((c : Int) == 92) = true := by rw [h92]; rfl
          have t0' : ((c : Int) != 92) = false := by rw [bne, t0]; rfl
          clear h92 hpl
          have t3 : ((q : Int) == 34) = false := by rw [beq_eq_false_iff_ne]; omega
          have t3' : ((q : Int) != 34) = true := by rw [bne, t3]; rfl
          have t1 : ((d : Int) == (q : Int)) = false := by rw [beq_eq_false_iff_ne]; omega
          have t1' : ((d : Int) != (q : Int)) = true := by rw [bne, t1]; rfl
          go_wp2_with (at_builtin; refine append_bytes rfl _ _ 25 rfl i5 Tryz.underlying25 hi5 hz5 hs5 hb5 (.slice va m vc) m (byV l) rfl ((unhide hG).row.below (unhide AL _ _)) (some ⟨wr.heap.size, 0, none⟩) 1 [c] (by rfl) (unhide MB _ c) (by simp; omega) ?_; intro v1 w1 h1 g1; have HG3 := hide (((unhide hG).below (unhide AL _ _)).app h1 g1); obtain ⟨a1, c1, rfl⟩ := h1.shape; clear h1 g1)
          all_goals refine ⟨⟨_, n - 1, cp' - 1, a1, m + 1, c1, d :: r2, l ++ [c], by first | rfl | simp, rfl, by omega, HE, HG3⟩, by simp [Bk.lenOf]; omega⟩
        · have t0 : ((c : Int) == 92) = false := by rw [beq_eq_false_iff_ne]; omega
          have t0' : ((c : Int) != 92) = true := by rw [bne, t0]; rfl
          go_wp2_with (at_builtin; refine append_bytes rfl _ _ 25 rfl i5 Tryz.underlying25 hi5 hz5 hs5 hb5 (.slice va m vc) m (byV l) rfl ((unhide hG).row.below (unhide AL _ _)) (some ⟨wr.heap.size, 0, none⟩) 1 [c] (by rfl) (unhide MB _ c) (by simp; omega) ?_; intro v1 w1 h1 g1; have HG3 := hide (((unhide hG).below (unhide AL _ _)).app h1 g1); obtain ⟨a1, c1, rfl⟩ := h1.shape; clear h1 g1)
          all_goals refine ⟨⟨_, n - 1, cp' - 1, a1, m + 1, c1, d :: r2, l ++ [c], by first | rfl | simp, rfl, by omega, HE, HG3⟩, by simp [Bk.lenOf]; omega⟩
      · obtain ⟨h92, hqd⟩ : c = 92 ∧ (q = 34 ∨ d = q) := ⟨Classical.byContradiction (fun h => hpl (.inl h)), Classical.byContradiction (fun h => hpl (.inr ⟨fun e => h (.inl e), fun e => h (.inr e)⟩))⟩
        have t0 : ((c : Int) == 92) = true := by rw [h92]; rfl
        have t0' : ((c : Int) != 92) = false := by rw [bne, t0]; rfl
        have g3 : (1 : Int) ≤ ((n - 1 : Nat) : Int) := by omega
        have g3n : 1 ≤ n - 1 := by omega
        have z34 : q = 34 ∨ (q = 39 ∧ d = 39) := by
          rcases hqd with e | e
          · exact .inl e
          · rcases hq with e2 | e2
            · exact .inl e2
            · exact .inr ⟨e2, by omega⟩
        by_cases hx : d = 120 ∧ (Larder8.hex2 r2).isSome = true
        · obtain ⟨hd, hx2⟩ := hx
          obtain ⟨xx, hxx⟩ := Option.isSome_iff_exists.1 hx2
          obtain ⟨x, y, r3, rfl, -⟩ := Larder8.hex2_cases hxx
          have hq34 : q = 34 := by omega
          have hlen := unhide HLEN
          simp only [List.length_cons] at hlen
          have x0 : wr.cell? ⟨b, off + 1 + 1, none⟩ = some (.int .u8 (x : Nat)) := by
            rw [(unhide hG).bel.cell hb]
            exact hc 2 (by omega)
          have y0 : wr.cell? ⟨b, off + 1 + 2, none⟩ = some (.int .u8 (y : Nat)) := by
            rw [(unhide hG).bel.cell hb]
            exact hc 3 (by omega)
          obtain ⟨hv, lv, hhv, hlv, hxe⟩ : ∃ hv lv, Larder8.hexV x = some hv ∧ Larder8.hexV y = some lv ∧ xx = 16 * hv + lv := by
            cases e1 : Larder8.hexV x with
            | none => simp [Larder8.hex2, e1] at hxx
            | some hv =>
              cases e2 : Larder8.hexV y with
              | none => simp [Larder8.hex2, e1, e2] at hxx
              | some lv => exact ⟨hv, lv, rfl, rfl, by simp [Larder8.hex2, e1, e2] at hxx; omega⟩
          have lh : hv < 16 := by have := hexV_lt x; rw [hhv] at this; simpa using this
          have ll : lv < 16 := by have := hexV_lt y; rw [hlv] at this; simpa using this
          have CX1 : Hid (∀ W : World, Calls Tryz.prog 86 #[.int .u8 (x : Nat)] W fun e w' => e = .returned (.int .i64 (hv : Nat)) ∧ w' = W) := hide (fun W => by have := rhex_any W x; rw [hhv] at this; exact this)
          have CX2 : Hid (∀ W : World, Calls Tryz.prog 86 #[.int .u8 (y : Nat)] W fun e w' => e = .returned (.int .i64 (lv : Nat)) ∧ w' = W) := hide (fun W => by have := rhex_any W y; rw [hlv] at this; exact this)
          have HE : Hid (Rst w (some ⟨b, off + 4, none⟩) (n - 4) (cp' - 4) r3 ∧ (cp' = 4 → Rst w (some ⟨b, off + 1, none⟩) (n - 4) (cp' - 4) r3) ∧ Larder8.saidL q T = (l ++ [xx]) ++ Larder8.saidL q r3) := hide ⟨(unhide HR1).drop 4 (by omega), fun h => ⟨.inl (List.eq_nil_of_length_eq_zero (by omega)), by omega, by omega, by omega⟩, by rw [unhide HR2, h92, hd, said_hex hq34 hxx]; simp⟩
          have t3 : ((q : Int) == 34) = true := by rw [hq34]; rfl
          have t3' : ((q : Int) != 34) = false := by rw [bne, t3]; rfl
          have t1 : ((d : Int) == 120) = true := by rw [hd]; rfl
          have f3 : decide ((3 : Int) ≤ ((n - 1 : Nat) : Int)) = true := decide_eq_true (by omega)
          have f3n : decide (3 ≤ n - 1) = true := decide_eq_true (by omega)
          have g4 : (1 : Int) < ((n - 1 : Nat) : Int) := by omega
          have g4n : 1 < n - 1 := by omega
          have g5 : (2 : Int) < ((n - 1 : Nat) : Int) := by omega
          have g5n : 2 < n - 1 := by omega
          have g6 : (3 : Int) ≤ ((n - 1 : Nat) : Int) := by omega
          have g6n : 3 ≤ n - 1 := by omega
          have f4 : decide ((0 : Int) ≤ (hv : Int)) = true := decide_eq_true (by omega)
          have f5 : decide ((0 : Int) ≤ (lv : Int)) = true := decide_eq_true (by omega)
          have g7 : (0 : Int) ≤ 16 * (hv : Int) + (lv : Int) := by omega
          have g8 : 16 * (hv : Int) + (lv : Int) < 256 := by omega
          clear hr1 hr2 hc HR1 HR2 hhv hlv hxx hx2 hpl hqd z34 h92 hd
          have HXE := hide hxe
          clear hlen hq34
          have CY1 : Hid (∀ W : World, Calls Tryz.prog 86 #[.int .u8 (x : Nat)] W fun e w' => e = .returned (.int .i64 (hv : Nat)) ∧ W = w') := hide (fun W => (unhide CX1 W).mono (fun e w' h => ⟨h.1, h.2.symm⟩))
          have CY2 : Hid (∀ W : World, Calls Tryz.prog 86 #[.int .u8 (y : Nat)] W fun e w' => e = .returned (.int .i64 (lv : Nat)) ∧ W = w') := hide (fun W => (unhide CX2 W).mono (fun e w' h => ⟨h.1, h.2.symm⟩))
          go_wp2_with (first
            | (go_at_call 86; with_reducible refine (unhide CY1 _).mono ?_; rintro e w5 ⟨rfl, h5⟩; subst h5)
            | (go_at_call 86; with_reducible refine (unhide CY2 _).mono ?_; rintro e w5 ⟨rfl, h5⟩; subst h5))
          go_quiet (first | (go_at_call 86; with_reducible exact Calls.quiet_of_same (unhide CX1 _)) | (go_at_call 86; with_reducible exact Calls.quiet_of_same (unhide CX2 _)))
          have HG5 := hide ((unhide hG).below (below_drewN wr nq))
          have MB6 : Hid (Bytes ((wr.drewN nq).alloc (.cells #[.int .u8 (16 * (hv : Int) + (lv : Int))] 5)) (some ⟨(wr.drewN nq).heap.size, 0, none⟩) [xx]) := hide (by
            have := unhide MB (wr.drewN nq) xx
            rw [unhide HXE, show ((16 * hv + lv : Nat) : Int) = 16 * (hv : Int) + (lv : Int) by omega] at this
            rw [unhide HXE]
            exact this)
          generalize wr.drewN nq = w6 at *
          clear x0 y0 d0 c0
          go_wp2_with (at_builtin; refine append_bytes rfl _ _ 25 rfl i5 Tryz.underlying25 hi5 hz5 hs5 hb5 (.slice va m vc) m (byV l) rfl ((unhide HG5).row.below (unhide AL _ _)) (some ⟨w6.heap.size, 0, none⟩) 1 [xx] (by rfl) (unhide MB6) (by simp; omega) ?_; intro v1 w1 h1 g1; have HG3 := hide (((unhide HG5).below (unhide AL _ _)).app h1 g1); obtain ⟨a1, c1, rfl⟩ := h1.shape; clear h1 g1)
          all_goals refine ⟨⟨_, n - 1 - 3, cp' - 1 - 3, a1, m + 1, c1, r3, l ++ [xx], by first | rfl | simp, rfl, by omega, hide ⟨?_, (unhide HE).2.2⟩, HG3⟩, by show n - 1 - 3 < n; omega⟩
          all_goals
            rw [show n - 1 - 3 = n - 4 by omega, show cp' - 1 - 3 = cp' - 4 by omega]
            split
            · exact (unhide HE).2.1 (by assumption)
            · exact (unhide HE).1
        · have HE : Hid (Rst w (some ⟨b, off + 2, none⟩) (n - 2) (cp' - 2) r2 ∧ (cp' = 2 → Rst w (some ⟨b, off + 1, none⟩) (n - 2) (cp' - 2) r2) ∧ Larder8.saidL q T = (l ++ [Larder8.shortC d]) ++ Larder8.saidL q r2) := hide (by
            have hlen := unhide HLEN
            exact ⟨(unhide HR1).drop 2 (by omega), fun h => ⟨.inl (List.eq_nil_of_length_eq_zero (by omega)), by omega, by omega, by omega⟩, by rw [unhide HR2, h92, said_short hqd hx]; simp⟩)
          have q34 : ((q : Int) == 34) = true ∨ (((q : Int) == 34) = false ∧ ((d : Int) == (q : Int)) = true ∧ d ≠ 120) := by
            rcases z34 with e | ⟨e1, e2⟩
            · exact .inl (by rw [e]; rfl)
            · exact .inr ⟨by rw [e1]; rfl, by rw [e1, e2]; rfl, by omega⟩
          have hw4 : (d ≠ 120) ∨ (d = 120 ∧ n - 1 < 3) ∨ (d = 120 ∧ ∃ x y r3, r2 = x :: y :: r3 ∧ (Larder8.hexV x = none ∨ (∃ hv, Larder8.hexV x = some hv) ∧ Larder8.hexV y = none)) := by
            by_cases h1 : d = 120
            · refine .inr ?_
              have hlen := unhide HLEN
              by_cases h2 : n - 1 < 3
              · exact .inl ⟨h1, h2⟩
              · refine .inr ⟨h1, ?_⟩
                match r2, hlen, hx with
                | [], hlen, _ => simp at hlen; omega
                | [x], hlen, _ => simp at hlen; omega
                | x :: y :: r3, hlen, hx =>
                  refine ⟨x, y, r3, rfl, ?_⟩
                  cases e1 : Larder8.hexV x with
                  | none => exact .inl rfl
                  | some hv =>
                    cases e2 : Larder8.hexV y with
                    | none => exact .inr ⟨⟨hv, rfl⟩, rfl⟩
                    | some lv => exact absurd ⟨h1, by simp [Larder8.hex2, e1, e2]⟩ hx
            · exact .inl h1
          have HC := hide hc
          have CT2 := unhide CT
          clear hr1 hr2 hc HR1 HR2 h92 hpl hqd z34 hx
          rcases hw4 with hw | ⟨hw, hw2⟩ | ⟨hw, x, y, r3, hr2e, hw2⟩
          · have t1 : ((d : Int) == 120) = false := by rw [beq_eq_false_iff_ne]; omega
            rcases q34 with t3 | ⟨t3, t4, -⟩
            · have t3' : ((q : Int) != 34) = false := by rw [bne, t3]; rfl
              go_wp2_with (first
                | (go_at_call 87; with_reducible refine (unhide CT _ d).mono ?_; rintro e w5 ⟨rfl, h5⟩; have HG5 := hide ((unhide hG).below (unhide h5)))
                | (at_builtin; refine append_bytes rfl _ _ 25 rfl i5 Tryz.underlying25 hi5 hz5 hs5 hb5 (.slice va m vc) m (byV l) rfl ((unhide HG5).row.below (unhide AL _ _)) (some ⟨w5.heap.size, 0, none⟩) 1 [Larder8.shortC d] (by rfl) (unhide MB _ _) (by simp; omega) ?_; intro v1 w1 h1 g1; have HG3 := hide (((unhide HG5).below (unhide AL _ _)).app h1 g1); obtain ⟨a1, c1, rfl⟩ := h1.shape; clear h1 g1))
              all_goals refine ⟨⟨_, n - 1 - 1, cp' - 1 - 1, a1, m + 1, c1, r2, l ++ [Larder8.shortC d], by first | rfl | simp, rfl, by omega, hide ⟨?_, (unhide HE).2.2⟩, HG3⟩, by show n - 1 - 1 < n; omega⟩
              all_goals
                rw [show n - 1 - 1 = n - 2 by omega, show cp' - 1 - 1 = cp' - 2 by omega]
                split
                · exact (unhide HE).2.1 (by omega)
                · exact (unhide HE).1
            · have t3' : ((q : Int) != 34) = true := by rw [bne, t3]; rfl
              have t4' : ((d : Int) != (q : Int)) = false := by rw [bne, t4]; rfl
              go_wp2_with (first
                | (go_at_call 87; with_reducible refine (unhide CT _ d).mono ?_; rintro e w5 ⟨rfl, h5⟩; have HG5 := hide ((unhide hG).below (unhide h5)))
                | (at_builtin; refine append_bytes rfl _ _ 25 rfl i5 Tryz.underlying25 hi5 hz5 hs5 hb5 (.slice va m vc) m (byV l) rfl ((unhide HG5).row.below (unhide AL _ _)) (some ⟨w5.heap.size, 0, none⟩) 1 [Larder8.shortC d] (by rfl) (unhide MB _ _) (by simp; omega) ?_; intro v1 w1 h1 g1; have HG3 := hide (((unhide HG5).below (unhide AL _ _)).app h1 g1); obtain ⟨a1, c1, rfl⟩ := h1.shape; clear h1 g1))
              all_goals refine ⟨⟨_, n - 1 - 1, cp' - 1 - 1, a1, m + 1, c1, r2, l ++ [Larder8.shortC d], by first | rfl | simp, rfl, by omega, hide ⟨?_, (unhide HE).2.2⟩, HG3⟩, by show n - 1 - 1 < n; omega⟩
              all_goals
                rw [show n - 1 - 1 = n - 2 by omega, show cp' - 1 - 1 = cp' - 2 by omega]
                split
                · exact (unhide HE).2.1 (by omega)
                · exact (unhide HE).1
          · have t3 := q34.resolve_right (fun h => h.2.2 hw)
            have t3' : ((q : Int) != 34) = false := by rw [bne, t3]; rfl
            have t1 : ((d : Int) == 120) = true := by rw [hw]; rfl
            have f3 : decide ((3 : Int) ≤ ((n - 1 : Nat) : Int)) = false := decide_eq_false (by omega)
            have f3n : decide (3 ≤ n - 1) = false := decide_eq_false (by omega)
            clear hw
            go_wp2_with (first
              | (go_at_call 87; with_reducible refine (unhide CT _ d).mono ?_; rintro e w5 ⟨rfl, h5⟩; have HG5 := hide ((unhide hG).below (unhide h5)))
              | (at_builtin; refine append_bytes rfl _ _ 25 rfl i5 Tryz.underlying25 hi5 hz5 hs5 hb5 (.slice va m vc) m (byV l) rfl ((unhide HG5).row.below (unhide AL _ _)) (some ⟨w5.heap.size, 0, none⟩) 1 [Larder8.shortC d] (by rfl) (unhide MB _ _) (by simp; omega) ?_; intro v1 w1 h1 g1; have HG3 := hide (((unhide HG5).below (unhide AL _ _)).app h1 g1); obtain ⟨a1, c1, rfl⟩ := h1.shape; clear h1 g1))
            all_goals refine ⟨⟨_, n - 1 - 1, cp' - 1 - 1, a1, m + 1, c1, r2, l ++ [Larder8.shortC d], by first | rfl | simp, rfl, by omega, hide ⟨?_, (unhide HE).2.2⟩, HG3⟩, by show n - 1 - 1 < n; omega⟩
            all_goals
              rw [show n - 1 - 1 = n - 2 by omega, show cp' - 1 - 1 = cp' - 2 by omega]
              split
              · exact (unhide HE).2.1 (by omega)
              · exact (unhide HE).1
          · have t3 := q34.resolve_right (fun h => h.2.2 hw)
            have t3' : ((q : Int) != 34) = false := by rw [bne, t3]; rfl
            have t1 : ((d : Int) == 120) = true := by rw [hw]; rfl
            have hn3 : 4 ≤ n := by have := unhide HLEN; rw [hr2e] at this; simp at this; omega
            have f3 : decide ((3 : Int) ≤ ((n - 1 : Nat) : Int)) = true := decide_eq_true (by omega)
            have f3n : decide (3 ≤ n - 1) = true := decide_eq_true (by omega)
            have g4 : (1 : Int) < ((n - 1 : Nat) : Int) := by omega
            have g4n : 1 < n - 1 := by omega
            have g5 : (2 : Int) < ((n - 1 : Nat) : Int) := by omega
            have g5n : 2 < n - 1 := by omega
            have x0 : wr.cell? ⟨b, off + 1 + 1, none⟩ = some (.int .u8 (x : Nat)) := by
              rw [(unhide hG).bel.cell hb]
              have := unhide HC 2 (by omega)
              rw [hr2e] at this
              exact this
            have y0 : wr.cell? ⟨b, off + 1 + 2, none⟩ = some (.int .u8 (y : Nat)) := by
              rw [(unhide hG).bel.cell hb]
              have := unhide HC 3 (by omega)
              rw [hr2e] at this
              exact this
            clear hw hr2e HC
            rcases hw2 with e1 | ⟨⟨hv, e1⟩, e2⟩
            · have CY1 : Hid (∀ W : World, Calls Tryz.prog 86 #[.int .u8 (x : Nat)] W fun e w' => e = .returned (.int .i64 (-1)) ∧ W = w') := hide (fun W => by have := unhide CX W x; rw [e1] at this; exact this)
              clear e1
              go_wp2_with (first
                | (go_at_call 86; with_reducible refine (unhide CY1 _).mono ?_; rintro e w7 ⟨rfl, h7⟩; subst h7)
                | (go_at_call 87; with_reducible refine (unhide CT _ d).mono ?_; rintro e w5 ⟨rfl, h5⟩; have HG5 := hide ((unhide hG).below (unhide h5)))
                | (at_builtin; refine append_bytes rfl _ _ 25 rfl i5 Tryz.underlying25 hi5 hz5 hs5 hb5 (.slice va m vc) m (byV l) rfl ((unhide HG5).row.below (unhide AL _ _)) (some ⟨w5.heap.size, 0, none⟩) 1 [Larder8.shortC d] (by rfl) (unhide MB _ _) (by simp; omega) ?_; intro v1 w1 h1 g1; have HG3 := hide (((unhide HG5).below (unhide AL _ _)).app h1 g1); obtain ⟨a1, c1, rfl⟩ := h1.shape; clear h1 g1))
              all_goals refine ⟨⟨_, n - 1 - 1, cp' - 1 - 1, a1, m + 1, c1, r2, l ++ [Larder8.shortC d], by first | rfl | simp, rfl, by omega, hide ⟨?_, (unhide HE).2.2⟩, HG3⟩, by show n - 1 - 1 < n; omega⟩
              all_goals
                rw [show n - 1 - 1 = n - 2 by omega, show cp' - 1 - 1 = cp' - 2 by omega]
                exact (unhide HE).1
            · have CY1 : Hid (∀ W : World, Calls Tryz.prog 86 #[.int .u8 (x : Nat)] W fun e w' => e = .returned (.int .i64 (hv : Nat)) ∧ W = w') := hide (fun W => by have := unhide CX W x; rw [e1] at this; exact this)
              have CY2 : Hid (∀ W : World, Calls Tryz.prog 86 #[.int .u8 (y : Nat)] W fun e w' => e = .returned (.int .i64 (-1)) ∧ W = w') := hide (fun W => by have := unhide CX W y; rw [e2] at this; exact this)
              have f4 : decide ((0 : Int) ≤ (hv : Int)) = true := decide_eq_true (by omega)
              clear e1 e2
              go_wp2_with (first
                | (go_at_call 86; with_reducible refine (unhide CY1 _).mono ?_; rintro e w7 ⟨rfl, h7⟩; subst h7)
                | (go_at_call 86; with_reducible refine (unhide CY2 _).mono ?_; rintro e w7 ⟨rfl, h7⟩; subst h7)
                | (go_at_call 87; with_reducible refine (unhide CT _ d).mono ?_; rintro e w5 ⟨rfl, h5⟩; have HG5 := hide ((unhide hG).below (unhide h5)))
                | (at_builtin; refine append_bytes rfl _ _ 25 rfl i5 Tryz.underlying25 hi5 hz5 hs5 hb5 (.slice va m vc) m (byV l) rfl ((unhide HG5).row.below (unhide AL _ _)) (some ⟨w5.heap.size, 0, none⟩) 1 [Larder8.shortC d] (by rfl) (unhide MB _ _) (by simp; omega) ?_; intro v1 w1 h1 g1; have HG3 := hide (((unhide HG5).below (unhide AL _ _)).app h1 g1); obtain ⟨a1, c1, rfl⟩ := h1.shape; clear h1 g1))
              all_goals refine ⟨⟨_, n - 1 - 1, cp' - 1 - 1, a1, m + 1, c1, r2, l ++ [Larder8.shortC d], by first | rfl | simp, rfl, by omega, hide ⟨?_, (unhide HE).2.2⟩, HG3⟩, by show n - 1 - 1 < n; omega⟩
              all_goals
                rw [show n - 1 - 1 = n - 2 by omega, show cp' - 1 - 1 = cp' - 2 by omega]
                exact (unhide HE).1
end Go.Proofs.YtecfgbjnjgjkoaaGreatDoor
