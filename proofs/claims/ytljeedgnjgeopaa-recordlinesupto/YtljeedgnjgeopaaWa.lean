/- record: the sizes of numbers. -/
import Derived.Test.YtljeedgnjgeopaaBa
import Derived.Test.YtljeedgnjgeopaaRma
namespace Go.Proofs.Ytljeedgnjgeopaa
open Go.ChangeShapes Go.WideShapes Go.ChangeAt Go.RowKit
set_option linter.unusedVariables false
set_option linter.unusedSimpArgs false
set_option maxRecDepth 100000
set_option maxHeartbeats 4000000
theorem len64 (w : World) : Calls Try.prog 65 #[.int .u64 18446744073709551615] w fun e w' => e = .returned (.int .i64 64) ∧ w' = w := by
  go_enter Try.func65, Try.ntmps65
  go_wp2
  go_ret
  exact ⟨by kernel_rfl, rfl⟩
theorem len32 (w : World) : Calls Try.prog 65 #[.int .u64 4294967295] w fun e w' => e = .returned (.int .i64 32) ∧ w' = w := by
  go_enter Try.func65, Try.ntmps65
  go_wp2
  go_ret
  exact ⟨by kernel_rfl, rfl⟩
theorem len8 (w : World) : Calls Try.prog 65 #[.int .u64 255] w fun e w' => e = .returned (.int .i64 8) ∧ w' = w := by
  go_enter Try.func65, Try.ntmps65
  go_wp2
  go_ret
  exact ⟨by kernel_rfl, rfl⟩
theorem size64 (w : World) : Calls Try.prog 55 #[] w fun e w' => e = .returned (.int .i64 8) ∧ w' = w := by
  go_enter Try.func55, Try.ntmps55
  go_wp2_with (go_at_call 65; refine (len64 _).mono ?_; rintro e w1 ⟨rfl, h1⟩; obtain rfl := h1.symm)
  go_ret
  exact ⟨rfl, rfl⟩
theorem size32 (w : World) : Calls Try.prog 71 #[] w fun e w' => e = .returned (.int .i64 4) ∧ w' = w := by
  go_enter Try.func71, Try.ntmps71
  go_wp2_with (go_at_call 65; refine (len32 _).mono ?_; rintro e w1 ⟨rfl, h1⟩; obtain rfl := h1.symm)
  go_ret
  exact ⟨rfl, rfl⟩
theorem size8 (w : World) : Calls Try.prog 72 #[] w fun e w' => e = .returned (.int .i64 1) ∧ w' = w := by
  go_enter Try.func72, Try.ntmps72
  go_wp2_with (go_at_call 65; refine (len8 _).mono ?_; rintro e w1 ⟨rfl, h1⟩; obtain rfl := h1.symm)
  go_ret
  exact ⟨rfl, rfl⟩
theorem bitof_any (w : World) (i s q : Nat) (h : i < s) (hs : s ≤ 8) (hq : q = 8 * (s - 1 - i)) : Calls Try.prog 56 #[.int .i64 (i : Nat), .int .i64 (s : Nat)] w fun e w' => e = .returned (.int .i64 (q : Nat)) ∧ w' = w := by
  obtain ⟨d, hd⟩ : ∃ d, d = s - 1 - i := ⟨_, rfl⟩
  have q1 : IntKind.i64.wrap ((s : Int) - 1) = ((s - 1 : Nat) : Int) := by rw [IntKind.wrap_i64]; omega
  have q2 : wrap64 ((s : Int) - 1 - (i : Int)) = (d : Int) := by unfold wrap64; omega
  have q3 : wrap64 (8 * (d : Int)) = (q : Int) := by unfold wrap64; omega
  have q4 : ((s : Int) - 1 - (i : Int)) = (d : Int) := by omega
  have q5 : (8 * (d : Int)) = (q : Int) := by omega
  have q6 : wrap64 ((s : Int) - 1) = (s : Int) - 1 := by unfold wrap64; omega
  clear hq hd
  go_enter Try.func56, Try.ntmps56
  go_wp2
  go_ret
  exact ⟨congrArg (fun z => Ending.returned (.int .i64 z)) (by first | rfl | (simp only [q4, q5]) | omega), rfl⟩
/-- bytes in a row of their own -/
def RB (W : World) (v : Value) (l : List Nat) : Prop := Rws W 5 1 v l.length (fun k => .int .u8 (l.getD k 0 : Nat))
theorem RB.shape {W : World} {v : Value} {l : List Nat} (h : RB W v l) : ∃ a c, v = .slice a l.length c := Rws.shape h
theorem RB.below {W W' : World} {v : Value} {l : List Nat} (h : RB W v l) (hb : Below W.heap.size W W') : RB W' v l := Rws.below h hb
theorem RB.snoc {W' : World} {v' : Value} {l : List Nat} {n c : Nat} (hn : n = l.length) (h : Rws W' 5 1 v' (n + 1) (fun k => if k < n * 1 then .int .u8 (l.getD k 0 : Nat) else [Value.int .u8 (c : Nat)].getD (k - n * 1) undef)) : RB W' v' (l ++ [c]) := by
  subst hn
  unfold RB
  rw [List.length_append]
  refine Rws.congr h (fun k hk => ?_)
  simp only [List.length_cons, List.length_nil, Nat.mul_one] at hk ⊢
  by_cases hk2 : k < l.length
  · rw [if_pos hk2, List.getD_eq_getElem?_getD, List.getD_eq_getElem?_getD, List.getElem?_append_left hk2]
  · obtain rfl : k = l.length := by omega
    rw [if_neg hk2, Nat.sub_self, List.getD_eq_getElem?_getD (l := l ++ [c]), List.getElem?_append_right (Nat.le_refl _), Nat.sub_self]
    rfl
theorem info5 : (Try.prog.info? 5).map (fun i => (i.zero, i.size, i.bytes)) = some (some (.int .u8 0), 1, 1) := by kernel_rfl
theorem bigN_take (k n i : Nat) (h : i < k) : (Larder.bigN k n).take (i + 1) = (Larder.bigN k n).take i ++ [n / 2 ^ (8 * (k - 1 - i)) % 256] := by
  rw [List.take_add_one]
  congr 1
  unfold Larder.bigN
  rw [List.getElem?_map, List.getElem?_range h]
  rfl
theorem new_cells (w : World) (l : List Value) (t : TypeId) : ∀ ad, some (⟨w.heap.size, 0, none⟩ : Addr) = some ad → ∀ (j : Nat) (x : Value), l[j]? = some x → (w.alloc (.cells l.toArray t)).cell? (ad.add j) = some x := fun ad e j x hx => by
  cases e
  rw [addr0]
  exact made_cells w l t j x hx
/-- only the list's own block has changed -/
structure Gq (W W' : World) (v v' : Value) : Prop where
  size : W.heap.size ≤ W'.heap.size
  block : ∀ b, b < W.heap.size → v.ownBlock ≠ some b → W'.heap[b]? = W.heap[b]?
  own : ∀ g, v'.ownBlock = some g → v.ownBlock = some g ∨ W.heap.size ≤ g
theorem Gq.refl (W : World) (v : Value) : Gq W W v v := ⟨Nat.le_refl _, fun _ _ _ => rfl, fun g hg => .inl hg⟩
theorem Gq.trans {W W' W'' : World} {v v' v'' : Value} (h : Gq W W' v v') (k : Gq W' W'' v' v'') : Gq W W'' v v'' :=
  ⟨Nat.le_trans h.size k.size, fun b hb hn => (k.block b (Nat.lt_of_lt_of_le hb h.size) (fun e => by
    rcases h.own b e with z | z
    · exact hn z
    · omega)).trans (h.block b hb hn), fun g hg => by
    rcases k.own g hg with z | z
    · exact h.own g z
    · have := h.size; exact .inr (by omega)⟩
theorem Gq.of {W W' : World} {v : Value} (h : Below W.heap.size W W') : Gq W W' v v := ⟨h.size, fun b hb _ => h.block b hb, fun g hg => .inl hg⟩
theorem Gq.ga {W W1 W2 W3 : World} {v v1 v3 : Value} {e : TypeId} {c m : Nat} (h : Gq W W1 v v1) (hb : Below W1.heap.size W1 W2) (hg : Ga e c m W2 W3 v1 v3) : Gq W W3 v v3 := by
  refine (h.trans (Gq.of hb)).trans ?_
  rcases hg with ⟨rfl, rfl⟩ | hg
  · exact Gq.refl _ _
  · exact ⟨hg.size, fun b hb hn => hg.other b hb hn, fun g hg' => by
      rcases hg.how with ⟨g', cur, cur', k1, k2, -⟩ | ⟨k2, -⟩
      · have : some g' = some g := k2.symm.trans hg'
        cases this
        exact .inl k1
      · have : some W2.heap.size = some g := k2.symm.trans hg'
        cases this
        exact .inr (Nat.le_refl _)⟩
theorem add64 (w0 W : World) (v : Value) (l : List Nat) (n : Nat) (hn : n < 18446744073709551616) (hN : Nw w0 W v) (hr : RB W v l) (hl : l.length ≤ 1099511627776) :
    Calls Try.prog 43 #[v, .int .u64 (n : Nat)] W fun e W' => ∃ a c, e = .returned (.slice a (l.length + 8) c) ∧ Hid (Nw w0 W' (.slice a (l.length + 8) c) ∧ RB W' (.slice a (l.length + 8) c) (l ++ Larder.bigN 8 n) ∧ Gq W W' v (.slice a (l.length + 8) c)) := by
  obtain ⟨a, c, rfl⟩ := hr.shape
  obtain ⟨m, hm⟩ : ∃ m, m = l.length := ⟨_, rfl⟩
  obtain ⟨i0, hi0, hz0, hz1, hz2⟩ := info_parts4 info5
  have H0 : Hid (Nw w0 W (.slice a m c) ∧ RB W (.slice a m c) (l ++ (Larder.bigN 8 n).take 0) ∧ Gq W W (.slice a m c) (.slice a m c)) := by rw [List.take_zero, List.append_nil, hm]; exact hide ⟨hN, hr, Gq.refl _ _⟩
  rw [← hm] at hl ⊢
  have HM := hide hm
  clear hN hr hm
  go_enter Try.func43, Try.ntmps43
  go_wp2_with (go_at_call 55; refine (size64 _).mono ?_; rintro e w1 ⟨rfl, h1⟩; obtain rfl := h1.symm)
  go_loopw [0, 9] (fun bv iv wr => ∃ (i k : Nat) (a' : Option Addr) (c' : Nat), bv = .slice a' k c' ∧ iv = .int .i64 ((i : Nat) : Int) ∧ i ≤ 8 ∧ k = m + i ∧ Hid (Nw w0 wr (.slice a' k c') ∧ RB wr (.slice a' k c') (l ++ (Larder.bigN 8 n).take i) ∧ Gq W wr (.slice a m c) (.slice a' k c'))) (fun _ iv _ => 8 - (intOf iv).toNat)
  case atStart => exact ⟨0, m, a, c, rfl, rfl, by omega, rfl, H0⟩
  case round =>
    clear H0
    obtain ⟨i, k, a', c', rfl, rfl, hi, hk, HR⟩ := hrel
    have HK := hide hk
    have hk4 : k ≤ 1099511627784 := by omega
    clear hk
    by_cases hi8 : i < 8
    · have f1 : decide ((i : Int) < 8) = true := decide_eq_true (by omega)
      have f2 : decide (i < 8) = true := decide_eq_true hi8
      obtain ⟨q, hq⟩ : ∃ q, q = 8 * (8 - 1 - i) := ⟨_, rfl⟩
      have C56 := bitof_any wr i 8 q hi8 (by omega) hq
      have HT := hide (bigN_take 8 n i hi8)
      rw [← hq] at HT
      have hq9 : q ≤ 56 := by omega
      obtain ⟨cc, hcc⟩ : ∃ cc : Nat, cc = n / 2 ^ q % 256 := ⟨_, rfl⟩
      have qc : (n : Int) / 2 ^ q % 256 = (cc : Int) := by rw [hcc]; simp
      rw [← hcc] at HT
      obtain ⟨L, hL⟩ : ∃ L, L = l ++ (Larder.bigN 8 n).take i := ⟨_, rfl⟩
      have HL : Hid (k = L.length) := hide (by rw [hL, List.length_append, List.length_take, Larder.bigN_len]; have := unhide HK; have := unhide HM; omega)
      have HT2 : Hid (l ++ (Larder.bigN 8 n).take (i + 1) = L ++ [cc]) := hide (by rw [unhide HT, hL, List.append_assoc])
      have HRr : Hid (Rws wr 5 1 (.slice a' k c') k (fun j => .int .u8 (L.getD j 0 : Nat))) := hide (by
        have := (unhide HR).2.1
        rw [← hL] at this
        unfold RB at this
        rw [← unhide HL] at this
        exact this)
      have HNw := hide (unhide HR).1
      have HGq := hide (unhide HR).2.2
      have HAl := hide ((Below.refl wr.heap.size wr).alloc (Nat.le_refl _) (.cells #[.int .u8 (cc : Nat)] 5))
      clear hq hcc hL HR
      go_wp2_with (first
        | (go_at_call 56; refine C56.mono ?_; clear C56; rintro e w2 ⟨rfl, h2⟩; obtain rfl := h2.symm)
        | (at_builtin; refine append_gen rfl _ _ 27 rfl 5 i0 _ 1 1 Try.underlying27 hi0 hz0 hz1 hz2 rfl (.slice a' k c') k (fun j => .int .u8 (L.getD j 0 : Nat)) rfl ((unhide HRr).below (unhide HAl)) (some ⟨wr.heap.size, 0, none⟩) 1 1 rfl [.int .u8 (cc : Nat)] rfl (by simp) (new_cells wr [.int .u8 (cc : Nat)] 5) (by simp [Value.oneCell']) (by omega) (by unfold maxLen; omega) ?_; intro v5 w5 h5 k5; obtain ⟨a5, c5, rfl⟩ := h5.shape; have N5 := hide (((unhide HNw).on (unhide HAl)).ga k5); have G5 := hide ((unhide HGq).ga (unhide HAl) k5); have R5 := hide (RB.snoc (unhide HL) h5); clear h5 k5; go_frame))
      exact ⟨⟨i + 1, k + 1, a5, c5, rfl, congrArg (Value.int .i64) (by omega), by omega, (by have := unhide HK; omega), hide ⟨unhide N5, (by rw [unhide HT2]; exact unhide R5), unhide G5⟩⟩, by simp [intOf]; omega⟩
    · obtain rfl : i = 8 := by omega
      have f1 : decide (((8 : Nat) : Int) < 8) = false := by decide
      have ht : (Larder.bigN 8 n).take 8 = Larder.bigN 8 n := List.take_of_length_le (by rw [Larder.bigN_len]; exact Nat.le_refl _)
      rw [ht] at HR
      clear ht
      obtain rfl : k = m + 8 := unhide HK
      go_wp2_with fail
      go_ret
      exact ⟨a', c', rfl, HR⟩
theorem add32 (w0 W : World) (v : Value) (l : List Nat) (n : Nat) (hn : n < 4294967296) (hN : Nw w0 W v) (hr : RB W v l) (hl : l.length ≤ 1099511627776) :
    Calls Try.prog 61 #[v, .int .u32 (n : Nat)] W fun e W' => ∃ a c, e = .returned (.slice a (l.length + 4) c) ∧ Hid (Nw w0 W' (.slice a (l.length + 4) c) ∧ RB W' (.slice a (l.length + 4) c) (l ++ Larder.bigN 4 n) ∧ Gq W W' v (.slice a (l.length + 4) c)) := by
  obtain ⟨a, c, rfl⟩ := hr.shape
  obtain ⟨m, hm⟩ : ∃ m, m = l.length := ⟨_, rfl⟩
  obtain ⟨i0, hi0, hz0, hz1, hz2⟩ := info_parts4 info5
  have H0 : Hid (Nw w0 W (.slice a m c) ∧ RB W (.slice a m c) (l ++ (Larder.bigN 4 n).take 0) ∧ Gq W W (.slice a m c) (.slice a m c)) := by rw [List.take_zero, List.append_nil, hm]; exact hide ⟨hN, hr, Gq.refl _ _⟩
  rw [← hm] at hl ⊢
  have HM := hide hm
  clear hN hr hm
  go_enter Try.func61, Try.ntmps61
  go_wp2_with (go_at_call 71; refine (size32 _).mono ?_; rintro e w1 ⟨rfl, h1⟩; obtain rfl := h1.symm)
  go_loopw [0, 9] (fun bv iv wr => ∃ (i k : Nat) (a' : Option Addr) (c' : Nat), bv = .slice a' k c' ∧ iv = .int .i64 ((i : Nat) : Int) ∧ i ≤ 4 ∧ k = m + i ∧ Hid (Nw w0 wr (.slice a' k c') ∧ RB wr (.slice a' k c') (l ++ (Larder.bigN 4 n).take i) ∧ Gq W wr (.slice a m c) (.slice a' k c'))) (fun _ iv _ => 4 - (intOf iv).toNat)
  case atStart => exact ⟨0, m, a, c, rfl, rfl, by omega, rfl, H0⟩
  case round =>
    clear H0
    obtain ⟨i, k, a', c', rfl, rfl, hi, hk, HR⟩ := hrel
    have HK := hide hk
    have hk4 : k ≤ 1099511627784 := by omega
    clear hk
    by_cases hi8 : i < 4
    · have f1 : decide ((i : Int) < 4) = true := decide_eq_true (by omega)
      have f2 : decide (i < 4) = true := decide_eq_true hi8
      obtain ⟨q, hq⟩ : ∃ q, q = 8 * (4 - 1 - i) := ⟨_, rfl⟩
      have C56 := bitof_any wr i 4 q hi8 (by omega) hq
      have HT := hide (bigN_take 4 n i hi8)
      rw [← hq] at HT
      have hq9 : q ≤ 56 := by omega
      obtain ⟨cc, hcc⟩ : ∃ cc : Nat, cc = n / 2 ^ q % 256 := ⟨_, rfl⟩
      have qc : (n : Int) / 2 ^ q % 256 = (cc : Int) := by rw [hcc]; simp
      have qm : min q 32 = q := by omega
      rw [← hcc] at HT
      obtain ⟨L, hL⟩ : ∃ L, L = l ++ (Larder.bigN 4 n).take i := ⟨_, rfl⟩
      have HL : Hid (k = L.length) := hide (by rw [hL, List.length_append, List.length_take, Larder.bigN_len]; have := unhide HK; have := unhide HM; omega)
      have HT2 : Hid (l ++ (Larder.bigN 4 n).take (i + 1) = L ++ [cc]) := hide (by rw [unhide HT, hL, List.append_assoc])
      have HRr : Hid (Rws wr 5 1 (.slice a' k c') k (fun j => .int .u8 (L.getD j 0 : Nat))) := hide (by
        have := (unhide HR).2.1
        rw [← hL] at this
        unfold RB at this
        rw [← unhide HL] at this
        exact this)
      have HNw := hide (unhide HR).1
      have HGq := hide (unhide HR).2.2
      have HAl := hide ((Below.refl wr.heap.size wr).alloc (Nat.le_refl _) (.cells #[.int .u8 (cc : Nat)] 5))
      clear hq hcc hL HR
      go_wp2_with (first
        | (go_at_call 56; refine C56.mono ?_; clear C56; rintro e w2 ⟨rfl, h2⟩; obtain rfl := h2.symm)
        | (at_builtin; refine append_gen rfl _ _ 27 rfl 5 i0 _ 1 1 Try.underlying27 hi0 hz0 hz1 hz2 rfl (.slice a' k c') k (fun j => .int .u8 (L.getD j 0 : Nat)) rfl ((unhide HRr).below (unhide HAl)) (some ⟨wr.heap.size, 0, none⟩) 1 1 rfl [.int .u8 (cc : Nat)] rfl (by simp) (new_cells wr [.int .u8 (cc : Nat)] 5) (by simp [Value.oneCell']) (by omega) (by unfold maxLen; omega) ?_; intro v5 w5 h5 k5; obtain ⟨a5, c5, rfl⟩ := h5.shape; have N5 := hide (((unhide HNw).on (unhide HAl)).ga k5); have G5 := hide ((unhide HGq).ga (unhide HAl) k5); have R5 := hide (RB.snoc (unhide HL) h5); clear h5 k5; go_frame))
      exact ⟨⟨i + 1, k + 1, a5, c5, rfl, congrArg (Value.int .i64) (by omega), by omega, (by have := unhide HK; omega), hide ⟨unhide N5, (by rw [unhide HT2]; exact unhide R5), unhide G5⟩⟩, by simp [intOf]; omega⟩
    · obtain rfl : i = 4 := by omega
      have f1 : decide (((4 : Nat) : Int) < 4) = false := by decide
      have ht : (Larder.bigN 4 n).take 4 = Larder.bigN 4 n := List.take_of_length_le (by rw [Larder.bigN_len]; exact Nat.le_refl _)
      rw [ht] at HR
      clear ht
      obtain rfl : k = m + 4 := unhide HK
      go_wp2_with fail
      go_ret
      exact ⟨a', c', rfl, HR⟩
theorem add8 (w0 W : World) (v : Value) (l : List Nat) (n : Nat) (hn : n < 256) (hN : Nw w0 W v) (hr : RB W v l) (hl : l.length ≤ 1099511627776) :
    Calls Try.prog 62 #[v, .int .u8 (n : Nat)] W fun e W' => ∃ a c, e = .returned (.slice a (l.length + 1) c) ∧ Hid (Nw w0 W' (.slice a (l.length + 1) c) ∧ RB W' (.slice a (l.length + 1) c) (l ++ Larder.bigN 1 n) ∧ Gq W W' v (.slice a (l.length + 1) c)) := by
  obtain ⟨a, c, rfl⟩ := hr.shape
  obtain ⟨m, hm⟩ : ∃ m, m = l.length := ⟨_, rfl⟩
  obtain ⟨i0, hi0, hz0, hz1, hz2⟩ := info_parts4 info5
  have H0 : Hid (Nw w0 W (.slice a m c) ∧ RB W (.slice a m c) (l ++ (Larder.bigN 1 n).take 0) ∧ Gq W W (.slice a m c) (.slice a m c)) := by rw [List.take_zero, List.append_nil, hm]; exact hide ⟨hN, hr, Gq.refl _ _⟩
  rw [← hm] at hl ⊢
  have HM := hide hm
  clear hN hr hm
  go_enter Try.func62, Try.ntmps62
  go_wp2_with (go_at_call 72; refine (size8 _).mono ?_; rintro e w1 ⟨rfl, h1⟩; obtain rfl := h1.symm)
  go_loopw [0, 9] (fun bv iv wr => ∃ (i k : Nat) (a' : Option Addr) (c' : Nat), bv = .slice a' k c' ∧ iv = .int .i64 ((i : Nat) : Int) ∧ i ≤ 1 ∧ k = m + i ∧ Hid (Nw w0 wr (.slice a' k c') ∧ RB wr (.slice a' k c') (l ++ (Larder.bigN 1 n).take i) ∧ Gq W wr (.slice a m c) (.slice a' k c'))) (fun _ iv _ => 1 - (intOf iv).toNat)
  case atStart => exact ⟨0, m, a, c, rfl, rfl, by omega, rfl, H0⟩
  case round =>
    clear H0
    obtain ⟨i, k, a', c', rfl, rfl, hi, hk, HR⟩ := hrel
    have HK := hide hk
    have hk4 : k ≤ 1099511627784 := by omega
    clear hk
    by_cases hi8 : i < 1
    · have f1 : decide ((i : Int) < 1) = true := decide_eq_true (by omega)
      have f2 : decide (i < 1) = true := decide_eq_true hi8
      obtain ⟨q, hq⟩ : ∃ q, q = 8 * (1 - 1 - i) := ⟨_, rfl⟩
      have C56 := bitof_any wr i 1 q hi8 (by omega) hq
      have HT := hide (bigN_take 1 n i hi8)
      rw [← hq] at HT
      have hq9 : q ≤ 56 := by omega
      obtain ⟨cc, hcc⟩ : ∃ cc : Nat, cc = n / 2 ^ q % 256 := ⟨_, rfl⟩
      have qc : (n : Int) / 2 ^ q % 256 = (cc : Int) := by rw [hcc]; simp
      have qm : min q 8 = q := by omega
      have qd : (n : Int) / 2 ^ q = (cc : Int) := by rw [hcc, Nat.mod_eq_of_lt (Nat.lt_of_le_of_lt (Nat.div_le_self _ _) hn)]; simp
      rw [← hcc] at HT
      obtain ⟨L, hL⟩ : ∃ L, L = l ++ (Larder.bigN 1 n).take i := ⟨_, rfl⟩
      have HL : Hid (k = L.length) := hide (by rw [hL, List.length_append, List.length_take, Larder.bigN_len]; have := unhide HK; have := unhide HM; omega)
      have HT2 : Hid (l ++ (Larder.bigN 1 n).take (i + 1) = L ++ [cc]) := hide (by rw [unhide HT, hL, List.append_assoc])
      have HRr : Hid (Rws wr 5 1 (.slice a' k c') k (fun j => .int .u8 (L.getD j 0 : Nat))) := hide (by
        have := (unhide HR).2.1
        rw [← hL] at this
        unfold RB at this
        rw [← unhide HL] at this
        exact this)
      have HNw := hide (unhide HR).1
      have HGq := hide (unhide HR).2.2
      have HAl := hide ((Below.refl wr.heap.size wr).alloc (Nat.le_refl _) (.cells #[.int .u8 (cc : Nat)] 5))
      clear hq hcc hL HR
      go_wp2_with (first
        | (go_at_call 56; refine C56.mono ?_; clear C56; rintro e w2 ⟨rfl, h2⟩; obtain rfl := h2.symm)
        | (at_builtin; refine append_gen rfl _ _ 27 rfl 5 i0 _ 1 1 Try.underlying27 hi0 hz0 hz1 hz2 rfl (.slice a' k c') k (fun j => .int .u8 (L.getD j 0 : Nat)) rfl ((unhide HRr).below (unhide HAl)) (some ⟨wr.heap.size, 0, none⟩) 1 1 rfl [.int .u8 (cc : Nat)] rfl (by simp) (new_cells wr [.int .u8 (cc : Nat)] 5) (by simp [Value.oneCell']) (by omega) (by unfold maxLen; omega) ?_; intro v5 w5 h5 k5; obtain ⟨a5, c5, rfl⟩ := h5.shape; have N5 := hide (((unhide HNw).on (unhide HAl)).ga k5); have G5 := hide ((unhide HGq).ga (unhide HAl) k5); have R5 := hide (RB.snoc (unhide HL) h5); clear h5 k5; go_frame))
      exact ⟨⟨i + 1, k + 1, a5, c5, rfl, congrArg (Value.int .i64) (by omega), by omega, (by have := unhide HK; omega), hide ⟨unhide N5, (by rw [unhide HT2]; exact unhide R5), unhide G5⟩⟩, by simp [intOf]; omega⟩
    · obtain rfl : i = 1 := by omega
      have f1 : decide (((1 : Nat) : Int) < 1) = false := by decide
      have ht : (Larder.bigN 1 n).take 1 = Larder.bigN 1 n := List.take_of_length_le (by rw [Larder.bigN_len]; exact Nat.le_refl _)
      rw [ht] at HR
      clear ht
      obtain rfl : k = m + 1 := unhide HK
      go_wp2_with fail
      go_ret
      exact ⟨a', c', rfl, HR⟩
end Go.Proofs.Ytljeedgnjgeopaa
