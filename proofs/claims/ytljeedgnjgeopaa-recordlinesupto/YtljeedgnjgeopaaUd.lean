/- record: the document's Framed. -/
import Derived.Test.YtljeedgnjgeopaaUc
import Derived.Test.YtljeedgnjgeopaaZe
namespace Go.Proofs.Ytljeedgnjgeopaa
open Go.ChangeShapes Go.WideShapes Go.ChangeAt Go.RowKit Go.Shelf
set_option linter.unusedVariables false
set_option linter.unusedSimpArgs false
set_option maxRecDepth 100000
set_option maxHeartbeats 4000000
/-- an append of bytes to bytes -/
theorem app_rb {w : World} {ops : Array Oper} {rest : List Oper} {o : Oper} {a : Act} {Q : Exit → Act → World → Prop} (hgd : o.guard = none) (so x : Operand) (ho : o.op = .call { callee := .builtin .append, args := #[so, x], argTypes := #[27, 27] })
    (va : Option Addr) (n vc : Nat) (L : List Nat) (hs : a.eval so = .slice va n vc) (hR : RB w (.slice va n vc) L) (b : Option Addr) (m mc : Nat) (hx : a.eval x = .slice b m mc) (t : List Nat) (hm : m = t.length) (hB : Bytes w b t) (s : Nat) (hsum : n + m = s) (hbd : s ≤ 140737488355328)
    (h : ∀ a' c' w', RB w' (.slice a' s c') (L ++ t) → Ga 5 (n * 1) (cellsB t).length w w' (.slice va n vc) (.slice a' s c') → wpList Try.prog ops Q rest (a.put o.dst (.slice a' s c')) w') : wpList Try.prog ops Q (o :: rest) a w := by
  subst hsum
  obtain ⟨i5, hi5, hz5, hs5, hb5⟩ := info_parts4 dinfo5
  have hn : n = L.length := (RB.bytes hR).2
  have hR' : Rws w 5 1 (.slice va n vc) n (fun k => .int .u8 (L.getD k 0 : Nat)) := by
    unfold RB at hR
    rw [← hn] at hR
    exact hR
  refine append_gen hgd so x 27 ho 5 i5 _ 1 1 Try.underlying27 hi5 hz5 hs5 hb5 rfl (.slice va n vc) n _ hs hR' b m mc hx (cellsB t) (by rw [cellsB_len]; omega) (fun e => ?_) (bytes_news hB) (cellsB_one t) (by omega) (by unfold maxLen; omega) ?_
  · rcases hB with q | ⟨_, _, q, -⟩
    · rw [hm, q]; rfl
    · rw [e] at q; cases q
  · intro v' w' h5 k5
    obtain ⟨a', c', rfl⟩ := h5.shape
    exact h a' c' w' (RB.app hn (by rw [← hm]; exact h5)) k5
/-- bytes in new memory -/
def NB2 (w W : World) (a : Option Addr) (n c : Nat) (L : List Nat) : Prop := Nw w W (.slice a n c) ∧ RB W (.slice a n c) L
theorem NB2.app {w W W' : World} {a a' : Option Addr} {n c n' c' c0 m0 : Nat} {L L' : List Nat} (h : NB2 w W a n c L) (hr : RB W' (.slice a' n' c') L') (hg : Ga 5 c0 m0 W W' (.slice a n c) (.slice a' n' c')) : NB2 w W' a' n' c' L' := ⟨h.1.ga hg, hr⟩
theorem NB2.on {w W W' : World} {a : Option Addr} {n c : Nat} {L : List Nat} (h : NB2 w W a n c L) (hb : Below W.heap.size W W') : NB2 w W' a n c L := ⟨h.1.on hb, h.2.below hb⟩
theorem NB2.len {w W : World} {a : Option Addr} {n c : Nat} {L : List Nat} (h : NB2 w W a n c L) : n = L.length := (RB.bytes h.2).2
theorem dnum8 (w : World) (n : Nat) (hn : n < 18446744073709551616) : Calls Try.prog 33 #[.int .u64 (n : Nat), .int .i64 8] w fun e w' => e = .returned (.slice (some ⟨w.heap.size, 0, none⟩) 8 8) ∧ Hid (Below w.heap.size w w' ∧ RB w' (.slice (some ⟨w.heap.size, 0, none⟩) 8 8) (Larder.bigN 8 n)) := dnumber_any w n 8 hn (by omega)
theorem dnum4 (w : World) (n : Nat) (hn : n < 18446744073709551616) : Calls Try.prog 33 #[.int .u64 (n : Nat), .int .i64 4] w fun e w' => e = .returned (.slice (some ⟨w.heap.size, 0, none⟩) 4 4) ∧ Hid (Below w.heap.size w w' ∧ RB w' (.slice (some ⟨w.heap.size, 0, none⟩) 4 4) (Larder.bigN 4 n)) := dnumber_any w n 4 hn (by omega)
theorem framed_any (w : World) (a : Option Addr) (n c : Nat) (b : List Nat) (hn : n = b.length) (hB : Bytes w a b) (hsm : ∀ x ∈ b, x < 256) (hl : n ≤ 2147483648) :
    Calls Try.prog 35 #[.slice a n c] w fun e w' => ∃ a' c', e = .returned (.slice a' (n + 26) c') ∧ Hid (NB2 w w' a' (n + 26) c' (Larder.frame b)) := by
  have HB := hide hB
  have HN := hide hn
  have hsm9 : Small (Larder.headB b) := fun i hi => by
    rw [List.getD_eq_getElem?_getD, List.getElem?_eq_getElem hi]
    exact head_small _ _ (List.getElem_mem hi)
  have hsmb : Small b := fun i hi => by
    rw [List.getD_eq_getElem?_getD, List.getElem?_eq_getElem hi]
    exact hsm _ (List.getElem_mem hi)
  obtain ⟨s1, hs1⟩ : ∃ s1, s1 = (Larder.sumOf (Larder.headB b)).toNat := ⟨_, rfl⟩
  obtain ⟨s2, hs2⟩ : ∃ s2, s2 = (Larder.sumOf b).toNat := ⟨_, rfl⟩
  have hs1l : s1 < 18446744073709551616 := by rw [hs1]; exact BitVec.isLt _
  have hs2l : s2 < 18446744073709551616 := by rw [hs2]; exact BitVec.isLt _
  have C33a := hide (fun W => dnum8 W n (by omega))
  have C33b := hide (fun W => dnum8 W s1 hs1l)
  have C33c := hide (fun W => dnum8 W s2 hs2l)
  have C46a : Hid (∀ (W : World) (x : Option Addr) (xc : Nat), Bytes W x (Larder.headB b) → Calls Try.prog 46 #[.slice x 9 xc] W fun e w' => e = .returned (.int .u64 (s1 : Nat)) ∧ w' = W) := hide (fun W x xc h => by
    have := rsum_any x xc W (Larder.headB b) (by rw [Larder.headB_len]; omega) hsm9 h
    rw [Larder.headB_len, ← hs1] at this
    exact this)
  have C46b : Hid (∀ (W : World), Below w.heap.size w W → Calls Try.prog 46 #[.slice a n c] W fun e w' => e = .returned (.int .u64 (s2 : Nat)) ∧ w' = W) := hide (fun W h => by
    have := rsum_any a c W b (by omega) hsmb (hB.below' h)
    rw [← hn, ← hs2] at this
    exact this)
  have d1 : IntKind.u64.wrap (n : Int) = (n : Int) := by rw [IntKind.wrap_u64]; omega
  have HF : Hid (([170] ++ Larder.bigN 8 n ++ Larder.bigN 8 s1 ++ b ++ Larder.bigN 8 s2) ++ [85] = Larder.frame b) := hide (by
    unfold Larder.frame Larder.headB
    rw [Larder.bigBytes_big, Larder.bigBytes_big, hn, hs1, hs2]
    simp only [Larder.headB, List.append_assoc, List.cons_append, List.nil_append])
  have HH : Hid ([170] ++ Larder.bigN 8 n = Larder.headB b) := hide (by rw [hn]; rfl)
  have S1 : Hid (NB2 w (w.alloc (.cells #[.int .u8 170] 5)) (some ⟨w.heap.size, 0, none⟩) 1 1 [170]) := hide ⟨⟨(Below.refl _ _).alloc (Nat.le_refl _) _, fun g hg => by cases hg; exact Nat.le_refl _⟩, RB.of (heap_alloc_new _ _) rfl (by unfold maxLen; omega) rfl (fun j hj => by (obtain rfl : j = 0 := Nat.lt_one_iff.1 hj); rfl)⟩
  have HNU : Hid (∀ (W W2 : World) (v k g : Nat), W.heap.size = g → Hid (Below W.heap.size W W2 ∧ RB W2 (.slice (some ⟨W.heap.size, 0, none⟩) k k) (Larder.bigN k v)) → Bytes W2 (some ⟨g, 0, none⟩) (Larder.bigN k v)) := hide (fun W W2 v k g e h => by subst e; exact (RB.bytes (unhide h).2).1)
  obtain ⟨n17, h17⟩ : ∃ k, 17 + n = k := ⟨_, rfl⟩
  obtain ⟨n25, h25⟩ : ∃ k, n17 + 8 = k := ⟨_, rfl⟩
  obtain ⟨n26, h26⟩ : ∃ k, n25 + 1 = k := ⟨_, rfl⟩
  have e26 : n + 26 = n26 := by omega
  rw [e26]
  have b17 : n17 ≤ 3000000000 := by omega
  have b25 : n25 ≤ 3000000000 := by omega
  have b26 : n26 ≤ 3000000000 := by omega
  have H17 := hide h17
  have H25 := hide h25
  have H26 := hide h26
  clear hB hn hs1 hs2 hsm9 hsmb hsm h17 h25 h26 e26
  go_enter Try.func35, Try.ntmps35
  go_wp2_with (first
    | (go_at_call 33; (with_reducible refine ((unhide C33a) (w.alloc (.cells #[.int .u8 170] 5))).mono ?_); rintro e w2 ⟨rfl, z2⟩; have S2 := hide ((unhide S1).on (unhide z2).1))
    | (at_builtin; refine app_rb rfl _ _ rfl (some ⟨w.heap.size, 0, none⟩) 1 1 [170] rfl (unhide S2).2 _ 8 8 rfl (Larder.bigN 8 n) (Larder.bigN_len 8 n).symm ((unhide HNU) _ _ _ _ _ (by simp) z2) 9 rfl (by omega) ?_; intro a3 c3 w3 r3 k3; have S3 : Hid (NB2 w w3 a3 9 c3 (Larder.headB b)) := hide (by rw [← unhide HH]; exact (unhide S2).app r3 k3); have B3 := hide (RB.bytes (unhide S3).2).1; clear r3 k3; go_frame)
    | (go_at_call 46; (with_reducible refine ((unhide C46a) w3 a3 c3 (unhide B3)).mono ?_); rintro e w3' ⟨rfl, hw3⟩; obtain rfl := hw3.symm; clear hw3)
    | (go_at_call 33; (with_reducible refine ((unhide C33b) w3).mono ?_); rintro e w4 ⟨rfl, z4⟩; have S4 := hide ((unhide S3).on (unhide z4).1))
    | (at_builtin; refine app_rb rfl _ _ rfl a3 9 c3 (Larder.headB b) rfl (unhide S4).2 _ 8 8 rfl (Larder.bigN 8 s1) (Larder.bigN_len 8 s1).symm ((unhide HNU) _ _ _ _ _ rfl z4) 17 rfl (by omega) ?_; intro a5 c5 w5 r5 k5; have S5 := hide ((unhide S4).app r5 k5); clear r5 k5; go_frame)
    | (at_builtin; refine app_rb rfl _ _ rfl a5 17 c5 (Larder.headB b ++ Larder.bigN 8 s1) rfl (unhide S5).2 a n c rfl b (unhide HN) ((unhide HB).below' (unhide S5).1.bel) n17 (unhide H17) (by omega) ?_; intro a6 c6 w6 r6 k6; have S6 := hide ((unhide S5).app r6 k6); have L6 := hide (unhide S6).1.bel; clear r6 k6; go_frame)
    | (go_at_call 46; (with_reducible refine ((unhide C46b) w6 (unhide L6)).mono ?_); rintro e w6' ⟨rfl, hw6⟩; obtain rfl := hw6.symm; clear hw6)
    | (go_at_call 33; (with_reducible refine ((unhide C33c) w6).mono ?_); rintro e w7 ⟨rfl, z7⟩; have S7 := hide ((unhide S6).on (unhide z7).1))
    | (at_builtin; refine app_rb rfl _ _ rfl a6 n17 c6 (Larder.headB b ++ Larder.bigN 8 s1 ++ b) rfl (unhide S7).2 _ 8 8 rfl (Larder.bigN 8 s2) (Larder.bigN_len 8 s2).symm ((unhide HNU) _ _ _ _ _ rfl z7) n25 (unhide H25) (by omega) ?_; intro a8 c8 w8 r8 k8; have S8 := hide (((unhide S7).app r8 k8).on ((Below.refl _ _).alloc (Nat.le_refl _) (.cells #[.int .u8 85] 5))); have B8 : Hid (Bytes (w8.alloc (.cells #[.int .u8 85] 5)) (some ⟨w8.heap.size, 0, none⟩) [85]) := hide (RB.bytes (RB.of (l := [85]) (n := 1) (heap_alloc_new w8 (.cells #[.int .u8 85] 5)) rfl (by unfold maxLen; omega) rfl (fun j hj => by (obtain rfl : j = 0 := Nat.lt_one_iff.1 hj); rfl))).1; clear r8 k8; go_frame)
    | (at_builtin; refine app_rb rfl _ _ rfl a8 n25 c8 (Larder.headB b ++ Larder.bigN 8 s1 ++ b ++ Larder.bigN 8 s2) rfl (unhide S8).2 (some ⟨w8.heap.size, 0, none⟩) 1 1 rfl [85] rfl (unhide B8) n26 (unhide H26) (by omega) ?_; intro a9 c9 w9 r9 k9; have S9 := hide ((unhide S8).app r9 k9); clear r9 k9; go_frame))
  go_ret
  refine ⟨a9, c9, rfl, hide ?_⟩
  rw [← unhide HF, unhide HH]
  exact unhide S9
end Go.Proofs.Ytljeedgnjgeopaa
