/- Decode: a line's end. -/
import Derived.Test.YtecfgbjnjgjkoaaGreatDoorNumber
import Derived.Test.YtecfgbjnjgjkoaaGreatDoorDcM
import Derived.Test.YtecfgbjnjgjkoaaGreatDoorWrf
import Derived.Test.YtecfgbjnjgjkoaaGreatDoorLiw
import Derived.Deep.RegionHeld3
namespace Go.Proofs.YtecfgbjnjgjkoaaGreatDoor
open Go.ChangeShapes Go.WideShapes Go.ChangeAt Go.RowKit
set_option linter.unusedVariables false
set_option linter.unusedSimpArgs false
set_option maxRecDepth 20000
set_option maxHeartbeats 4000000

/-- number -/
theorem dnumber_any (w : World) (a : Option Addr) (n cp : Nat) (T : List Nat) (lo hi : Int) (hn : n = T.length) (hB : Bytes w a T) (hs : Small T) (hc : n ≤ cp ∧ cp ≤ 9223372036854775807) (hl : n ≤ 140737488355328) (hlo : -9223372036854775808 ≤ lo ∧ lo ≤ 9223372036854775807) (hhi : -9223372036854775808 ≤ hi ∧ hi ≤ 9223372036854775807) :
    Calls Tryz.prog 92 #[.slice a n cp, .int .i64 lo, .int .i64 hi] w fun e w' => e = .returned (.tuple #[.int .i64 ((Larder8.numV lo hi T).getD 0), .bool (Larder8.numV lo hi T).isSome]) ∧ w' = w := by
  subst hn
  have CI := hide (int_any a cp w T hl hs hc.1 hc.2 hB)
  obtain ⟨v, hv⟩ : ∃ v, v = (Larder.intRes T).1 := ⟨_, rfl⟩
  obtain ⟨er, her⟩ : ∃ er, er = (Larder.intRes T).2 := ⟨_, rfl⟩
  have E : Larder8.numV lo hi T = if er = 0 ∧ lo ≤ v ∧ v ≤ hi then some v else none := by rw [hv, her]; rfl
  rw [← hv, ← her] at CI
  rw [E]
  clear hv her E hB hs
  by_cases h0 : er = 0
  · subst h0
    by_cases h1 : lo ≤ v
    · have f1 : decide (v < lo) = false := decide_eq_false (by omega)
      by_cases h2 : v ≤ hi
      · have f2 : decide (hi < v) = false := decide_eq_false (by omega)
        have f2' : decide (v > hi) = false := f2
        rw [if_pos ⟨rfl, h1, h2⟩]
        go_enter Tryz.func92, Tryz.ntmps92
        go_wp2_with (go_at_call 118; refine (unhide CI).mono ?_; rintro e w5 ⟨rfl, h5⟩; subst h5)
        go_ret2
        exact ⟨rfl, rfl⟩
      · have f2 : decide (hi < v) = true := decide_eq_true (by omega)
        have f2' : decide (v > hi) = true := f2
        rw [if_neg (by omega)]
        go_enter Tryz.func92, Tryz.ntmps92
        go_wp2_with (go_at_call 118; refine (unhide CI).mono ?_; rintro e w5 ⟨rfl, h5⟩; subst h5)
        go_ret2
        exact ⟨rfl, rfl⟩
    · have f1 : decide (v < lo) = true := decide_eq_true (by omega)
      rw [if_neg (by omega)]
      go_enter Tryz.func92, Tryz.ntmps92
      go_wp2_with (go_at_call 118; refine (unhide CI).mono ?_; rintro e w5 ⟨rfl, h5⟩; subst h5)
      go_ret2
      exact ⟨rfl, rfl⟩
  · have t0 : ((er : Int) == 0) = false := by rw [beq_eq_false_iff_ne]; omega
    have t0' : ((er : Int) != 0) = true := by rw [bne, t0]; rfl
    rw [if_neg (by omega)]
    go_enter Tryz.func92, Tryz.ntmps92
    go_wp2_with (go_at_call 118; refine (unhide CI).mono ?_; rintro e w5 ⟨rfl, h5⟩; subst h5)
    go_ret2
    exact ⟨rfl, rfl⟩
/-- begun -/
theorem dbegun_any (w : World) (a : Option Addr) (n cp : Nat) (T : List Nat) (lo hi : Int) (hn : n = T.length) (hB : Bytes w a T) (hs : Small T) (hc : n ≤ cp ∧ cp ≤ 9223372036854775807) (hl : n ≤ 140737488355328) (hlo : -9223372036854775808 ≤ lo ∧ lo ≤ 9223372036854775807) (hhi : -9223372036854775808 ≤ hi ∧ hi ≤ 9223372036854775807) :
    Calls Tryz.prog 91 #[.slice a n cp, .int .i64 lo, .int .i64 hi] w fun e w' => e = .returned (.bool (Larder8.begunP lo hi T)) ∧ w' = w := by
  have CN := hide (dnumber_any w a n cp T lo hi hn hB hs hc hl hlo hhi)
  have hcv : (convert 25 9 (.slice a n cp)).run Tryz.prog w = .ok (.string (strOfNums (T.map Int.ofNat))) w := by rw [hn]; exact conv_any a cp w T hB
  have e1 := strs_eq T [] hs (fun i hi => by simp at hi)
  have e2 := strs_eq T [45] hs (fun i hi => by simp at hi; subst hi; decide)
  obtain ⟨S, hS⟩ : ∃ S, S = strOfNums (T.map Int.ofNat) := ⟨_, rfl⟩
  rw [← hS] at hcv e1 e2
  obtain ⟨v, hv⟩ : ∃ v, v = (Larder8.numV lo hi T).getD 0 := ⟨_, rfl⟩
  obtain ⟨q, hq⟩ : ∃ q, q = (Larder8.numV lo hi T).isSome := ⟨_, rfl⟩
  rw [← hv, ← hq] at CN
  have E : Larder8.begunP lo hi T = if T = [] then true else if T = [45] then decide (lo < 0) else q := by rw [hq]; rfl
  rw [E]
  clear E hS hv hq hB hs hn
  have z1 : (strOfNums (([] : List Nat).map Int.ofNat)).toList = [] := by unfold strOfNums; rw [toList_mk1]; rfl
  have z2 : (strOfNums (([45] : List Nat).map Int.ofNat)).toList = [45] := by unfold strOfNums; rw [toList_mk1]; rfl
  rw [z1] at e1
  rw [z2] at e2
  have e1' : S.toList.isEmpty = decide (T = []) := by
    rw [← e1]
    cases S.toList <;> rfl
  clear z1 z2 e1
  by_cases h0 : T = []
  · rw [if_pos h0]
    rw [decide_eq_true h0] at e1'
    clear e2 h0
    go_enter Tryz.func91, Tryz.ntmps91
    go_wp2
    go_ret
    exact ⟨rfl, rfl⟩
  · rw [if_neg h0]
    rw [decide_eq_false h0] at e1'
    by_cases h1 : T = [45]
    · rw [if_pos h1]
      rw [decide_eq_true h1] at e2
      clear h0 h1
      go_enter Tryz.func91, Tryz.ntmps91
      go_wp2
      go_ret
      exact ⟨rfl, rfl⟩
    · rw [if_neg h1]
      rw [decide_eq_false h1] at e2
      clear h0 h1
      go_enter Tryz.func91, Tryz.ntmps91
      go_wp2_with (go_at_call 92; refine (unhide CN).mono ?_; rintro e w5 ⟨rfl, h5⟩; subst h5)
      go_ret
      exact ⟨rfl, rfl⟩
end Go.Proofs.YtecfgbjnjgjkoaaGreatDoor
namespace Go.Proofs.YtecfgbjnjgjkoaaGreatDoor
open Go.ChangeShapes Go.WideShapes Go.ChangeAt Go.RowKit
set_option linter.unusedVariables false
set_option linter.unusedSimpArgs false
set_option maxRecDepth 20000
set_option maxHeartbeats 4000000

/-- a decoder in memory: what is left -/
structure DcAt (w : World) (pd : Nat) (a : Option Addr) (n cp : Nat) (T : List Nat) : Prop where
  box : w.heap[pd]? = some (.cells #[.slice a n cp] 97 (0, 0))
  rst : Rst w a n cp T
  ap : ∀ b off, a = some ⟨b, off, none⟩ → 0 < n → b ≠ pd
  sm : Small T
  so : ∃ b off, a = some ⟨b, off, none⟩ ∧ b < pd
/-- all but the decoder is as it was -/
structure DcK (pd : Nat) (w w' : World) : Prop where
  os : w'.os = w.os
  tape : w'.tape = w.tape
  output : w'.output = w.output
  size : w.heap.size ≤ w'.heap.size
  blk : ∀ k, k < w.heap.size → k ≠ pd → w'.heap[k]? = w.heap[k]?
theorem DcK.refl (pd : Nat) (w : World) : DcK pd w w := ⟨rfl, rfl, rfl, Nat.le_refl _, fun _ _ _ => rfl⟩
theorem DcK.trans {pd : Nat} {a b c : World} (h : DcK pd a b) (k : DcK pd b c) : DcK pd a c := ⟨k.os.trans h.os, k.tape.trans h.tape, k.output.trans h.output, Nat.le_trans h.size k.size, fun q hq hn => (k.blk q (Nat.lt_of_lt_of_le hq h.size) hn).trans (h.blk q hq hn)⟩
theorem DcK.below {pd : Nat} {a b : World} (h : Below a.heap.size a b) : DcK pd a b := ⟨h.os, h.tape, h.output, h.size, fun q hq _ => h.block q hq⟩
theorem DcK.put {pd : Nat} {w : World} {v : Value} : DcK pd w (w.setCell ⟨pd, 0, none⟩ v) := ⟨rfl, rfl, rfl, by simp, fun k _ hn => Bk.setCell_else w pd 0 k v hn⟩
theorem Small.drop {T : List Nat} (h : Small T) (k : Nat) : Small (T.drop k) := fun i hi => by
  have := h (k + i) (by simp at hi; omega)
  simpa [List.getD] using this
theorem Small.take {T : List Nat} (h : Small T) (k : Nat) : Small (T.take k) := fun i hi => by
  simp only [List.length_take] at hi
  have := h i (by omega)
  rw [List.getD_eq_getElem?_getD] at this ⊢
  rw [List.getElem?_take, if_pos (by omega)]
  exact this
theorem Bytes.first {w : World} {a : Option Addr} {T : List Nat} (h : Bytes w a T) (k : Nat) : Bytes w a (T.take k) := by
  rcases h with e | ⟨b, off, e, h1, h2⟩
  · exact .inl (by rw [e]; simp)
  · refine .inr ⟨b, off, e, h1, fun i hi => ?_⟩
    simp only [List.length_take] at hi
    rw [h2 i (by omega), List.getD_eq_getElem?_getD, List.getD_eq_getElem?_getD, List.getElem?_take, if_pos (by omega)]
theorem drew2 (w : World) : Below w.heap.size w w.drew.drew := ⟨rfl, rfl, rfl, Nat.le_refl _, fun _ _ => rfl⟩
/-- what is left moves on -/
theorem DcAt.move {w W : World} {pd b off n cp : Nat} {T : List Nat} (h : DcAt w pd (some ⟨b, off, none⟩) n cp T) (hb : Below w.heap.size w W) (k : Nat) (a' : Option Addr) (hk : k ≤ n) (ha : a' = some ⟨b, off + k, none⟩ ∨ cp = k ∧ a' = some ⟨b, off, none⟩) : DcAt (W.setCell ⟨pd, 0, none⟩ (.slice a' (n - k) (cp - k))) pd a' (n - k) (cp - k) (T.drop k) := by
  have hbx : W.heap[pd]? = some (.cells #[.slice (some ⟨b, off, none⟩) n cp] 97 (0, 0)) := (hb.block pd (block_lt h.box)).trans h.box
  have hl := h.rst.len
  have hle := h.rst.le
  have htop := h.rst.top
  have hby : Bytes (W.setCell ⟨pd, 0, none⟩ (.slice a' (n - k) (cp - k))) a' (T.drop k) := by
    rcases Nat.eq_zero_or_pos (n - k) with q | q
    · exact .inl (List.drop_eq_nil_of_le (by omega))
    · have hne := h.ap b off rfl (by omega)
      obtain rfl : a' = some ⟨b, off + k, none⟩ := by
        rcases ha with e | e
        · exact e
        · omega
      rcases (h.rst.bytes.below hb).drop (i := k) with e | ⟨b', off', e, h1, h2⟩
      · exact .inl e
      · cases e
        refine .inr ⟨b, off + k, rfl, by simpa using h1, fun i hi => ?_⟩
        rw [World.cell?_setCell_other _ _ _ _ (fun e => hne (by injection e with e1 e2; exact e1.symm))]
        exact h2 i hi
  refine ⟨?_, ⟨hby, by simp; omega, by omega, by omega⟩, fun b' off' e h0 => ?_, h.sm.drop k, by obtain ⟨b2, off2, e2, hlt⟩ := h.so; cases e2; rcases ha with e | ⟨_, e⟩ <;> exact ⟨_, _, e, hlt⟩⟩
  · rw [Bk.setCell_block W pd 0 _ _ _ _ hbx]; rfl
  · have hne := h.ap b off rfl (by omega)
    rcases ha with e2 | ⟨_, e2⟩ <;> (rw [e2] at e; cases e; exact hne)
theorem end_any (w : World) (pd : Nat) (a : Option Addr) (n cp : Nat) (T : List Nat) (h : DcAt w pd a n cp T) :
    Calls Tryz.prog 89 #[.pointer (some ⟨pd, 0, none⟩)] w fun e w' => e = .returned (.int .i64 (Larder8.endP T).err) ∧ Hid (DcK pd w w' ∧ ∀ r, Larder8.endP T = .ok () r → ∃ a' n' cp', DcAt w' pd a' n' cp' r) := by
  have c0 : w.cell? ⟨pd, 0, none⟩ = some (.slice a n cp) := by rw [cell_of_row _ _ _ _ _ _ h.box]; rfl
  have f0 : w.frozen? ⟨pd, 0, none⟩ = false := by simp only [World.frozen?, h.box]; simp
  have hr3 : T = [] ∨ (∃ c, T = [c]) ∨ ∃ c d r, T = c :: d :: r := by
    match T with
    | [] => exact .inl rfl
    | [c] => exact .inr (.inl ⟨c, rfl⟩)
    | c :: d :: r2 => exact .inr (.inr ⟨c, d, r2, rfl⟩)
  have hle := h.rst.le
  have htop := h.rst.top
  have hlen := h.rst.len
  rcases hr3 with rfl | ⟨c, rfl⟩ | ⟨c, d, r, rfl⟩
  · simp only [List.length_nil] at hlen
    subst hlen
    have hcv : ∀ W : World, (convert 25 9 (.slice a 0 cp)).run Tryz.prog W = .ok (.string ⟨#[]⟩) W := fun W => conv_any a cp W [] (.inl rfl)
    have E : Larder8.endP [] = .short := rfl
    rw [E]
    clear E h
    have hmn : min (0 : Int) 2 = 0 := by decide
    go_enter Tryz.func89, Tryz.ntmps89
    go_wp2_with fail
    go_region_held3 (fun w' => w'.cell? ⟨pd, 0, none⟩ = some (.slice a 0 cp)) (go_keep) (fail)
    go_wp2_with fail
    have c1 : w.drew.cell? ⟨pd, 0, none⟩ = some (.slice a 0 cp) := c0
    generalize hwd : w.drew = wd at *
    go_region_held3 (fun w' => w'.cell? ⟨pd, 0, none⟩ = some (.slice a 0 cp)) (go_keep) (fail)
    have hw2 := drew2 w
    rw [hwd] at hw2
    go_wp2
    go_ret
    exact ⟨rfl, hide ⟨DcK.below hw2, fun r hr => (by cases hr)⟩⟩
  · simp only [List.length_cons, List.length_nil] at hlen
    subst hlen
    have hmn : min (1 : Int) 2 = 1 := by decide
    have g1 : (1 : Int) ≤ (cp : Int) := by omega
    have hx1 : ((⟨#[13, 10]⟩ : ByteArray).extract 0 1).toList = [13] := by decide +kernel
    have hw2 := drew2 w
    have hcv := conv_any a cp w.drew.drew [c] (h.rst.bytes.below hw2)
    have es := strs_eq [c] [13] h.sm (fun i hi => by simp at hi; subst hi; decide)
    have z2 : (strOfNums (([13] : List Nat).map Int.ofNat)).toList = [13] := by unfold strOfNums; rw [toList_mk1]; rfl
    rw [z2] at es
    simp only [List.length_cons, List.length_nil, Nat.zero_add] at hcv
    obtain ⟨S, hS⟩ : ∃ S, S = strOfNums (([c] : List Nat).map Int.ofNat) := ⟨_, rfl⟩
    rw [← hS] at hcv es
    clear hS z2
    by_cases h13 : c = 13
    · have E : Larder8.endP [c] = .short := by rw [h13]; rfl
      rw [E]
      have es2 : (S.toList == [13]) = true := by rw [es, h13]; decide
      have es3 : (S.toList != [13]) = false := by rw [bne, es2]; rfl
      clear E h h13 es
      go_enter Tryz.func89, Tryz.ntmps89
      go_wp2_with fail
      go_region_held3 (fun w' => w'.cell? ⟨pd, 0, none⟩ = some (.slice a 1 cp)) (go_keep) (fail)
      go_wp2_with fail
      have c1 : w.drew.cell? ⟨pd, 0, none⟩ = some (.slice a 1 cp) := c0
      have f1 : w.drew.frozen? ⟨pd, 0, none⟩ = false := f0
      generalize hwd : w.drew = wd at *
      go_region_held3 (fun w' => (convert 25 9 (.slice a 1 cp)).run Tryz.prog w' = .ok (.string S) w') (go_keep) (fail)
      go_wp2
      go_ret
      exact ⟨rfl, hide ⟨DcK.below hw2, fun r hr => (by cases hr)⟩⟩
    · have E : Larder8.endP [c] = .wrong := by simp [Larder8.endP, h13]
      rw [E]
      have es2 : (S.toList == [13]) = false := by rw [es]; exact decide_eq_false (by simpa using h13)
      have es3 : (S.toList != [13]) = true := by rw [bne, es2]; rfl
      clear E h h13 es
      go_enter Tryz.func89, Tryz.ntmps89
      go_wp2_with fail
      go_region_held3 (fun w' => w'.cell? ⟨pd, 0, none⟩ = some (.slice a 1 cp)) (go_keep) (fail)
      go_wp2_with fail
      have c1 : w.drew.cell? ⟨pd, 0, none⟩ = some (.slice a 1 cp) := c0
      have f1 : w.drew.frozen? ⟨pd, 0, none⟩ = false := f0
      generalize hwd : w.drew = wd at *
      go_region_held3 (fun w' => (convert 25 9 (.slice a 1 cp)).run Tryz.prog w' = .ok (.string S) w') (go_keep) (fail)
      go_wp2
      go_ret
      exact ⟨rfl, hide ⟨DcK.below hw2, fun r hr => (by cases hr)⟩⟩
  · simp only [List.length_cons] at hlen
    obtain ⟨b, off, rfl, hb, hcell⟩ := h.rst.at (by omega)
    have hmn : min (n : Int) 2 = 2 := by omega
    have g1 : (2 : Int) ≤ (cp : Int) := by omega
    have g2 : (2 : Int) ≤ (n : Int) := by omega
    have hx1 : ((⟨#[13, 10]⟩ : ByteArray).extract 0 2).toList = [13, 10] := by decide +kernel
    have hw2 := drew2 w
    have hcv := conv_any (some ⟨b, off, none⟩) cp w.drew.drew [c, d] ((Bytes.first (h.rst.bytes.below hw2) 2))
    have hsm : Small [c, d] := h.sm.take 2
    have es := strs_eq [c, d] [13, 10] hsm (fun i hi => by
      have : i = 0 ∨ i = 1 := by simp at hi; omega
      rcases this with rfl | rfl <;> decide)
    have z2 : (strOfNums (([13, 10] : List Nat).map Int.ofNat)).toList = [13, 10] := by unfold strOfNums; rw [toList_mk1]; rfl
    rw [z2] at es
    simp only [List.length_cons, List.length_nil, Nat.zero_add, Nat.reduceAdd] at hcv
    obtain ⟨S, hS⟩ : ∃ S, S = strOfNums (([c, d] : List Nat).map Int.ofNat) := ⟨_, rfl⟩
    rw [← hS] at hcv es
    clear hS z2 hsm
    obtain ⟨a, ha⟩ : ∃ a, a = some (⟨b, off, none⟩ : Addr) := ⟨_, rfl⟩
    by_cases h13 : c = 13 ∧ d = 10
    · have E : Larder8.endP (c :: d :: r) = .ok () r := by simp [Larder8.endP, h13]
      rw [E]
      have es2 : (S.toList == [13, 10]) = true := by rw [es, h13.1, h13.2]; decide
      have es3 : (S.toList != [13, 10]) = false := by rw [bne, es2]; rfl
      have HD := hide h
      have c1' : w.drew.drew.cell? ⟨pd, 0, none⟩ = some (.slice (some ⟨b, off, none⟩) n cp) := c0
      have f1' : w.drew.drew.frozen? ⟨pd, 0, none⟩ = false := f0
      have hn2 : 2 ≤ n := by omega
      clear E h h13 es hcell hlen
      go_enter Tryz.func89, Tryz.ntmps89
      go_wp2_with fail
      go_region_held3 (fun w' => w'.cell? ⟨pd, 0, none⟩ = some (.slice (some ⟨b, off, none⟩) n cp)) (go_keep) (fail)
      go_wp2_with fail
      have c1 : w.drew.cell? ⟨pd, 0, none⟩ = some (.slice (some ⟨b, off, none⟩) n cp) := c0
      have f1 : w.drew.frozen? ⟨pd, 0, none⟩ = false := f0
      generalize hwd : w.drew = wd at *
      go_region_held3 (fun w' => (convert 25 9 (.slice (some ⟨b, off, none⟩) 2 cp)).run Tryz.prog w' = .ok (.string S) w') (go_keep) (fail)
      have FIN : Hid (∀ a', (a' = some ⟨b, off + 2, none⟩ ∨ cp = 2 ∧ a' = some ⟨b, off, none⟩) → DcK pd w ((wd.setCell ⟨pd, 0, none⟩ (.slice a' (n - 2) (cp - 2))).drew) ∧ ∃ a'' n'' cp'', DcAt ((wd.setCell ⟨pd, 0, none⟩ (.slice a' (n - 2) (cp - 2))).drew) pd a'' n'' cp'' r) := hide (fun a' ha => by
        have h1 : DcAt (wd.drew.setCell ⟨pd, 0, none⟩ (.slice a' (n - 2) (cp - 2))) pd a' (n - 2) (cp - 2) r := (unhide HD).move hw2 2 a' hn2 ha
        have h2 : DcK pd w (wd.drew.setCell ⟨pd, 0, none⟩ (.slice a' (n - 2) (cp - 2))) := (DcK.below hw2).trans DcK.put
        exact ⟨h2, _, _, _, h1⟩)
      go_wp2
      all_goals go_ret
      · rename_i hcp
        exact ⟨rfl, hide (by have := unhide FIN (some ⟨b, off, none⟩) (.inr ⟨by omega, rfl⟩); rw [show cp - 2 = 0 by omega] at this; exact this)⟩
      · exact ⟨rfl, hide (unhide FIN (some ⟨b, off + 2, none⟩) (.inl rfl))⟩
    · have E : Larder8.endP (c :: d :: r) = .wrong := by simp [Larder8.endP, h13]
      rw [E]
      have es2 : (S.toList == [13, 10]) = false := by rw [es]; exact decide_eq_false (by simpa using h13)
      have es3 : (S.toList != [13, 10]) = true := by rw [bne, es2]; rfl
      clear E h h13 es hcell hlen
      go_enter Tryz.func89, Tryz.ntmps89
      go_wp2_with fail
      go_region_held3 (fun w' => w'.cell? ⟨pd, 0, none⟩ = some (.slice (some ⟨b, off, none⟩) n cp)) (go_keep) (fail)
      go_wp2_with fail
      have c1 : w.drew.cell? ⟨pd, 0, none⟩ = some (.slice (some ⟨b, off, none⟩) n cp) := c0
      have f1 : w.drew.frozen? ⟨pd, 0, none⟩ = false := f0
      generalize hwd : w.drew = wd at *
      go_region_held3 (fun w' => (convert 25 9 (.slice (some ⟨b, off, none⟩) 2 cp)).run Tryz.prog w' = .ok (.string S) w') (go_keep) (fail)
      go_wp2
      go_ret
      exact ⟨rfl, hide ⟨DcK.below hw2, fun r hr => (by cases hr)⟩⟩
end Go.Proofs.YtecfgbjnjgjkoaaGreatDoor
