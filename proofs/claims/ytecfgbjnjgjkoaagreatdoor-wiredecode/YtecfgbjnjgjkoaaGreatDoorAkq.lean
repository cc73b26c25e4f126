/- all: every Decode of a script. -/
import Derived.Test.YtecfgbjnjgjkoaaGreatDoorPfb
import Derived.Test.YtecfgbjnjgjkoaaGreatDoorBkb
import Derived.Test.YtecfgbjnjgjkoaaGreatDoorAka
import Derived.Test.YtecfgbjnjgjkoaaGreatDoorTds
import Derived.Test.YtecfgbjnjgjkoaaGreatDoorDcy
import Derived.Test.YtecfgbjnjgjkoaaGreatDoorHvt
import Derived.Test.YtecfgbjnjgjkoaaGreatDoorWrb
import Derived.Test.YtecfgbjnjgjkoaaGreatDoorAkd
namespace Go.Proofs.YtecfgbjnjgjkoaaGreatDoor
open Larder8
set_option linter.unusedVariables false
set_option linter.unusedSimpArgs false
set_option maxRecDepth 20000

theorem listP_size {α : Type} {f : List Nat → St α} {g : α → Nat} (hf : ∀ b x r, f b = .ok x r → g x + 4 * r.length ≤ 4 * b.length) : ∀ (n : Nat) (b : List Nat) (l : List α) (r : List Nat), listP f n b = .ok l r → (l.map g).sum + 4 * r.length ≤ 4 * b.length
  | 0, b, l, r, h => by unfold listP at h; cases h; simp
  | n + 1, b, l, r, h => by
    unfold listP at h
    cases hb : f b with
    | short => rw [hb] at h; cases h
    | wrong => rw [hb] at h; cases h
    | ok y s =>
      rw [hb] at h
      simp only at h
      obtain ⟨z, h1, rfl⟩ := map_ok h
      have q1 := listP_size hf n s z r h1
      have q2 := hf _ _ _ hb
      simp only [List.map_cons, List.sum_cons]
      omega
/-- four for each byte at most -/
theorem repP_size : ∀ (d : Nat) (b : List Nat) (x : Tr d) (r : List Nat), repP d b = .ok x r → sz d x + 4 * r.length ≤ 4 * b.length
  | 0, b, x, r, h => by cases h
  | d + 1, [], x, r, h => by cases h
  | d + 1, m :: b, x, r, h => by
    unfold repP at h
    split at h
    · obtain ⟨t, h1, rfl⟩ := map_ok h
      have q1 := congrArg List.length (lineP_text h1).1
      simp [sz, mkR, Tr.nd] at q1 ⊢
      omega
    split at h
    · obtain ⟨t, h1, rfl⟩ := map_ok h
      have q1 := congrArg List.length (lineP_text h1).1
      simp [sz, mkR, Tr.nd] at q1 ⊢
      omega
    split at h
    · obtain ⟨n, h1, rfl⟩ := map_ok h
      have q1 := congrArg List.length (numP_text h1).1
      simp [sz, mkR, Tr.nd] at q1 ⊢
      omega
    split at h
    · obtain ⟨o, h1, rfl⟩ := map_ok h
      cases o with
      | none =>
        have q1 := congrArg List.length (bulkP_none h1)
        simp [sz, mkR, Tr.nd] at q1 ⊢
        omega
      | some t =>
        have q1 := congrArg List.length (bulkP_some h1).1
        simp [sz, mkR, Tr.nd] at q1 ⊢
        omega
    split at h
    · unfold arrP at h
      cases hn : numP (-1) (if d = 0 then -1 else 65536) b with
      | short => rw [hn] at h; cases h
      | wrong => rw [hn] at h; cases h
      | ok n s =>
        rw [hn] at h
        have q1 := congrArg List.length (numP_text hn).1
        simp only at h
        split at h
        · cases h
          simp [sz, mkR, Tr.nd] at q1 ⊢
          omega
        · obtain ⟨l, h1, rfl⟩ := map_ok h
          have p1 := listP_size (g := sz d) (fun b x r hx => repP_size d b x r hx) _ _ _ _ h1
          have e : sz (d + 1) (mkR 6 0 [] l) = 10 + 0 + (l.map (sz d)).sum := rfl
          rw [e]
          simp at q1 ⊢
          omega
    · cases h
end Go.Proofs.YtecfgbjnjgjkoaaGreatDoor
namespace Go.Proofs.YtecfgbjnjgjkoaaGreatDoor
open Go.ChangeShapes Go.WideShapes Go.ChangeAt Go.RowKit Larder8
set_option linter.unusedVariables false
set_option linter.unusedSimpArgs false
set_option maxRecDepth 20000
set_option maxHeartbeats 4000000

/-- its numbers are numbers -/
def RngN : (d : Nat) → Tr d → Prop
  | 0, _ => True
  | d + 1, x => (-9223372036854775808 ≤ x.nd.n ∧ x.nd.n ≤ 9223372036854775807) ∧ ∀ y ∈ x.nd.l, RngN d y
theorem RngN.leaf {d : Nat} (k n : Int) (t : List Nat) (h : -9223372036854775808 ≤ n ∧ n ≤ 9223372036854775807) : RngN (d + 1) (mkR k n t []) := ⟨h, fun y hy => by cases hy⟩
/-- what a reply that was read is: its text, that it may be written, that its numbers are numbers -/
def ReadOk2 (d : Nat) (x : Tr d) (b r : List Nat) : Prop := encL d x ++ r = b ∧ encL d x ≠ [] ∧ (d ≤ 9 → fitB d x (9 - d) = true) ∧ RngN d x
theorem repP_read : ∀ (d : Nat) (b : List Nat) (x : Tr d) (r : List Nat), repP d b = .ok x r → ReadOk2 d x b r
  | 0, b, x, r, h => by cases h
  | d + 1, [], x, r, h => by cases h
  | d + 1, m :: b, x, r, h => by
    unfold repP at h
    split at h
    · rename_i hm
      subst hm
      obtain ⟨t, h1, rfl⟩ := map_ok h
      obtain ⟨q1, q2, q3⟩ := lineP_text h1
      refine ⟨?_, by simp [encL, mkR, Tr.nd, encK], fun _ => ?_, .leaf _ _ _ ⟨by decide, by decide⟩⟩
      · show ([43] ++ t ++ [13, 10]) ++ r = 43 :: b
        rw [← q1]; simp
      · show fitK 1 0 t 0 _ = true
        unfold fitK crlf
        rw [if_pos (.inl rfl)]
        simp [q2, q3]
    split at h
    · rename_i hm
      subst hm
      obtain ⟨t, h1, rfl⟩ := map_ok h
      obtain ⟨q1, q2, q3⟩ := lineP_text h1
      refine ⟨?_, by simp [encL, mkR, Tr.nd, encK], fun _ => ?_, .leaf _ _ _ ⟨by decide, by decide⟩⟩
      · show ([45] ++ t ++ [13, 10]) ++ r = 45 :: b
        rw [← q1]; simp
      · show fitK 2 0 t 0 _ = true
        unfold fitK crlf
        rw [if_pos (.inr rfl)]
        simp [q2, q3]
    split at h
    · rename_i hm
      subst hm
      obtain ⟨n, h1, rfl⟩ := map_ok h
      obtain ⟨q1, q2, q3, q4, q5⟩ := numP_text h1
      refine ⟨?_, by simp [encL, mkR, Tr.nd, encK, numL], fun _ => ?_, .leaf _ _ _ ⟨q4, q5⟩⟩
      · show numL 58 n ++ r = 58 :: b
        rw [← q1]; simp [numL]
      · show fitK 3 n [] 0 _ = true
        unfold fitK
        simp
    split at h
    · rename_i hm
      subst hm
      obtain ⟨o, h1, rfl⟩ := map_ok h
      cases o with
      | none =>
        have q1 := bulkP_none h1
        refine ⟨?_, by simp [encL, mkR, Tr.nd, encK, numL], fun _ => ?_, .leaf _ _ _ ⟨by decide, by decide⟩⟩
        · show numL 36 (-1) ++ r = 36 :: b
          rw [← q1]; simp [numL]
        · show fitK 5 0 [] 0 _ = true
          unfold fitK
          simp
      | some t =>
        obtain ⟨q1, q2⟩ := bulkP_some h1
        refine ⟨?_, by simp [encL, mkR, Tr.nd, encK, textL, numL], fun _ => ?_, .leaf _ _ _ ⟨by decide, by decide⟩⟩
        · show textL t ++ r = 36 :: b
          rw [← q1]; simp [textL, numL]
        · show fitK 4 0 t 0 _ = true
          unfold fitK
          simp [q2]
    split at h
    · rename_i hm
      subst hm
      unfold arrP at h
      cases hn : numP (-1) (if d = 0 then -1 else 65536) b with
      | short => rw [hn] at h; cases h
      | wrong => rw [hn] at h; cases h
      | ok n s =>
        rw [hn] at h
        obtain ⟨q1, q2, q3, q4, q5⟩ := numP_text hn
        simp only at h
        split at h
        · rename_i hn1
          subst hn1
          cases h
          refine ⟨?_, by simp [encL, mkR, Tr.nd, encK, numL], fun _ => ?_, .leaf _ _ _ ⟨by decide, by decide⟩⟩
          · show numL 42 (-1) ++ r = 42 :: b
            rw [← q1]; simp [numL]
          · show fitK 7 0 [] 0 _ = true
            unfold fitK
            simp
        · rename_i hn1
          obtain ⟨l, h1, rfl⟩ := map_ok h
          obtain ⟨p1, p2⟩ := listP_text (E := encL d) (fun b x r hx => (repP_read d b x r hx).1) _ _ _ _ h1
          have p3 := listP_all (Q := fun x => d ≤ 9 → fitB d x (9 - d) = true) (fun b x r hx => (repP_read d b x r hx).2.2.1) _ _ _ _ h1
          have p4 := listP_all (Q := RngN d) (fun b x r hx => (repP_read d b x r hx).2.2.2) _ _ _ _ h1
          have hnn : ((n.toNat : Nat) : Int) = n := Int.toNat_of_nonneg (by omega)
          refine ⟨?_, by simp [encL, mkR, Tr.nd, encK, numL], fun hd => ?_, ⟨⟨by show (-9223372036854775808 : Int) ≤ 0; decide, by show (0 : Int) ≤ 9223372036854775807; decide⟩, p4⟩⟩
          · show (numL 42 ((l.length : Nat) : Int) ++ (l.map (encL d)).flatten) ++ r = 42 :: b
            rw [p2, hnn, ← q1, List.append_assoc, p1]
            simp [numL]
          · show fitK 6 0 [] l.length (decide ((9 - (d + 1)) + 1 ≤ 8) && decide (l.length ≤ 65536) && l.all (fun y => fitB d y ((9 - (d + 1)) + 1))) = true
            have e9 : 9 - (d + 1) + 1 = 9 - d := by omega
            have hd0 : d ≠ 0 := by
              intro e
              subst e
              simp only [if_pos] at q3
              omega
            rw [if_neg hd0] at q3
            have hall : l.all (fun y => fitB d y (9 - d)) = true := List.all_eq_true.2 (fun y hy => p3 y hy (by omega))
            have h8 : decide (9 - d ≤ 8) = true := decide_eq_true (by omega)
            have h6 : decide (l.length ≤ 65536) = true := decide_eq_true (by omega)
            rw [e9, hall, h8, h6]
            rfl
    · cases h
theorem sum_enc {α : Type} (f : α → List Nat) (g : α → Nat) : ∀ (l : List α), (∀ y ∈ l, g y ≤ 4 * (f y).length) → (l.map g).sum ≤ 4 * (l.map f).flatten.length
  | [], _ => by simp
  | x :: l, h => by
    have h1 := h x (List.mem_cons_self ..)
    have h2 := sum_enc f g l (fun y hy => h y (List.mem_cons_of_mem _ hy))
    simp only [List.map_cons, List.flatten_cons, List.length_append, List.sum_cons]
    omega
/-- a reply that may be written is not much greater than its bytes -/
theorem fit_size : ∀ (d : Nat) (x : Tr d) (i : Nat), fitB d x i = true → sz d x ≤ 4 * (encL d x).length
  | 0, x, i, h => by cases h
  | d + 1, x, i, h => by
    unfold fitB fitK at h
    show 10 + x.nd.t.length + (x.nd.l.map (sz d)).sum ≤ 4 * (encK _ _ _ _ _).length
    unfold encK
    split at h
    · rename_i hk
      simp only [Bool.and_eq_true, decide_eq_true_eq] at h
      have hl : x.nd.l = [] := List.eq_nil_of_length_eq_zero h.1.1.2
      rcases hk with hk | hk <;> simp [hk, hl] <;> omega
    split at h
    · rename_i h1 hk
      simp only [Bool.and_eq_true, decide_eq_true_eq] at h
      have hl : x.nd.l = [] := List.eq_nil_of_length_eq_zero h.2
      simp [hk, hl, numL, h.1] ; omega
    split at h
    · rename_i h1 h2 hk
      simp only [Bool.and_eq_true, decide_eq_true_eq] at h
      have hl : x.nd.l = [] := List.eq_nil_of_length_eq_zero h.1.2
      simp [hk, hl, textL, numL]; omega
    split at h
    · rename_i h1 h2 h3 hk
      simp only [Bool.and_eq_true, decide_eq_true_eq] at h
      have hl : x.nd.l = [] := List.eq_nil_of_length_eq_zero h.2
      rcases hk with hk | hk <;> simp [hk, hl, numL, h.1.2] <;> omega
    split at h
    · rename_i h1 h2 h3 h4 hk
      simp only [Bool.and_eq_true, decide_eq_true_eq] at h
      have hs := sum_enc (encL d) (sz d) x.nd.l (fun y hy => fit_size d y (i + 1) (List.all_eq_true.1 h.2.2 y hy))
      have ht := h.1.2
      simp only [hk]
      simp [numL, ht]
      simp at hs
      omega
    · cases h
theorem OwnB.le {w : World} {base : Nat} {v : Value} {l : List Nat} (h : OwnB w base v l) : ∃ a cap, v = .slice a l.length cap ∧ Bytes w a l ∧ l.length ≤ cap := by
  obtain ⟨a, cap, hv, hB, h0⟩ := h.shape
  refine ⟨a, cap, hv, hB, ?_⟩
  rcases h.2 with ⟨e, hn⟩ | ⟨g, c, cur, e, hb, hg, hnc, _⟩
  · rw [hn]; exact Nat.zero_le _
  · rw [hv] at e
    cases e
    exact hnc
/-- a reply that owns its memory lies in memory -/
theorem DrAt.rp {w : World} : ∀ {d : Nat} {S : Nat → Prop} {x : Tr d} {v0 v1 v2 v3 : Value} (i : Nat), DrAt w d S x v0 v1 v2 v3 → fitB d x i = true → RngN d x → RpAt w d x v0 v1 v2 v3
  | 0, _, _, _, _, _, _, i, h, _, _ => h
  | d + 1, S, x, v0, v1, v2, v3, i, ⟨h0, h1, ⟨h2, h3, h4⟩, f, h5, h6, Q, h8, h9, h7⟩, hf, hr => by
    obtain ⟨a, cap, e2, hB, hle⟩ := h2.le
    have hk : (1 ≤ x.nd.k ∧ x.nd.k ≤ 7) ∧ x.nd.t.length ≤ 4096 ∧ x.nd.l.length ≤ 65536 ∧ ∀ y ∈ x.nd.l, fitB d y (i + 1) = true := by
      unfold fitB fitK at hf
      have nol : x.nd.l.length = 0 → ∀ y ∈ x.nd.l, fitB d y (i + 1) = true := fun e y hy => by
        rw [List.eq_nil_of_length_eq_zero e] at hy
        cases hy
      split at hf
      · rename_i hk
        simp only [Bool.and_eq_true, decide_eq_true_eq] at hf
        exact ⟨by omega, by omega, by omega, nol hf.1.1.2⟩
      split at hf
      · rename_i h1 hk
        simp only [Bool.and_eq_true, decide_eq_true_eq] at hf
        exact ⟨by omega, by omega, by omega, nol hf.2⟩
      split at hf
      · rename_i h1 h2 hk
        simp only [Bool.and_eq_true, decide_eq_true_eq] at hf
        exact ⟨by omega, by omega, by omega, nol hf.1.2⟩
      split at hf
      · rename_i h1 h2 h3 hk
        simp only [Bool.and_eq_true, decide_eq_true_eq] at hf
        exact ⟨by omega, by omega, by omega, nol hf.2⟩
      split at hf
      · rename_i h1 h2 h3 h4 hk
        simp only [Bool.and_eq_true, decide_eq_true_eq] at hf
        exact ⟨by omega, by omega, hf.2.1.2, fun y hy => List.all_eq_true.1 hf.2.2 y hy⟩
      · cases hf
    obtain ⟨hk1, hk2, hk3, hk4⟩ := hk
    refine ⟨⟨h0, by omega, by omega⟩, ⟨h1, hr.1⟩, ⟨a, cap, e2, hB, h3, by omega, hle⟩, ?_⟩
    rcases h5 with ⟨e, hn⟩ | ⟨b, c, cur, e, hg, hnc, hcm, hcs, hc⟩
    · exact ⟨none, 0, by rw [hn]; exact e, by omega, .inl (List.eq_nil_of_length_eq_zero hn)⟩
    · refine ⟨_, _, e, by omega, .inr ⟨b, 0, rfl, block_lt hg, fun j y hj => ?_⟩⟩
      have hj2 : j < x.nd.l.length := (List.getElem?_eq_some_iff.1 hj).1
      have hy : y ∈ x.nd.l := List.mem_of_getElem? hj
      refine ⟨f (j * 4), f (j * 4 + 1), f (j * 4 + 2), f (j * 4 + 3), ?_, ?_, ?_, ?_, (h7 j y hj).rp (i + 1) (hk4 y hy) (hr.2 y hy)⟩
      all_goals
        rw [cell_of_row _ _ _ _ _ _ hg]
        simp only [Nat.zero_add]
        exact hc _ (by omega)
/-- EqReply of two empty replies -/
theorem eqr_zero (w : World) (tc lc : Nat) : Calls Tryz.prog 30 #[.agg #[.int .i64 0, .int .i64 0, .slice none 0 tc, .slice none 0 lc], .agg #[.int .i64 0, .int .i64 0, .slice none 0 0, .slice none 0 0]] w fun e w' => e = .returned (.bool true) ∧ Hid (Below w.heap.size w w') :=
  eqr_walk w 0 0 none none none none 0 tc 0 0 lc 0 (by omega) (by omega) (hide (fun W hW => by
    have h := cmp_any (w := W) (a := none) (b := none) (c1 := tc) (c2 := 0) (la := []) (lb := []) (by simp) (by simp) (.inl rfl) (.inl rfl)
    exact h.mono (fun e w' k => ⟨k.1, hide k.2.below⟩))) (hide (fun i hi => absurd hi (by omega)))
end Go.Proofs.YtecfgbjnjgjkoaaGreatDoor
namespace Go.Proofs.YtecfgbjnjgjkoaaGreatDoor
open Go.ChangeShapes Go.WideShapes Go.ChangeAt Go.RowKit
set_option linter.unusedVariables false
set_option linter.unusedSimpArgs false
set_option maxRecDepth 20000
set_option maxHeartbeats 4000000

structure E2 (W W2 : World) (C : Array Value) (S : Nat) : Prop where
  bel : Below (W.heap.size + 1) (W.alloc (.cells C 52)) W2
  few : S ≤ 16777216
theorem E2.old {W W2 : World} {C : Array Value} {S : Nat} (h : E2 W W2 C S) : Below W.heap.size W W2 := ((Below.refl W.heap.size W).alloc (Nat.le_refl _) _).trans (h.bel.mono (Nat.le_succ _))
theorem E2.cell {W W2 : World} {C : Array Value} {S : Nat} (h : E2 W W2 C S) (j : Nat) (v : Value) (hv : C[j]? = some v) : W2.cell? ⟨W.heap.size, j, none⟩ = some v := by
  rw [h.bel.cell (Nat.lt_succ_self _), cell_of_row _ _ _ _ _ _ (heap_alloc_new W _)]; exact hv
theorem E2.below {W W2 W3 : World} {C : Array Value} {S : Nat} (h : E2 W W2 C S) (hb : Below W2.heap.size W2 W3) : E2 W W3 C S := ⟨h.bel.trans (hb.mono (by have := h.bel.size; simp at this; omega)), h.few⟩
theorem E2.lt {W W2 : World} {C : Array Value} {S : Nat} (h : E2 W W2 C S) : W.heap.size < W2.heap.size := by
  have := h.bel.size
  simp at this
  omega
end Go.Proofs.YtecfgbjnjgjkoaaGreatDoor
namespace Go.Proofs.YtecfgbjnjgjkoaaGreatDoor
open Go.ChangeShapes Go.WideShapes Go.ChangeAt Go.RowKit
set_option linter.unusedVariables false
set_option linter.unusedSimpArgs false
set_option maxRecDepth 20000
set_option maxHeartbeats 4000000

/-- EqReply of two empty replies -/
theorem eqr_zero2 (w : World) (tc lc td ld : Nat) : Calls Tryz.prog 30 #[.agg #[.int .i64 0, .int .i64 0, .slice none 0 tc, .slice none 0 lc], .agg #[.int .i64 0, .int .i64 0, .slice none 0 td, .slice none 0 ld]] w fun e w' => e = .returned (.bool true) ∧ Hid (Below w.heap.size w w') :=
  eqr_walk w 0 0 none none none none 0 tc td 0 lc ld (by omega) (by omega) (hide (fun W hW => by
    have h := cmp_any (w := W) (a := none) (b := none) (c1 := tc) (c2 := td) (la := []) (lb := []) (by simp) (by simp) (.inl rfl) (.inl rfl)
    exact h.mono (fun e w' k => ⟨k.1, hide k.2.below⟩))) (hide (fun i hi => absurd hi (by omega)))
theorem E2.kept {W W2 W3 : World} {C : Array Value} {S g : Nat} (h : E2 W W2 C S) (hk : Kept1 g W2 W3) (hg : W.heap.size < g) : E2 W W3 C S :=
  ⟨h.bel.trans ⟨hk.os, hk.tape, hk.output, by rw [hk.size]; exact Nat.le_refl _, fun b hb => hk.blk b (by omega)⟩, h.few⟩
/-- behind spare -/
structure F3 (W W2 W3 : World) (C : Array Value) (D : List Nat) (n : Nat) : Prop where
  s2 : E2 W W2 C 0
  bel : Below W2.heap.size W2 W3
  row : Rws W3 5 1 (.slice (some ⟨W2.heap.size, 0, none⟩) (n + 3) (n + 3)) (n + 3) (byV (D ++ [7, 7, 7]))
  len : n = D.length
theorem F3.now {W W2 W3 : World} {C : Array Value} {D : List Nat} {n : Nat} (h : F3 W W2 W3 C D n) : E2 W W3 C 0 := h.s2.below h.bel
theorem F3.g {W W2 W3 : World} {C : Array Value} {D : List Nat} {n : Nat} (h : F3 W W2 W3 C D n) : W.heap.size < W2.heap.size ∧ W2.heap.size < W3.heap.size := ⟨h.s2.lt, h.row.lt _ rfl⟩
/-- how many bytes are read -/
def readN (D : List Nat) : Int := match repP 9 D with
  | .ok _ r => (D.length : Int) - (r.length : Int)
  | _ => 0
/-- what a Decode answers, behind base -/
def Rep9 (W : World) (base : Nat) (D : List Nat) (v0 v1 v2 v3 : Value) : Prop := (∀ x r, repP 9 D = .ok x r → DrAt W 9 (fun b => base ≤ b) x v0 v1 v2 v3) ∧ ((∀ x r, repP 9 D ≠ .ok x r) → v0 = .int .i64 0 ∧ v1 = .int .i64 0 ∧ ∃ tc lc, v2 = .slice none 0 tc ∧ v3 = .slice none 0 lc)
theorem Rep9.same {W W' : World} {base : Nat} {D : List Nat} {v0 v1 v2 v3 : Value} (h : Rep9 W base D v0 v1 v2 v3) (hs : ∀ b, base ≤ b → b < W.heap.size → W'.heap[b]? = W.heap[b]?) : Rep9 W' base D v0 v1 v2 v3 :=
  ⟨fun x r e => (h.1 x r e).same (fun b h1 h2 => hs b h1 h2), h.2⟩
theorem Rep9.mono {W : World} {base base' : Nat} {D : List Nat} {v0 v1 v2 v3 : Value} (h : Rep9 W base D v0 v1 v2 v3) (hb : base' ≤ base) : Rep9 W base' D v0 v1 v2 v3 :=
  ⟨fun x r e => (h.1 x r e).mono (fun b h1 => Nat.le_trans hb h1), h.2⟩
theorem rep_cases (D : List Nat) : (∃ x r, repP 9 D = .ok x r) ∨ ∀ x r, repP 9 D ≠ .ok x r := by
  cases h : repP 9 D with
  | ok x r => exact .inl ⟨x, r, rfl⟩
  | short => exact .inr (fun x r e => by cases e)
  | wrong => exact .inr (fun x r e => by cases e)
theorem readN_ok {D : List Nat} {x : Tr 9} {r : List Nat} (h : repP 9 D = .ok x r) : readN D = (D.length : Int) - (r.length : Int) := by unfold readN; rw [h]
theorem readN_no {D : List Nat} (h : ∀ x r, repP 9 D ≠ .ok x r) : readN D = 0 := by
  unfold readN
  cases hp : repP 9 D with
  | ok x r => exact absurd hp (h x r)
  | short => rfl
  | wrong => rfl
/-- both answers are one reply -/
theorem Rep9.eqr {W W' : World} {base base' : Nat} {D : List Nat} {u0 u1 u2 u3 v0 v1 v2 v3 : Value} (h : Rep9 W base D u0 u1 u2 u3) (h' : Rep9 W base' D v0 v1 v2 v3) :
    Calls Tryz.prog 30 #[.agg #[u0, u1, u2, u3], .agg #[v0, v1, v2, v3]] W fun e w' => e = .returned (.bool true) ∧ Hid (Below W.heap.size W w') := by
  rcases rep_cases D with ⟨x, r, e⟩ | e
  · have hx := repP_read 9 D x r e
    exact eqr_any 9 x W W _ _ _ _ _ _ _ _ ((h.1 x r e).rp 0 (hx.2.2.1 (Nat.le_refl _)) hx.2.2.2) ((h'.1 x r e).rp 0 (hx.2.2.1 (Nat.le_refl _)) hx.2.2.2) (Below.refl _ _)
  · obtain ⟨rfl, rfl, tc, lc, rfl, rfl⟩ := h.2 e
    obtain ⟨rfl, rfl, td, ld, rfl, rfl⟩ := h'.2 e
    exact eqr_zero2 W tc lc td ld
/-- the program's answer goes to the Told -/
theorem Rep9.told {w1 W0 W : World} {pb : Nat} {m : Int} {D : List Nat} {k0 k1 : Int} {ta : Option Addr} {tn tc : Nat} {la : Option Addr} {ln lc : Nat} (hT : Bp.Td w1 W0 pb m) (hb : Below W0.heap.size W0 W) (h : Rep9 W W0.heap.size D (.int .i64 k0) (.int .i64 k1) (.slice ta tn tc) (.slice la ln lc)) (hc : (∀ x r, repP 9 D ≠ .ok x r) → tc = 0 ∧ lc = 0) (hD : D.length ≤ 16777216) (hm : -4611686018427387904 ≤ m ∧ m ≤ 4611686018427387904) :
    Calls Tryz.prog 31 #[.pointer (some ⟨pb + 1, 0, none⟩), .agg #[.int .i64 k0, .int .i64 k1, .slice ta tn tc, .slice la ln lc]] W fun e w' => e = .returned (.tuple #[]) ∧ ∃ m', Hid (Bp.Td w1 w' pb m') ∧ m - 70000000 ≤ m' ∧ m' ≤ m := by
  rcases rep_cases D with ⟨x, r, e⟩ | e
  · have hx := repP_read 9 D x r e
    have hs := repP_size 9 D x r e
    refine (hT.reply hb (h.1 x r e) ((h.1 x r e).rp 0 (hx.2.2.1 (Nat.le_refl _)) hx.2.2.2) (by omega) (by omega) hm).mono ?_
    rintro e w' ⟨rfl, k⟩
    exact ⟨rfl, _, k, by omega, by omega⟩
  · obtain ⟨e0, e1, tc', lc', e2, e3⟩ := h.2 e
    obtain ⟨rfl, rfl⟩ := hc e
    cases e0
    cases e1
    cases e2
    cases e3
    have hd : DrAt W 1 (fun b => W0.heap.size ≤ b) (mkR (d := 0) 0 0 [] []) (.int .i64 0) (.int .i64 0) (.slice none 0 0) (.slice none 0 0) := DrAt.leaf (OwnB.nil _ _) small_nil
    have hr : RpAt W 1 (mkR (d := 0) 0 0 [] []) (.int .i64 0) (.int .i64 0) (.slice none 0 0) (.slice none 0 0) := by
      refine ⟨⟨rfl, by decide, by decide⟩, ⟨rfl, by decide, by decide⟩, ⟨none, 0, rfl, .inl rfl, small_nil, by decide, by decide⟩, none, 0, rfl, by decide, .inl rfl⟩
    have hz : sz 1 (mkR (d := 0) 0 0 [] []) = 10 := rfl
    refine (hT.reply hb hd hr (by omega) (by omega) hm).mono ?_
    rintro e w' ⟨rfl, k⟩
    exact ⟨rfl, _, k, by omega, by omega⟩
/-- behind the program's Decode -/
structure G4 (W W2 W3 W4 : World) (C : Array Value) (D : List Nat) (n : Nat) (v0 v1 v2 v3 : Value) : Prop where
  s3 : F3 W W2 W3 C D n
  b4 : Below W3.heap.size W3 W4
  rep : Rep9 W4 W3.heap.size D v0 v1 v2 v3
  cap : (∀ x r, repP 9 D ≠ .ok x r) → v2 = .slice none 0 0 ∧ v3 = .slice none 0 0
/-- behind both Decodes -/
structure G5 (W W2 W3 W4 W5 : World) (C : Array Value) (D : List Nat) (n : Nat) (u0 u1 u2 u3 v0 v1 v2 v3 : Value) : Prop where
  s4 : G4 W W2 W3 W4 C D n u0 u1 u2 u3
  b5 : Below (W4.heap.size + 1) (W4.alloc (.cells #[u0, u1, u2, u3] 31)) W5
  rep : Rep9 W5 W4.heap.size D v0 v1 v2 v3
theorem G4.now {W W2 W3 W4 : World} {C : Array Value} {D : List Nat} {n : Nat} {u0 u1 u2 u3 : Value} (h : G4 W W2 W3 W4 C D n u0 u1 u2 u3) : E2 W W4 C 0 := h.s3.now.below h.b4
theorem G5.up {W W2 W3 W4 W5 : World} {C : Array Value} {D : List Nat} {n : Nat} {u0 u1 u2 u3 v0 v1 v2 v3 : Value} (h : G5 W W2 W3 W4 W5 C D n u0 u1 u2 u3 v0 v1 v2 v3) : Below W4.heap.size W4 W5 := ((Below.refl _ _).alloc (Nat.le_refl _) _).trans (h.b5.mono (Nat.le_succ _))
theorem G5.now {W W2 W3 W4 W5 : World} {C : Array Value} {D : List Nat} {n : Nat} {u0 u1 u2 u3 v0 v1 v2 v3 : Value} (h : G5 W W2 W3 W4 W5 C D n u0 u1 u2 u3 v0 v1 v2 v3) : E2 W W5 C 0 := h.s4.now.below h.up
/-- behind same -/
structure G6 (W W2 W3 W4 W5 W6 : World) (C : Array Value) (D : List Nat) (n : Nat) (u0 u1 u2 u3 v0 v1 v2 v3 : Value) : Prop where
  s5 : G5 W W2 W3 W4 W5 C D n u0 u1 u2 u3 v0 v1 v2 v3
  k6 : Kept1 W2.heap.size (W5.alloc (.cells #[v0, v1, v2, v3] 31)) W6
theorem G6.sizes {W W2 W3 W4 W5 W6 : World} {C : Array Value} {D : List Nat} {n : Nat} {u0 u1 u2 u3 v0 v1 v2 v3 : Value} (h : G6 W W2 W3 W4 W5 W6 C D n u0 u1 u2 u3 v0 v1 v2 v3) : W.heap.size < W2.heap.size ∧ W2.heap.size < W3.heap.size ∧ W3.heap.size ≤ W4.heap.size ∧ W4.heap.size < W5.heap.size ∧ W6.heap.size = W5.heap.size + 1 := by
  have g := h.s5.s4.s3.g
  have a := h.s5.s4.b4.size
  have b := h.s5.b5.size
  have c := h.k6.size
  simp at b c
  omega
theorem G6.old {W W2 W3 W4 W5 W6 : World} {C : Array Value} {D : List Nat} {n : Nat} {u0 u1 u2 u3 v0 v1 v2 v3 : Value} (h : G6 W W2 W3 W4 W5 W6 C D n u0 u1 u2 u3 v0 v1 v2 v3) : Below W.heap.size W W6 :=
  (((h.s5.now.below ((Below.refl _ _).alloc (Nat.le_refl _) _)).kept h.k6 h.sizes.1).old)
theorem G6.rows {W W2 W3 W4 W5 W6 : World} {C : Array Value} {D : List Nat} {n : Nat} {u0 u1 u2 u3 v0 v1 v2 v3 : Value} (h : G6 W W2 W3 W4 W5 W6 C D n u0 u1 u2 u3 v0 v1 v2 v3) : W6.heap[W4.heap.size]? = some (.cells #[u0, u1, u2, u3] 31 (0, 0)) ∧ W6.heap[W5.heap.size]? = some (.cells #[v0, v1, v2, v3] 31 (0, 0)) := by
  have g := h.sizes
  refine ⟨?_, (h.k6.blk _ (by omega)).trans (heap_alloc_new _ _)⟩
  exact (h.k6.blk _ (by omega)).trans ((heap_alloc_old _ _ (by omega)).trans ((h.s5.b5.block _ (by omega)).trans (heap_alloc_new _ _)))
theorem G6.reps {W W2 W3 W4 W5 W6 : World} {C : Array Value} {D : List Nat} {n : Nat} {u0 u1 u2 u3 v0 v1 v2 v3 : Value} (h : G6 W W2 W3 W4 W5 W6 C D n u0 u1 u2 u3 v0 v1 v2 v3) : Rep9 W6 W3.heap.size D u0 u1 u2 u3 ∧ Rep9 W6 W4.heap.size D v0 v1 v2 v3 := by
  have g := h.sizes
  refine ⟨h.s5.s4.rep.same (fun b h1 h2 => ?_), h.s5.rep.same (fun b h1 h2 => ?_)⟩
  · exact (h.k6.blk _ (by omega)).trans ((heap_alloc_old _ _ (by omega)).trans (h.s5.up.block _ h2))
  · exact (h.k6.blk _ (by omega)).trans (heap_alloc_old _ _ h2)
theorem asked_dec (w0 w1 W : World) (pb : Nat) (m : Int) (da la : Option Addr) (dn dc n lc d : Nat) (x : Tr d) (L : List (List Nat)) (D : List Nat) (r0 r1 r2 r3 : Value) (hU : UOk w0)
    (hT : Bp.Td w1 W pb m) (h01 : Below w0.heap.size w0 w1) (hp : w0.heap.size ≤ pb) (hn : n = L.length) (hA : ArgsW w0 la L) (hR : RpAt w0 d x r0 r1 r2 r3) (hd : dn ≤ 140737488351232) (hl : n ≤ 140737488351232) (hD : dn = D.length ∧ Bytes w0 da D ∧ Small D) (hdc : dn ≤ dc ∧ dc ≤ 9223372036854775807) (hm : -4611686018427387904 ≤ m ∧ m ≤ 4611686018427387904) :
    Calls Tryz.prog 9 #[.agg #[.int .i64 4, .slice da dn dc, .slice la n lc, r0, r1, r2, r3], .pointer (some ⟨pb + 1, 0, none⟩)] W fun e w' => e = .returned (.bool true) ∧ ∃ m', Hid (Bp.Td w1 w' pb m') ∧ m - 70000000 ≤ m' ∧ m' ≤ m := by
  have h0W : Below w0.heap.size w0 W := by
    have hk := hT.kept
    refine ⟨hk.os.trans h01.os, hk.tape.trans h01.tape, hk.output.trans h01.output, Nat.le_trans h01.size hk.size, fun b hb => (hk.blk b (Nat.lt_of_lt_of_le hb h01.size) (by omega)).trans (h01.block b hb)⟩
  have hWB : Below W.heap.size W (W.alloc (.cells #[.int .i64 4, .slice da dn dc, .slice la n lc, r0, r1, r2, r3] 52)) := (Below.refl _ _).alloc (Nat.le_refl _) _
  obtain ⟨C, hC⟩ : ∃ C : Array Value, C = #[.int .i64 4, .slice da dn dc, .slice la n lc, r0, r1, r2, r3] := ⟨_, rfl⟩
  obtain ⟨hDl, hDb, hDs⟩ := hD
  have CH : Hid (Calls Tryz.prog 13 #[.agg #[.int .i64 4, .slice da dn dc, .slice la n lc, r0, r1, r2, r3]] (W.alloc (.cells #[.int .i64 4, .slice da dn dc, .slice la n lc, r0, r1, r2, r3] 52)) fun e w' => ∃ h : Bool, e = .returned (.bool h) ∧ Hid (Below W.heap.size W w') ∧ (h = false → dn ≤ 16777216) ∧ Hid (E2 W w' C 0) ∧ w'.cell? ⟨W.heap.size, 0, none⟩ = some (.int .i64 4) ∧ w'.cell? ⟨W.heap.size, 1, none⟩ = some (.slice da dn dc)) := hide (by
    refine (heavy_tree _ 4 da la dn dc n lc d x L _ _ _ _ hn ?_ ((hR.below h0W).below hWB) hd hl).mono ?_
    · rcases hA with h | ⟨b, off, e, hlt, hc⟩
      · exact .inl h
      · have hb0 := h0W.trans (hWB.mono h0W.size)
        refine .inr ⟨b, off, e, Nat.lt_of_lt_of_le hlt hb0.size, fun k T hT => ?_⟩
        obtain ⟨x, c, y1, y2, y3⟩ := hc k T hT
        exact ⟨x, c, (hb0.cell hlt).trans y1, y2.below hb0, y3⟩
    · rintro e w' ⟨h, rfl, kb, kh⟩
      have bb : Below (W.heap.size + 1) (W.alloc (.cells #[.int .i64 4, .slice da dn dc, .slice la n lc, r0, r1, r2, r3] 52)) w' := (unhide kb).mono (by simp)
      have cc : ∀ j v, (#[.int .i64 4, .slice da dn dc, .slice la n lc, r0, r1, r2, r3] : Array Value)[j]? = some v → w'.cell? ⟨W.heap.size, j, none⟩ = some v := fun j v hv => by
        rw [bb.cell (Nat.lt_succ_self _), cell_of_row _ _ _ _ _ _ (heap_alloc_new W _)]; exact hv
      exact ⟨h, rfl, hide (hWB.trans (bb.mono (Nat.le_succ _))), fun e => by have := kh e; omega, hide ⟨by rw [hC]; exact bb, by omega⟩, cc 0 _ rfl, cc 1 _ rfl⟩)
  have cs : ∀ {W2 : World}, E2 W W2 C 0 → W2.cell? ⟨W.heap.size, 1, none⟩ = some (.slice da dn dc) := fun h => h.cell 1 _ (by rw [hC]; rfl)
  have b0 : ∀ {W2 : World}, E2 W W2 C 0 → Below w0.heap.size w0 W2 := fun h => h0W.trans (h.old.mono h0W.size)
  have CSP : Hid (∀ W2, dn ≤ 16777216 → Hid (E2 W W2 C 0) → Calls Tryz.prog 14 #[.slice da dn dc] W2 fun e w' => e = .returned (.slice (some ⟨W2.heap.size, 0, none⟩) (dn + 3) (dn + 3)) ∧ Hid (F3 W W2 w' C D dn) ∧ w'.cell? ⟨W.heap.size, 1, none⟩ = some (.slice da dn dc)) := hide (fun W2 hs h2 => by
    have := spare_any da dc D W2 (hDb.below (b0 (unhide h2))) (by omega)
    rw [← hDl] at this
    refine this.mono ?_
    rintro e w' ⟨rfl, k⟩
    have f3 : F3 W W2 w' C D dn := ⟨unhide h2, (unhide k).2, (unhide k).1, hDl⟩
    exact ⟨rfl, hide f3, cs f3.now⟩)
  have CDE : Hid (∀ W2 W3, dn ≤ 16777216 → Hid (F3 W W2 W3 C D dn) → Calls Tryz.prog 28 #[.slice (some ⟨W2.heap.size, 0, none⟩) dn (dn + 3)] W3 fun e w' => ∃ (k0 k1 : Int) (ta : Option Addr) (tn tc : Nat) (qa : Option Addr) (qn qc : Nat) (N E : Int), e = .returned (.tuple #[.agg #[.int .i64 k0, .int .i64 k1, .slice ta tn tc, .slice qa qn qc], .int .i64 N, .int .i64 E]) ∧ Hid (E = (repP 9 D).err ∧ N = readN D) ∧ Hid (G4 W W2 W3 w' C D dn (.int .i64 k0) (.int .i64 k1) (.slice ta tn tc) (.slice qa qn qc)) ∧ w'.cell? ⟨W.heap.size, 1, none⟩ = some (.slice da dn dc) ∧ W.heap.size < w'.heap.size) := hide (fun W2 W3 hs h3 => by
    have hB : Bytes W3 (some ⟨W2.heap.size, 0, none⟩) D := by
      have h1 := (unhide h3).row.take (m := dn) (by omega) (byV D) (fun k hk => by
        unfold byV
        rw [List.getD_eq_getElem?_getD, List.getD_eq_getElem?_getD, List.getElem?_append_left (by omega)])
      rw [hDl] at h1
      exact h1.inb'.1
    have u3 := UOk.below _ _ hU (b0 (unhide h3).now)
    refine (wdecode_any W3 _ dn (dn + 3) D u3 hB hDs hDl (by omega) (by omega) (by omega) (fun b off e h0 => by cases e; exact (unhide h3).g.2) u3.2.2).mono ?_
    rintro e w' ⟨k0, k1, ta, tn, tc, qa, qn, qc, N, rfl, k⟩
    obtain ⟨j1, j2, j3⟩ := unhide k
    have g4 : G4 W W2 W3 w' C D dn (.int .i64 k0) (.int .i64 k1) (.slice ta tn tc) (.slice qa qn qc) := ⟨unhide h3, j1, ⟨fun x r e => (j2 x r e).2, fun e => by
      obtain ⟨-, rfl, rfl, rfl, rfl, rfl, rfl, rfl, rfl⟩ := j3 e
      exact ⟨rfl, rfl, 0, 0, rfl, rfl⟩⟩, fun e => by
      obtain ⟨-, rfl, rfl, rfl, rfl, rfl, rfl, rfl, rfl⟩ := j3 e
      exact ⟨rfl, rfl⟩⟩
    refine ⟨k0, k1, ta, tn, tc, qa, qn, qc, N, _, rfl, hide ⟨rfl, ?_⟩, hide g4, cs g4.now, g4.now.lt⟩
    rcases rep_cases D with ⟨x, r, e⟩ | e
    · rw [readN_ok e, (j2 x r e).1, hDl]
    · rw [readN_no e, (j3 e).1])
  have CRD : Hid (∀ W2 W3 W4 u0 u1 u2 u3, dn ≤ 16777216 → Hid (G4 W W2 W3 W4 C D dn u0 u1 u2 u3) → Calls Tryz.prog 29 #[.slice da dn dc] (W4.alloc (.cells #[u0, u1, u2, u3] 31)) fun e w' => ∃ (k0 k1 : Int) (ta : Option Addr) (tn tc : Nat) (qa : Option Addr) (qn qc : Nat) (N E : Int), e = .returned (.tuple #[.agg #[.int .i64 k0, .int .i64 k1, .slice ta tn tc, .slice qa qn qc], .int .i64 N, .int .i64 E]) ∧ Hid (E = (repP 9 D).err ∧ N = readN D) ∧ Hid (G5 W W2 W3 W4 w' C D dn u0 u1 u2 u3 (.int .i64 k0) (.int .i64 k1) (.slice ta tn tc) (.slice qa qn qc)) ∧ w'.cell? ⟨W.heap.size, 1, none⟩ = some (.slice da dn dc) ∧ W.heap.size < w'.heap.size) := hide (fun W2 W3 W4 u0 u1 u2 u3 hs h4 => by
    have e4 := (unhide h4).now.below ((Below.refl _ _).alloc (Nat.le_refl _) (.cells #[u0, u1, u2, u3] 31))
    refine (rdecode_any _ da dn dc D ⟨hDb.below (b0 e4), hDl, hdc.1, hdc.2⟩ hDs (by omega)).mono ?_
    rintro e w' ⟨k0, k1, ta, tn, tc, qa, qn, qc, N, rfl, k⟩
    obtain ⟨j1, j2, j3⟩ := unhide k
    have g5 : G5 W W2 W3 W4 w' C D dn u0 u1 u2 u3 (.int .i64 k0) (.int .i64 k1) (.slice ta tn tc) (.slice qa qn qc) := ⟨unhide h4, by simpa using j1, ⟨fun x r e => (j2 x r e).2.mono (fun b hb => by simp at hb; omega), fun e => by
      obtain ⟨-, rfl, rfl, rfl, rfl, rfl, rfl⟩ := j3 e
      exact ⟨rfl, rfl, _, _, rfl, rfl⟩⟩⟩
    refine ⟨k0, k1, ta, tn, tc, qa, qn, qc, N, _, rfl, hide ⟨rfl, ?_⟩, hide g5, cs g5.now, g5.now.lt⟩
    rcases rep_cases D with ⟨x, r, e⟩ | e
    · rw [readN_ok e, (j2 x r e).1, hDl]
    · rw [readN_no e, (j3 e).1])
  have CSM : Hid (∀ W2 W3 W4 W5 u0 u1 u2 u3 v0 v1 v2 v3, dn ≤ 16777216 → Hid (G5 W W2 W3 W4 W5 C D dn u0 u1 u2 u3 v0 v1 v2 v3) → Calls Tryz.prog 17 #[.slice (some ⟨W2.heap.size, 0, none⟩) (dn + 3) (dn + 3), .slice da dn dc] (W5.alloc (.cells #[v0, v1, v2, v3] 31)) fun e w' => e = .returned (.bool true) ∧ Hid (G6 W W2 W3 W4 W5 w' C D dn u0 u1 u2 u3 v0 v1 v2 v3) ∧ (w'.cell? ⟨W4.heap.size, 0, none⟩ = some u0 ∧ w'.cell? ⟨W4.heap.size, 1, none⟩ = some u1 ∧ w'.cell? ⟨W4.heap.size, 2, none⟩ = some u2 ∧ w'.cell? ⟨W4.heap.size, 3, none⟩ = some u3) ∧ w'.cell? ⟨W5.heap.size, 0, none⟩ = some v0 ∧ w'.cell? ⟨W5.heap.size, 1, none⟩ = some v1 ∧ w'.cell? ⟨W5.heap.size, 2, none⟩ = some v2 ∧ w'.cell? ⟨W5.heap.size, 3, none⟩ = some v3) := hide (fun W2 W3 W4 W5 u0 u1 u2 u3 v0 v1 v2 v3 hs h5 => by
    have f := unhide h5
    have e5 := f.now.below ((Below.refl _ _).alloc (Nat.le_refl _) (.cells #[v0, v1, v2, v3] 31))
    have hb5 := b0 e5
    have g1 := f.s4.s3.g
    have hr5 := ((f.s4.s3.row.below f.s4.b4).below f.up).below ((Below.refl _ _).alloc (Nat.le_refl _) (.cells #[v0, v1, v2, v3] 31))
    have fin : ∀ w', Kept1 W2.heap.size (W5.alloc (.cells #[v0, v1, v2, v3] 31)) w' → Hid (G6 W W2 W3 W4 W5 w' C D dn u0 u1 u2 u3 v0 v1 v2 v3) ∧ (w'.cell? ⟨W4.heap.size, 0, none⟩ = some u0 ∧ w'.cell? ⟨W4.heap.size, 1, none⟩ = some u1 ∧ w'.cell? ⟨W4.heap.size, 2, none⟩ = some u2 ∧ w'.cell? ⟨W4.heap.size, 3, none⟩ = some u3) ∧ w'.cell? ⟨W5.heap.size, 0, none⟩ = some v0 ∧ w'.cell? ⟨W5.heap.size, 1, none⟩ = some v1 ∧ w'.cell? ⟨W5.heap.size, 2, none⟩ = some v2 ∧ w'.cell? ⟨W5.heap.size, 3, none⟩ = some v3 := fun w' k => by
      have g6 : G6 W W2 W3 W4 W5 w' C D dn u0 u1 u2 u3 v0 v1 v2 v3 := ⟨f, k⟩
      obtain ⟨q1, q2⟩ := g6.rows
      exact ⟨hide g6, ⟨cell_of_row _ _ _ _ _ _ q1, cell_of_row _ _ _ _ _ _ q1, cell_of_row _ _ _ _ _ _ q1, cell_of_row _ _ _ _ _ _ q1⟩, cell_of_row _ _ _ _ _ _ q2, cell_of_row _ _ _ _ _ _ q2, cell_of_row _ _ _ _ _ _ q2, cell_of_row _ _ _ _ _ _ q2⟩
    have hbd := hDb.below hb5
    rcases hbd with e | ⟨b, off, e, hb1, hc⟩
    · refine (same_any' W2.heap.size 0 0 dc da D dn _ hDl hr5 (fun h => by rw [e] at hDl; simp at hDl; omega) (fun h => by rw [e] at hDl; simp at hDl; omega) (fun h => by rw [e] at hDl; simp at hDl; omega) (fun k hk => by rw [e] at hDl; simp at hDl; omega) hDs (by omega)).mono ?_
      rintro e w' ⟨rfl, k⟩
      exact ⟨rfl, fin w' k⟩
    · refine (same_any' W2.heap.size b off dc da D dn _ hDl hr5 (fun _ => e) (fun _ => hb1) (fun h => ?_) (fun k hk => hc k (by omega)) hDs (by omega)).mono ?_
      · rcases hDb with e2 | ⟨b', off', e2, hb2, _⟩
        · rw [e2] at hDl; simp at hDl; omega
        · rw [e2] at e
          cases e
          have := h0W.size
          omega
      · rintro e w' ⟨rfl, k⟩
        exact ⟨rfl, fin w' k⟩)
  have CEQ : Hid (∀ W2 W3 W4 W5 W6 k0 k1 ta tn tc qa qn qc v0 v1 v2 v3, Hid (G6 W W2 W3 W4 W5 W6 C D dn (.int .i64 k0) (.int .i64 k1) (.slice ta tn tc) (.slice qa qn qc) v0 v1 v2 v3) → Calls Tryz.prog 30 #[.agg #[.int .i64 k0, .int .i64 k1, .slice ta tn tc, .slice qa qn qc], .agg #[v0, v1, v2, v3]] W6 fun e w' => e = .returned (.bool true) ∧ Hid (Below W.heap.size W w' ∧ Rep9 w' W.heap.size D (.int .i64 k0) (.int .i64 k1) (.slice ta tn tc) (.slice qa qn qc) ∧ ((∀ x r, repP 9 D ≠ .ok x r) → tc = 0 ∧ qc = 0)) ∧ w'.cell? ⟨W4.heap.size, 0, none⟩ = some (.int .i64 k0) ∧ w'.cell? ⟨W4.heap.size, 1, none⟩ = some (.int .i64 k1) ∧ w'.cell? ⟨W4.heap.size, 2, none⟩ = some (.slice ta tn tc) ∧ w'.cell? ⟨W4.heap.size, 3, none⟩ = some (.slice qa qn qc)) := hide (fun W2 W3 W4 W5 W6 k0 k1 ta tn tc qa qn qc v0 v1 v2 v3 h6 => by
    have f := unhide h6
    have g := f.sizes
    obtain ⟨p1, p2⟩ := f.reps
    refine (p1.eqr (W' := W6) p2).mono ?_
    rintro e w' ⟨rfl, k⟩
    have q1 := ((unhide k).block _ (by omega)).trans f.rows.1
    refine ⟨rfl, hide ⟨f.old.trans ((unhide k).mono f.old.size), (p1.same (fun b _ hb => (unhide k).block b hb)).mono (by omega), fun e => ?_⟩, cell_of_row _ _ _ _ _ _ q1, cell_of_row _ _ _ _ _ _ q1, cell_of_row _ _ _ _ _ _ q1, cell_of_row _ _ _ _ _ _ q1⟩
    obtain ⟨c1, c2⟩ := f.s5.s4.cap e
    cases c1
    cases c2
    exact ⟨rfl, rfl⟩)
  have CTO : Hid (∀ W7 k0 k1 ta tn tc qa qn qc, dn ≤ 16777216 → Hid (Below W.heap.size W W7 ∧ Rep9 W7 W.heap.size D (.int .i64 k0) (.int .i64 k1) (.slice ta tn tc) (.slice qa qn qc) ∧ ((∀ x r, repP 9 D ≠ .ok x r) → tc = 0 ∧ qc = 0)) → Calls Tryz.prog 31 #[.pointer (some ⟨pb + 1, 0, none⟩), .agg #[.int .i64 k0, .int .i64 k1, .slice ta tn tc, .slice qa qn qc]] W7 fun e w' => e = .returned (.tuple #[]) ∧ ∃ m', Hid (Bp.Td w1 w' pb m') ∧ m - 70000000 ≤ m' ∧ m' ≤ m) := hide (fun W7 k0 k1 ta tn tc qa qn qc hs h7 => by
    obtain ⟨j1, j2, j3⟩ := unhide h7
    exact j2.told hT j1 j3 (by omega) hm)
  have CLK : Hid (∀ W9 m', Hid (Bp.Td w1 W9 pb m') → Calls Tryz.prog 32 #[.pointer (some ⟨pb + 1, 0, none⟩)] W9 fun e w' => e = .returned (.bool true) ∧ Hid (Bp.Td w1 w' pb m')) := hide (fun W9 m' h9 => (unhide h9).looked)
  have TD : Hid (∀ w', Hid (Below W.heap.size W w') → Bp.Td w1 w' pb m) := hide (fun w' h => hT.below (unhide h))
  obtain ⟨k0, k1, ta, tn', tc, qa, qn, qc, rfl, rfl, rfl, rfl⟩ : ∃ (k0 k1 : Int) (ta : Option Addr) (tn' tc : Nat) (qa : Option Addr) (qn qc : Nat), r0 = .int .i64 k0 ∧ r1 = .int .i64 k1 ∧ r2 = .slice ta tn' tc ∧ r3 = .slice qa qn qc := by
    obtain ⟨d, rfl⟩ : ∃ d', d = d' + 1 := ⟨d - 1, by have := tr_pos x; omega⟩
    obtain ⟨⟨rfl, -⟩, ⟨rfl, -⟩, ⟨ta, tc, rfl, -⟩, la, lc, rfl, -⟩ := hR
    exact ⟨_, _, _, _, _, _, _, _, rfl, rfl, rfl, rfl⟩
  have hdi : (0 : Int) ≤ (dn : Int) := by omega
  clear hT h0W hR hA hn h01 hp hWB cs b0 hDl hDb hDs hdc hC hU
  go_enter Tryz.func9, Tryz.ntmps9
  go_wp2_with (first
    | (go_at_call 13; with_reducible refine (unhide CH).mono ?_; rintro e W2 ⟨h, rfl, kb, kd, k2, x0, x1⟩; cases h; rotate_left)
    | (go_at_call 14; with_reducible refine (unhide CSP W2 (kd (by first | rfl | trivial)) k2).mono ?_; rintro e W3 ⟨rfl, k3, x3⟩; have hds := kd (by first | rfl | trivial); have hd1 : (dn : Int) ≤ ((dn + 3 : Nat) : Int) := by omega)
    | (go_at_call 28; with_reducible refine (unhide CDE W2 W3 hds k3).mono ?_; rintro e W4 ⟨a0, a1, b1, b2, b3, c1, c2, c3, N, E, rfl, kE, k4, x4, l4⟩)
    | (go_at_call 29; with_reducible refine (unhide CRD W2 W3 W4 _ _ _ _ hds k4).mono ?_; rintro e W5 ⟨d0, d1, e1, e2, e3, f1, f2, f3, M, F, rfl, kF, k5, x5, l5⟩; have hEF : F = E := (unhide kF).1.trans (unhide kE).1.symm; subst hEF; have hMN : M = N := (unhide kF).2.trans (unhide kE).2.symm; subst hMN)
    | (go_at_call 17; with_reducible refine (unhide CSM W2 W3 W4 W5 _ _ _ _ _ _ _ _ hds k5).mono ?_; rintro e W6 ⟨rfl, k6, ⟨y0, y1, y2, y3⟩, z0, z1, z2, z3⟩)
    | (go_at_call 30; with_reducible refine (unhide CEQ W2 W3 W4 W5 W6 _ _ _ _ _ _ _ _ _ _ _ _ k6).mono ?_; rintro e W7 ⟨rfl, k7, y0', y1', y2', y3'⟩)
    | (go_at_call 7; refine (num_any _ _).mono ?_; rintro e W7' ⟨rfl, h7'⟩; subst h7')
    | (go_at_call 31; with_reducible refine (unhide CTO _ _ _ _ _ _ _ _ _ hds k7).mono ?_; rintro e W8 ⟨rfl, m', k8, q1, q2⟩)
    | (go_at_call 32; with_reducible refine (unhide CLK W8 m' k8).mono ?_; rintro e W9 ⟨rfl, k9⟩))
  all_goals go_ret
  all_goals first | exact ⟨rfl, m', k9, q1, q2⟩ | exact ⟨rfl, m, hide (unhide TD _ kb), by omega, Int.le_refl _⟩
end Go.Proofs.YtecfgbjnjgjkoaaGreatDoor
namespace Go.Proofs.YtecfgbjnjgjkoaaGreatDoor
open Go.ChangeShapes Go.WideShapes Go.ChangeAt Go.RowKit
set_option linter.unusedVariables false
set_option linter.unusedSimpArgs false
set_option maxRecDepth 20000
set_option maxHeartbeats 4000000

theorem fit_five (w : World) : Calls Tryz.prog 10 #[.agg #[.int .i64 3, .int .i64 (-5), .slice none 0 0, .slice none 0 0], .int .i64 0] w fun e w' => e = .returned (.bool true) ∧ Below w.heap.size w w' := by
  go_enter Tryz.func10, Tryz.ntmps10
  go_wp2
  go_region
  all_goals go_wp2
  all_goals go_ret
  all_goals exact ⟨rfl, ((Below.refl _ _).alloc (Nat.le_refl _) _).drew⟩
theorem reply_five (w0 w : World) (ht : Tab w0) (hb : Below w0.heap.size w0 w) : Calls Tryz.prog 11 #[.slice none 0 0, .agg #[.int .i64 3, .int .i64 (-5), .slice none 0 0, .slice none 0 0]] w fun e w' => ∃ va n vc, e = .returned (.slice va n vc) ∧ Hid (Gro w0 w' w0.heap.size (.slice va n vc) n (numL 58 (-5))) := by
  have CN : Hid (∀ W, Below w0.heap.size w0 W → Calls Tryz.prog 36 #[.slice none 0 0, .int .u8 58, .int .i64 (-5)] W fun e w' => ∃ va' n' vc', e = .returned (.slice va' n' vc') ∧ Hid (Gro w0 w' w0.heap.size (.slice va' n' vc') n' ([] ++ numL 58 (-5)))) := hide (fun W hW => addnum_any w0 W w0.heap.size none 0 0 58 [] (-5) ⟨hW, hW.size, .inl ⟨rfl, rfl⟩, fun g hg => by simp [Value.ownBlock] at hg, rfl⟩ (ht.below hW) ⟨by decide, by decide⟩ (by decide))
  have HB : Hid (∀ o, Below w0.heap.size w0 (w.alloc o)) := hide (fun o => hb.alloc hb.size o)
  clear ht hb
  go_enter Tryz.func11, Tryz.ntmps11
  go_wp2_with (go_at_call 36; refine (unhide CN _ (unhide HB _)).mono ?_; rintro e w1 ⟨a1, n1, c1, rfl, HG1⟩)
  all_goals go_ret
  all_goals exact ⟨_, _, _, rfl, HG1⟩
theorem encode_five (w : World) (ht : Tab w) : Calls Tryz.prog 6 #[.agg #[.int .i64 3, .int .i64 (-5), .slice none 0 0, .slice none 0 0]] w fun e w' => ∃ va n vc, e = .returned (.tuple #[.slice va n vc, .int .i64 0]) ∧ Hid (Gro w w' w.heap.size (.slice va n vc) n [58, 45, 53, 13, 10]) := by
  have AL : Hid (Below w.heap.size w (w.alloc (.cells #[.int .i64 3, .int .i64 (-5), .slice none 0 0, .slice none 0 0] 31))) := hide ((Below.refl _ _).alloc (Nat.le_refl _) _)
  have CF : Hid (Calls Tryz.prog 10 #[.agg #[.int .i64 3, .int .i64 (-5), .slice none 0 0, .slice none 0 0], .int .i64 0] (w.alloc (.cells #[.int .i64 3, .int .i64 (-5), .slice none 0 0, .slice none 0 0] 31)) fun e w' => e = .returned (.bool true) ∧ Hid (Below w.heap.size w w') ∧ w'.cell? ⟨w.heap.size, 0, none⟩ = some (.int .i64 3) ∧ w'.cell? ⟨w.heap.size, 1, none⟩ = some (.int .i64 (-5)) ∧ w'.cell? ⟨w.heap.size, 2, none⟩ = some (.slice none 0 0) ∧ w'.cell? ⟨w.heap.size, 3, none⟩ = some (.slice none 0 0)) := hide ((fit_five _).mono (fun e w' h => by
    have hg := (h.2.block w.heap.size (by simp)).trans (heap_alloc_new w _)
    exact ⟨h.1, hide ((unhide AL).trans (h.2.mono (by simp))), by rw [cell_of_row _ _ _ _ _ _ hg]; rfl, by rw [cell_of_row _ _ _ _ _ _ hg]; rfl, by rw [cell_of_row _ _ _ _ _ _ hg]; rfl, by rw [cell_of_row _ _ _ _ _ _ hg]; rfl⟩))
  have CR : Hid (∀ W, Hid (Below w.heap.size w W) → Calls Tryz.prog 11 #[.slice none 0 0, .agg #[.int .i64 3, .int .i64 (-5), .slice none 0 0, .slice none 0 0]] W fun e w' => ∃ va n vc, e = .returned (.slice va n vc) ∧ Hid (Gro w w' w.heap.size (.slice va n vc) n (numL 58 (-5)))) := hide (fun W hW => reply_five w W ht (unhide hW))
  have e5 : Hid (numL 58 (-5) = [58, 45, 53, 13, 10]) := hide (by decide +kernel)
  clear ht
  go_enter Tryz.func6, Tryz.ntmps6
  go_wp2_with (first
    | (go_at_call 10; refine (unhide CF).mono ?_; rintro e w1 ⟨rfl, k1, x0, x1, x2, x3⟩)
    | (go_at_call 11; refine (unhide CR _ k1).mono ?_; rintro e w2 ⟨a2, n2, c2, rfl, HG2⟩))
  all_goals go_ret2
  all_goals exact ⟨_, _, _, rfl, by rw [← unhide e5]; exact HG2⟩
end Go.Proofs.YtecfgbjnjgjkoaaGreatDoor
namespace Go.Proofs.YtecfgbjnjgjkoaaGreatDoor
open Go.ChangeShapes Go.WideShapes Go.ChangeAt Go.RowKit
set_option linter.unusedVariables false
set_option linter.unusedSimpArgs false
set_option maxRecDepth 20000
set_option maxHeartbeats 4000000

theorem Bp.Td.start {W : World} (pb : Nat) (h1 : W.heap[pb]? = some (.cells #[.slice none 0 0, .slice none 0 0, .int .i64 0, .slice none 0 0, .slice none 0 0, .int .i64 0, .slice none 0 0, .slice none 0 0, .int .i64 0, .slice none 0 0, .slice none 0 0, .int .i64 0, .slice none 0 0, .slice none 0 0, .int .i64 0, .slice none 0 0, .slice none 0 0, .int .i64 0, .slice none 0 0, .slice none 0 0, .int .i64 0, .slice none 0 0, .slice none 0 0, .int .i64 0, .slice none 0 0, .slice none 0 0, .int .i64 0, .slice none 0 0, .slice none 0 0, .int .i64 0, .int .i64 0, .int .i64 0, .int .i64 0] 48 (0, 0))) (h2 : W.heap[pb + 1]? = some (.cells #[.pointer (some ⟨pb, 0, none⟩), .int .i64 400000] 50 (0, 0))) : Bp.Td W W pb 400000 := by
  have half : ∀ (c : Nat) (te tl : TypeId) (mk : Nat → Nat → Value), Bk.Half c te tl mk W (fun _ => 0) 0 ⟨Bk.nilS, Bk.nilS, [], [], 0⟩ := fun c te tl mk => ⟨.inl ⟨rfl, rfl⟩, .inl ⟨rfl, rfl⟩, fun g hg => by simp [Bk.nilS, Value.ownBlock] at hg, fun g hg => by simp [Bk.nilS, Value.ownBlock] at hg, fun j hj => by simp at hj, fun j _ hj => by simp at hj, by simp⟩
  have halfR : Bp.HalfR W (fun _ => 0) 0 ⟨Bk.nilS, Bk.nilS, [], [], 0⟩ := ⟨.inl ⟨rfl, rfl⟩, .inl ⟨rfl, rfl⟩, fun g hg => by simp [Bk.nilS, Value.ownBlock] at hg, fun g hg => by simp [Bk.nilS, Value.ownBlock] at hg, fun j hj => by simp at hj, fun j _ hj => by simp at hj, by simp⟩
  refine ⟨fun _ => 0, ⟨⟨Bk.nilS, Bk.nilS, [], [], 0⟩, ⟨Bk.nilS, Bk.nilS, [], [], 0⟩, 0, 0, 0⟩, fun _ => by decide, ⟨⟨⟨fun i hi => ?_, fun i hi => ?_, block_lt h1⟩, half _ _ _ _, halfR, fun g hg => absurd rfl hg, rfl, rfl, rfl, Nat.le_refl _, Nat.le_refl _, by decide, by decide, by decide⟩, h2, rfl, fun b hb => rfl, Kept.refl _ _, by have := block_lt h1; omega⟩⟩
  · simp only [World.cell?, h1, Nat.zero_add]
    match i, hi with
    | 0, _ => rfl | 1, _ => rfl | 2, _ => rfl | 3, _ => rfl | 4, _ => rfl | 5, _ => rfl | 6, _ => rfl | 7, _ => rfl | 8, _ => rfl | 9, _ => rfl | 10, _ => rfl | 11, _ => rfl | 12, _ => rfl | 13, _ => rfl | 14, _ => rfl | 15, _ => rfl | 16, _ => rfl | 17, _ => rfl | 18, _ => rfl | 19, _ => rfl | 20, _ => rfl | 21, _ => rfl | 22, _ => rfl | 23, _ => rfl | 24, _ => rfl | 25, _ => rfl | 26, _ => rfl | 27, _ => rfl | 28, _ => rfl | 29, _ => rfl | 30, _ => rfl | 31, _ => rfl | 32, _ => rfl | k + 33, h => exact absurd h (by omega)
  · simp only [World.frozen?, h1]
    simp
theorem Bp.Td.old {w0 w1 W : World} {pb : Nat} {m : Int} (h : Bp.Td w1 W pb m) (h01 : Below w0.heap.size w0 w1) (hp : w0.heap.size ≤ pb) : Below w0.heap.size w0 W := by
  have k := h.kept
  exact h01.trans ⟨k.os, k.tape, k.output, k.size, fun b hb => k.blk b (Nat.lt_of_lt_of_le hb h01.size) (by omega)⟩
/-- the Told is made -/
theorem told_startP (w W : World) (hb : Below w.heap.size w W) : Bp.Td ((W.alloc (.cells bookC 48)).alloc (.cells #[.pointer (some ⟨W.heap.size, 0, none⟩), .int .i64 400000] 50)) ((W.alloc (.cells bookC 48)).alloc (.cells #[.pointer (some ⟨W.heap.size, 0, none⟩), .int .i64 400000] 50)) W.heap.size 400000 ∧ Below w.heap.size w ((W.alloc (.cells bookC 48)).alloc (.cells #[.pointer (some ⟨W.heap.size, 0, none⟩), .int .i64 400000] 50)) := by
  have b1 := hb.alloc hb.size (.cells bookC 48)
  have b2 := b1.alloc b1.size (.cells #[.pointer (some ⟨W.heap.size, 0, none⟩), .int .i64 400000] 50)
  refine ⟨Bp.Td.start W.heap.size ?_ ?_, b2⟩
  · exact (Below.heap_alloc _ _ _ (by simp)).trans (heap_alloc_new W (.cells bookC 48))
  · have := heap_alloc_new (W.alloc (.cells bookC 48)) (.cells #[.pointer (some ⟨W.heap.size, 0, none⟩), .int .i64 400000] 50)
    simpa using this
theorem all_dec (w : World) (a : Option Addr) (N cap : Nat) (ht : Tab w) (hU : UOk w) (hN : Script8 w a N) : Calls Tryz.prog 5 #[.slice a N cap, .int .i64 4] w fun e w' => e = .returned (.bool true) ∧ Below w.heap.size w w' := by
  obtain ⟨hNl, hsc⟩ := hN
  have CE : Hid (Calls Tryz.prog 6 #[.agg #[.int .i64 3, .int .i64 (-5), .slice none 0 0, .slice none 0 0]] w fun e w' => ∃ va vc, e = .returned (.tuple #[.slice va 5 vc, .int .i64 0]) ∧ Hid (Bytes w' va [58, 45, 53, 13, 10] ∧ Below w.heap.size w w')) := hide ((encode_five w ht).mono (fun e w' ⟨va, n, vc, h1, h2⟩ => by
    have hn := (unhide h2).len
    simp at hn
    subst hn
    exact ⟨va, vc, h1, hide ⟨(unhide h2).row.inb'.1, (unhide h2).bel⟩⟩))
  have CI : Hid (∀ W va vc, Hid (Bytes W va [58, 45, 53, 13, 10] ∧ Below w.heap.size w W) → Calls Tryz.prog 8 #[.slice va 5 vc, .string ⟨#[58, 45, 53, 13, 10]⟩] W fun e w' => e = .returned (.bool true) ∧ Hid (Below w.heap.size w w')) := hide (fun W va vc h => (is_any (l := [58, 45, 53, 13, 10]) (c1 := vc) ⟨#[58, 45, 53, 13, 10]⟩ [58, 45, 53, 13, 10] rfl (fun j hj => by
      match j, hj with
      | 0, _ => rfl | 1, _ => rfl | 2, _ => rfl | 3, _ => rfl | 4, _ => rfl) (by decide) (by decide) (unhide h).1).mono (fun e w' ⟨h1, h2⟩ => ⟨by rw [h1]; simp, hide ((unhide h).2.trans (h2.mono (unhide h).2.size))⟩))
  have ST : Hid (∀ W, Hid (Below w.heap.size w W) → Bp.Td ((W.alloc (.cells bookC 48)).alloc (.cells #[.pointer (some ⟨W.heap.size, 0, none⟩), .int .i64 400000] 50)) ((W.alloc (.cells bookC 48)).alloc (.cells #[.pointer (some ⟨W.heap.size, 0, none⟩), .int .i64 400000] 50)) W.heap.size 400000 ∧ Below w.heap.size w ((W.alloc (.cells bookC 48)).alloc (.cells #[.pointer (some ⟨W.heap.size, 0, none⟩), .int .i64 400000] 50))) := hide (fun W h => told_startP w W (unhide h))
  have HT := hide ht
  have HU := hide hU
  have HS := hide hsc
  clear ht hsc hU
  go_enter Tryz.func5, Tryz.ntmps5
  go_upto_region 6 with (first
    | (go_at_call 6; refine (unhide CE).mono ?_; rintro e W1 ⟨va, vc, rfl, k1⟩)
    | (go_at_call 7; refine (num_any _ _).mono ?_; rintro e W1' ⟨rfl, h1'⟩; subst h1')
    | (go_at_call 8; refine (unhide CI _ va vc k1).mono ?_; rintro e W2 ⟨rfl, k2⟩))
  obtain ⟨w1, pb, hw1, hpb, ST2⟩ : ∃ w1 pb, w1 = ((W2.alloc (.cells #[.slice none 0 0, .slice none 0 0, .int .i64 0, .slice none 0 0, .slice none 0 0, .int .i64 0, .slice none 0 0, .slice none 0 0, .int .i64 0, .slice none 0 0, .slice none 0 0, .int .i64 0, .slice none 0 0, .slice none 0 0, .int .i64 0, .slice none 0 0, .slice none 0 0, .int .i64 0, .slice none 0 0, .slice none 0 0, .int .i64 0, .slice none 0 0, .slice none 0 0, .int .i64 0, .slice none 0 0, .slice none 0 0, .int .i64 0, .slice none 0 0, .slice none 0 0, .int .i64 0, .int .i64 0, .int .i64 0, .int .i64 0] 48)).alloc (.cells #[.pointer (some ⟨W2.heap.size, 0, none⟩), .int .i64 400000] 50)) ∧ pb = W2.heap.size ∧ Hid (Bp.Td w1 w1 pb 400000 ∧ Below w.heap.size w w1 ∧ w.heap.size ≤ pb) := ⟨_, _, rfl, rfl, hide ⟨(unhide ST _ k2).1, (unhide ST _ k2).2, (unhide k2).size⟩⟩
  rw [← hw1, ← hpb]
  clear k1 k2 CE CI ST hw1 hpb
  go_loopw [8] (fun iv wr => ∃ (i : Nat) (m : Int), iv = .int .i64 (i : Nat) ∧ i ≤ N ∧ i ≤ 4096 ∧ 400000 - (i : Int) * 70000000 ≤ m ∧ m ≤ 400000 ∧ Hid (Bp.Td w1 wr pb m)) (fun iv _ => N - (intOf iv).toNat)
  case atStart => exact ⟨0, 400000, rfl, Nat.zero_le _, by omega, by omega, by omega, hide (unhide ST2).1⟩
  case round =>
    obtain ⟨i, m, rfl, hi, hi2, hm1, hm2, p⟩ := hrel
    have ow : Hid (Below w.heap.size w wr) := hide ((unhide p).old (unhide ST2).2.1 (unhide ST2).2.2)
    rcases Nat.lt_or_ge i N with hlt | hge
    · have f1 : decide ((i : Int) < (N : Int)) = true := decide_eq_true (by omega)
      rcases Nat.lt_or_ge i 4096 with h4 | h4
      · have f2 : decide ((i : Int) < 4096) = true := decide_eq_true (by omega)
        have g1 : (0 : Int) ≤ (i : Int) := by omega
        have g2 : (i : Int) < (N : Int) := by omega
        obtain ⟨b, off, rfl, hb, hc⟩ : ∃ b off, a = some ⟨b, off, none⟩ ∧ b < w.heap.size ∧ ∀ k, k < N → ∃ x, AkOk w b (off + k * 7) x := by
          rcases unhide HS with h | h
          · omega
          · exact h
        obtain ⟨⟨K, da, dn, dc, dl, la, lc, L, d, x, r0, r1, r2, r3⟩, hx⟩ := hc i hlt
        obtain ⟨n, hn⟩ : ∃ n, n = L.length := ⟨_, rfl⟩
        have d0 : wr.cell? ⟨b, off + i * 7, none⟩ = some (.int .i64 K) := by rw [(unhide ow).cell hb]; exact hx.c0
        have d1 : wr.cell? ⟨b, off + i * 7 + 1, none⟩ = some (.slice da dn dc) := by rw [(unhide ow).cell hb]; exact hx.c1
        have d2 : wr.cell? ⟨b, off + i * 7 + 2, none⟩ = some (.slice la n lc) := by rw [(unhide ow).cell hb, hn]; exact hx.c2
        have d3 : wr.cell? ⟨b, off + i * 7 + 3, none⟩ = some r0 := by rw [(unhide ow).cell hb]; exact hx.c3
        have d4 : wr.cell? ⟨b, off + i * 7 + 4, none⟩ = some r1 := by rw [(unhide ow).cell hb]; exact hx.c4
        have d5 : wr.cell? ⟨b, off + i * 7 + 5, none⟩ = some r2 := by rw [(unhide ow).cell hb]; exact hx.c5
        have d6 : wr.cell? ⟨b, off + i * 7 + 6, none⟩ = some r3 := by rw [(unhide ow).cell hb]; exact hx.c6
        by_cases hK : K = 4
        · subst hK
          have CA : Hid (Calls Tryz.prog 9 #[.agg #[.int .i64 4, .slice da dn dc, .slice la n lc, r0, r1, r2, r3], .pointer (some ⟨pb + 1, 0, none⟩)] wr fun e w' => e = .returned (.bool true) ∧ ∃ m', Hid (Bp.Td w1 w' pb m') ∧ m - 70000000 ≤ m' ∧ m' ≤ m) := hide (by
            have := asked_dec w w1 wr pb m da la dn dc n lc d x L dl r0 r1 r2 r3 (unhide HU) (unhide p) (unhide ST2).2.1 (unhide ST2).2.2 hn hx.args hx.rep hx.dn (by rw [hn]; exact hx.ln) hx.dl hx.dcp ⟨by omega, by omega⟩
            exact this)
          clear hx hc hn
          go_wp2_with (go_at_call 9; refine (unhide CA).mono ?_; rintro e W5 ⟨rfl, m', k5, hm3, hm4⟩)
          all_goals go_roundw
          all_goals first | exact ⟨i + 1, m', by go_num, by omega, by omega, by omega, by omega, k5⟩ | (simp [intOf]; omega)
        · have f3 : (K == 4) = false := by simp [hK]
          have f4 : decide (K = 4) = false := decide_eq_false hK
          have pl : Hid (Bp.Td w1 wr pb m) := p
          clear hx hc hn
          go_wp2
          all_goals go_roundw
          all_goals first | exact ⟨i + 1, m, by go_num, by omega, by omega, by omega, by omega, pl⟩ | (simp [intOf]; omega)
      · have f2 : decide ((i : Int) < 4096) = false := decide_eq_false (by omega)
        go_wp2
        all_goals go_ret
        all_goals exact ⟨rfl, unhide ow⟩
    · obtain rfl : i = N := by omega
      have f1 : decide ((i : Int) < (i : Int)) = false := decide_eq_false (by omega)
      go_wp2
      all_goals go_ret
      all_goals exact ⟨rfl, unhide ow⟩
theorem law_dec (w : World) (a : Option Addr) (N cap : Nat) (ht : Tab w) (hU : UOk w) (hN : Script8 w a N) : Calls Tryz.prog 4 #[.slice a N cap] w fun e w' => e = .returned (.bool true) ∧ Below w.heap.size w w' := by
  have CA := hide (all_dec w a N cap ht hU hN)
  clear ht hN hU
  go_enter Tryz.func4, Tryz.ntmps4
  go_wp2_with (go_at_call 5; refine (unhide CA).mono ?_; rintro e w1 ⟨rfl, k1⟩)
  go_ret
  exact ⟨rfl, k1⟩
end Go.Proofs.YtecfgbjnjgjkoaaGreatDoor
