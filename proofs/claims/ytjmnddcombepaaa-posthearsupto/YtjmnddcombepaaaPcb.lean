/- Join, Leave. -/
import Derived.Test.YtjmnddcombepaaaPca
import Derived.Test.YtjmnddcombepaaaShelf
import Derived.Deep.RegionHeld3
namespace Go.Proofs.Ytjmnddcombepaaa
open Go.ChangeShapes Go.WideShapes Go.ChangeAt Go.RowKit Go.Maps
set_option linter.unusedVariables false
set_option linter.unusedSimpArgs false
set_option maxRecDepth 100000
set_option maxHeartbeats 4000000

theorem clone_any (w : World) (T : List UInt8) (hT : T.length ≤ 281474976710656) : Calls Try.prog 32 #[.string (bs T)] w fun e w' => e = .returned (.string (bs T)) ∧ Hid (Below w.heap.size w w') := by
  have CC : Hid (Calls Try.prog 57 #[.string (bs T)] w fun e w' => e = .returned (.string (bs T)) ∧ Below w.heap.size w w') := hide (Try.stringslite_Clone (bs T) w (by rw [bs_size]; exact hT))
  go_enter Try.func32, Try.ntmps32
  go_wp2_with (go_at_call 57; refine (unhide CC).mono ?_; rintro e w2 ⟨rfl, k2⟩)
  go_ret
  exact ⟨rfl, k2⟩
/-- nothing but block b has turned -/
structure KeptB (b : Nat) (w w' : World) : Prop where
  os : w'.os = w.os
  tape : w'.tape = w.tape
  output : w'.output = w.output
  size : w.heap.size ≤ w'.heap.size
  blk : ∀ i, i < w.heap.size → i ≠ b → w'.heap[i]? = w.heap[i]?
theorem KeptB.trans {b : Nat} {w w' w'' : World} (h : KeptB b w w') (k : KeptB b w' w'') : KeptB b w w'' :=
  ⟨k.os.trans h.os, k.tape.trans h.tape, k.output.trans h.output, Nat.le_trans h.size k.size, fun i hi hb => (k.blk i (Nat.lt_of_lt_of_le hi h.size) hb).trans (h.blk i hi hb)⟩
theorem KeptB.of {b : Nat} {w w' : World} (h : Below w.heap.size w w') : KeptB b w w' := ⟨h.os, h.tape, h.output, h.size, fun i hi _ => h.block i hi⟩
theorem KeptB.turned {b : Nat} {w w' : World} (h : w.mapTurned w' b) : KeptB b w w' := by
  have g := h.grown
  exact ⟨g.os, g.tape, g.output, g.size, fun i hi hb => g.block i hi (fun e => hb (by cases e; rfl))⟩
theorem PostAt.keep {w w' : World} {p b b' : Nat} {D : Dt} {S : List Key} (h : PostAt w p b D S) (k : KeptB b' w w') (h1 : p ≠ b') (h2 : b ≠ b') : PostAt w' p b D S := h.same (k.blk _ h.lt.1 h1) (k.blk _ h.lt.2 h2)
theorem PostAt.put {w w1 w' : World} {p b : Nat} {D : Dt} {S : List Key} {k : Key} (h : PostAt w p b D S) (hk : KOk k) (hn : k ∉ S) (ho : w'.ownsMap Try.prog 77 unitElem b (S.length + 1) (D.put (lit k) (.agg []))) (ht : w.mapTurned w' b) : PostAt w' p b (D.put (lit k) (.agg [])) (k :: S) :=
  ⟨((KeptB.turned ht).blk _ h.lt.1 h.ne).trans h.cell, h.map.put hk hn ho⟩
theorem PostAt.del {w w' : World} {p b : Nat} {D : Dt} {S : List Key} {k : Key} (h : PostAt w p b D S) (hk : KOk k) (ho : w'.ownsMap Try.prog 77 unitElem b S.length (D.del (lit k))) (ht : w.mapTurned w' b) : PostAt w' p b (D.del (lit k)) (S.erase k) :=
  ⟨((KeptB.turned ht).blk _ h.lt.1 h.ne).trans h.cell, h.map.del hk ho⟩
theorem kok {c : Int} {T : List UInt8} {q : Bool} (hc : 0 ≤ c ∧ c < 8) (hT : T.length ≤ 4096) : KOk (c, T, q) := by
  refine ⟨?_, ?_⟩
  · have : -9223372036854775808 ≤ c ∧ c ≤ 9223372036854775807 := by omega
    exact WalkArith.wf_i64 this
  · show T.length ≤ maxLen
    unfold maxLen
    omega
/-- what comes of a Join: the set, the number, whether it is new, the error -/
def joinR (S : List Key) (k : Key) : List Key × Nat × Bool × Int := if k ∈ S then (S, cntC S k.1, false, 0) else if 64 ≤ cntC S k.1 then (S, 0, false, 172) else (k :: S, cntC S k.1 + 1, true, 0)
theorem join_any (w : World) (p b : Nat) (D : Dt) (S : List Key) (c : Int) (T : List UInt8) (q : Bool) (h : PostAt w p b D S) (hc : 0 ≤ c ∧ c < 8) (hT : T.length ≤ 4096) (hS : S.length ≤ 1099511627776) :
    Calls Try.prog 10 #[.pointer (some ⟨p, 0, none⟩), .int .i64 c, .string (bs T), .bool q] w fun e w' => e = .returned (.tuple #[.int .i64 ((joinR S (c, T, q)).2.1 : Nat), .bool (joinR S (c, T, q)).2.2.1, .int .i64 (joinR S (c, T, q)).2.2.2]) ∧ Hid (∃ D', PostAt w' p b D' (joinR S (c, T, q)).1 ∧ KeptB b w w') := by
  have hk : KOk (c, T, q) := kok hc hT
  have CR : Hid (Calls Try.prog 30 #[.int .i64 c, .string (bs T)] w fun e w' => e = .returned (.int .i64 0) ∧ w' = w) := hide (by
    have := refuse_any w c T (by omega)
    rw [if_neg (by omega), if_neg (by omega)] at this
    exact this)
  have hcl := cntC_le S c
  obtain ⟨n, hn⟩ : ∃ n, n = cntC S c := ⟨_, rfl⟩
  have HN := hide hn
  have hnl : n ≤ 1099511627776 := by omega
  have CC : Hid (Calls Try.prog 13 #[.pointer (some ⟨p, 0, none⟩), .int .i64 c] w fun e w' => e = .returned (.int .i64 (n : Nat)) ∧ Hid (Below w.heap.size w w')) := hide (by rw [hn]; exact count_any w p b D S c h hS)
  have CL : Hid (∀ W, Hid (Below w.heap.size w W) → Calls Try.prog 31 #[.pointer (some ⟨p, 0, none⟩), .int .i64 c, .string (bs T), .bool q] W fun e w' => e = .returned (.bool (decide ((c, T, q) ∈ S))) ∧ Hid (PostAt w' p b D S ∧ Below w.heap.size w w')) := hide (fun W hb => (listens_any W p b D S c T q (h.below (unhide hb)) hk).mono (fun e w' ⟨h1, h2⟩ => ⟨h1, hide ⟨(h.below (unhide hb)).below (unhide h2), (unhide hb).trans ((unhide h2).mono (unhide hb).size)⟩⟩))
  have CN : Hid (∀ W, Hid (PostAt W p b D S ∧ Below w.heap.size w W) → Calls Try.prog 32 #[.string (bs T)] W.drew fun e w' => e = .returned (.string (bs T)) ∧ Hid (PostAt w' p b D S ∧ Below w.heap.size w w') ∧ w'.cell? ⟨p, 0, none⟩ = some (.map (some b))) := hide (fun W hb => (clone_any W.drew T (by omega)).mono (fun e w' ⟨h1, h2⟩ => by
    have b1 : Below W.heap.size W W.drew := ⟨rfl, rfl, rfl, Nat.le_refl _, fun _ _ => rfl⟩
    have p1 := ((unhide hb).1.below b1).below (unhide h2)
    exact ⟨h1, hide ⟨p1, ((unhide hb).2.trans (b1.mono (unhide hb).2.size)).trans ((unhide h2).mono (by exact (unhide hb).2.size))⟩, p1.m⟩))
  by_cases e : (c, T, q) ∈ S
  · have hj : joinR S (c, T, q) = (S, n, false, 0) := by unfold joinR; rw [if_pos e, hn]
    have fd : decide ((c, T, q) ∈ S) = true := decide_eq_true e
    rw [hj]
    rw [fd] at CL
    clear h hn hj e fd
    dsimp only
    go_enter Try.func10, Try.ntmps10
    go_wp2_with (first
      | (go_at_call 30; with_reducible refine (unhide CR).mono ?_; rintro e w1 ⟨rfl, h1⟩; obtain rfl := h1.symm)
      | (go_at_call 13; with_reducible refine (unhide CC).mono ?_; rintro e w2 ⟨rfl, k2⟩)
      | (go_at_call 31; with_reducible refine (unhide CL w2 k2).mono ?_; rintro e w3 ⟨rfl, k3⟩))
    all_goals go_ret3
    all_goals exact ⟨rfl, hide ⟨D, (unhide k3).1, KeptB.of (unhide k3).2⟩⟩
  · have fd : decide ((c, T, q) ∈ S) = false := decide_eq_false e
    rw [fd] at CL
    by_cases e2 : 64 ≤ n
    · have hj : joinR S (c, T, q) = (S, 0, false, 172) := by unfold joinR; rw [if_neg e, if_pos (by rw [← hn]; exact e2)]
      have f2 : decide ((n : Int) ≥ 64) = true := decide_eq_true (by omega)
      have f2' : decide (64 ≤ (n : Int)) = true := decide_eq_true (by omega)
      have f2'' : decide (64 ≤ n) = true := decide_eq_true (by omega)
      rw [hj]
      clear h hn hj e fd
      dsimp only
      go_enter Try.func10, Try.ntmps10
      go_wp2_with (first
        | (go_at_call 30; with_reducible refine (unhide CR).mono ?_; rintro e w1 ⟨rfl, h1⟩; obtain rfl := h1.symm)
        | (go_at_call 13; with_reducible refine (unhide CC).mono ?_; rintro e w2 ⟨rfl, k2⟩)
        | (go_at_call 31; with_reducible refine (unhide CL w2 k2).mono ?_; rintro e w3 ⟨rfl, k3⟩))
      all_goals go_ret3
      all_goals exact ⟨rfl, hide ⟨D, (unhide k3).1, KeptB.of (unhide k3).2⟩⟩
    · have hj : joinR S (c, T, q) = ((c, T, q) :: S, n + 1, true, 0) := by unfold joinR; rw [if_neg e, if_neg (by rw [← hn]; exact e2), hn]
      have f2 : decide ((n : Int) ≥ 64) = false := decide_eq_false (by omega)
      have f2' : decide (64 ≤ (n : Int)) = false := decide_eq_false (by omega)
      have f2'' : decide (64 ≤ n) = false := decide_eq_false (by omega)
      have f1n : Hid (((n : Int) + 1) = ((n + 1 : Nat) : Int)) := hide (by omega)
      have ST : Hid (∀ W, Hid (PostAt W p b D S ∧ Below w.heap.size w W) → ∃ w', (Instr.mapUpdate 69 (.map (some b)) (.agg #[.int .i64 c, .string (bs T), .bool q]) (.agg #[])).run Try.prog W = .ok () w' ∧ Hid (∃ D', PostAt w' p b D' ((c, T, q) :: S) ∧ KeptB b w w')) := hide (fun W hb => by
        obtain ⟨w', r1, r2, r3⟩ := (unhide hb).1.map.own.store lawK Try.underlying69 (by unfold maxLen; omega) (lit_of hk) (unitElem_mk (H := Unit))
        exact ⟨w', r1, hide ⟨_, (unhide hb).1.put (w1 := W) hk e r2 r3, (KeptB.of (unhide hb).2).trans (KeptB.turned r3)⟩⟩)
      rw [hj]
      have HE := hide e
      clear h hn hj e fd e2
      dsimp only
      go_enter Try.func10, Try.ntmps10
      go_wp2_with (first
        | (go_at_call 30; with_reducible refine (unhide CR).mono ?_; rintro e w1 ⟨rfl, h1⟩; obtain rfl := h1.symm)
        | (go_at_call 13; with_reducible refine (unhide CC).mono ?_; rintro e w2 ⟨rfl, k2⟩)
        | (go_at_call 31; with_reducible refine (unhide CL w2 k2).mono ?_; rintro e w3 ⟨rfl, k3⟩; have x3 := (unhide k3).1.m))
      go_region_with (go_at_call 32; with_reducible refine (unhide CN w3 k3).mono ?_; rintro e w4 ⟨rfl, k4, x4⟩; obtain ⟨w5, r5, k5⟩ := unhide ST w4 k4)
      all_goals go_wp2
      all_goals go_ret3
      all_goals exact ⟨by rw [← unhide f1n]; rfl, k5⟩
end Go.Proofs.Ytjmnddcombepaaa
