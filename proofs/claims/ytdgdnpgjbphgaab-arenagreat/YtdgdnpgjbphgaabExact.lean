/- ArenaExact: the walk. -/
import Derived.Test.YtdgdnpgjbphgaabStep
namespace Go.Proofs.Ytdgdnpgjbphgaab
open Go.ChangeShapes Go.WideShapes Go.ChangeAt Go.RowKit
set_option linter.unusedVariables false
set_option maxRecDepth 100000
set_option maxHeartbeats 8000000

/-- one step of a script -/
structure OpL where
  K : Int
  X : Int
  Y : Int
  A : Int
  B : Int
  C : Int
  V : Nat
  a : Option Addr
  l : List Nat
  c : Nat
def OpAt (w : World) (b o : Nat) (q : OpL) : Prop :=
  w.cell? ⟨b, o, none⟩ = some (.int .i64 q.K) ∧ w.cell? ⟨b, o + 1, none⟩ = some (.int .i64 q.X) ∧ w.cell? ⟨b, o + 2, none⟩ = some (.int .i64 q.Y) ∧ w.cell? ⟨b, o + 3, none⟩ = some (.int .i64 q.A) ∧ w.cell? ⟨b, o + 4, none⟩ = some (.int .i64 q.B) ∧ w.cell? ⟨b, o + 5, none⟩ = some (.int .i64 q.C) ∧ w.cell? ⟨b, o + 6, none⟩ = some (.int .u64 q.V) ∧ w.cell? ⟨b, o + 7, none⟩ = some (.slice q.a q.l.length q.c)
def OpOk (w : World) (q : OpL) : Prop := q.V < 18446744073709551616 ∧ q.B ≤ 9223372036854775807 ∧ -9223372036854775808 ≤ q.B ∧ Bytes w q.a q.l ∧ Small q.l
/-- a script whose lists are not too long -/
def Script2 (w : World) (a : Option Addr) (n : Nat) : Prop := n = 0 ∨ ∃ b off, a = some ⟨b, off, none⟩ ∧ b < w.heap.size ∧ ∀ i, i < n → ∃ q, OpAt w b (off + i * 8) q ∧ OpOk w q ∧ q.l.length ≤ 140737488351232
def S0 : BookSt := ⟨⟨nilS, nilS, [], [], 0⟩, ⟨nilS, nilS, [], [], 0⟩, 0, 0, 0⟩
def W0 : List Value := List.replicate 6 (.pointer none) ++ (S0.flds ++ List.replicate 64 nilS)
theorem W0_p (i : Nat) (h : i < 6) : W0[i]? = some (.pointer none) := by
  unfold W0
  rw [List.getElem?_append_left (by simpa using h), List.getElem?_replicate, if_pos h]
theorem W0_b (i : Nat) (h : i < 33) : W0[6 + i]? = some (S0.flds.getD i undef) := by
  have hl : S0.flds.length = 33 := rfl
  unfold W0
  rw [List.getElem?_append_right (by simp), List.length_replicate, Nat.add_sub_cancel_left, List.getElem?_append_left (by omega), List.getD_eq_getElem?_getD, List.getElem?_eq_getElem (by omega)]
  rfl
theorem W0_r (k : Nat) (h : k < 64) : W0[39 + k]? = some nilS := by
  have hl : S0.flds.length = 33 := rfl
  unfold W0
  rw [List.getElem?_append_right (by simp; omega), List.length_replicate, List.getElem?_append_right (by omega), hl, List.getElem?_replicate, if_pos (by omega)]
/-- the world at the start -/
theorem world_start {w w1 : World} (hb : Below w.heap.size w w1) : WAt w (w1.alloc (.cells W0.toArray 49)) w1.heap.size (fun _ => 0) (fun _ => 0) (fun _ => 0) S0 (fun _ => none) (fun _ => nilS) := by
  have hg := heap_alloc_new w1 (.cells W0.toArray 49)
  have hs : (w1.alloc (.cells W0.toArray 49)).heap.size = w1.heap.size + 1 := by simp
  have bel : Below w.heap.size w (w1.alloc (.cells W0.toArray 49)) := hb.alloc hb.size _
  generalize w1.alloc (.cells W0.toArray 49) = W at *
  have hc : ∀ j, W.cell? ⟨w1.heap.size, j, none⟩ = W0[j]? := fun j => by
    simp only [World.cell?, hg]
    simp
  have hf : ∀ j, W.frozen? ⟨w1.heap.size, j, none⟩ = false := fun j => by
    simp only [World.frozen?, hg]
    simp
  have half : ∀ (c : Nat) (te tl : TypeId) (mk : Nat → Nat → Value), Half c te tl mk W (fun _ => 0) 0 ⟨nilS, nilS, [], [], 0⟩ := fun c te tl mk => ⟨.inl ⟨rfl, rfl⟩, .inl ⟨rfl, rfl⟩, fun g hg => by simp [nilS, Value.ownBlock] at hg, fun g hg => by simp [nilS, Value.ownBlock] at hg, fun j hj => by simp at hj, fun j _ hj => by simp at hj, by simp⟩
  refine ⟨fun i hi => ⟨by rw [hc, W0_p i (by omega)]; rfl, hf _⟩, fun i hi => ⟨by rw [hc, W0_p (3 + i) (by omega)]; rfl, hf _⟩, ⟨⟨fun i hi => by rw [hc]; exact W0_b i hi, fun i hi => hf _, by omega⟩, half _ _ _ _, half _ _ _ _, fun g hg => absurd rfl hg, rfl, rfl, rfl, Nat.le_refl _, Nat.le_refl _, by decide, by decide, by decide⟩, fun k hk => ⟨by rw [hc]; exact W0_r k hk, hf _, ⟨0, fun _ => undef, .inl ⟨rfl, rfl⟩⟩, fun g hg => by simp [nilS, Value.ownBlock] at hg⟩, (fun i d hi hd => by cases hd), fun g => ⟨fun hg => absurd rfl hg, fun hg => absurd rfl hg⟩, ⟨rfl, rfl⟩, (fun g hg => by rcases hg with hg | hg <;> exact absurd rfl hg), (fun g hg => by rcases hg with hg | hg | hg <;> exact absurd rfl hg), hb.size, bel⟩
theorem tagAt_nil (tag : Nat → Nat) (k : Nat) : tagAt tag (.slice none 0 0) k = tag := by
  funext g
  unfold tagAt
  rw [if_neg (fun e => by cases e)]
theorem exact_law (aS : Option Addr) (n cS : Nat) (w : World) (hS : Script2 w aS n) (hn : n ≤ 140737488355328) :
    Calls Try.prog 4 #[.slice aS n cS] w fun e w' => e = .returned (.bool true) ∧ Below w.heap.size w w' := by
  have HS := hide hS
  have HBG := hide (begun_any w)
  clear hS
  go_enter Try.func4, Try.ntmps4
  go_wp2_with fail
  refine (unhide HBG).mono ?_
  rintro e w1 ⟨rfl, hb1⟩
  have HB1 := hide hb1
  clear hb1 HBG
  go_wp2_with fail
  have HW := hide (world_start (unhide HB1))
  refine (?_ : ∀ W2, W2 = w1.alloc (.cells W0.toArray 49) → Code.wp Try.prog _ _ _ W2) _ (by rfl)
  intro w2 hw2
  rw [← hw2] at HW
  obtain ⟨pw, hpw⟩ : ∃ pw, pw = w1.heap.size := ⟨_, rfl⟩
  rw [← hpw] at HW ⊢
  clear hw2 HB1 hpw
  go_loopw [4, 5] (fun i okv wq => ∃ (k : Nat) (tag rt kt : Nat → Nat) (S : BookSt) (D : Nat → Option Dat) (V : Nat → Value), k ≤ n ∧ k ≤ 4096 ∧ i = .int .i64 k ∧ WAt w wq pw tag rt kt S D V ∧ S.turn ≤ k) (fun i _ _ => n - (intOf i).toNat)
  case atStart => exact ⟨0, _, _, _, _, _, _, by omega, by omega, rfl, unhide HW, Nat.le_refl _⟩
  case round =>
    clear HW
    obtain ⟨k, tag, rt, kt, S, D, V, hk, hk2, rfl, hq, ht⟩ := hrel
    rename World => wq
    by_cases hlt : k < n
    · have d1 : decide ((k : Int) < (n : Int)) = true := decide_eq_true (by omega)
      have d1' : decide (k < n) = true := decide_eq_true hlt
      by_cases hlt2 : k < 4096
      · have d2 : decide ((k : Int) < 4096) = true := decide_eq_true (by omega)
        have d2' : decide (k < 4096) = true := decide_eq_true hlt2
        have x0 : (0 : Int) ≤ (k : Int) := by omega
        have x1 : (k : Int) < (n : Int) := by omega
        obtain ⟨b, off, rfl, hbl, hqs⟩ : ∃ b off, aS = some ⟨b, off, none⟩ ∧ b < w.heap.size ∧ ∃ q, OpAt w b (off + k * 8) q ∧ OpOk w q ∧ q.l.length ≤ 140737488351232 := by
          rcases unhide HS with h0 | ⟨b, off, e, hbl, hc⟩
          · omega
          · exact ⟨b, off, e, hbl, hc k hlt⟩
        obtain ⟨⟨K, X, Y, A, B, C, U, a, l, c⟩, ⟨c0, c1, c2, c3, c4, c5, c6, c7⟩, ⟨q1, q2, q3, q4, q5⟩, q6⟩ := hqs
        dsimp only at c0 c1 c2 c3 c4 c5 c6 c7 q1 q2 q3 q4 q5 q6
        have cc := fun j => hq.bel.cell (p := ⟨b, off + k * 8 + j, none⟩) hbl
        have e0 : wq.cell? ⟨b, off + k * 8, none⟩ = some (.int .i64 K) := (hq.bel.cell (p := ⟨b, off + k * 8, none⟩) hbl).trans c0
        have e1 := (cc 1).trans c1
        have e2 := (cc 2).trans c2
        have e3 := (cc 3).trans c3
        have e4 := (cc 4).trans c4
        have e5 := (cc 5).trans c5
        have e6 := (cc 6).trans c6
        have e7 := (cc 7).trans c7
        have HST := hide (step_any hq K X Y A B C U c a l q1 q2 q3 (by omega) q6 q4 q5)
        clear cc c0 c1 c2 c3 c4 c5 c6 c7 q1 q2 q3 q4 q5 q6 hq
        go_wp2_with fail
        refine (unhide HST).mono ?_
        rintro e w3 ⟨rfl, tag3, rt3, kt3, S3, D3, V3, h3, t3'⟩
        have HL := hide (look_any h3.bk)
        have HW3 := hide h3
        clear h3 e0 e1 e2 e3 e4 e5 e6 e7 HST
        go_wp2_with fail
        refine (unhide HL).mono ?_
        rintro e w4 ⟨rfl, tag4, S4, b4, t4, n4⟩
        have HW4 := hide ((unhide HW3).noted (.slice none 0 0) 0 (fun g hg => by cases hg) b4 (by rw [tagAt_nil]; exact n4))
        clear b4 n4 HL HW3
        go_wp2_with fail
        go_roundw
        case rel => exact ⟨k + 1, tag4, rt3, kt3, S4, D3, V3, by omega, by omega, by go_num, unhide HW4, by omega⟩
        case measure => simp [intOf]; omega
      · have d2 : decide ((k : Int) < 4096) = false := decide_eq_false (by omega)
        have d2' : decide (k < 4096) = false := decide_eq_false hlt2
        have HE := hide hq.bel
        clear hq
        go_wp2
        go_ret
        exact ⟨rfl, unhide HE⟩
    · have d1 : decide ((k : Int) < (n : Int)) = false := decide_eq_false (by omega)
      have d1' : decide (k < n) = false := decide_eq_false hlt
      have HE := hide hq.bel
      clear hq
      go_wp2
      go_ret
      exact ⟨rfl, unhide HE⟩
end Go.Proofs.Ytdgdnpgjbphgaab
