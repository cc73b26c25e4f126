/- all: every Line of a script. -/
import Derived.Test.YtcnlikojbkegiaaGreatDoorWrb
import Derived.Test.YtcnlikojbkegiaaGreatDoorAkl
import Derived.Test.YtcnlikojbkegiaaGreatDoorAkd
namespace Go.Proofs.YtcnlikojbkegiaaGreatDoor
open Go.ChangeShapes Go.WideShapes Go.ChangeAt Go.RowKit
set_option linter.unusedVariables false
set_option linter.unusedSimpArgs false
set_option maxRecDepth 20000
set_option maxHeartbeats 4000000

theorem fit_five (w : World) : Calls Tryz.prog 10 #[.agg #[.int .i64 3, .int .i64 (-5), .slice none 0 0, .slice none 0 0], .int .i64 0] w fun e w' => e = .returned (.bool true) ∧ Below w.heap.size w w' := by
  go_enter Tryz.func10, Tryz.ntmps10
  go_wp2
  go_region
  all_goals go_wp2
  all_goals go_ret
  all_goals exact ⟨rfl, ((Below.refl _ _).alloc (Nat.le_refl _) _).drew⟩
theorem reply_five (w0 w : World) (ht : Tab w0) (hb : Below w0.heap.size w0 w) : Calls Tryz.prog 11 #[.slice none 0 0, .agg #[.int .i64 3, .int .i64 (-5), .slice none 0 0, .slice none 0 0]] w fun e w' => ∃ va n vc, e = .returned (.slice va n vc) ∧ Hid (Gro w0 w' w0.heap.size (.slice va n vc) n (numL 58 (-5))) := by
  have CN : Hid (∀ W, Below w0.heap.size w0 W → Calls Tryz.prog 36 #[.slice none 0 0, .int .u8 58, .int .i64 (-5)] W fun e w' => ∃ va' n' vc', e = .returned (.slice va' n' vc') ∧ Hid (Gro w0 w' w0.heap.size (.slice va' n' vc') n' ([] ++ numL 58 (-5)))) := hide (fun W hW => addnum_any w0 W w0.heap.size none 0 0 58 [] (-5) ⟨hW, hW.size, .inl ⟨rfl, rfl⟩, fun g hg => by simp [Value.ownBlock] at hg, rfl⟩ (ht.below hW) ⟨by decide, by decide⟩ (by decide))
  have HB : Hid (∀ o, Below w0.heap.size w0 (w.alloc o)) := hide (fun o => hb.alloc hb.size o)
  clear ht hb
  go_enter Tryz.func11, Tryz.ntmps11
  go_wp2_with (go_at_call 36; refine (unhide CN _ (unhide HB _)).mono ?_; rintro e w1 ⟨a1, n1, c1, rfl, HG1⟩)
  all_goals go_ret
  all_goals exact ⟨_, _, _, rfl, HG1⟩
theorem encode_five (w : World) (ht : Tab w) : Calls Tryz.prog 6 #[.agg #[.int .i64 3, .int .i64 (-5), .slice none 0 0, .slice none 0 0]] w fun e w' => ∃ va n vc, e = .returned (.tuple #[.slice va n vc, .int .i64 0]) ∧ Hid (Gro w w' w.heap.size (.slice va n vc) n [58, 45, 53, 13, 10]) := by
  have AL : Hid (Below w.heap.size w (w.alloc (.cells #[.int .i64 3, .int .i64 (-5), .slice none 0 0, .slice none 0 0] 31))) := hide ((Below.refl _ _).alloc (Nat.le_refl _) _)
  have CF : Hid (Calls Tryz.prog 10 #[.agg #[.int .i64 3, .int .i64 (-5), .slice none 0 0, .slice none 0 0], .int .i64 0] (w.alloc (.cells #[.int .i64 3, .int .i64 (-5), .slice none 0 0, .slice none 0 0] 31)) fun e w' => e = .returned (.bool true) ∧ Hid (Below w.heap.size w w') ∧ w'.cell? ⟨w.heap.size, 0, none⟩ = some (.int .i64 3) ∧ w'.cell? ⟨w.heap.size, 1, none⟩ = some (.int .i64 (-5)) ∧ w'.cell? ⟨w.heap.size, 2, none⟩ = some (.slice none 0 0) ∧ w'.cell? ⟨w.heap.size, 3, none⟩ = some (.slice none 0 0)) := hide ((fit_five _).mono (fun e w' h => by
    have hg := (h.2.block w.heap.size (by simp)).trans (heap_alloc_new w _)
    exact ⟨h.1, hide ((unhide AL).trans (h.2.mono (by simp))), by rw [cell_of_row _ _ _ _ _ _ hg]; rfl, by rw [cell_of_row _ _ _ _ _ _ hg]; rfl, by rw [cell_of_row _ _ _ _ _ _ hg]; rfl, by rw [cell_of_row _ _ _ _ _ _ hg]; rfl⟩))
  have CR : Hid (∀ W, Hid (Below w.heap.size w W) → Calls Tryz.prog 11 #[.slice none 0 0, .agg #[.int .i64 3, .int .i64 (-5), .slice none 0 0, .slice none 0 0]] W fun e w' => ∃ va n vc, e = .returned (.slice va n vc) ∧ Hid (Gro w w' w.heap.size (.slice va n vc) n (numL 58 (-5)))) := hide (fun W hW => reply_five w W ht (unhide hW))
  have e5 : Hid (numL 58 (-5) = [58, 45, 53, 13, 10]) := hide (by decide +kernel)
  clear ht
  go_enter Tryz.func6, Tryz.ntmps6
  go_wp2_with (first
    | (go_at_call 10; refine (unhide CF).mono ?_; rintro e w1 ⟨rfl, k1, x0, x1, x2, x3⟩)
    | (go_at_call 11; refine (unhide CR _ k1).mono ?_; rintro e w2 ⟨a2, n2, c2, rfl, HG2⟩))
  all_goals go_ret2
  all_goals exact ⟨_, _, _, rfl, by rw [← unhide e5]; exact HG2⟩
end Go.Proofs.YtcnlikojbkegiaaGreatDoor
namespace Go.Proofs.YtcnlikojbkegiaaGreatDoor
open Go.ChangeShapes Go.WideShapes Go.ChangeAt Go.RowKit
set_option linter.unusedVariables false
set_option linter.unusedSimpArgs false
set_option maxRecDepth 20000
set_option maxHeartbeats 4000000

theorem Br.Td.start {W : World} (pb : Nat) (h1 : W.heap[pb]? = some (.cells #[.slice none 0 0, .slice none 0 0, .int .i64 0, .slice none 0 0, .slice none 0 0, .int .i64 0, .slice none 0 0, .slice none 0 0, .int .i64 0, .slice none 0 0, .slice none 0 0, .int .i64 0, .slice none 0 0, .slice none 0 0, .int .i64 0, .slice none 0 0, .slice none 0 0, .int .i64 0, .slice none 0 0, .slice none 0 0, .int .i64 0, .slice none 0 0, .slice none 0 0, .int .i64 0, .slice none 0 0, .slice none 0 0, .int .i64 0, .slice none 0 0, .slice none 0 0, .int .i64 0, .int .i64 0, .int .i64 0, .int .i64 0] 48 (0, 0))) (h2 : W.heap[pb + 1]? = some (.cells #[.pointer (some ⟨pb, 0, none⟩), .int .i64 400000] 50 (0, 0))) : Br.Td W W pb 0 400000 [] [] := by
  have half : ∀ (c : Nat) (te tl : TypeId) (mk : Nat → Nat → Value), Bk.Half c te tl mk W (fun _ => 0) 0 ⟨Bk.nilS, Bk.nilS, [], [], 0⟩ := fun c te tl mk => ⟨.inl ⟨rfl, rfl⟩, .inl ⟨rfl, rfl⟩, fun g hg => by simp [Bk.nilS, Value.ownBlock] at hg, fun g hg => by simp [Bk.nilS, Value.ownBlock] at hg, fun j hj => by simp at hj, fun j _ hj => by simp at hj, by simp⟩
  have halfR : Br.HalfR W (fun _ => 0) 0 ⟨Bk.nilS, Bk.nilS, [], [], 0⟩ := ⟨.inl ⟨rfl, rfl⟩, .inl ⟨rfl, rfl⟩, fun g hg => by simp [Bk.nilS, Value.ownBlock] at hg, fun g hg => by simp [Bk.nilS, Value.ownBlock] at hg, fun j hj => by simp at hj, fun j _ hj => by simp at hj, by simp⟩
  refine ⟨fun _ => 0, ⟨⟨Bk.nilS, Bk.nilS, [], [], 0⟩, ⟨Bk.nilS, Bk.nilS, [], [], 0⟩, 0, 0, 0⟩, Nat.le_refl _, ⟨⟨⟨fun i hi => ?_, fun i hi => ?_, block_lt h1⟩, half _ _ _ _, halfR, fun g hg => absurd rfl hg, rfl, rfl, rfl, Nat.le_refl _, Nat.le_refl _, by decide, by decide, by decide⟩, h2, rfl, fun b hb => rfl, fun z hz => (by cases hz), List.Pairwise.nil, fun x hx => (by cases hx), Kept.refl _ _, by have := block_lt h1; omega⟩⟩
  · simp only [World.cell?, h1, Nat.zero_add]
    match i, hi with
    | 0, _ => rfl | 1, _ => rfl | 2, _ => rfl | 3, _ => rfl | 4, _ => rfl | 5, _ => rfl | 6, _ => rfl | 7, _ => rfl | 8, _ => rfl | 9, _ => rfl | 10, _ => rfl | 11, _ => rfl | 12, _ => rfl | 13, _ => rfl | 14, _ => rfl | 15, _ => rfl | 16, _ => rfl | 17, _ => rfl | 18, _ => rfl | 19, _ => rfl | 20, _ => rfl | 21, _ => rfl | 22, _ => rfl | 23, _ => rfl | 24, _ => rfl | 25, _ => rfl | 26, _ => rfl | 27, _ => rfl | 28, _ => rfl | 29, _ => rfl | 30, _ => rfl | 31, _ => rfl | 32, _ => rfl | k + 33, h => exact absurd h (by omega)
  · simp only [World.frozen?, h1]
    simp
theorem Br.Td.old {w0 w1 W : World} {pb t : Nat} {m : Int} {Z : List (Value × List Nat)} {X : List (Nat × Obj)} (h : Br.Td w1 W pb t m Z X) (h01 : Below w0.heap.size w0 w1) (hp : w0.heap.size ≤ pb) : Below w0.heap.size w0 W := by
  have k := h.kept
  exact h01.trans ⟨k.os, k.tape, k.output, k.size, fun b hb => k.blk b (Nat.lt_of_lt_of_le hb h01.size) (by omega)⟩
/-- the Told is made -/
theorem told_startR (w W : World) (hb : Below w.heap.size w W) : Br.Td ((W.alloc (.cells bookC 48)).alloc (.cells #[.pointer (some ⟨W.heap.size, 0, none⟩), .int .i64 400000] 50)) ((W.alloc (.cells bookC 48)).alloc (.cells #[.pointer (some ⟨W.heap.size, 0, none⟩), .int .i64 400000] 50)) W.heap.size 0 400000 [] [] ∧ Below w.heap.size w ((W.alloc (.cells bookC 48)).alloc (.cells #[.pointer (some ⟨W.heap.size, 0, none⟩), .int .i64 400000] 50)) := by
  have b1 := hb.alloc hb.size (.cells bookC 48)
  have b2 := b1.alloc b1.size (.cells #[.pointer (some ⟨W.heap.size, 0, none⟩), .int .i64 400000] 50)
  refine ⟨Br.Td.start W.heap.size ?_ ?_, b2⟩
  · exact (Below.heap_alloc _ _ _ (by simp)).trans (heap_alloc_new W (.cells bookC 48))
  · have := heap_alloc_new (W.alloc (.cells bookC 48)) (.cells #[.pointer (some ⟨W.heap.size, 0, none⟩), .int .i64 400000] 50)
    simpa using this
theorem all_line (w : World) (a : Option Addr) (N cap : Nat) (ht : Tab w) (hN : Script8 w a N) : Calls Tryz.prog 5 #[.slice a N cap, .int .i64 1] w fun e w' => e = .returned (.bool true) ∧ Below w.heap.size w w' := by
  obtain ⟨hNl, hsc⟩ := hN
  have CE : Hid (Calls Tryz.prog 6 #[.agg #[.int .i64 3, .int .i64 (-5), .slice none 0 0, .slice none 0 0]] w fun e w' => ∃ va vc, e = .returned (.tuple #[.slice va 5 vc, .int .i64 0]) ∧ Hid (Bytes w' va [58, 45, 53, 13, 10] ∧ Below w.heap.size w w')) := hide ((encode_five w ht).mono (fun e w' ⟨va, n, vc, h1, h2⟩ => by
    have hn := (unhide h2).len
    simp at hn
    subst hn
    exact ⟨va, vc, h1, hide ⟨(unhide h2).row.inb'.1, (unhide h2).bel⟩⟩))
  have CI : Hid (∀ W va vc, Hid (Bytes W va [58, 45, 53, 13, 10] ∧ Below w.heap.size w W) → Calls Tryz.prog 8 #[.slice va 5 vc, .string ⟨#[58, 45, 53, 13, 10]⟩] W fun e w' => e = .returned (.bool true) ∧ Hid (Below w.heap.size w w')) := hide (fun W va vc h => (is_any (l := [58, 45, 53, 13, 10]) (c1 := vc) ⟨#[58, 45, 53, 13, 10]⟩ [58, 45, 53, 13, 10] rfl (fun j hj => by
      match j, hj with
      | 0, _ => rfl | 1, _ => rfl | 2, _ => rfl | 3, _ => rfl | 4, _ => rfl) (by decide) (by decide) (unhide h).1).mono (fun e w' ⟨h1, h2⟩ => ⟨by rw [h1]; simp, hide ((unhide h).2.trans (h2.mono (unhide h).2.size))⟩))
  have ST : Hid (∀ W, Hid (Below w.heap.size w W) → Br.Td ((W.alloc (.cells bookC 48)).alloc (.cells #[.pointer (some ⟨W.heap.size, 0, none⟩), .int .i64 400000] 50)) ((W.alloc (.cells bookC 48)).alloc (.cells #[.pointer (some ⟨W.heap.size, 0, none⟩), .int .i64 400000] 50)) W.heap.size 0 400000 [] [] ∧ Below w.heap.size w ((W.alloc (.cells bookC 48)).alloc (.cells #[.pointer (some ⟨W.heap.size, 0, none⟩), .int .i64 400000] 50))) := hide (fun W h => told_startR w W (unhide h))
  have HT := hide ht
  have HS := hide hsc
  clear ht hsc
  go_enter Tryz.func5, Tryz.ntmps5
  go_upto_region 6 with (first
    | (go_at_call 6; refine (unhide CE).mono ?_; rintro e W1 ⟨va, vc, rfl, k1⟩)
    | (go_at_call 7; refine (num_any _ _).mono ?_; rintro e W1' ⟨rfl, h1'⟩; subst h1')
    | (go_at_call 8; refine (unhide CI _ va vc k1).mono ?_; rintro e W2 ⟨rfl, k2⟩))
  obtain ⟨w1, pb, hw1, hpb, ST2⟩ : ∃ w1 pb, w1 = ((W2.alloc (.cells #[.slice none 0 0, .slice none 0 0, .int .i64 0, .slice none 0 0, .slice none 0 0, .int .i64 0, .slice none 0 0, .slice none 0 0, .int .i64 0, .slice none 0 0, .slice none 0 0, .int .i64 0, .slice none 0 0, .slice none 0 0, .int .i64 0, .slice none 0 0, .slice none 0 0, .int .i64 0, .slice none 0 0, .slice none 0 0, .int .i64 0, .slice none 0 0, .slice none 0 0, .int .i64 0, .slice none 0 0, .slice none 0 0, .int .i64 0, .slice none 0 0, .slice none 0 0, .int .i64 0, .int .i64 0, .int .i64 0, .int .i64 0] 48)).alloc (.cells #[.pointer (some ⟨W2.heap.size, 0, none⟩), .int .i64 400000] 50)) ∧ pb = W2.heap.size ∧ Hid (Br.Td w1 w1 pb 0 400000 [] [] ∧ Below w.heap.size w w1 ∧ w.heap.size ≤ pb) := ⟨_, _, rfl, rfl, hide ⟨(unhide ST _ k2).1, (unhide ST _ k2).2, (unhide k2).size⟩⟩
  rw [← hw1, ← hpb]
  clear k1 k2 CE CI ST hw1 hpb
  go_loopw [8] (fun iv wr => ∃ (i : Nat) (m : Int), iv = .int .i64 (i : Nat) ∧ i ≤ N ∧ i ≤ 4096 ∧ 400000 - (i : Int) * 600000 ≤ m ∧ m ≤ 400000 ∧ Hid (Br.Td w1 wr pb (i * 129) m [] [])) (fun iv _ => N - (intOf iv).toNat)
  case atStart => exact ⟨0, 400000, rfl, Nat.zero_le _, by omega, by omega, by omega, hide (by simpa using (unhide ST2).1)⟩
  case round =>
    obtain ⟨i, m, rfl, hi, hi2, hm1, hm2, p⟩ := hrel
    have ow : Hid (Below w.heap.size w wr) := hide ((unhide p).old (unhide ST2).2.1 (unhide ST2).2.2)
    rcases Nat.lt_or_ge i N with hlt | hge
    · have f1 : decide ((i : Int) < (N : Int)) = true := decide_eq_true (by omega)
      rcases Nat.lt_or_ge i 4096 with h4 | h4
      · have f2 : decide ((i : Int) < 4096) = true := decide_eq_true (by omega)
        have g1 : (0 : Int) ≤ (i : Int) := by omega
        have g2 : (i : Int) < (N : Int) := by omega
        obtain ⟨b, off, rfl, hb, hc⟩ : ∃ b off, a = some ⟨b, off, none⟩ ∧ b < w.heap.size ∧ ∀ k, k < N → ∃ x, AkOk w b (off + k * 7) x := by
          rcases unhide HS with h | h
          · omega
          · exact h
        obtain ⟨⟨K, da, dn, dc, dl, la, lc, L, d, x, r0, r1, r2, r3⟩, hx⟩ := hc i hlt
        obtain ⟨n, hn⟩ : ∃ n, n = L.length := ⟨_, rfl⟩
        have d0 : wr.cell? ⟨b, off + i * 7, none⟩ = some (.int .i64 K) := by rw [(unhide ow).cell hb]; exact hx.c0
        have d1 : wr.cell? ⟨b, off + i * 7 + 1, none⟩ = some (.slice da dn dc) := by rw [(unhide ow).cell hb]; exact hx.c1
        have d2 : wr.cell? ⟨b, off + i * 7 + 2, none⟩ = some (.slice la n lc) := by rw [(unhide ow).cell hb, hn]; exact hx.c2
        have d3 : wr.cell? ⟨b, off + i * 7 + 3, none⟩ = some r0 := by rw [(unhide ow).cell hb]; exact hx.c3
        have d4 : wr.cell? ⟨b, off + i * 7 + 4, none⟩ = some r1 := by rw [(unhide ow).cell hb]; exact hx.c4
        have d5 : wr.cell? ⟨b, off + i * 7 + 5, none⟩ = some r2 := by rw [(unhide ow).cell hb]; exact hx.c5
        have d6 : wr.cell? ⟨b, off + i * 7 + 6, none⟩ = some r3 := by rw [(unhide ow).cell hb]; exact hx.c6
        by_cases hK : K = 1
        · subst hK
          have CA : Hid (Calls Tryz.prog 9 #[.agg #[.int .i64 1, .slice da dn dc, .slice la n lc, r0, r1, r2, r3], .pointer (some ⟨pb + 1, 0, none⟩)] wr fun e w' => e = .returned (.bool true) ∧ ∃ m', Hid (Br.Td w1 w' pb ((i + 1) * 129) m' [] []) ∧ m - 600000 ≤ m' ∧ m' ≤ m) := hide (by
            have := asked_line w w1 wr pb (i * 129) m da la dn dc n lc d x L dl r0 r1 r2 r3 (unhide p) (unhide ST2).2.1 (unhide ST2).2.2 hn hx.args hx.rep hx.dn (by rw [hn]; exact hx.ln) hx.dl hx.dcp (by omega) ⟨by omega, by omega⟩
            rw [show i * 129 + 129 = (i + 1) * 129 by omega] at this
            exact this)
          clear hx hc hn
          go_wp2_with (go_at_call 9; refine (unhide CA).mono ?_; rintro e W5 ⟨rfl, m', k5, hm3, hm4⟩)
          all_goals go_roundw
          all_goals first | exact ⟨i + 1, m', by go_num, by omega, by omega, by omega, by omega, k5⟩ | (simp [intOf]; omega)
        · have f3 : (K == 1) = false := by simp [hK]
          have f4 : decide (K = 1) = false := decide_eq_false hK
          have pl : Hid (Br.Td w1 wr pb ((i + 1) * 129) m [] []) := hide ((unhide p).later (by omega))
          clear hx hc hn
          go_wp2
          all_goals go_roundw
          all_goals first | exact ⟨i + 1, m, by go_num, by omega, by omega, by omega, by omega, pl⟩ | (simp [intOf]; omega)
      · have f2 : decide ((i : Int) < 4096) = false := decide_eq_false (by omega)
        go_wp2
        all_goals go_ret
        all_goals exact ⟨rfl, unhide ow⟩
    · obtain rfl : i = N := by omega
      have f1 : decide ((i : Int) < (i : Int)) = false := decide_eq_false (by omega)
      go_wp2
      all_goals go_ret
      all_goals exact ⟨rfl, unhide ow⟩
theorem law_line (w : World) (a : Option Addr) (N cap : Nat) (ht : Tab w) (hN : Script8 w a N) : Calls Tryz.prog 3 #[.slice a N cap] w fun e w' => e = .returned (.bool true) ∧ Below w.heap.size w w' := by
  have CA := hide (all_line w a N cap ht hN)
  clear ht hN
  go_enter Tryz.func3, Tryz.ntmps3
  go_wp2_with (go_at_call 5; refine (unhide CA).mono ?_; rintro e w1 ⟨rfl, k1⟩)
  go_ret
  exact ⟨rfl, k1⟩
end Go.Proofs.YtcnlikojbkegiaaGreatDoor
