/- The document's Command: the walk. -/
import Derived.Test.YtihemhlphkpcfaaGreatDoorWre
namespace Go.Proofs.YtihemhlphkpcfaaGreatDoor
open Go.ChangeShapes Go.WideShapes Go.ChangeAt Go.RowKit
set_option linter.unusedVariables false
set_option linter.unusedSimpArgs false
set_option maxRecDepth 20000
set_option maxHeartbeats 4000000

theorem rcommand_any (w : World) (b off cap : Nat) (L : List (List Nat)) (hA : ArgsAt w b off L) (hS : ∀ T ∈ L, Small T) :
    Calls Tryz.prog 22 #[.slice (some ⟨b, off, none⟩) L.length cap] w fun e w' => (cmdBad L ∧ e = .returned (.tuple #[.slice none 0 0, .int .i64 87]) ∧ Below w.heap.size w w') ∨ (¬ cmdBad L ∧ ∃ va n vc, e = .returned (.tuple #[.slice va n vc, .int .i64 0]) ∧ Hid (Grf w w' w.heap.size (.slice va n vc) n (cmdL L))) := by
  by_cases h0 : L.length = 0
  · have HB : Hid (cmdBad L) := hide (.inl h0)
    rw [h0]
    go_enter Tryz.func22, Tryz.ntmps22
    go_wp2
    all_goals go_ret2
    all_goals exact .inl ⟨unhide HB, rfl, Below.refl _ _⟩
  by_cases h1 : 128 < L.length
  · have HB : Hid (cmdBad L) := hide (.inr (.inl h1))
    have z1 : decide (((L.length : Nat) : Int) < 1) = false := decide_eq_false (by omega)
    have d1 : decide ((128 : Int) < (L.length : Int)) = true := decide_eq_true (by omega)
    generalize L.length = m at *
    go_enter Tryz.func22, Tryz.ntmps22
    go_wp2
    all_goals go_ret2
    all_goals exact .inl ⟨unhide HB, rfl, Below.refl _ _⟩
  have z1 : decide (((L.length : Nat) : Int) < 1) = false := decide_eq_false (by omega)
  have d1 : decide ((128 : Int) < (L.length : Int)) = false := decide_eq_false (by omega)
  obtain ⟨m, hm⟩ : ∃ m, m = L.length := ⟨_, rfl⟩
  have spl := spell_short (m : Nat) (by omega) (by omega)
  have CN : Hid (Calls Tryz.prog 46 #[.int .i64 (m : Nat)] w fun e w' => e = .returned (.string (sB (Larder.spellI m))) ∧ ∃ c w2, (convert 9 25 (.string (sB (numL 42 m)))).run Tryz.prog w' = .ok (.slice (some ⟨w'.heap.size, 0, none⟩) (numL 42 m).length c) w2 ∧ Hid (Grf w w2 w.heap.size (.slice (some ⟨w'.heap.size, 0, none⟩) (numL 42 m).length c) (numL 42 m).length (numL 42 m))) := hide ((texted_any (m : Nat) (by omega) (by omega) w).mono (fun e w' h => ⟨h.1, by
    obtain ⟨c, w2, h3, h4⟩ := conv_text' w' (numL 42 m) (numL_small 42 _ (by decide)) (by unfold numL; simp; omega)
    exact ⟨c, w2, h3, hide ⟨h.2.trans (h4.bel.mono h.2.size), Nat.le_trans h.2.size h4.sz, h4.row, fun g hg => Nat.le_trans h.2.size (h4.own g hg)⟩⟩⟩))
  have A1 : ∀ W, (Op.stringOp .add ⟨#[42]⟩ (sB (Larder.spellI m))).run Tryz.prog W = .ok (.string (sB ([42] ++ Larder.spellI m))) W := fun W => sB_add W [42] _ (by simp) (by omega)
  have A2 : ∀ W, (Op.stringOp .add (sB ([42] ++ Larder.spellI m)) ⟨#[13, 10]⟩).run Tryz.prog W = .ok (.string (sB (numL 42 m))) W := fun W => sB_add W _ [13, 10] (by simp; omega) (by simp)
  generalize sB ([42] ++ Larder.spellI m) = R1 at *
  generalize sB (Larder.spellI m) = R0 at *
  generalize sB (numL 42 m) = R2 at *
  have HM := hide hm
  have HA := hide hA
  have HS := hide hS
  rw [← hm] at z1 d1 h0 h1 ⊢
  clear hm hA hS
  have sp : Hid ((numL 42 m).length ≤ 24) := hide (by
    unfold numL
    simp only [List.length_append, List.length_cons, List.length_nil]
    omega)
  obtain ⟨n0, hn0⟩ : ∃ n0, n0 = (numL 42 m).length := ⟨_, rfl⟩
  rw [← hn0] at CN sp
  clear hn0 spl
  go_enter Tryz.func22, Tryz.ntmps22
  go_wp2_with (go_at_call 46; refine (unhide CN).mono ?_; rintro e w1 ⟨rfl, c1, w2, x1, HG1⟩)
  go_loopw [5, 6] (fun bv kv wr => ∃ (k : Nat) (va : Option Addr) (n vc : Nat), bv = .slice va n vc ∧ kv = .int .i64 (k : Nat) ∧ k ≤ m ∧ n ≤ 24 + k * 4125 ∧ Hid ((∀ T ∈ L.take k, T.length ≤ 4096) ∧ Grf w wr w.heap.size (.slice va n vc) n (numL 42 m ++ ((L.take k).map textL).flatten))) (fun _ kv _ => m - (intOf kv).toNat)
  case atStart => exact ⟨0, _, _, _, rfl, rfl, Nat.zero_le _, by have := unhide sp; omega, hide ⟨by simp, by simpa using unhide HG1⟩⟩
  case round =>
    obtain ⟨k, va, n, vc, rfl, rfl, hk, hn, p⟩ := hrel
    rcases Nat.lt_or_ge k m with hkm | hkm
    · have f1 : decide ((k : Int) < (m : Int)) = true := decide_eq_true (by omega)
      obtain ⟨T, hT⟩ : ∃ T, L[k]? = some T := ⟨_, List.getElem?_eq_getElem (by have := unhide HM; omega)⟩
      obtain ⟨a, c, x1, x2, x3⟩ := (unhide HA).2 k T hT
      have y1 : wr.cell? ⟨b, off + k, none⟩ = some (.slice a T.length c) := ((unhide p).2.bel.cell (p := ⟨b, off + k, none⟩) (unhide HA).1).trans x1
      have hmem : T ∈ L := List.mem_of_getElem? hT
      have htk : L.take (k + 1) = L.take k ++ [T] := by rw [List.take_add_one, hT]; rfl
      have g1 : (0 : Int) ≤ (k : Int) := by omega
      have g2 : (k : Int) < (m : Int) := by omega
      by_cases hb : 4096 < T.length
      · have f2 : decide ((4096 : Int) < (T.length : Int)) = true := decide_eq_true (by omega)
        have HBad : Hid (cmdBad L) := hide (.inr (.inr ⟨T, hmem, hb⟩))
        clear hT x1 x2 hmem htk
        go_wp2
        all_goals go_ret2
        all_goals exact .inl ⟨unhide HBad, rfl, (unhide p).2.bel⟩
      · have f2 : decide ((4096 : Int) < (T.length : Int)) = false := decide_eq_false (by omega)
        have CA : Hid (Calls Tryz.prog 47 #[.slice a T.length c] wr fun e w' => e = .returned (.string (sB (textL T))) ∧ Hid (Below wr.heap.size wr w')) := hide ((bulk_any a c T wr (x2.below (unhide p).2.bel) (by omega)).mono (fun e w' h => ⟨h.1, hide h.2⟩))
        have HTK := hide htk
        have tl := textL_len T (by omega)
        have TS : Hid (Small (textL T)) := hide (textL_small T (unhide HS T hmem))
        clear hT x1 x2 hmem htk
        go_wp2_with (first
          | (go_at_call 47; refine (unhide CA).mono ?_; rintro e w2 ⟨rfl, k2⟩)
          | (at_builtin; refine app_text rfl _ _ rfl rfl (.slice va n vc) n _ (textL T) rfl ((unhide p).2.below (unhide k2)).row rfl (unhide TS) (by omega) ?_; intro v3 w3 h3 g3; have HG3 := hide (((unhide p).2.below (unhide k2)).app h3 g3); obtain ⟨a3, c3, rfl⟩ := h3.shape; clear h3 g3))
        go_roundw
        case rel =>
          refine ⟨k + 1, a3, _, c3, rfl, by go_num, by omega, by omega, hide ⟨fun T' h' => ?_, ?_⟩⟩
          · rw [unhide HTK] at h'
            rcases List.mem_append.1 h' with h' | h'
            · exact (unhide p).1 T' h'
            · obtain rfl := List.mem_singleton.1 h'
              omega
          · rw [unhide HTK, List.map_append, List.flatten_append]
            simpa using unhide HG3
        case measure => simp [intOf]; omega
    · obtain rfl : k = m := by omega
      have f1 : decide ((k : Int) < (k : Int)) = false := decide_eq_false (by omega)
      go_wp2
      all_goals go_ret2
      all_goals refine .inr ⟨fun hbad => ?_, _, _, _, rfl, ?_⟩
      all_goals have hm := unhide HM
      · rcases hbad with q | q | ⟨T, q1, q2⟩
        · omega
        · omega
        · have := (unhide p).1 T (by rw [hm, List.take_length]; exact q1)
          omega
      · have := (unhide p).2
        rw [hm, List.take_length] at this
        exact hide (by unfold cmdL; exact this)
end Go.Proofs.YtihemhlphkpcfaaGreatDoor
