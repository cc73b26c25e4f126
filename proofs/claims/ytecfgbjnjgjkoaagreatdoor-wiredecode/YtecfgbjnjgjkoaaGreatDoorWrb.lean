/- wire: Command. -/
import Derived.Test.YtecfgbjnjgjkoaaGreatDoorWra
namespace Go.Proofs.YtecfgbjnjgjkoaaGreatDoor
open Go.ChangeShapes Go.WideShapes Go.ChangeAt Go.RowKit
set_option linter.unusedVariables false
set_option linter.unusedSimpArgs false
set_option maxRecDepth 20000
set_option maxHeartbeats 4000000

def textL (T : List Nat) : List Nat := numL 36 T.length ++ T ++ [13, 10]
theorem addtext_any (w0 w : World) (va a : Option Addr) (n vc c : Nat) (l T : List Nat) (h : Gro w0 w w0.heap.size (.slice va n vc) n l) (ht : Tab w0) (hT : Bytes w0 a T) (hl : n ≤ 268435456) (hl2 : T.length ≤ 268435456) :
    Calls Tryz.prog 37 #[.slice va n vc, .slice a T.length c] w fun e w' => ∃ va' n' vc', e = .returned (.slice va' n' vc') ∧ Hid (Gro w0 w' w0.heap.size (.slice va' n' vc') n' (l ++ textL T)) := by
  obtain ⟨i5, hi5, hz5, hs5, hb5⟩ := info_partsS Tryz.info5s
  have CN : Hid (Calls Tryz.prog 36 #[.slice va n vc, .int .u8 36, .int .i64 (T.length : Nat)] w fun e w' => ∃ va' n' vc', e = .returned (.slice va' n' vc') ∧ Hid (Gro w0 w' w0.heap.size (.slice va' n' vc') n' (l ++ numL 36 T.length))) := hide (addnum_any w0 w w0.heap.size va n vc 36 l (T.length : Nat) h (ht.below h.bel) ⟨by omega, by omega⟩ (by omega))
  have AL : Hid (∀ W : World, ∀ o, Below W.heap.size W (W.alloc o)) := hide (fun W o => (Below.refl _ _).alloc (Nat.le_refl _) _)
  have MB : Hid (∀ W : World, Bytes (W.alloc (.cells #[.int .u8 13, .int .u8 10] 5)) (some ⟨W.heap.size, 0, none⟩) [13, 10]) := hide (fun W => made_bytes W [13, 10])
  have LN : Hid (∀ W n' v, Gro w0 W w0.heap.size v n' (l ++ numL 36 T.length) → n' + T.length + 2 ≤ 140737488355328) := hide (fun W n' v g => by
    have := g.len
    have sp := spell_short (T.length : Nat) (by omega) (by omega)
    have h1 := h.len
    unfold numL at this
    simp only [List.length_append, List.length_cons, List.length_nil] at this
    omega)
  have HT := hide hT
  clear h ht hT
  go_enter Tryz.func37, Tryz.ntmps37
  go_wp2_with (first
    | (go_at_call 36; refine (unhide CN).mono ?_; rintro e w1 ⟨a1, n1, c1, rfl, HG1⟩; have L1 := unhide LN _ _ _ (unhide HG1))
    | (at_builtin; refine append_bytes rfl _ _ 25 rfl i5 Tryz.underlying25 hi5 hz5 hs5 hb5 (.slice a1 n1 c1) n1 (byV (l ++ numL 36 T.length)) rfl (unhide HG1).row a c T rfl ((unhide HT).below (unhide HG1).bel) (by omega) ?_; intro v2 w2 h2 g2; have HG2 := hide ((unhide HG1).app h2 g2); obtain ⟨a2, c2, rfl⟩ := h2.shape; clear h2 g2)
    | (at_builtin; refine append_bytes rfl _ _ 25 rfl i5 Tryz.underlying25 hi5 hz5 hs5 hb5 (.slice a2 (n1 + T.length) c2) (n1 + T.length) (byV (l ++ numL 36 T.length ++ T)) rfl ((unhide HG2).row.below (unhide AL _ _)) (some ⟨w2.heap.size, 0, none⟩) 2 [13, 10] rfl (unhide MB w2) (by simp; omega) ?_; intro v3 w3 h3 g3; have HG3 := hide (((unhide HG2).below (unhide AL _ _)).app h3 g3); obtain ⟨a3, c3, rfl⟩ := h3.shape; clear h3 g3))
  go_ret
  exact ⟨_, _, _, rfl, by unfold textL; simpa using HG3⟩

def cmdL (L : List (List Nat)) : List Nat := numL 42 L.length ++ (L.map textL).flatten
def cmdBad (L : List (List Nat)) : Prop := L.length = 0 ∨ 128 < L.length ∨ ∃ T ∈ L, 4096 < T.length
/-- arguments that lie in memory -/
def ArgsAt (w : World) (b off : Nat) (L : List (List Nat)) : Prop := b < w.heap.size ∧ ∀ k T, L[k]? = some T → ∃ a c, w.cell? ⟨b, off + k, none⟩ = some (.slice a T.length c) ∧ Bytes w a T ∧ T.length ≤ 268435456
theorem textL_len (T : List Nat) (h : T.length ≤ 4096) : (textL T).length ≤ 4125 := by
  have sp := spell_short (T.length : Nat) (by omega) (by omega)
  unfold textL numL
  simp only [List.length_append, List.length_cons, List.length_nil]
  omega
theorem command_any (w : World) (b off cap : Nat) (L : List (List Nat)) (ht : Tab w) (hA : ArgsAt w b off L) :
    Calls Tryz.prog 21 #[.slice (some ⟨b, off, none⟩) L.length cap] w fun e w' => (cmdBad L ∧ e = .returned (.tuple #[.slice none 0 0, .int .i64 87]) ∧ Below w.heap.size w w') ∨ (¬ cmdBad L ∧ ∃ va n vc, e = .returned (.tuple #[.slice va n vc, .int .i64 0]) ∧ Hid (Gro w w' w.heap.size (.slice va n vc) n (cmdL L))) := by
  by_cases h0 : L.length = 0
  · have hb : cmdBad L := .inl h0
    have HB := hide hb
    rw [h0]
    clear hb
    go_enter Tryz.func21, Tryz.ntmps21
    go_wp2
    all_goals go_ret2
    all_goals exact .inl ⟨unhide HB, rfl, Below.refl _ _⟩
  by_cases h1 : 128 < L.length
  · have HB : Hid (cmdBad L) := hide (.inr (.inl h1))
    have z1 : (((L.length : Nat) : Int) == 0) = false := by rw [beq_eq_false_iff_ne]; omega
    have d1 : decide ((128 : Int) < (L.length : Int)) = true := decide_eq_true (by omega)
    generalize L.length = m at *
    go_enter Tryz.func21, Tryz.ntmps21
    go_wp2
    all_goals go_ret2
    all_goals exact .inl ⟨unhide HB, rfl, Below.refl _ _⟩
  have z1 : (((L.length : Nat) : Int) == 0) = false := by rw [beq_eq_false_iff_ne]; omega
  have d1 : decide ((128 : Int) < (L.length : Int)) = false := decide_eq_false (by omega)
  obtain ⟨m, hm⟩ : ∃ m, m = L.length := ⟨_, rfl⟩
  have CN : Hid (Calls Tryz.prog 36 #[.slice none 0 0, .int .u8 42, .int .i64 (m : Nat)] w fun e w' => ∃ va' n' vc', e = .returned (.slice va' n' vc') ∧ Hid (Gro w w' w.heap.size (.slice va' n' vc') n' ([] ++ numL 42 m))) := hide (addnum_any w w w.heap.size none 0 0 42 [] (m : Nat) (Gro.start w _ (Nat.le_refl _)) ht ⟨by omega, by omega⟩ (by omega))
  have HM := hide hm
  have HA := hide hA
  have HT := hide ht
  rw [← hm] at z1 d1 h0 h1 ⊢
  clear hm hA ht
  have sp : Hid ((numL 42 m).length ≤ 24) := hide (by
    have sp := spell_short (m : Nat) (by omega) (by omega)
    unfold numL
    simp only [List.length_append, List.length_cons, List.length_nil]
    omega)
  go_enter Tryz.func21, Tryz.ntmps21
  go_wp2_with (go_at_call 36; refine (unhide CN).mono ?_; rintro e w1 ⟨a1, n1, c1, rfl, HG1⟩)
  go_loopw [4, 20] (fun bv kv wr => ∃ (k : Nat) (va : Option Addr) (n vc : Nat), bv = .slice va n vc ∧ kv = .int .i64 (k : Nat) ∧ k ≤ m ∧ n ≤ 24 + k * 4125 ∧ Hid ((∀ T ∈ L.take k, T.length ≤ 4096) ∧ Gro w wr w.heap.size (.slice va n vc) n (numL 42 m ++ ((L.take k).map textL).flatten))) (fun _ kv _ => m - (intOf kv).toNat)
  case atStart => exact ⟨0, a1, n1, c1, rfl, rfl, Nat.zero_le _, by have := (unhide HG1).len; have := unhide sp; simp at *; omega, hide ⟨by simp, by simpa using unhide HG1⟩⟩
  case round =>
    obtain ⟨k, va, n, vc, rfl, rfl, hk, hn, p⟩ := hrel
    rcases Nat.lt_or_ge k m with hkm | hkm
    · have f1 : decide ((k : Int) < (m : Int)) = true := decide_eq_true (by omega)
      obtain ⟨T, hT⟩ : ∃ T, L[k]? = some T := ⟨_, List.getElem?_eq_getElem (by have := unhide HM; omega)⟩
      obtain ⟨a, c, x1, x2, x3⟩ := (unhide HA).2 k T hT
      have y1 : wr.cell? ⟨b, off + k, none⟩ = some (.slice a T.length c) := ((unhide p).2.bel.cell (p := ⟨b, off + k, none⟩) (unhide HA).1).trans x1
      have hmem : T ∈ L := List.mem_of_getElem? hT
      have htk : L.take (k + 1) = L.take k ++ [T] := by rw [List.take_add_one, hT]; rfl
      by_cases hb : 4096 < T.length
      · have f2 : decide ((4096 : Int) < (T.length : Int)) = true := decide_eq_true (by omega)
        have HBad : Hid (cmdBad L) := hide (.inr (.inr ⟨T, hmem, hb⟩))
        clear hT x1 x2 hmem htk
        go_wp2
        all_goals go_ret2
        all_goals exact .inl ⟨unhide HBad, rfl, (unhide p).2.bel⟩
      · have f2 : decide ((4096 : Int) < (T.length : Int)) = false := decide_eq_false (by omega)
        have CA : Hid (Calls Tryz.prog 37 #[.slice va n vc, .slice a T.length c] wr fun e w' => ∃ va' n' vc', e = .returned (.slice va' n' vc') ∧ Hid (Gro w w' w.heap.size (.slice va' n' vc') n' ((numL 42 m ++ ((L.take k).map textL).flatten) ++ textL T))) := hide (addtext_any w wr va a n vc c _ T (unhide p).2 (unhide HT) x2 (by omega) x3)
        have HTK := hide htk
        have tl := textL_len T (by omega)
        clear hT x1 x2 hmem htk
        go_wp2_with (go_at_call 37; refine (unhide CA).mono ?_; rintro e w2 ⟨a2, n2, c2, rfl, HG2⟩)
        go_roundw
        case rel =>
          refine ⟨k + 1, a2, n2, c2, rfl, by go_num, by omega, ?_, hide ⟨fun T' h' => ?_, ?_⟩⟩
          · have e1 := (unhide HG2).len
            have e2 := (unhide p).2.len
            rw [List.length_append] at e1
            omega
          · rw [unhide HTK] at h'
            rcases List.mem_append.1 h' with h' | h'
            · exact (unhide p).1 T' h'
            · obtain rfl := List.mem_singleton.1 h'
              omega
          · rw [unhide HTK, List.map_append, List.flatten_append]
            simpa using unhide HG2
        case measure => simp [intOf]; omega
    · obtain rfl : k = m := by omega
      have f1 : decide ((k : Int) < (k : Int)) = false := decide_eq_false (by omega)
      go_wp2
      all_goals go_ret2
      all_goals refine .inr ⟨fun hbad => ?_, _, _, _, rfl, ?_⟩
      all_goals have hm := unhide HM
      · rcases hbad with q | q | ⟨T, q1, q2⟩
        · omega
        · omega
        · have := (unhide p).1 T (by rw [hm, List.take_length]; exact q1)
          omega
      · have := (unhide p).2
        rw [hm, List.take_length] at this
        exact hide (by unfold cmdL; exact this)
end Go.Proofs.YtecfgbjnjgjkoaaGreatDoor
