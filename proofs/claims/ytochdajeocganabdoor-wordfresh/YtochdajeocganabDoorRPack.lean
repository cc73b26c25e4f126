/- The contract of the document's Pack. -/
import Derived.Test.YtochdajeocganabDoorPack
namespace Go.Proofs.YtochdajeocganabDoor
open Go.ChangeShapes Go.WideShapes Go.ChangeAt Go.RowKit
set_option linter.unusedVariables false

theorem leN_drop (ch : List Nat) (j : Nat) : Larder.leN (ch.drop j) = (if j < ch.length then ch.getD j 0 else 0) + 256 * Larder.leN (ch.drop (j + 1)) := by
  by_cases h : j < ch.length
  · rw [if_pos h, List.drop_eq_getElem_cons h, Larder.leN, List.getD_eq_getElem?_getD, List.getElem?_eq_getElem h]; rfl
  · rw [if_neg h, List.drop_eq_nil_of_le (by omega), List.drop_eq_nil_of_le (by omega)]; simp [Larder.leN]

theorem take_pack (l : List Nat) (k : Nat) (hk : k < Larder.wn l.length) : (Larder.packL l).take (k + 1) = (Larder.packL l).take k ++ [Larder.wordAt l k] := by
  have hk' : k < (Larder.packL l).length := by rw [Larder.packL_length]; exact hk
  rw [List.take_succ_eq_append_getElem hk']
  congr 1
  have := Larder.packL_get l k hk
  rw [List.getD_eq_getElem?_getD, List.getElem?_eq_getElem hk'] at this
  simp only [Option.getD_some] at this
  rw [this]

set_option maxRecDepth 100000 in
set_option maxHeartbeats 1000000 in
theorem rpack_any (a : Option Addr) (cap : Nat) (w : World) (l : List Nat) (hl : l.length ≤ 140737488351240) (hB : Bytes w a l) (hs : Small l) :
    Calls Tryd.prog 11 #[.slice a l.length cap] w fun e w' => ∃ v, e = .returned v ∧ OwnW w' w.heap.size v (Larder.packL l) ∧ Below w.heap.size w w' := by
  obtain ⟨i0, hi, hz0, hz1, hz2⟩ := info_parts Tryd.info45
  have HL : Hid ((Larder.packL l).take (Larder.wn l.length) = Larder.packL l) := List.take_of_length_le (by rw [Larder.packL_length]; exact Nat.le_refl _)
  have hnil0 : OwnW w w.heap.size (.slice none 0 0) ((Larder.packL l).take 0) := World.ownsRow_nil w w.heap.size 45 1
  rcases hB with rfl | ⟨b, off, rfl, hblt, hc⟩
  · go_enter Tryd.func11, Tryd.ntmps11
    go_wp2_with fail
    go_loopw [3, 4] (fun v i wr => v = .slice none 0 0 ∧ i = .int .i64 0 ∧ wr = w) (fun _ _ _ => 0)
    case atStart => exact ⟨rfl, rfl, rfl⟩
    case round =>
      obtain ⟨rfl, rfl, rfl⟩ := hrel
      go_wp2
      go_ret
      exact ⟨_, rfl, hnil0, Below.refl _ _⟩
  · have HC := hide hc
    clear hc
    go_enter Tryd.func11, Tryd.ntmps11
    go_wp2_with fail
    go_loopw [3, 4] (fun v i wr => ∃ k A : Nat, k ≤ Larder.wn l.length ∧ A = 8 * k ∧ i = .int .i64 A ∧ OwnW wr w.heap.size v ((Larder.packL l).take k) ∧ Below w.heap.size w wr) (fun _ i _ => l.length + 8 - (intOf i).toNat)
    case atStart => exact ⟨0, 0, by omega, rfl, rfl, hnil0, Below.refl _ _⟩
    case round =>
      obtain ⟨k, A, hk, hA, rfl, hown, hbl⟩ := hrel
      by_cases hlt : A < l.length
      · have hkw : k < Larder.wn l.length := by unfold Larder.wn; omega
        obtain ⟨ch, hch⟩ : ∃ ch, ch = (l.drop (8 * k)).take 8 := ⟨_, rfl⟩
        have hchl : ch.length ≤ 8 := by rw [hch]; exact List.length_take_le _ _
        have hchg : ∀ j, j < 8 → (j < ch.length ↔ A + j < l.length) ∧ (j < ch.length → ch.getD j 0 = l.getD (A + j) 0) := by
          intro j hj
          have hcl : ch.length = min 8 (l.length - 8 * k) := by rw [hch, List.length_take, List.length_drop]
          refine ⟨by omega, fun h => ?_⟩
          rw [hch, List.getD_eq_getElem?_getD, List.getElem?_take, if_pos hj, List.getElem?_drop, List.getD_eq_getElem?_getD, hA]
        have hsm : ∀ c ∈ ch, c < 256 := by rw [hch]; exact fun c hc => Larder.small_mem hs c (List.mem_of_mem_drop (List.mem_of_mem_take hc))
        have hbd : ∀ j, 1 ≤ j → Larder.leN (ch.drop j) < 72057594037927936 := by
          intro j hj
          have h1 := Larder.leN_lt (ch.drop j) (fun c hc => hsm c (List.mem_of_mem_drop hc))
          have h2 : (ch.drop j).length ≤ 7 := by rw [List.length_drop]; omega
          have h3 : 256 ^ (ch.drop j).length ≤ 256 ^ 7 := Nat.pow_le_pow_right (by omega) h2
          have h4 : (256 : Nat) ^ 7 = 72057594037927936 := by decide
          omega
        have hword : Larder.leN (ch.drop 0) = Larder.wordAt l k := by rw [hch]; rfl
        have HT := hide (take_pack l k hkw)
        have HG := hide hchg
        have HB := hide hbd
        have HWD := hide hword
        have HA := hide hA
        have hcn : ∀ c, c < l.length → wr.cell? ⟨b, off + c, none⟩ = some (.int .u8 (l.getD c 0 : Nat)) := fun c hc => by rw [hbl.cell (p := ⟨b, off + c, none⟩) hblt]; exact unhide HC c hc
        have HCN := hide hcn
        have hlk : ((Larder.packL l).take k).length = k := by rw [List.length_take, Larder.packL_length]; omega
        have HLK := hide hlk
        have h8 : Larder.leN (ch.drop 8) = 0 := by rw [List.drop_eq_nil_of_le hchl]; rfl
        clear hch hchg hbd hword hA hcn hsm hlk
        go_wp2_with fail
        go_loop [5, 6] (fun v i => ∃ j : Nat, j ≤ 8 ∧ i = .int .i64 ((j : Int) - 1) ∧ v = .int .u64 (Larder.leN (ch.drop j) : Nat)) (fun _ i => (intOf i + 1).toNat)
        case atStart => exact ⟨8, by omega, rfl, by rw [h8]; rfl⟩
        case round =>
          obtain ⟨j, hj, rfl, rfl⟩ := hrel
          cases j with
          | zero =>
            rw [unhide HWD]
            obtain ⟨V, hV⟩ : ∃ V, V = Larder.wordAt l k := ⟨_, rfl⟩
            rw [← hV]
            rw [← hV] at HT
            clear hV
            have hlk2 := unhide HLK
            have hw8 : 8 * (k + 1) ≤ l.length + 7 := by have := hkw; unfold Larder.wn at this; omega
            go_wp2_with (at_builtin; refine wpList_append_own _ rfl _ _ 47 rfl w.heap.size 45 i0 (.int .u64 0) 1 8 Tryd.underlying47 hi hz0 hz1 hz2 rfl (by decide) _ _ _ rfl (hown.alloc _) ⟨wr.heap.size, 0, none⟩ 1 1 [.int .u64 (V : Int)] rfl rfl ?c1 ?c2 ?c3 ?c4 ?c5 ?_)
            case c2 => first | rfl | (intro u hu; simp at hu; subst hu; rfl)
            case c3 => simp [maxLen]; omega
            case c4 => omega
            case c5 => have := hbl.size; simp; omega
            · intro v' w5 hown' hgrow _
              have hown5 : OwnW w5 w.heap.size v' ((Larder.packL l).take (k + 1)) := by
                rw [unhide HT]
                unfold OwnW
                have e1 : ((Larder.packL l).take k ++ [V]).length = ((Larder.packL l).take k).length + 1 := by simp
                have e2 : wcells ((Larder.packL l).take k ++ [V]) = wcells ((Larder.packL l).take k) ++ [.int .u64 (V : Int)] := by simp [wcells]
                rw [e1, e2]
                first | exact hown' | (rw [hlk2]; exact hown')
              have hbl5 : Below w.heap.size w w5 := by
                have hlt2 := hown.lt
                exact (hbl.alloc hbl.size _).grown hgrow (by have := hbl.size; simp; omega) (fun j hj => (hlt2 j hj).1)
              have hA8 := unhide HA
              have HA8 : Hid (A + 8 = 8 * (k + 1)) := by show _ = _; omega
              clear hown' hgrow hown hbl hlk2 hA8
              go_wp2
              go_roundw
              case rel => exact ⟨k + 1, A + 8, by omega, unhide HA8, by go_num, hown5, hbl5⟩
              case measure => simp [intOf]; omega
          | succ j =>
            have hb1 := unhide HB (j + 1) (by omega)
            have hst := leN_drop ch j
            obtain ⟨g1, g2⟩ := unhide HG j (by omega)
            rw [show ((j + 1 : Nat) : Int) - 1 = (j : Int) from by omega]
            by_cases hin : A + j < l.length
            · rw [if_pos (g1.2 hin), g2 (g1.2 hin)] at hst
              have hcx := unhide HCN (A + j) hin
              have h25 := hs (A + j) hin
              have HST := hide hst
              clear hst g1 g2
              generalize l.getD (A + j) 0 = c at *
              generalize Larder.leN (ch.drop (j + 1)) = V at *
              go_wp2
              go_round
              case rel => exact ⟨j, by omega, rfl, by rw [unhide HST]; go_num⟩
              case measure => simp [intOf]
            · rw [if_neg (fun h => hin (g1.1 h))] at hst
              have HST := hide hst
              clear hst g1 g2
              generalize Larder.leN (ch.drop (j + 1)) = V at *
              go_wp2
              go_round
              case rel => exact ⟨j, by omega, rfl, by rw [unhide HST]; go_num⟩
              case measure => simp [intOf]
      · have hkw : k = Larder.wn l.length := by unfold Larder.wn at *; omega
        subst hkw
        go_wp2
        go_ret
        exact ⟨_, rfl, by rw [← unhide HL]; exact hown, hbl⟩
end Go.Proofs.YtochdajeocganabDoor
