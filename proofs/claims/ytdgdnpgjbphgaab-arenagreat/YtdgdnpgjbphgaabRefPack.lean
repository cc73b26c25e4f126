/- The contracts of the document's Pack and Unpack. -/
import Derived.Test.YtdgdnpgjbphgaabPack
namespace Go.Proofs.Ytdgdnpgjbphgaab
open Go.ChangeShapes Go.WideShapes Go.ChangeAt Go.RowKit
set_option linter.unusedVariables false

theorem leN_drop (ch : List Nat) (j : Nat) : Larder.leN (ch.drop j) = (if j < ch.length then ch.getD j 0 else 0) + 256 * Larder.leN (ch.drop (j + 1)) := by
  by_cases h : j < ch.length
  · rw [if_pos h, List.drop_eq_getElem_cons h, Larder.leN, List.getD_eq_getElem?_getD, List.getElem?_eq_getElem h]; rfl
  · rw [if_neg h, List.drop_eq_nil_of_le (by omega), List.drop_eq_nil_of_le (by omega)]; simp [Larder.leN]

theorem take_pack (l : List Nat) (k : Nat) (hk : k < Larder.wn l.length) : (Larder.packL l).take (k + 1) = (Larder.packL l).take k ++ [Larder.wordAt l k] := by
  have hk' : k < (Larder.packL l).length := by rw [Larder.packL_length]; exact hk
  rw [List.take_succ_eq_append_getElem hk']
  congr 1
  have := Larder.packL_get l k hk
  rw [List.getD_eq_getElem?_getD, List.getElem?_eq_getElem hk'] at this
  simp only [Option.getD_some] at this
  rw [this]

set_option maxRecDepth 100000 in
set_option maxHeartbeats 1000000 in
theorem rpack_any (a : Option Addr) (cap : Nat) (w : World) (l : List Nat) (hl : l.length ≤ 140737488351240) (hB : Bytes w a l) (hs : Small l) :
    Calls Try.prog 74 #[.slice a l.length cap] w fun e w' => ∃ v, e = .returned v ∧ OwnW w' w.heap.size v (Larder.packL l) ∧ Below w.heap.size w w' := by
  obtain ⟨i0, hi, hz0, hz1, hz2⟩ := info_parts Try.info24
  have HL : Hid ((Larder.packL l).take (Larder.wn l.length) = Larder.packL l) := List.take_of_length_le (by rw [Larder.packL_length]; exact Nat.le_refl _)
  have hnil0 : OwnW w w.heap.size (.slice none 0 0) ((Larder.packL l).take 0) := World.ownsRow_nil w w.heap.size 24 1
  rcases hB with rfl | ⟨b, off, rfl, hblt, hc⟩
  · go_enter Try.func74, Try.ntmps74
    go_wp2_with fail
    go_loopw [3, 4] (fun v i wr => v = .slice none 0 0 ∧ i = .int .i64 0 ∧ wr = w) (fun _ _ _ => 0)
    case atStart => exact ⟨rfl, rfl, rfl⟩
    case round =>
      obtain ⟨rfl, rfl, rfl⟩ := hrel
      go_wp2
      go_ret
      exact ⟨_, rfl, hnil0, Below.refl _ _⟩
  · have HC := hide hc
    clear hc
    go_enter Try.func74, Try.ntmps74
    go_wp2_with fail
    go_loopw [3, 4] (fun v i wr => ∃ k A : Nat, k ≤ Larder.wn l.length ∧ A = 8 * k ∧ i = .int .i64 A ∧ OwnW wr w.heap.size v ((Larder.packL l).take k) ∧ Below w.heap.size w wr) (fun _ i _ => l.length + 8 - (intOf i).toNat)
    case atStart => exact ⟨0, 0, by omega, rfl, rfl, hnil0, Below.refl _ _⟩
    case round =>
      obtain ⟨k, A, hk, hA, rfl, hown, hbl⟩ := hrel
      by_cases hlt : A < l.length
      · have hkw : k < Larder.wn l.length := by unfold Larder.wn; omega
        obtain ⟨ch, hch⟩ : ∃ ch, ch = (l.drop (8 * k)).take 8 := ⟨_, rfl⟩
        have hchl : ch.length ≤ 8 := by rw [hch]; exact List.length_take_le _ _
        have hchg : ∀ j, j < 8 → (j < ch.length ↔ A + j < l.length) ∧ (j < ch.length → ch.getD j 0 = l.getD (A + j) 0) := by
          intro j hj
          have hcl : ch.length = min 8 (l.length - 8 * k) := by rw [hch, List.length_take, List.length_drop]
          refine ⟨by omega, fun h => ?_⟩
          rw [hch, List.getD_eq_getElem?_getD, List.getElem?_take, if_pos hj, List.getElem?_drop, List.getD_eq_getElem?_getD, hA]
        have hsm : ∀ c ∈ ch, c < 256 := by rw [hch]; exact fun c hc => Larder.small_mem hs c (List.mem_of_mem_drop (List.mem_of_mem_take hc))
        have hbd : ∀ j, 1 ≤ j → Larder.leN (ch.drop j) < 72057594037927936 := by
          intro j hj
          have h1 := Larder.leN_lt (ch.drop j) (fun c hc => hsm c (List.mem_of_mem_drop hc))
          have h2 : (ch.drop j).length ≤ 7 := by rw [List.length_drop]; omega
          have h3 : 256 ^ (ch.drop j).length ≤ 256 ^ 7 := Nat.pow_le_pow_right (by omega) h2
          have h4 : (256 : Nat) ^ 7 = 72057594037927936 := by decide
          omega
        have hword : Larder.leN (ch.drop 0) = Larder.wordAt l k := by rw [hch]; rfl
        have HT := hide (take_pack l k hkw)
        have HG := hide hchg
        have HB := hide hbd
        have HWD := hide hword
        have HA := hide hA
        have hcn : ∀ c, c < l.length → wr.cell? ⟨b, off + c, none⟩ = some (.int .u8 (l.getD c 0 : Nat)) := fun c hc => by rw [hbl.cell (p := ⟨b, off + c, none⟩) hblt]; exact unhide HC c hc
        have HCN := hide hcn
        have hlk : ((Larder.packL l).take k).length = k := by rw [List.length_take, Larder.packL_length]; omega
        have HLK := hide hlk
        have h8 : Larder.leN (ch.drop 8) = 0 := by rw [List.drop_eq_nil_of_le hchl]; rfl
        clear hch hchg hbd hword hA hcn hsm hlk
        go_wp2_with fail
        go_loop [5, 6] (fun v i => ∃ j : Nat, j ≤ 8 ∧ i = .int .i64 ((j : Int) - 1) ∧ v = .int .u64 (Larder.leN (ch.drop j) : Nat)) (fun _ i => (intOf i + 1).toNat)
        case atStart => exact ⟨8, by omega, rfl, by rw [h8]; rfl⟩
        case round =>
          obtain ⟨j, hj, rfl, rfl⟩ := hrel
          cases j with
          | zero =>
            rw [unhide HWD]
            obtain ⟨V, hV⟩ : ∃ V, V = Larder.wordAt l k := ⟨_, rfl⟩
            rw [← hV]
            rw [← hV] at HT
            clear hV
            have hlk2 := unhide HLK
            have hw8 : 8 * (k + 1) ≤ l.length + 7 := by have := hkw; unfold Larder.wn at this; omega
            go_wp2_with (at_builtin; refine wpList_append_own _ rfl _ _ 62 rfl w.heap.size 24 i0 (.int .u64 0) 1 8 Try.underlying62 hi hz0 hz1 hz2 rfl (by decide) _ _ _ rfl (hown.alloc _) ⟨wr.heap.size, 0, none⟩ 1 1 [.int .u64 (V : Int)] rfl rfl ?c1 ?c2 ?c3 ?c4 ?c5 ?_)
            case c2 => first | rfl | (intro u hu; simp at hu; subst hu; rfl)
            case c3 => simp [maxLen]; omega
            case c4 => omega
            case c5 => have := hbl.size; simp; omega
            · intro v' w5 hown' hgrow _
              have hown5 : OwnW w5 w.heap.size v' ((Larder.packL l).take (k + 1)) := by
                rw [unhide HT]
                unfold OwnW
                have e1 : ((Larder.packL l).take k ++ [V]).length = ((Larder.packL l).take k).length + 1 := by simp
                have e2 : wcells ((Larder.packL l).take k ++ [V]) = wcells ((Larder.packL l).take k) ++ [.int .u64 (V : Int)] := by simp [wcells]
                rw [e1, e2]
                first | exact hown' | (rw [hlk2]; exact hown')
              have hbl5 : Below w.heap.size w w5 := by
                have hlt2 := hown.lt
                exact (hbl.alloc hbl.size _).grown hgrow (by have := hbl.size; simp; omega) (fun j hj => (hlt2 j hj).1)
              have hA8 := unhide HA
              have HA8 : Hid (A + 8 = 8 * (k + 1)) := by show _ = _; omega
              clear hown' hgrow hown hbl hlk2 hA8
              go_wp2
              go_roundw
              case rel => exact ⟨k + 1, A + 8, by omega, unhide HA8, by go_num, hown5, hbl5⟩
              case measure => simp [intOf]; omega
          | succ j =>
            have hb1 := unhide HB (j + 1) (by omega)
            have hst := leN_drop ch j
            obtain ⟨g1, g2⟩ := unhide HG j (by omega)
            rw [show ((j + 1 : Nat) : Int) - 1 = (j : Int) from by omega]
            by_cases hin : A + j < l.length
            · rw [if_pos (g1.2 hin), g2 (g1.2 hin)] at hst
              have hcx := unhide HCN (A + j) hin
              have h25 := hs (A + j) hin
              have HST := hide hst
              clear hst g1 g2
              generalize l.getD (A + j) 0 = c at *
              generalize Larder.leN (ch.drop (j + 1)) = V at *
              go_wp2
              go_round
              case rel => exact ⟨j, by omega, rfl, by rw [unhide HST]; go_num⟩
              case measure => simp [intOf]
            · rw [if_neg (fun h => hin (g1.1 h))] at hst
              have HST := hide hst
              clear hst g1 g2
              generalize Larder.leN (ch.drop (j + 1)) = V at *
              go_wp2
              go_round
              case rel => exact ⟨j, by omega, rfl, by rw [unhide HST]; go_num⟩
              case measure => simp [intOf]
      · have hkw : k = Larder.wn l.length := by unfold Larder.wn at *; omega
        subst hkw
        go_wp2
        go_ret
        exact ⟨_, rfl, by rw [← unhide HL]; exact hown, hbl⟩
theorem rwords_any (n : Int) (w : World) (h1 : -9223372036854775808 ≤ n) (h2 : n ≤ 9223372036854775807) : Calls Try.prog 88 #[.int .i64 n] w fun e w' => e = .returned (.int .i64 (wordsI n)) ∧ w' = w := by
  by_cases h : n < 1
  · have HW : Hid (wordsI n = 0) := by unfold wordsI; rw [if_pos h]; rfl
    go_enter Try.func88, Try.ntmps88
    go_wp2
    go_ret
    exact ⟨ret_int (unhide HW).symm, rfl⟩
  · by_cases h8 : 0 < n % 8
    · have HW : Hid (wordsI n = n / 8 + 1) := by
        show wordsI n = _
        unfold wordsI; rw [if_neg h]; omega
      go_enter Try.func88, Try.ntmps88
      go_wp2
      go_ret
      exact ⟨ret_int (unhide HW).symm, rfl⟩
    · have HW : Hid (wordsI n = n / 8) := by
        show wordsI n = _
        unfold wordsI; rw [if_neg h]; omega
      go_enter Try.func88, Try.ntmps88
      go_wp2
      go_ret
      exact ⟨ret_int (unhide HW).symm, rfl⟩


theorem unpackL_succ (ws : List Nat) (n : Nat) : Larder.unpackL ws (n + 1) = Larder.unpackL ws n ++ [ws.getD (n / 8) 0 / 2 ^ (8 * (n % 8)) % 256] := by
  unfold Larder.unpackL; rw [List.range_succ, List.map_append]; rfl

set_option maxRecDepth 100000 in
set_option maxHeartbeats 1000000 in
theorem runpack_yes (a : Option Addr) (cap n : Nat) (w : World) (ws : List Nat) (hws : 8 * ws.length ≤ 140737488351232) (hle : Larder.wn n ≤ ws.length) (hW : Words w a ws) (hs : WSmall ws) :
    Calls Try.prog 70 #[.slice a ws.length cap, .int .i64 n] w fun e w' => ∃ v, e = .returned (.tuple #[v, .int .i64 0]) ∧ OwnB w' w.heap.size v (Larder.unpackL ws n) ∧ Below w.heap.size w w' := by
  obtain ⟨i0, hi, hz0, hz1, hz2⟩ := info_parts Try.info5
  have hn8 : n ≤ 8 * ws.length := by unfold Larder.wn at hle; omega
  have hwn : wordsI (n : Int) = (Larder.wn n : Int) := by unfold wordsI Larder.wn; split <;> omega
  have hcall : Calls Try.prog 88 #[.int .i64 n] w fun e w' => e = .returned (.int .i64 (Larder.wn n : Int)) ∧ w' = w := by rw [← hwn]; exact rwords_any n w (by omega) (by omega)
  have HC0 := hide hcall
  clear hwn hcall
  obtain ⟨Q, hQ⟩ : ∃ Q, Q = Larder.wn n := ⟨_, rfl⟩
  rw [← hQ] at HC0 hle
  clear hQ
  have hnil0 : OwnB w w.heap.size (.slice none 0 0) (Larder.unpackL ws 0) := World.ownsRow_nil w w.heap.size 5 1
  rcases hW with h0 | ⟨b, off, rfl, hblt, hc⟩
  · have hn0 : n = 0 := by rw [h0] at hn8; simp at hn8; omega
    subst hn0
    subst h0
    have hle0 : Q ≤ 0 := by simpa using hle
    clear hle
    go_enter Try.func70, Try.ntmps70
    go_wp2_with fail
    refine (unhide HC0).mono ?_
    rintro e w' ⟨rfl, hw'⟩
    obtain rfl := hw'.symm
    go_wp2_with fail
    go_loopw [7, 8] (fun v i wr => v = .slice none 0 0 ∧ i = .int .i64 0 ∧ wr = w) (fun _ _ _ => 0)
    case atStart => exact ⟨rfl, rfl, rfl⟩
    case round =>
      obtain ⟨rfl, rfl, rfl⟩ := hrel
      go_wp2
      go_ret2
      exact ⟨_, rfl, hnil0, Below.refl _ _⟩
  · have HC := hide hc
    have hd1 : decide (ws.length < Q) = false := by simp; omega
    have hd2 : decide ((n : Int) < 0) = false := by simp
    clear hc
    go_enter Try.func70, Try.ntmps70
    go_wp2_with fail
    refine (unhide HC0).mono ?_
    rintro e w' ⟨rfl, hw'⟩
    obtain rfl := hw'.symm
    go_wp2_with fail
    go_loopw [7, 8] (fun v i wr => ∃ k m cp : Nat, ∃ av : Option Addr, k ≤ ws.length ∧ m ≤ n ∧ (m = 8 * k ∨ m = n ∧ n ≤ 8 * k) ∧ i = .int .i64 k ∧ v = .slice av m cp ∧ OwnB wr w.heap.size v (Larder.unpackL ws m) ∧ Below w.heap.size w wr) (fun _ i _ => ws.length - (intOf i).toNat)
    case atStart => exact ⟨0, 0, 0, none, by omega, by omega, .inl rfl, rfl, rfl, hnil0, Below.refl _ _⟩
    case round =>
      obtain ⟨k, m, cp, av, hk, hm, hmk, rfl, rfl, hown, hbl⟩ := hrel
      by_cases hlt : k < ws.length
      · by_cases hmn : m < n
        · have hm8 : m = 8 * k := by omega
          have hcx : wr.cell? ⟨b, off + k, none⟩ = some (.int .u64 (ws.getD k 0 : Nat)) := by rw [hbl.cell (p := ⟨b, off + k, none⟩) hblt]; exact unhide HC k hlt
          have hw64 := hs k hlt
          obtain ⟨V, hV⟩ : ∃ V, V = ws.getD k 0 := ⟨_, rfl⟩
          rw [← hV] at hcx hw64
          have HV := hide hV
          have HM8 := hide hm8
          clear hV hm8 hmk
          go_wp2_with fail
          go_loopw [7, 9, 10] (fun v r i wx => ∃ j M cp : Nat, ∃ av : Option Addr, j ≤ 8 ∧ M = m + j ∧ M ≤ n ∧ i = .int .i64 j ∧ r = .int .u64 (V / 2 ^ (8 * j) : Nat) ∧ v = .slice av M cp ∧ OwnB wx w.heap.size v (Larder.unpackL ws M) ∧ Below w.heap.size w wx) (fun _ _ i _ => 8 - (intOf i).toNat)
          case atStart => exact ⟨0, m, cp, av, by omega, rfl, hm, rfl, by simp, rfl, hown, hbl⟩
          case round =>
            obtain ⟨j, M, cp', av', hj, hM, hMn, rfl, rfl, rfl, hown', hbl'⟩ := hrel
            by_cases hj8 : j < 8
            · by_cases hMlt : M < n
              · have hdq : M / 8 = k := by have := unhide HM8; omega
                have hdr : M % 8 = j := by have := unhide HM8; omega
                have hsucc := unpackL_succ ws M
                rw [hdq, hdr, ← unhide HV] at hsucc
                obtain ⟨r, hr⟩ : ∃ r, r = V / 2 ^ (8 * j) := ⟨_, rfl⟩
                have hr64 : r < 18446744073709551616 := by rw [hr]; exact Nat.lt_of_le_of_lt (Nat.div_le_self _ _) hw64
                have hrn : V / 2 ^ (8 * (j + 1)) = r / 256 := by
                  rw [hr, Nat.div_div_eq_div_mul, show (256 : Nat) = 2 ^ 8 from rfl, ← Nat.pow_add, show 8 * j + 8 = 8 * (j + 1) from by omega]
                rw [← hr] at hsucc
                rw [← hr]
                obtain ⟨d, hd⟩ : ∃ d, d = r % 256 := ⟨_, rfl⟩
                have hd256 : d < 256 := by omega
                have ed : (r : Int) % 256 = (d : Int) := by omega
                rw [← hd] at hsucc
                have hul := Larder.unpackL_length ws M
                have HSC := hide hsucc
                have HRN := hide hrn
                have HMM := hide hM
                clear hsucc hrn hr hd hdq hdr hM
                have hown2 : wr.ownsRow w.heap.size 5 1 (.slice av' M cp') M (cellsOf (Larder.unpackL ws M)) := by
                  have := hown'; unfold OwnB at this; rw [hul] at this; exact this
                have hsz := hbl'.size
                have hlt2 := hown2.lt
                clear hown' hul hown hbl
                go_wp2_with (at_builtin; refine wpList_append_own _ rfl _ _ 22 rfl w.heap.size 5 i0 (.int .u8 0) 1 1 Try.underlying22 hi hz0 hz1 hz2 rfl (by decide) _ _ _ rfl (hown2.alloc _) ⟨wr.heap.size, 0, none⟩ 1 1 [.int .u8 (d : Int)] rfl rfl ?c1 ?c2 ?c3 ?c4 ?c5 ?_)
                case c1 =>
                  intro j u hj
                  match j, hj with
                  | 0, hj => simp at hj; subst hj; simp [Addr.add]
                case c2 => first | rfl | (intro u hu; simp at hu; subst hu; rfl)
                case c3 => simp [maxLen]; omega
                case c4 => omega
                case c5 => simp; omega
                · intro v' w5 hown5 hgrow hnn
                  have hown6 : OwnB w5 w.heap.size v' (Larder.unpackL ws (M + 1)) := by
                    rw [unhide HSC]
                    unfold OwnB
                    have e1 : (Larder.unpackL ws M ++ [d]).length = M + 1 := by simp [Larder.unpackL_length]
                    have e2 : cellsOf (Larder.unpackL ws M ++ [d]) = cellsOf (Larder.unpackL ws M) ++ [.int .u8 (d : Int)] := by simp [cellsOf]
                    rw [e1, e2]; exact hown5
                  have hbl6 : Below w.heap.size w w5 := (hbl'.alloc hsz _).grown hgrow (by simp; omega) (fun j hj => (hlt2 j hj).1)
                  obtain ⟨av6, cp6, hv6⟩ : ∃ av6 cp6, v' = .slice av6 (M + 1) cp6 := by
                    obtain ⟨a6, c6, h6, _⟩ := hown6.shape
                    rw [Larder.unpackL_length] at h6
                    exact ⟨a6, c6, h6⟩
                  clear hown5 hgrow hnn hown2 hlt2 hbl'
                  rw [hv6] at hown6 ⊢
                  go_wp2
                  go_roundw
                  case rel => exact ⟨j + 1, M + 1, cp6, av6, by omega, by have := unhide HMM; omega, by omega, by go_num, by rw [unhide HRN]; go_num, rfl, hown6, hbl6⟩
                  case measure => simp [intOf]; omega
              · have hMe : M = n := by omega
                have hMk : M = 8 * (k + 1) ∨ M = n ∧ n ≤ 8 * (k + 1) := by have := unhide HM8; omega
                have HMK := hide hMk
                clear hMk hM hown hbl hMe
                go_wp2
                go_roundw
                case rel => first | exact ⟨k + 1, M, cp', av', by omega, hMn, unhide HMK, by go_num, rfl, hown', hbl'⟩ | ((repeat apply Exists.intro); exact ⟨⟨k + 1, M, cp', av', by omega, hMn, unhide HMK, by go_num, rfl, hown', hbl'⟩, rfl⟩)
                case measure => simp [intOf]; omega
            · have hMk : M = 8 * (k + 1) ∨ M = n ∧ n ≤ 8 * (k + 1) := by have := unhide HM8; omega
              have HMK := hide hMk
              have hj8' : j = 8 := by omega
              clear hMk hM hown hbl
              subst hj8'
              go_wp2
              go_roundw
              case rel => first | exact ⟨k + 1, M, cp', av', by omega, hMn, unhide HMK, by go_num, rfl, hown', hbl'⟩ | ((repeat apply Exists.intro); exact ⟨⟨k + 1, M, cp', av', by omega, hMn, unhide HMK, by go_num, rfl, hown', hbl'⟩, rfl⟩)
              case measure => simp [intOf]; omega
        · have hme : m = n := by omega
          subst hme
          go_wp2
          go_ret2
          exact ⟨_, rfl, hown, hbl⟩
      · have hme : m = n := by omega
        subst hme
        go_wp2
        go_ret2
        exact ⟨_, rfl, hown, hbl⟩
end Go.Proofs.Ytdgdnpgjbphgaab
