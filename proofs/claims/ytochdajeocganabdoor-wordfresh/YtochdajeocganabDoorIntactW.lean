/- Contracts of IntactWords and of the document's Unpack. -/
import Derived.Test.YtochdajeocganabDoorLendW
namespace Go.Proofs.YtochdajeocganabDoor
open Go.ChangeShapes Go.WideShapes Go.ChangeAt Go.RowKit
set_option linter.unusedVariables false

set_option maxRecDepth 100000 in
set_option maxHeartbeats 1000000 in
theorem intactw_yes (a : Option Addr) (cap g c base : Nat) (w : World) (l : List Nat) (hl : 8 * l.length ≤ 140737488351232) (hB : Words w a l) (hL : WLent w base g c l) :
    Calls Tryd.prog 54 #[.slice (some ⟨g, 0, none⟩) l.length c, .slice a l.length cap] w fun e w' => e = .returned (.bool true) ∧ Below w.heap.size w w' := by
  obtain ⟨hc, m0, m1, m2⟩ := hL.marks
  have hW := hL.bytes
  rcases hB with rfl | ⟨b', off', rfl, hb', hc'⟩
  · simp only [List.length_nil, Nat.zero_add] at m0 m1 m2 hc
    go_enter Tryd.func54, Tryd.ntmps54
    go_wp2_with fail
    go_loopw [5] (fun i wr => i = .int .i64 0 ∧ wr = w) (fun _ _ => 0)
    case atStart => exact ⟨rfl, rfl⟩
    case round =>
      obtain ⟨rfl, rfl⟩ := hrel
      go_wp2
      go_ret
      exact ⟨rfl, Below.refl _ _⟩
  · rcases hW with h0 | ⟨b, off, e, hb, hcl⟩
    · subst h0
      simp only [List.length_nil, Nat.zero_add] at m0 m1 m2 hc
      go_enter Tryd.func54, Tryd.ntmps54
      go_wp2_with fail
      go_loopw [5] (fun i wr => i = .int .i64 0 ∧ wr = w) (fun _ _ => 0)
      case atStart => exact ⟨rfl, rfl⟩
      case round =>
        obtain ⟨rfl, rfl⟩ := hrel
        go_wp2
        go_ret
        exact ⟨rfl, Below.refl _ _⟩
    · cases e
      have HC : Hid (∀ i, i < l.length → w.cell? ⟨g, i, none⟩ = some (.int .u64 (l.getD i 0 : Nat))) := fun i hi => by have := hcl i hi; rwa [Nat.zero_add] at this
      have HC' := hide hc'
      clear hcl hc' hL
      go_enter Tryd.func54, Tryd.ntmps54
      go_wp2_with fail
      go_loopw [5] (fun i wr => ∃ k n : Nat, k ≤ l.length ∧ i = .int .i64 k ∧ wr = w.drewN n) (fun i _ => l.length - (intOf i).toNat)
      case atStart => exact ⟨0, 0, by omega, rfl, rfl⟩
      case round =>
        obtain ⟨k, n, hk, rfl, rfl⟩ := hrel
        by_cases hlt : k < l.length
        · have c1 := unhide HC k hlt
          have c2 := unhide HC' k hlt
          generalize l.getD k 0 = ch at c1 c2
          go_wp2
          go_quiet (fail)
          go_wp2
          go_roundw
          case rel => exact ⟨k + 1, _, by omega, by go_num, rfl⟩
          case measure => simp [intOf]; omega
        · go_wp2
          go_ret
          exact ⟨rfl, below_drewN (Below.refl _ _) _⟩

set_option maxHeartbeats 400000 in
theorem runpack_no (a : Option Addr) (cap m : Nat) (n : Int) (w : World) (h1 : -9223372036854775808 ≤ n) (h2 : n ≤ 9223372036854775807) (h : n < 0 ∨ (m : Int) < wordsI n) :
    Calls Tryd.prog 22 #[.slice a m cap, .int .i64 n] w fun e w' => e = .returned (.tuple #[.slice none 0 0, .int .i64 11]) ∧ w' = w := by
  by_cases h0 : n < 0
  · go_enter Tryd.func22, Tryd.ntmps22
    go_wp2
    go_ret2
    exact ⟨rfl, rfl⟩
  · have hgt : (m : Int) < wordsI n := by omega
    obtain ⟨k, hk⟩ : ∃ k, k = wordsI n := ⟨_, rfl⟩
    have hcall : Calls Tryd.prog 40 #[.int .i64 n] w fun e w' => e = .returned (.int .i64 k) ∧ w' = w := by rw [hk]; exact rwords_any n w h1 h2
    rw [← hk] at hgt
    have HC := hide hcall
    clear hk h hcall
    go_enter Tryd.func22, Tryd.ntmps22
    go_wp2_with fail
    refine (unhide HC).mono ?_
    rintro e w' ⟨rfl, hw'⟩
    obtain rfl := hw'.symm
    go_wp2
    go_ret2
    exact ⟨rfl, rfl⟩

theorem unpackL_succ (ws : List Nat) (n : Nat) : Larder.unpackL ws (n + 1) = Larder.unpackL ws n ++ [ws.getD (n / 8) 0 / 2 ^ (8 * (n % 8)) % 256] := by
  unfold Larder.unpackL; rw [List.range_succ, List.map_append]; rfl

set_option maxRecDepth 100000 in
set_option maxHeartbeats 1000000 in
theorem runpack_yes (a : Option Addr) (cap n : Nat) (w : World) (ws : List Nat) (hws : 8 * ws.length ≤ 140737488351232) (hle : Larder.wn n ≤ ws.length) (hW : Words w a ws) (hs : WSmall ws) :
    Calls Tryd.prog 22 #[.slice a ws.length cap, .int .i64 n] w fun e w' => ∃ v, e = .returned (.tuple #[v, .int .i64 0]) ∧ OwnB w' w.heap.size v (Larder.unpackL ws n) ∧ Below w.heap.size w w' := by
  obtain ⟨i0, hi, hz0, hz1, hz2⟩ := info_parts Tryd.info5
  have hn8 : n ≤ 8 * ws.length := by unfold Larder.wn at hle; omega
  have hwn : wordsI (n : Int) = (Larder.wn n : Int) := by unfold wordsI Larder.wn; split <;> omega
  have hcall : Calls Tryd.prog 40 #[.int .i64 n] w fun e w' => e = .returned (.int .i64 (Larder.wn n : Int)) ∧ w' = w := by rw [← hwn]; exact rwords_any n w (by omega) (by omega)
  have HC0 := hide hcall
  clear hwn hcall
  obtain ⟨Q, hQ⟩ : ∃ Q, Q = Larder.wn n := ⟨_, rfl⟩
  rw [← hQ] at HC0 hle
  clear hQ
  have hnil0 : OwnB w w.heap.size (.slice none 0 0) (Larder.unpackL ws 0) := World.ownsRow_nil w w.heap.size 5 1
  rcases hW with h0 | ⟨b, off, rfl, hblt, hc⟩
  · have hn0 : n = 0 := by rw [h0] at hn8; simp at hn8; omega
    subst hn0
    subst h0
    have hle0 : Q ≤ 0 := by simpa using hle
    clear hle
    go_enter Tryd.func22, Tryd.ntmps22
    go_wp2_with fail
    refine (unhide HC0).mono ?_
    rintro e w' ⟨rfl, hw'⟩
    obtain rfl := hw'.symm
    go_wp2_with fail
    go_loopw [7, 8] (fun v i wr => v = .slice none 0 0 ∧ i = .int .i64 0 ∧ wr = w) (fun _ _ _ => 0)
    case atStart => exact ⟨rfl, rfl, rfl⟩
    case round =>
      obtain ⟨rfl, rfl, rfl⟩ := hrel
      go_wp2
      go_ret2
      exact ⟨_, rfl, hnil0, Below.refl _ _⟩
  · have HC := hide hc
    have hd1 : decide (ws.length < Q) = false := by simp; omega
    have hd2 : decide ((n : Int) < 0) = false := by simp
    clear hc
    go_enter Tryd.func22, Tryd.ntmps22
    go_wp2_with fail
    refine (unhide HC0).mono ?_
    rintro e w' ⟨rfl, hw'⟩
    obtain rfl := hw'.symm
    go_wp2_with fail
    go_loopw [7, 8] (fun v i wr => ∃ k m cp : Nat, ∃ av : Option Addr, k ≤ ws.length ∧ m ≤ n ∧ (m = 8 * k ∨ m = n ∧ n ≤ 8 * k) ∧ i = .int .i64 k ∧ v = .slice av m cp ∧ OwnB wr w.heap.size v (Larder.unpackL ws m) ∧ Below w.heap.size w wr) (fun _ i _ => ws.length - (intOf i).toNat)
    case atStart => exact ⟨0, 0, 0, none, by omega, by omega, .inl rfl, rfl, rfl, hnil0, Below.refl _ _⟩
    case round =>
      obtain ⟨k, m, cp, av, hk, hm, hmk, rfl, rfl, hown, hbl⟩ := hrel
      by_cases hlt : k < ws.length
      · by_cases hmn : m < n
        · have hm8 : m = 8 * k := by omega
          have hcx : wr.cell? ⟨b, off + k, none⟩ = some (.int .u64 (ws.getD k 0 : Nat)) := by rw [hbl.cell (p := ⟨b, off + k, none⟩) hblt]; exact unhide HC k hlt
          have hw64 := hs k hlt
          obtain ⟨V, hV⟩ : ∃ V, V = ws.getD k 0 := ⟨_, rfl⟩
          rw [← hV] at hcx hw64
          have HV := hide hV
          have HM8 := hide hm8
          clear hV hm8 hmk
          go_wp2_with fail
          go_loopw [7, 9, 10] (fun v r i wx => ∃ j M cp : Nat, ∃ av : Option Addr, j ≤ 8 ∧ M = m + j ∧ M ≤ n ∧ i = .int .i64 j ∧ r = .int .u64 (V / 2 ^ (8 * j) : Nat) ∧ v = .slice av M cp ∧ OwnB wx w.heap.size v (Larder.unpackL ws M) ∧ Below w.heap.size w wx) (fun _ _ i _ => 8 - (intOf i).toNat)
          case atStart => exact ⟨0, m, cp, av, by omega, rfl, hm, rfl, by simp, rfl, hown, hbl⟩
          case round =>
            obtain ⟨j, M, cp', av', hj, hM, hMn, rfl, rfl, rfl, hown', hbl'⟩ := hrel
            by_cases hj8 : j < 8
            · by_cases hMlt : M < n
              · have hdq : M / 8 = k := by have := unhide HM8; omega
                have hdr : M % 8 = j := by have := unhide HM8; omega
                have hsucc := unpackL_succ ws M
                rw [hdq, hdr, ← unhide HV] at hsucc
                obtain ⟨r, hr⟩ : ∃ r, r = V / 2 ^ (8 * j) := ⟨_, rfl⟩
                have hr64 : r < 18446744073709551616 := by rw [hr]; exact Nat.lt_of_le_of_lt (Nat.div_le_self _ _) hw64
                have hrn : V / 2 ^ (8 * (j + 1)) = r / 256 := by
                  rw [hr, Nat.div_div_eq_div_mul, show (256 : Nat) = 2 ^ 8 from rfl, ← Nat.pow_add, show 8 * j + 8 = 8 * (j + 1) from by omega]
                rw [← hr] at hsucc
                rw [← hr]
                obtain ⟨d, hd⟩ : ∃ d, d = r % 256 := ⟨_, rfl⟩
                have hd256 : d < 256 := by omega
                have ed : (r : Int) % 256 = (d : Int) := by omega
                rw [← hd] at hsucc
                have hul := Larder.unpackL_length ws M
                have HSC := hide hsucc
                have HRN := hide hrn
                have HMM := hide hM
                clear hsucc hrn hr hd hdq hdr hM
                have hown2 : wr.ownsRow w.heap.size 5 1 (.slice av' M cp') M (cellsOf (Larder.unpackL ws M)) := by
                  have := hown'; unfold OwnB at this; rw [hul] at this; exact this
                have hsz := hbl'.size
                have hlt2 := hown2.lt
                clear hown' hul hown hbl
                go_wp2_with (at_builtin; refine wpList_append_own _ rfl _ _ 46 rfl w.heap.size 5 i0 (.int .u8 0) 1 1 Tryd.underlying46 hi hz0 hz1 hz2 rfl (by decide) _ _ _ rfl (hown2.alloc _) ⟨wr.heap.size, 0, none⟩ 1 1 [.int .u8 (d : Int)] rfl rfl ?c1 ?c2 ?c3 ?c4 ?c5 ?_)
                case c1 =>
                  intro j u hj
                  match j, hj with
                  | 0, hj => simp at hj; subst hj; simp [Addr.add]
                case c2 => first | rfl | (intro u hu; simp at hu; subst hu; rfl)
                case c3 => simp [maxLen]; omega
                case c4 => omega
                case c5 => simp; omega
                · intro v' w5 hown5 hgrow hnn
                  have hown6 : OwnB w5 w.heap.size v' (Larder.unpackL ws (M + 1)) := by
                    rw [unhide HSC]
                    unfold OwnB
                    have e1 : (Larder.unpackL ws M ++ [d]).length = M + 1 := by simp [Larder.unpackL_length]
                    have e2 : cellsOf (Larder.unpackL ws M ++ [d]) = cellsOf (Larder.unpackL ws M) ++ [.int .u8 (d : Int)] := by simp [cellsOf]
                    rw [e1, e2]; exact hown5
                  have hbl6 : Below w.heap.size w w5 := (hbl'.alloc hsz _).grown hgrow (by simp; omega) (fun j hj => (hlt2 j hj).1)
                  obtain ⟨av6, cp6, hv6⟩ : ∃ av6 cp6, v' = .slice av6 (M + 1) cp6 := by
                    obtain ⟨a6, c6, h6, _⟩ := hown6.shape
                    rw [Larder.unpackL_length] at h6
                    exact ⟨a6, c6, h6⟩
                  clear hown5 hgrow hnn hown2 hlt2 hbl'
                  rw [hv6] at hown6 ⊢
                  go_wp2
                  go_roundw
                  case rel => exact ⟨j + 1, M + 1, cp6, av6, by omega, by have := unhide HMM; omega, by omega, by go_num, by rw [unhide HRN]; go_num, rfl, hown6, hbl6⟩
                  case measure => simp [intOf]; omega
              · have hMe : M = n := by omega
                have hMk : M = 8 * (k + 1) ∨ M = n ∧ n ≤ 8 * (k + 1) := by have := unhide HM8; omega
                have HMK := hide hMk
                clear hMk hM hown hbl hMe
                go_wp2
                go_roundw
                case rel => first | exact ⟨k + 1, M, cp', av', by omega, hMn, unhide HMK, by go_num, rfl, hown', hbl'⟩ | ((repeat apply Exists.intro); exact ⟨⟨k + 1, M, cp', av', by omega, hMn, unhide HMK, by go_num, rfl, hown', hbl'⟩, rfl⟩)
                case measure => simp [intOf]; omega
            · have hMk : M = 8 * (k + 1) ∨ M = n ∧ n ≤ 8 * (k + 1) := by have := unhide HM8; omega
              have HMK := hide hMk
              have hj8' : j = 8 := by omega
              clear hMk hM hown hbl
              subst hj8'
              go_wp2
              go_roundw
              case rel => first | exact ⟨k + 1, M, cp', av', by omega, hMn, unhide HMK, by go_num, rfl, hown', hbl'⟩ | ((repeat apply Exists.intro); exact ⟨⟨k + 1, M, cp', av', by omega, hMn, unhide HMK, by go_num, rfl, hown', hbl'⟩, rfl⟩)
              case measure => simp [intOf]; omega
        · have hme : m = n := by omega
          subst hme
          go_wp2
          go_ret2
          exact ⟨_, rfl, hown, hbl⟩
      · have hme : m = n := by omega
        subst hme
        go_wp2
        go_ret2
        exact ⟨_, rfl, hown, hbl⟩
end Go.Proofs.YtochdajeocganabDoor
