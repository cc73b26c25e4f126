/- Contracts of mix, Hash and changed. -/
import Derived.Test.YtochdajeocganaaPack
import Derived.Test.YtochdajeocganaaHashMath
namespace Go.Proofs.Ytochdajeocganaa
open Go.ChangeShapes Go.WideShapes Go.ChangeAt Go.RowKit
set_option linter.unusedVariables false

theorem xor_sh (x s : Nat) (d : Int) (hd : d = ((2 ^ s : Nat) : Int)) (hx : x < 18446744073709551616) : bits BinOp.xor IntKind.u64 (x : Int) ((x : Int) / d) = (Larder.shN s x : Int) := by
  have e : (x : Int) / d = ((x / 2 ^ s : Nat) : Int) := by rw [hd]; exact (Int.natCast_ediv x (2 ^ s)).symm
  rw [e]
  exact u64_xor_nat x (x / 2 ^ s) hx (Nat.lt_of_le_of_lt (Nat.div_le_self _ _) hx)

theorem wrap_mul (x c : Nat) : IntKind.u64.wrap ((x : Int) * (c : Int)) = ((x * c % 18446744073709551616 : Nat) : Int) := by
  rw [IntKind.wrap_u64]
  have : (x : Int) * (c : Int) = ((x * c : Nat) : Int) := (Int.natCast_mul x c).symm
  rw [this]; omega

set_option maxHeartbeats 400000 in
theorem mix_any (x : Nat) (w : World) (hx : x < 18446744073709551616) : Calls Try.prog 34 #[.int .u64 x] w fun e w' => e = .returned (.int .u64 (Larder.mixN x : Int)) ∧ w' = w := by
  have h1 := xor_sh x 32 4294967296 (by decide) hx
  have l1 := Larder.shN_lt 32 hx
  obtain ⟨x1, hx1⟩ : ∃ y, y = Larder.shN 32 x := ⟨_, rfl⟩
  rw [← hx1] at h1 l1
  have h2 : IntKind.u64.wrap ((x1 : Int) * 15466983567672013453) = ((x1 * 15466983567672013453 % 18446744073709551616 : Nat) : Int) := wrap_mul x1 15466983567672013453
  have l2 : x1 * 15466983567672013453 % 18446744073709551616 < 18446744073709551616 := Nat.mod_lt _ (by decide)
  obtain ⟨x2, hx2⟩ : ∃ y, y = x1 * 15466983567672013453 % 18446744073709551616 := ⟨_, rfl⟩
  rw [← hx2] at h2 l2
  have h3 := xor_sh x2 29 536870912 (by decide) l2
  have l3 := Larder.shN_lt 29 l2
  obtain ⟨x3, hx3⟩ : ∃ y, y = Larder.shN 29 x2 := ⟨_, rfl⟩
  rw [← hx3] at h3 l3
  have h4 : IntKind.u64.wrap ((x3 : Int) * 12920666929402377605) = ((x3 * 12920666929402377605 % 18446744073709551616 : Nat) : Int) := wrap_mul x3 12920666929402377605
  have l4 : x3 * 12920666929402377605 % 18446744073709551616 < 18446744073709551616 := Nat.mod_lt _ (by decide)
  obtain ⟨x4, hx4⟩ : ∃ y, y = x3 * 12920666929402377605 % 18446744073709551616 := ⟨_, rfl⟩
  rw [← hx4] at h4 l4
  have h5 := xor_sh x4 32 4294967296 (by decide) l4
  have HM : Hid (Larder.mixN x = Larder.shN 32 x4) := by
    rw [hx4, hx3, hx2, hx1]; rfl
  rw [← unhide HM] at h5
  clear hx1 hx2 hx3 hx4
  generalize Larder.mixN x = y at *
  go_enter Try.func34, Try.ntmps34
  go_wp2
  go_ret
  exact ⟨rfl, rfl⟩

set_option maxHeartbeats 1000000 in
theorem hash_core (M F : Nat → Nat) (hM : ∀ (x : Nat) (w : World), x < 18446744073709551616 → Calls Try.prog 34 #[.int .u64 x] w fun e w' => e = .returned (.int .u64 (M x : Int)) ∧ w' = w)
    (seed s0 : Nat) (a : Option Addr) (cap : Nat) (w : World) (l : List Nat) (hw0 : IntKind.u64.wrap ((seed : Int) + (l.length : Int)) = (s0 : Int)) (hlt0 : s0 < 18446744073709551616) (hl : l.length ≤ 140737488355328) (hB : Bytes w a l) (hs : Small l)
    (hf : ∀ k, F k < 18446744073709551616) (hF0 : M s0 = F 0) (hFs : ∀ k, k < (Larder.packL l).length → F (k + 1) = M (F k ^^^ (Larder.packL l).getD k 0)) (R : Nat) (hR : F (Larder.packL l).length = R) :
    Calls Try.prog 20 #[.int .u64 seed, .slice a l.length cap] w fun e w' => e = .returned (.int .u64 (R : Int)) ∧ Below w.heap.size w w' := by
  have HM := hide hM
  have H0 := hide hF0
  clear hM hF0
  go_enter Try.func20, Try.ntmps20
  go_wp2_with fail
  refine (unhide HM s0 w hlt0).mono ?_
  rintro e w' ⟨rfl, hw'⟩
  obtain rfl := hw'.symm
  rw [unhide H0]
  go_wp2_with fail
  refine (pack_any a cap w l hl hB hs).mono ?_
  rintro e w1 ⟨v, rfl, hown, hb1⟩
  obtain ⟨a1, cap1, rfl, hW1⟩ := hown.shape
  have hmem := Larder.packL_mem_lt (l := l) hs
  have hpl : (Larder.packL l).length ≤ 17592186044417 := by rw [Larder.packL_length]; unfold Larder.wn; omega
  clear hown
  generalize Larder.packL l = ws at *
  have HS := hide hFs
  have HR := hide hR
  clear hFs hR
  rcases hW1 with rfl | ⟨b, off, rfl, hblt, hc⟩
  · go_wp2_with fail
    go_loop [5, 17] (fun h i => i = .int .i64 0 ∧ h = .int .u64 (F 0 : Nat)) (fun _ _ => 0)
    case atStart => exact ⟨rfl, rfl⟩
    case round =>
      obtain ⟨rfl, rfl⟩ := hrel
      go_wp2
      go_ret
      exact ⟨by rw [← unhide HR]; rfl, hb1⟩
  · go_wp2_with fail
    go_loop [5, 17] (fun h i => ∃ k : Nat, k ≤ ws.length ∧ i = .int .i64 k ∧ h = .int .u64 (F k : Nat)) (fun _ i => ws.length - (intOf i).toNat)
    case atStart => exact ⟨0, by omega, rfl, rfl⟩
    case round =>
      obtain ⟨k, hk, rfl, rfl⟩ := hrel
      by_cases hlt : k < ws.length
      · obtain ⟨c, hcc⟩ : ∃ c, c = ws.getD k 0 := ⟨_, rfl⟩
        have hcx := hc k hlt
        rw [← hcc] at hcx
        have hc64 : c < 18446744073709551616 := by
          rw [hcc, List.getD_eq_getElem?_getD, List.getElem?_eq_getElem hlt]; exact hmem _ (List.getElem_mem hlt)
        have hstep := unhide HS k hlt
        rw [← hcc] at hstep
        have hxor := u64_xor_nat (F k) c (hf k) hc64
        have hx64 := Larder.xor64 (hf k) hc64
        have HS2 := hide hstep
        clear hc hcc hstep hf hmem
        obtain ⟨y, hy⟩ : ∃ y, y = F k ^^^ c := ⟨_, rfl⟩
        rw [← hy] at hxor hx64 HS2
        clear hy
        go_wp2_with fail
        refine (unhide HM y w1 hx64).mono ?_
        rintro e w' ⟨rfl, hw'⟩
        obtain rfl := hw'.symm
        rw [← unhide HS2]
        go_wp2
        go_round
        case rel => exact ⟨k + 1, by omega, by go_num, rfl⟩
        case measure => simp [intOf]; omega
      · have hkl : k = ws.length := by omega
        subst hkl
        go_wp2
        go_ret
        exact ⟨by rw [← unhide HR]; rfl, hb1⟩

theorem hash_any (seed : Nat) (a : Option Addr) (cap : Nat) (w : World) (l : List Nat) (hseed : seed < 18446744073709551616) (hl : l.length ≤ 140737488355328) (hB : Bytes w a l) (hs : Small l) :
    Calls Try.prog 20 #[.int .u64 seed, .slice a l.length cap] w fun e w' => e = .returned (.int .u64 (Larder.hashN seed l : Int)) ∧ Below w.heap.size w w' := by
  have hmem := Larder.packL_mem_lt (l := l) hs
  have hlt0 : (seed + l.length) % 18446744073709551616 < 18446744073709551616 := Nat.mod_lt _ (by decide)
  have h := hash_core Larder.mixN (fun k => Larder.foldH (Larder.mixN ((seed + l.length) % 18446744073709551616)) ((Larder.packL l).take k)) mix_any seed _ a cap w l
    (by rw [IntKind.wrap_u64]; omega) hlt0 hl hB hs
    (fun k => Larder.foldH_lt _ (fun c hc => hmem c (List.mem_of_mem_take hc)) _ (Larder.mixN_lt _ hlt0))
    (by rw [List.take_zero, Larder.foldH, List.foldl_nil])
    (by
      intro k hk
      have e : (Larder.packL l).take (k + 1) = (Larder.packL l).take k ++ [(Larder.packL l).getD k 0] := by
        rw [List.take_succ_eq_append_getElem hk, List.getD_eq_getElem?_getD, List.getElem?_eq_getElem hk]; rfl
      rw [e]; unfold Larder.foldH; rw [List.foldl_append, List.foldl_cons, List.foldl_nil])
  exact h (Larder.hashN seed l) (by rw [List.take_length, Larder.hashN])
end Go.Proofs.Ytochdajeocganaa
