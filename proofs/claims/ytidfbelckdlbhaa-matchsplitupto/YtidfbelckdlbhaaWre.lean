/- pattern. -/
import Derived.Test.YtidfbelckdlbhaaWrd
namespace Go.Proofs.Ytidfbelckdlbhaa
open Go.ChangeShapes Go.WideShapes Go.ChangeAt Go.RowKit
set_option linter.unusedVariables false
set_option maxRecDepth 20000
set_option maxHeartbeats 1000000

theorem pat_snoc (xs : List Larder.Pcd) (i : Nat) (x : Larder.Pcd) (h : xs[i]? = some x) : Larder.patL (xs.take (i + 1)) = Larder.patL (xs.take i) ++ Larder.writeL x := by
  have hi := (List.getElem?_eq_some_iff.1 h).1
  rw [List.take_succ_eq_append_getElem hi, (List.getElem?_eq_some_iff.1 h).2]
  simp [Larder.patL]
theorem pat_take (xs : List Larder.Pcd) (i : Nat) : (Larder.patL (xs.take i)).length ≤ (Larder.patL xs).length := by
  conv => rhs; rw [← List.take_append_drop i xs]
  unfold Larder.patL
  rw [List.flatMap_append, List.length_append]
  omega
theorem pattern_any (a : Option Addr) (n cap : Nat) (w : World) (xs : List Larder.Pcd) (hn : n = xs.length) (hx : xs.length ≤ 1048576) (hL : (Larder.patL xs).length ≤ 1000000000) (hP : PcsAt w a xs) (hd : ∀ x ∈ xs, -9223372036854775808 ≤ x.d ∧ x.d ≤ 9223372036854775807) :
    Calls Try.prog 13 #[.slice a n cap] w fun e w' => ∃ v, e = .returned v ∧ OwnB w' w.heap.size v (Larder.patL xs) ∧ Below w.heap.size w w' := by
  have HN := hide hn
  have H1 := hide hP
  have HD := hide hd
  have HL := hide hL
  rw [← hn] at hx
  clear hn hP hd hL
  go_enter Try.func13, Try.ntmps13
  go_wp2_with fail
  go_loopw [3, 4] (fun v iv wr => ∃ i : Nat, iv = .int .i64 (i : Nat) ∧ i ≤ n ∧ OwnB wr w.heap.size v (Larder.patL (xs.take i)) ∧ Below w.heap.size w wr) (fun _ iv _ => n - (intOf iv).toNat)
  case atStart => exact ⟨0, rfl, Nat.zero_le _, OwnB.nil _ _, Below.refl _ _⟩
  case round =>
    obtain ⟨i, rfl, hi, hO, hb⟩ := hrel
    by_cases hin : i < n
    · have di : decide ((i : Int) < (n : Int)) = true := decide_eq_true (by omega)
      obtain ⟨x, hxi⟩ : ∃ x, xs[i]? = some x := ⟨_, List.getElem?_eq_getElem (by rw [← unhide HN]; exact hin)⟩
      rcases (unhide H1).below hb with h | ⟨mb, mo, rfl, hmb, hmc⟩
      · rw [h] at hxi; cases hxi
      obtain ⟨⟨ok1, ok2, ok3⟩, am, cm, hma, y1, y2, y3, y4⟩ := hmc i x hxi
      have hdx := unhide HD x (List.mem_of_getElem? hxi)
      have WR : Hid (Calls Try.prog 10 #[.agg (pcV x am cm)] wr fun e w' => Wrt wr w' e (Larder.writeL x)) := hide (write_any x am cm wr ok1 ok2 ok3 hma hdx)
      have HNX := hide (pat_snoc xs i x hxi)
      have HLN : Hid ((Larder.patL (xs.take i)).length + (Larder.writeL x).length ≤ 1000000000) := hide (by have h1 := pat_take xs (i + 1); rw [unhide HNX, List.length_append] at h1; exact Nat.le_trans h1 (unhide HL))
      obtain ⟨d, b, nt, ms⟩ := x
      unfold pcV at WR
      dsimp only at y1 y2 y3 y4 WR
      generalize Larder.writeL ⟨d, b, nt, ms⟩ = M at HNX HLN WR
      generalize hLN : Larder.patL (xs.take (i + 1)) = LN at HNX
      have HQ := hide hLN
      clear hLN
      generalize Larder.patL (xs.take i) = L at HNX HLN hO
      have HO := hide hO
      have HB := hide hb
      clear hmc hma ok3 hO hb
      go_wp2_with fail
      go_at_call 10; refine (unhide WR).mono ?_; rintro e w2 ⟨a2, c2, rfl, k1, k2, k3⟩
      have K2 := hide (And.intro k1 (And.intro k2 k3))
      clear k1 k2 k3
      dsimp only
      first | go_values | go_skip | go_guarded | go_step | go_upon
      at_builtin; refine wpList_app rfl _ _ rfl w.heap.size _ L M a2 M.length c2 rfl rfl ((unhide HO).below (unhide K2).2.2) rfl (unhide K2).1 (unhide K2).2.1 (Nat.le_trans (unhide HLN) (by decide)) (Nat.le_trans (unhide HB).size (unhide K2).2.2.size) ?_
      intro v' w' h1 h2
      have HX := hide h1
      have HY := hide (((unhide HB).trans ((unhide K2).2.2.mono (unhide HB).size)).trans h2)
      clear h1 h2
      go_wp2
      go_roundw
      case rel => exact ⟨i + 1, by simp, by omega, by rw [unhide HQ, unhide HNX]; exact unhide HX, unhide HY⟩
      case measure => simp [intOf]; omega
    · have hii : i = n := by omega
      subst hii
      have e : xs.take i = xs := by rw [unhide HN, List.take_length]
      rw [e] at hO
      have HO := hide hO
      have HB := hide hb
      clear hO hb e
      go_wp2
      go_ret
      exact ⟨_, rfl, unhide HO, unhide HB⟩
end Go.Proofs.Ytidfbelckdlbhaa
