/- The loop over a script. -/
import Derived.Test.YtochdajeocganabDoorHeaders
namespace Go.Proofs.YtochdajeocganabDoor
open Go.ChangeShapes Go.WideShapes Go.ChangeAt Go.RowKit
set_option linter.unusedVariables false

/-- one call of a script lies at b, o -/
def OpAt (w : World) (b o : Nat) (K A B C N M : Int) (x : Nat) (aT : Option Addr) (nT cT : Nat) (aW : Option Addr) (nW cW : Nat) : Prop :=
  w.cell? ⟨b, o, none⟩ = some (.int .i64 K) ∧ w.cell? ⟨b, o + 1, none⟩ = some (.int .i64 A) ∧ w.cell? ⟨b, o + 2, none⟩ = some (.int .i64 B) ∧ w.cell? ⟨b, o + 3, none⟩ = some (.int .i64 C) ∧
  w.cell? ⟨b, o + 4, none⟩ = some (.int .i64 N) ∧ w.cell? ⟨b, o + 5, none⟩ = some (.int .i64 M) ∧ w.cell? ⟨b, o + 6, none⟩ = some (.int .u64 x) ∧ w.cell? ⟨b, o + 7, none⟩ = some (.slice aT nT cT) ∧ w.cell? ⟨b, o + 8, none⟩ = some (.slice aW nW cW)

theorem OpAt.below {w w' : World} {b o : Nat} {K A B C N M : Int} {x : Nat} {aT : Option Addr} {nT cT : Nat} {aW : Option Addr} {nW cW : Nat} (h : OpAt w b o K A B C N M x aT nT cT aW nW cW) (hb : b < w.heap.size) (hbl : Below w.heap.size w w') : OpAt w' b o K A B C N M x aT nT cT aW nW cW := by
  have cc : ∀ j v, w.cell? ⟨b, j, none⟩ = some v → w'.cell? ⟨b, j, none⟩ = some v := fun j v h => (hbl.cell (p := ⟨b, j, none⟩) hb).trans h
  obtain ⟨h0, h1, h2, h3, h4, h5, h6, h7, h8⟩ := h
  exact ⟨cc _ _ h0, cc _ _ h1, cc _ _ h2, cc _ _ h3, cc _ _ h4, cc _ _ h5, cc _ _ h6, cc _ _ h7, cc _ _ h8⟩

/-- The loop of upTo between the kinds lo and hi, whatever the calls' own contract (G: what is known of each call). -/
theorem upto_some (lo hi : Int) (G : World → Int → Int → Int → Int → Int → Int → Nat → Option Addr → Nat → Nat → Option Addr → Nat → Nat → Prop)
    (hG : ∀ w w' K A B C N M x aT nT cT aW nW cW, Below w.heap.size w w' → G w K A B C N M x aT nT cT aW nW cW → G w' K A B C N M x aT nT cT aW nW cW)
    (hplays : ∀ (K A B C N M : Int) (x : Nat) (aT : Option Addr) (nT cT : Nat) (aW : Option Addr) (nW cW : Nat) (w : World), lo ≤ K → K ≤ hi → x < 18446744073709551616 → G w K A B C N M x aT nT cT aW nW cW →
      Calls Tryd.prog 18 #[.agg #[.int .i64 K, .int .i64 A, .int .i64 B, .int .i64 C, .int .i64 N, .int .i64 M, .int .u64 x, .slice aT nT cT, .slice aW nW cW]] w fun e w' => e = .returned (.bool true) ∧ Below w.heap.size w w')
    (b off cap n : Nat) (w : World) (hn : n ≤ 140737488355328) (hb : b < w.heap.size)
    (hE : ∀ k, k < n → ∃ (K A B C N M : Int) (x : Nat) (aT : Option Addr) (nT cT : Nat) (aW : Option Addr) (nW cW : Nat), x < 18446744073709551616 ∧ OpAt w b (off + k * 9) K A B C N M x aT nT cT aW nW cW ∧ G w K A B C N M x aT nT cT aW nW cW) :
    Calls Tryd.prog 9 #[.slice (some ⟨b, off, none⟩) n cap, .int .i64 lo, .int .i64 hi] w fun e w' => e = .returned (.bool true) ∧ Below w.heap.size w w' := by
  have HP := hide hplays
  have HG := hide hG
  have HE := hide hE
  clear hplays hG hE
  go_enter Tryd.func9, Tryd.ntmps9
  go_wp2_with fail
  go_loopw [7] (fun i wr => ∃ k : Nat, k ≤ n ∧ i = .int .i64 k ∧ Below w.heap.size w wr) (fun i _ => n - (intOf i).toNat)
  case atStart => exact ⟨0, by omega, rfl, Below.refl _ _⟩
  case round =>
    obtain ⟨k, hk, rfl, hbl⟩ := hrel
    by_cases hlt : k < n
    · obtain ⟨K, A, B, C, N, M, x, aT, nT, cT, aW, nW, cW, hx, hop, hg⟩ := unhide HE k hlt
      obtain ⟨c0, c1, c2, c3, c4, c5, c6, c7, c8⟩ := hop.below hb hbl
      have hba : Below w.heap.size w (wr.alloc (.cells #[.int .i64 K, .int .i64 A, .int .i64 B, .int .i64 C, .int .i64 N, .int .i64 M, .int .u64 x, .slice aT nT cT, .slice aW nW cW] 49)) := hbl.alloc hbl.size _
      have hg2 := unhide HG _ _ K A B C N M x aT nT cT aW nW cW hba hg
      have HG2 := hide hg2
      clear hg hg2 hop
      by_cases h1 : lo ≤ K
      · by_cases h2 : K ≤ hi
        · have hcall := unhide HP K A B C N M x aT nT cT aW nW cW _ h1 h2 hx (unhide HG2)
          have HC := hide hcall
          clear hcall
          go_wp2_with fail
          refine (unhide HC).mono ?_
          rintro e w1 ⟨rfl, hb1⟩
          go_wp2
          go_roundw
          case rel => exact ⟨k + 1, by omega, by go_num, chain hba hb1 hba.size⟩
          case measure => simp [intOf]; omega
        · have h2' : decide (K ≤ hi) = false := by simp; omega
          go_wp2
          go_roundw
          case rel => exact ⟨k + 1, by omega, by go_num, hba⟩
          case measure => simp [intOf]; omega
      · have h1' : decide (lo ≤ K) = false := by simp; omega
        go_wp2
        go_roundw
        case rel => exact ⟨k + 1, by omega, by go_num, hba⟩
        case measure => simp [intOf]; omega
    · go_wp2
      go_ret
      exact ⟨rfl, hbl⟩

theorem upto_none (lo hi : Int) (a : Option Addr) (cap : Nat) (w : World) :
    Calls Tryd.prog 9 #[.slice a 0 cap, .int .i64 lo, .int .i64 hi] w fun e w' => e = .returned (.bool true) ∧ Below w.heap.size w w' := by
  go_enter Tryd.func9, Tryd.ntmps9
  go_wp2_with fail
  go_loopw [7] (fun i wr => i = .int .i64 0 ∧ wr = w) (fun _ _ => 0)
  case atStart => exact ⟨rfl, rfl⟩
  case round =>
    obtain ⟨rfl, rfl⟩ := hrel
    go_wp2
    go_ret
    exact ⟨rfl, Below.refl _ _⟩
end Go.Proofs.YtochdajeocganabDoor
