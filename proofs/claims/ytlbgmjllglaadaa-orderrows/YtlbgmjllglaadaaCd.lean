/- rows: is it the document's table? -/
import Derived.Test.YtlbgmjllglaadaaCb
namespace Go.Proofs.Ytlbgmjllglaadaa
open Go.ChangeShapes Go.WideShapes Go.ChangeAt Go.RowKit
set_option linter.unusedVariables false
set_option maxRecDepth 20000
set_option maxHeartbeats 4000000

theorem rows_any (b off cap : Nat) (w : World) (hb : b < w.heap.size) (h : ∀ k, k < 217 → w.cell? ⟨b, off + k, none⟩ = tabA[k]?) : Calls Try.prog 5 #[.slice (some ⟨b, off, none⟩) 31 cap] w fun e w' => e = .returned (.bool true) ∧ Below w.heap.size w w' := by
  have hc := hide h
  clear h
  have CR : Hid (Calls Try.prog 8 #[] w fun e w' => ∃ rg, e = .returned (.slice (some ⟨rg, 0, none⟩) 31 31) ∧ Hid (w'.heap[rg]? = some (.cells tabA 28 (0, 0)) ∧ Below w.heap.size w w')) := hide (refRows_any w)
  go_enter Try.func5, Try.ntmps5
  go_wp2_with (go_at_call 8; refine (unhide CR).mono ?_; rintro e w1 ⟨rg, rfl, k1⟩)
  have kb : Hid (w.heap.size ≤ w1.heap.size) := hide (unhide k1).2.size
  have ks : Hid (rg < w1.heap.size) := hide (Array.getElem?_eq_some_iff.1 (unhide k1).1).1
  go_loopw [4] (fun iv wr => ∃ i : Nat, iv = .int .i64 (i : Nat) ∧ i ≤ 31 ∧ Hid (Below w1.heap.size w1 wr)) (fun iv _ => 31 - (intOf iv).toNat)
  case atStart => exact ⟨0, rfl, Nat.zero_le _, hide (Below.refl _ _)⟩
  case round =>
    obtain ⟨i, rfl, hi, hbw⟩ := hrel
    rcases Nat.lt_or_ge i 31 with hlt | hge
    · obtain ⟨⟨cn, ca, cb, cf, cl, cs, cq⟩, -, hrow⟩ := tab_at i hlt
      have hbelow : Below w.heap.size w wr := bel_chain (unhide k1).2 (unhide hbw) (by have := unhide kb; omega)
      have A : ∀ j v, j < 7 → (Cm.row ⟨cn, ca, cb, cf, cl, cs, cq⟩)[j]? = some v → wr.cell? ⟨b, off + i * 7 + j, none⟩ = some v := fun j v hj hv => by
        rw [hbelow.cell hb, Nat.add_assoc, unhide hc _ (by omega), Nat.mul_comm i 7, hrow j hj, hv]
      have B : ∀ j v, j < 7 → (Cm.row ⟨cn, ca, cb, cf, cl, cs, cq⟩)[j]? = some v → wr.cell? ⟨rg, i * 7 + j, none⟩ = some v := fun j v hj hv => by
        rw [(unhide hbw).cell (unhide ks), cell_of_row _ _ _ _ _ _ (unhide k1).1, Nat.mul_comm i 7, hrow j hj, hv]
      have a0 : wr.cell? ⟨b, off + i * 7, none⟩ = some (.string ⟨cn.toArray⟩) := A 0 _ (by decide) rfl
      have b0 : wr.cell? ⟨rg, i * 7, none⟩ = some (.string ⟨cn.toArray⟩) := B 0 _ (by decide) rfl
      have a1 : wr.cell? ⟨b, off + i * 7 + 1, none⟩ = some (.int .i64 ca) := A 1 _ (by decide) rfl
      have b1 : wr.cell? ⟨rg, i * 7 + 1, none⟩ = some (.int .i64 ca) := B 1 _ (by decide) rfl
      have a2 : wr.cell? ⟨b, off + i * 7 + 2, none⟩ = some (.bool cb) := A 2 _ (by decide) rfl
      have b2 : wr.cell? ⟨rg, i * 7 + 2, none⟩ = some (.bool cb) := B 2 _ (by decide) rfl
      have a3 : wr.cell? ⟨b, off + i * 7 + 3, none⟩ = some (.int .i64 cf) := A 3 _ (by decide) rfl
      have b3 : wr.cell? ⟨rg, i * 7 + 3, none⟩ = some (.int .i64 cf) := B 3 _ (by decide) rfl
      have a4 : wr.cell? ⟨b, off + i * 7 + 4, none⟩ = some (.int .i64 cl) := A 4 _ (by decide) rfl
      have b4 : wr.cell? ⟨rg, i * 7 + 4, none⟩ = some (.int .i64 cl) := B 4 _ (by decide) rfl
      have a5 : wr.cell? ⟨b, off + i * 7 + 5, none⟩ = some (.int .i64 cs) := A 5 _ (by decide) rfl
      have b5 : wr.cell? ⟨rg, i * 7 + 5, none⟩ = some (.int .i64 cs) := B 5 _ (by decide) rfl
      have a6 : wr.cell? ⟨b, off + i * 7 + 6, none⟩ = some (.int .i64 cq) := A 6 _ (by decide) rfl
      have b6 : wr.cell? ⟨rg, i * 7 + 6, none⟩ = some (.int .i64 cq) := B 6 _ (by decide) rfl
      clear A B hrow hbelow
      have f1 : decide ((i : Int) < 31) = true := decide_eq_true (by omega)
      have hsz : Hid (rg < wr.heap.size ∧ b < wr.heap.size) := hide ⟨Nat.lt_of_lt_of_le (unhide ks) (unhide hbw).size, by have := unhide kb; have := (unhide hbw).size; omega⟩
      go_wp2_with fail
      obtain ⟨q1, q2⟩ := unhide hsz
      have g1 : (0 : Int) ≤ (i : Int) := by omega
      have g2 : (i : Int) < 31 := by omega
      have q3 : (rg == wr.heap.size) = false := by simp; omega
      have q4 : (b == wr.heap.size) = false := by simp; omega
      go_region_held3 (fun w' => w'.cell? ⟨b, off + i * 7, none⟩ = some (.string ⟨cn.toArray⟩) ∧ w'.cell? ⟨b, off + i * 7 + 1, none⟩ = some (.int .i64 ca) ∧ w'.cell? ⟨b, off + i * 7 + 2, none⟩ = some (.bool cb) ∧ w'.cell? ⟨b, off + i * 7 + 3, none⟩ = some (.int .i64 cf) ∧ w'.cell? ⟨b, off + i * 7 + 4, none⟩ = some (.int .i64 cl) ∧ w'.cell? ⟨b, off + i * 7 + 5, none⟩ = some (.int .i64 cs) ∧ w'.cell? ⟨b, off + i * 7 + 6, none⟩ = some (.int .i64 cq) ∧ w'.cell? ⟨rg, i * 7, none⟩ = some (.string ⟨cn.toArray⟩) ∧ w'.cell? ⟨rg, i * 7 + 1, none⟩ = some (.int .i64 ca) ∧ w'.cell? ⟨rg, i * 7 + 2, none⟩ = some (.bool cb) ∧ w'.cell? ⟨rg, i * 7 + 3, none⟩ = some (.int .i64 cf) ∧ w'.cell? ⟨rg, i * 7 + 4, none⟩ = some (.int .i64 cl) ∧ w'.cell? ⟨rg, i * 7 + 5, none⟩ = some (.int .i64 cs) ∧ w'.cell? ⟨rg, i * 7 + 6, none⟩ = some (.int .i64 cq)) (go_keep) (fail)
      all_goals go_wp2
      all_goals go_roundw
      all_goals first | exact ⟨i + 1, by simp, by omega, hide ((((unhide hbw).alloc (unhide hbw).size _).alloc (by simp; have := (unhide hbw).size; omega) _).drew)⟩ | (simp only [intOf]; omega)
    · have hii : i = 31 := by omega
      subst hii
      have f1 : decide (((31 : Nat) : Int) < 31) = false := decide_eq_false (by omega)
      go_wp2
      go_ret
      exact ⟨rfl, bel_chain (unhide k1).2 (unhide hbw) (by have := unhide kb; omega)⟩
end Go.Proofs.Ytlbgmjllglaadaa
