/- PostExact: begun; within twelve. -/
import Derived.Test.YtjmnddcombepaaaDx
namespace Go.Proofs.Ytjmnddcombepaaa
open Go.ChangeShapes Go.WideShapes Go.ChangeAt Go.RowKit Go.Maps
set_option linter.unusedVariables false
set_option linter.unusedSimpArgs false
set_option maxRecDepth 100000
set_option maxHeartbeats 8000000
theorem within12 (w : World) (n : Int) (hn : -9223372036854775808 ≤ n ∧ n ≤ 9223372036854775807) : Calls Try.prog 9 #[.int .i64 n, .int .i64 12] w fun e w' => ∃ k : Nat, k < 12 ∧ e = .returned (.int .i64 (k : Nat)) ∧ w' = w := by
  have h2 : -12 ≤ n.tmod 12 ∧ n.tmod 12 ≤ 12 := by
    have h3 := Int.tmod_lt_of_pos n (show (0 : Int) < 12 by decide)
    have h4 : -12 < n.tmod 12 := by
      rcases Int.le_total 0 n with h | h
      · have := Int.tmod_nonneg 12 h; omega
      · have h3 := Int.tmod_lt_of_pos (-n) (show (0 : Int) < 12 by decide)
        rw [Int.neg_tmod] at h3
        omega
    omega
  obtain ⟨k, hk⟩ : ∃ k : Nat, (k : Int) = n % 12 := ⟨(n % 12).toNat, by omega⟩
  have H : Hid ((n.tmod 12 + 12) % 12 = (k : Int) ∧ k < 12) := hide (by
    have h := mod_fact n 12 (by decide)
    rw [Int.tmod_eq_emod_of_nonneg (by omega)] at h
    exact ⟨h.trans hk.symm, by omega⟩)
  have hw : wrap64 (n.tmod 12 + 12) = n.tmod 12 + 12 := by unfold wrap64; omega
  have hw1 : wrap64 (n.tmod 12) = n.tmod 12 := by unfold wrap64; omega
  clear hk
  go_enter Try.func9, Try.ntmps9
  go_wp2
  go_ret
  exact ⟨k, (unhide H).2, congrArg (fun z => Ending.returned (.int .i64 z)) (unhide H).1, rfl⟩
theorem dnew2 (w : World) : Calls Try.prog 27 #[] w fun e w' => e = .returned (.pointer (some ⟨w.heap.size, 0, none⟩)) ∧ Hid (RPv w' w.heap.size (.slice none 0 0) [] ∧ Below w.heap.size w w' ∧ w'.heap.size = w.heap.size + 1) := by
  go_enter Try.func27, Try.ntmps27
  go_wp2_with fail
  go_ret
  exact ⟨rfl, hide ⟨⟨heap_alloc_new _ _, .inl ⟨rfl, rfl⟩⟩, (Below.refl _ _).alloc (Nat.le_refl _) _, by simp⟩⟩
def oneK : Key := ((3 : Int), [97], false)
theorem one_un : unlikeL [oneK] true = [] := by
  have h : ∀ x, x ∉ unlikeL [oneK] true := fun x hx => by
    obtain ⟨c, hc⟩ := mem_unlikeL.1 hx
    simp [oneK] at hc
  exact List.eq_nil_iff_forall_not_mem.2 h
theorem one_hear (G : List UInt8 → List UInt8 → Bool) : hearL G [oneK] [97] = [((3 : Int), false, [97])] := by
  unfold hearL metL
  rw [one_un]
  simp [hearN, hearT, hearP, oneK]
theorem begun_any (w : World) : Calls Try.prog 26 #[] w fun e w' => e = .returned (.bool true) ∧ Hid (Below w.heap.size w w') := by
  obtain ⟨G, hG⟩ := glob_is
  have C8 := new_any w
  have C10 : Hid (∀ W, PostAt W (w.heap.size + 1) w.heap.size (.map []) [] ∧ Below w.heap.size w W → Calls Try.prog 10 #[.pointer (some ⟨w.heap.size + 1, 0, none⟩), .int .i64 3, .string ⟨#[97]⟩, .bool false] W fun e w' => e = .returned (.tuple #[.int .i64 1, .bool true, .int .i64 0]) ∧ Hid (∃ D', PostAt w' (w.heap.size + 1) w.heap.size D' [oneK] ∧ Below w.heap.size w w')) := hide (fun W hW => by
    refine (join_any W (w.heap.size + 1) w.heap.size (.map []) [] 3 [97] false hW.1 (by omega) (by decide) (by decide)).mono ?_
    rintro e w' ⟨rfl, H⟩
    obtain ⟨D', z1, z2⟩ := unhide H
    exact ⟨rfl, hide ⟨D', z1, z2.os.trans hW.2.os, z2.tape.trans hW.2.tape, z2.output.trans hW.2.output, Nat.le_trans hW.2.size z2.size, fun g hg => (z2.blk g (Nat.lt_of_lt_of_le hg hW.2.size) (by omega)).trans (hW.2.block g hg)⟩⟩)
  have C14 : Hid (∀ W, (∃ D', PostAt W (w.heap.size + 1) w.heap.size D' [oneK] ∧ Below w.heap.size w W) → Calls Try.prog 14 #[.pointer (some ⟨w.heap.size + 1, 0, none⟩), .string ⟨#[97]⟩] W fun e w' => ∃ g c, e = .returned (.slice (some ⟨g, 0, none⟩) 1 c) ∧ w'.cell? ⟨g, 0, none⟩ = some (.int .i64 3) ∧ w'.cell? ⟨g, 2, none⟩ = some (.string ⟨#[97]⟩) ∧ Hid (Below w.heap.size w w')) := hide (fun W hW => by
    obtain ⟨D', h1, h2⟩ := hW
    refine (heard_any G hG W _ _ D' [oneK] [97] h1 (by decide) (fun k hk => by rw [List.mem_singleton.1 hk]; decide) (by decide)).mono ?_
    rintro e w' ⟨a, n, c, rfl, H⟩
    obtain ⟨ho, hb, hn⟩ := unhide H
    rw [one_hear] at ho hn
    obtain ⟨g, e, -, q1, q2, q3⟩ := ho.cell (i := 0) (by decide)
    subst e
    exact ⟨g, c, by rw [hn]; rfl, q1, q3, hide (h2.trans (hb.mono h2.size))⟩)
  go_enter Try.func26, Try.ntmps26
  go_wp2_with (first
    | (go_at_call 14; with_reducible refine ((unhide C14) _ (unhide k2)).mono ?_; rintro e w3 ⟨g3, c3, rfl, q1, q2, k3⟩)
    | (go_at_call 10; with_reducible refine ((unhide C10) _ (unhide k1)).mono ?_; rintro e w2 ⟨rfl, k2⟩)
    | (go_at_call 8; with_reducible refine C8.mono ?_; clear C8; rintro e w1 ⟨rfl, k1⟩)
    | (go_at_call 12; with_reducible refine (num_any _ _).mono ?_; rintro e w4 ⟨rfl, h4⟩; obtain rfl := h4.symm))
  go_ret
  exact ⟨rfl, k3⟩
end Go.Proofs.Ytjmnddcombepaaa
