/- Leave, Drop. -/
import Derived.Test.YtjmnddcombepaaaPcb
namespace Go.Proofs.Ytjmnddcombepaaa
open Go.ChangeShapes Go.WideShapes Go.ChangeAt Go.RowKit Go.Maps
set_option linter.unusedVariables false
set_option linter.unusedSimpArgs false
set_option maxRecDepth 100000
set_option maxHeartbeats 4000000

theorem leave_any (w : World) (p b : Nat) (D : Dt) (S : List Key) (c : Int) (T : List UInt8) (q : Bool) (h : PostAt w p b D S) (hc : 0 ≤ c ∧ c < 8) (hT : T.length ≤ 4096) (hS : S.length ≤ 1099511627776) :
    Calls Try.prog 15 #[.pointer (some ⟨p, 0, none⟩), .int .i64 c, .string (bs T), .bool q] w fun e w' => e = .returned (.tuple #[.int .i64 (cntC (S.erase (c, T, q)) c : Nat), .bool (decide ((c, T, q) ∈ S)), .int .i64 0]) ∧ Hid (∃ D', PostAt w' p b D' (S.erase (c, T, q)) ∧ KeptB b w w') := by
  have hk : KOk (c, T, q) := kok hc hT
  have hse : (S.erase (c, T, q)).length ≤ S.length := List.length_erase_le
  have CR : Hid (Calls Try.prog 30 #[.int .i64 c, .string (bs T)] w fun e w' => e = .returned (.int .i64 0) ∧ w' = w) := hide (by
    have := refuse_any w c T (by omega)
    rw [if_neg (by omega), if_neg (by omega)] at this
    exact this)
  have CL : Hid (Calls Try.prog 31 #[.pointer (some ⟨p, 0, none⟩), .int .i64 c, .string (bs T), .bool q] w fun e w' => e = .returned (.bool (decide ((c, T, q) ∈ S))) ∧ Hid (PostAt w' p b D S ∧ Below w.heap.size w w')) := hide ((listens_any w p b D S c T q h hk).mono (fun e w' ⟨h1, h2⟩ => ⟨h1, hide ⟨h.below (unhide h2), unhide h2⟩⟩))
  have CD : Hid (∀ W, Hid (PostAt W p b D S ∧ Below w.heap.size w W) → ∀ ty, ∃ w', (Builtin.delete_ #[69, 77] ty #[.map (some b), .agg #[.int .i64 c, .string (bs T), .bool q]]).run Try.prog W = .ok (.tuple #[]) w' ∧ Hid (PostAt w' p b (D.del (lit (c, T, q))) (S.erase (c, T, q)) ∧ KeptB b w w')) := hide (fun W hb ty => by
    obtain ⟨w', r1, r2, r3⟩ := (unhide hb).1.map.own.drop lawK Try.underlying69 (lit_of hk) ty
    exact ⟨w', r1, hide ⟨(unhide hb).1.del hk r2 r3, (KeptB.of (unhide hb).2).trans (KeptB.turned r3)⟩⟩)
  have CC : Hid (∀ W, Hid (PostAt W p b (D.del (lit (c, T, q))) (S.erase (c, T, q)) ∧ KeptB b w W) → Calls Try.prog 13 #[.pointer (some ⟨p, 0, none⟩), .int .i64 c] W fun e w' => e = .returned (.int .i64 (cntC (S.erase (c, T, q)) c : Nat)) ∧ Hid (∃ D', PostAt w' p b D' (S.erase (c, T, q)) ∧ KeptB b w w')) := hide (fun W hb => (count_any W p b _ _ c (unhide hb).1 (by omega)).mono (fun e w' ⟨h1, h2⟩ => ⟨h1, hide ⟨_, (unhide hb).1.below (unhide h2), (unhide hb).2.trans (KeptB.of (unhide h2))⟩⟩))
  generalize decide ((c, T, q) ∈ S) = r at CL ⊢
  generalize cntC (S.erase (c, T, q)) c = n at CC ⊢
  clear h hk hse
  go_enter Try.func15, Try.ntmps15
  go_wp2_with (first
    | (go_at_call 30; with_reducible refine (unhide CR).mono ?_; rintro e w1 ⟨rfl, h1⟩; obtain rfl := h1.symm)
    | (go_at_call 31; with_reducible refine (unhide CL).mono ?_; rintro e w3 ⟨rfl, k3⟩; have x3 := (unhide k3).1.m; obtain ⟨w4, r4, k4⟩ := unhide CD w3 k3 0)
    | (go_at_call 13; with_reducible refine (unhide CC w4 k4).mono ?_; rintro e w5 ⟨rfl, k5⟩))
  all_goals go_ret3
  all_goals exact ⟨rfl, k5⟩
end Go.Proofs.Ytjmnddcombepaaa
