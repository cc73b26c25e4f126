/- record: the law's reads, starts. -/
import Derived.Test.YtljeedgnjgeopaaZg
namespace Go.Proofs.Ytljeedgnjgeopaa
open Go.ChangeShapes Go.WideShapes Go.ChangeAt Go.RowKit Go.Shelf
set_option linter.unusedVariables false
set_option linter.unusedSimpArgs false
set_option maxRecDepth 100000
set_option maxHeartbeats 4000000
theorem RB.rst {w : World} {a : Option Addr} {n c : Nat} {l : List Nat} (h : RB w (.slice a n c) l) : Rst w w.heap.size a n c l := by
  rcases h with ⟨e, e0⟩ | ⟨g, cap, cur, e, hg, q1, q2, q3, q4⟩
  · cases e
    exact .inl ⟨rfl, rfl, rfl, List.length_eq_zero_iff.1 e0⟩
  · cases e
    refine .inr ⟨g, 0, rfl, blk_lt hg, rfl, q1, fun i hi => ?_⟩
    rw [cell_blk hg, Nat.zero_add, q4 i (by omega)]
/-- does the log give just the first k of the entries? It does -/
theorem reads_any (w : World) (a : Option Addr) (n c : Nat) (b : List Nat) (la : Option Addr) (m lc : Nat) (na : Option Addr) (nc : Nat) (es : List Larder.EntP) (k : Nat) (hm : m = es.length) (hk : k ≤ m) (hm2 : m ≤ 40) (hrow : Larder.Row w64i b (es.take k)) (h : Rst w w.heap.size a n c b) (hs : ∀ x ∈ b, x < 256) (hlb : b.length ≤ 1099511627776)
    (hE : EB w la es) (hN : NB w na (Larder.endsL es)) (hbd : ∀ e ∈ es, BdA e.group) (hlc : m ≤ lc) :
    Calls Try.prog 9 #[.slice a n c, .slice la m lc, .slice na m nc, .int .i64 (k : Nat)] w fun e w' => e = .returned (.bool true) ∧ Hid (Below w.heap.size w w') := by
  have hkl : (es.take k).length = k := by rw [List.length_take]; omega
  obtain ⟨r, hr⟩ : ∃ r, r = Larder.offR es k := ⟨_, rfl⟩
  have C25 : Hid (Calls Try.prog 25 #[.slice a n c] w fun e w' => ∃ (fa : Option Addr) (fc : Nat), e = .returned (.tuple #[.slice fa k fc, .int .i64 (r : Nat)]) ∧ Hid (Below w.heap.size w w' ∧ EB w' fa (es.take k))) := hide ((read_any w a n c b _ hrow h hs hlb).mono (fun e w' hh => by
    obtain ⟨fa, fc, h1, h2⟩ := hh
    rw [hkl] at h1 h2
    have h3 := Larder.offR_full es k
    rw [hkl] at h3
    rw [h3, ← hr] at h1
    exact ⟨fa, fc, h1, hide ⟨(unhide h2).1, (unhide h2).2.1.eb⟩⟩))
  have C28 : Hid (∀ w2 fa fc, Below w.heap.size w w2 ∧ EB w2 fa (es.take k) → Calls Try.prog 28 #[.slice fa k fc, .slice la k lc] w2 fun e w' => e = .returned (.bool true) ∧ Hid (Below w.heap.size w w')) := hide (fun w2 fa fc hh => (same_entries w2 fa la k fc lc (es.take k) hkl.symm hh.2 ((hE.below hh.1).take k) (by omega) (fun e he => hbd e (List.mem_of_mem_take he))).mono (fun e w' h2 => ⟨h2.1, hide (hh.1.trans ((unhide h2.2).mono hh.1.size))⟩))
  have g0 : (0 : Int) ≤ (k : Int) := by omega
  have g1 : (k : Int) ≤ (m : Int) := by omega
  have g2 : (k : Int) ≤ (lc : Int) := by omega
  have f5 : ((r : Int) == (r : Int)) = true := by simp
  by_cases hk0 : k = 0
  · subst hk0
    have hr0 : r = 0 := by rw [hr]; rfl
    subst hr0
    clear hrow h hs hlb hE hN hbd hr hkl hm
    go_enter Try.func9, Try.ntmps9
    go_wp2_with (first
      | (go_at_call 25; refine (unhide C25).mono ?_; clear C25; rintro e w2 ⟨fa, fc, rfl, z2⟩)
      | (go_at_call 28; refine ((unhide C28) w2 fa fc (unhide z2)).mono ?_; rintro e w3 ⟨rfl, z3⟩))
    go_ret
    exact ⟨rfl, z3⟩
  · have f1 : decide ((0 : Int) < (k : Int)) = true := decide_eq_true (by omega)
    have f1b : decide ((k : Int) > 0) = true := f1
    have f2 : decide (0 < k) = true := decide_eq_true (by omega)
    have hx : (Larder.endsL es)[k - 1]? = some r := by
      rw [Larder.endsL_get (by omega), hr, show k - 1 + 1 = k by omega]
    obtain ⟨nb, no, rfl, hnl, hcx⟩ : ∃ nb no, na = some ⟨nb, no, none⟩ ∧ nb < w.heap.size ∧ w.cell? ⟨nb, no + (k - 1), none⟩ = some (.int .i64 (r : Nat)) := by
      rcases hN with h | ⟨nb, no, e, hl, hc⟩
      · rw [h] at hx; cases hx
      · exact ⟨nb, no, e, hl, hc (k - 1) r hx⟩
    have HCX : Hid (∀ w2 fa, Hid (Below w.heap.size w w2 ∧ EB w2 fa (es.take k)) → w2.cell? ⟨nb, no + (k - 1), none⟩ = some (.int .i64 (r : Nat))) := hide (fun w2 fa h2 => ((unhide h2).1.cell (p := ⟨nb, _, none⟩) hnl).trans hcx)
    obtain ⟨k1, hk1⟩ : ∃ k1, k1 = k - 1 := ⟨_, rfl⟩
    have d1 : IntKind.i64.wrap ((k : Int) - 1) = (k1 : Int) := by rw [IntKind.wrap_i64]; omega
    have d2 : (k : Int) - 1 = (k1 : Int) := by omega
    have d3 : (k1 : Int) < (m : Int) := by omega
    have d4 : (0 : Int) ≤ (k1 : Int) := by omega
    have d5 : k1 < m := by omega
    have d6 : wrap64 (k1 : Int) = (k1 : Int) := by (clear d1; unfold wrap64; omega)
    rw [← hk1] at HCX
    clear hrow h hs hlb hE hN hbd hr hkl hm hx hcx hk1 hnl hk0
    go_enter Try.func9, Try.ntmps9
    go_wp2_with (first
      | (go_at_call 25; refine (unhide C25).mono ?_; clear C25; rintro e w2 ⟨fa, fc, rfl, z2⟩; have hcx := (unhide HCX) w2 fa z2)
      | (go_at_call 28; refine ((unhide C28) w2 fa fc (unhide z2)).mono ?_; rintro e w3 ⟨rfl, z3⟩))
    go_ret
    exact ⟨rfl, z3⟩
end Go.Proofs.Ytljeedgnjgeopaa
