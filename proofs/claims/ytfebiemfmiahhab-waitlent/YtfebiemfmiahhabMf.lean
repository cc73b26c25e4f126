/- The document's Next. -/
import Derived.Test.YtfebiemfmiahhabMe
namespace Go.Proofs.Ytfebiemfmiahhab
open Go.ChangeShapes Go.WideShapes Go.ChangeAt Go.RowKit Go.Maps
set_option linter.unusedVariables false
set_option linter.unusedSimpArgs false
set_option maxRecDepth 100000
set_option maxHeartbeats 8000000
def wantsB (x : Pl) (k : Int) (y : Wt) : Bool := decide (y.kind = k) && decide (x ∈ y.places)
def nextW (L : List Wt) (x : Pl) (k : Int) : Option Wt := L.find? (wantsB x k)
theorem nextE_map (E : List En) (x : Pl) (k : Int) : (nextE E x k).map (·.x) = nextW (E.map (·.x)) x k := by
  unfold nextE nextW
  rw [List.find?_map, List.find?_filter]
  congr 1
  congr 1
  funext e
  simp only [Function.comp, wantsB]
  simp only [Bool.decide_eq_true, Bool.decide_and]
  rw [Bool.and_comm]
theorem rnext_any (Q : Nat → Prop) (w : World) (p : Nat) (L : List Wt) (x : Pl) (k : Int) (h : RAt Q w p L) :
    Calls Try.prog 33 #[.pointer (some ⟨p, 0, none⟩), .agg #[.int .i64 x.1, .string (bs x.2)], .int .i64 k] w fun e w' => e = .returned (.tuple #[.int .i64 (((nextW L x k).map (·.conn)).getD 0 : Nat), .bool (nextW L x k).isSome]) ∧ Hid (Below w.heap.size w w') := by
  obtain ⟨lv, D, h, hD⟩ := h
  obtain ⟨a, cap, rfl, -⟩ := own_shape h.own
  have few := h.few
  obtain ⟨n, hn⟩ : ∃ n, n = D.length := ⟨_, rfl⟩
  have hp := h.cell
  obtain ⟨w1, hw1⟩ : ∃ w1, w.alloc (.cells #[.int .i64 x.1, .string (bs x.2)] 46) = w1 := ⟨_, rfl⟩
  have hb1 : Below w.heap.size w w1 := by rw [← hw1]; exact (Below.refl _ _).alloc (Nat.le_refl _) _
  have q1 : w1.heap[w.heap.size]? = some (.cells #[.int .i64 x.1, .string (bs x.2)] 46 (0, 0)) := by rw [← hw1]; exact heap_alloc_new _ _
  rw [← hn] at hp few
  have HN : Hid (n = L.length) := by rw [← hD, List.length_map]; exact hide hn
  have HZ : Hid (∀ wr, Below w1.heap.size w1 wr → wr.cell? ⟨p, 0, none⟩ = some (.slice a n cap)) := hide fun wr hb => ((hb1.trans (hb.mono hb1.size)).cell (p := ⟨p, 0, none⟩) (blk_lt hp)).trans (cell_blk hp 0)
  have HR : Hid (∀ i y, L[i]? = some y → ∃ b pa pn pc, a = some ⟨b, 0, none⟩ ∧ (∀ wr, Below w1.heap.size w1 wr → wr.cell? ⟨p, 0, none⟩ = some (.slice (some ⟨b, 0, none⟩) n cap) ∧ wr.cell? ⟨w.heap.size, 0, none⟩ = some (.int .i64 x.1) ∧ wr.cell? ⟨w.heap.size, 1, none⟩ = some (.string (bs x.2)) ∧ wr.cell? ⟨b, i * 4, none⟩ = some (.int .i64 (y.conn : Nat)) ∧ wr.cell? ⟨b, i * 4 + 1, none⟩ = some (.int .i64 y.kind) ∧ wr.cell? ⟨b, i * 4 + 2, none⟩ = some (.slice pa pn pc) ∧ wr.cell? ⟨b, i * 4 + 3, none⟩ = some (.int .u64 (y.till : Nat))) ∧ ∀ wr, Below w1.heap.size w1 wr → Calls Try.prog 48 #[.agg #[.int .i64 (y.conn : Nat), .int .i64 y.kind, .slice pa pn pc, .int .u64 (y.till : Nat)], .agg #[.int .i64 x.1, .string (bs x.2)]] wr fun e w' => e = .returned (.bool (decide (x ∈ y.places))) ∧ Hid (Below wr.heap.size wr w')) := hide fun i y hy => by
    rw [← hD, List.getElem?_map] at hy
    obtain ⟨d, hd, rfl⟩ := Option.map_eq_some_iff.1 hy
    obtain ⟨b, cp, e, c0, c1, c2, c3⟩ := h.at hd
    cases e
    have hmem := List.mem_of_getElem? hd
    obtain ⟨pa, pc, e, hpl, -⟩ := (h.pl d hmem).at
    rw [e] at c2
    have hbl : b < w.heap.size := h.lt b (h.lq b rfl)
    refine ⟨b, pa, d.x.places.length, pc, rfl, fun wr hb => ?_, fun wr hb => ?_⟩
    · have hbb : Below w.heap.size w wr := hb1.trans (hb.mono hb1.size)
      exact ⟨unhide HZ wr hb, (hb.cell (p := ⟨w.heap.size, 0, none⟩) (blk_lt q1)).trans (cell_blk q1 0), (hb.cell (p := ⟨w.heap.size, 1, none⟩) (blk_lt q1)).trans (cell_blk q1 1), (hbb.cell (p := ⟨b, i * 4, none⟩) hbl).trans c0, (hbb.cell (p := ⟨b, i * 4 + 1, none⟩) hbl).trans c1, (hbb.cell (p := ⟨b, i * 4 + 2, none⟩) hbl).trans c2, (hbb.cell (p := ⟨b, i * 4 + 3, none⟩) hbl).trans c3⟩
    · exact names_any wr d.x.conn d.x.kind pa pc d.x.till d.x.places _ x rfl (h.ok d hmem).many.2 (hpl.below (hb1.trans (hb.mono hb1.size)))
  have HB1 := hide hb1
  clear hn hp h hD hb1 q1
  go_enter Try.func33, Try.ntmps33
  go_wp2_with fail
  clear hw1
  go_loopw [8] (fun iv wr => ∃ i : Nat, iv = .int .i64 ((i : Nat) : Int) ∧ i ≤ n ∧ Hid (Below w1.heap.size w1 wr ∧ ∀ y ∈ L.take i, wantsB x k y = false)) (fun iv _ => n - (intOf iv).toNat)
  case atStart => exact ⟨0, rfl, Nat.zero_le _, hide ⟨Below.refl _ _, by simp⟩⟩
  case round =>
    obtain ⟨i, rfl, hi, HO⟩ := hrel
    by_cases hin : i < n
    · have f1 : decide ((i : Int) < (n : Int)) = true := decide_eq_true (by omega)
      have g1 : (0 : Int) ≤ (i : Int) := by omega
      have g2 : (i : Int) < (n : Int) := by omega
      obtain ⟨y, hy⟩ : ∃ y, L[i]? = some y := ⟨_, List.getElem?_eq_getElem (by have := unhide HN; omega)⟩
      obtain ⟨b, pa, pn, pc, rfl, hcs, hcl⟩ := unhide HR i y hy
      obtain ⟨c0, e0, e1, d0, d1, d2, d3⟩ := hcs wr (unhide HO).1
      obtain ⟨r, hr⟩ : ∃ r, r = decide (x ∈ y.places) := ⟨_, rfl⟩
      have HC : Hid (Calls Try.prog 48 #[.agg #[.int .i64 (y.conn : Nat), .int .i64 y.kind, .slice pa pn pc, .int .u64 (y.till : Nat)], .agg #[.int .i64 x.1, .string (bs x.2)]] wr.drew fun e w' => e = .returned (.bool r) ∧ Hid (Below w1.heap.size w1 w') ∧ w'.cell? ⟨p, 0, none⟩ = some (.slice (some ⟨b, 0, none⟩) n cap) ∧ w'.cell? ⟨w.heap.size, 0, none⟩ = some (.int .i64 x.1) ∧ w'.cell? ⟨w.heap.size, 1, none⟩ = some (.string (bs x.2)) ∧ w'.cell? ⟨b, i * 4, none⟩ = some (.int .i64 (y.conn : Nat)) ∧ w'.cell? ⟨b, i * 4 + 1, none⟩ = some (.int .i64 y.kind) ∧ w'.cell? ⟨b, i * 4 + 2, none⟩ = some (.slice pa pn pc) ∧ w'.cell? ⟨b, i * 4 + 3, none⟩ = some (.int .u64 (y.till : Nat))) := hide ((hcl wr.drew (unhide HO).1.drew).mono fun e w' ⟨k1, k2⟩ => by
        have hb2 : Below w1.heap.size w1 w' := (unhide HO).1.drew.trans ((unhide k2).mono (unhide HO).1.drew.size)
        exact ⟨by rw [k1, hr], hide hb2, hcs w' hb2⟩)
      have HX := hide hy
      clear hy hcs hcl
      have HNX : Hid (wantsB x k y = false → ∀ y ∈ L.take (i + 1), wantsB x k y = false) := hide fun hq z hz => by
        rw [List.take_add_one, unhide HX] at hz
        rcases List.mem_append.1 hz with hz | hz
        · exact (unhide HO).2 z hz
        · simp at hz; rw [hz]; exact hq
      have HFI : Hid (wantsB x k y = true → nextW L x k = some y) := hide fun hq => by
        unfold nextW
        rw [List.find?_eq_some_iff_append]
        refine ⟨hq, L.take i, L.drop (i + 1), ?_, fun a ha => by rw [(unhide HO).2 a ha]; rfl⟩
        obtain ⟨h1, h2⟩ := List.getElem?_eq_some_iff.1 (unhide HX)
        rw [← h2, ← List.drop_eq_getElem_cons h1, List.take_append_drop]
      by_cases hk : y.kind = k
      · have f2 : (y.kind == k) = true := by simpa using hk
        have HWB : Hid (wantsB x k y = r) := hide (by unfold wantsB; rw [decide_eq_true hk, Bool.true_and, hr])
        clear hr hk
        go_wp2_with fail
        go_region_held3 (fun w' => w'.cell? ⟨p, 0, none⟩ = some (.slice (some ⟨b, 0, none⟩) n cap) ∧ w'.cell? ⟨w.heap.size, 0, none⟩ = some (.int .i64 x.1) ∧ w'.cell? ⟨w.heap.size, 1, none⟩ = some (.string (bs x.2)) ∧ w'.cell? ⟨b, i * 4, none⟩ = some (.int .i64 (y.conn : Nat)) ∧ w'.cell? ⟨b, i * 4 + 1, none⟩ = some (.int .i64 y.kind) ∧ w'.cell? ⟨b, i * 4 + 2, none⟩ = some (.slice pa pn pc) ∧ w'.cell? ⟨b, i * 4 + 3, none⟩ = some (.int .u64 (y.till : Nat))) (first | exact s7 | go_keep) (first | (go_at_call 48; with_reducible refine (unhide HC).mono ?_; rintro e w2 ⟨rfl, H2, s7⟩))
        all_goals cases r
        all_goals go_wp2_with fail
        all_goals first
          | (refine ⟨⟨i + 1, congrArg (Value.int .i64) (by omega), by omega, hide ⟨unhide H2, unhide HNX (unhide HWB)⟩⟩, by simp [intOf]; omega⟩)
          | (go_ret2
             exact ⟨by rw [unhide HFI (unhide HWB)]; rfl, hide ((unhide HB1).trans ((unhide H2).mono (unhide HB1).size))⟩)
      · have f2 : (y.kind == k) = false := by simpa using hk
        have HWB : Hid (wantsB x k y = false) := hide (by unfold wantsB; rw [decide_eq_false hk]; rfl)
        clear hk HC
        go_wp2_with fail
        go_quiet (fail)
        go_wp2_with fail
        refine ⟨⟨i + 1, congrArg (Value.int .i64) (by omega), by omega, hide ⟨below_drewN (unhide HO).1 _, unhide HNX (unhide HWB)⟩⟩, by simp [intOf]; omega⟩
    · obtain rfl : i = n := by omega
      have c0 := unhide HZ wr (unhide HO).1
      have f1 : decide ((i : Int) < (i : Int)) = false := decide_eq_false (by omega)
      have HFI : Hid (nextW L x k = none) := hide (by
        unfold nextW
        rw [List.find?_eq_none]
        intro a ha
        have h1 := (unhide HO).2
        rw [unhide HN, List.take_length] at h1
        rw [h1 a ha]; simp)
      go_wp2_with fail
      go_ret2
      exact ⟨by rw [unhide HFI]; rfl, hide ((unhide HB1).trans ((unhide HO).1.mono (unhide HB1).size))⟩
end Go.Proofs.Ytfebiemfmiahhab
