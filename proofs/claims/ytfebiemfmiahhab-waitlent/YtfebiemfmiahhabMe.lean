/- The document's names. -/
import Derived.Test.YtfebiemfmiahhabMb
import Derived.BigQuiet
namespace Go.Proofs.Ytfebiemfmiahhab
open Go.ChangeShapes Go.WideShapes Go.ChangeAt Go.RowKit Go.Maps
set_option linter.unusedVariables false
set_option linter.unusedSimpArgs false
set_option maxRecDepth 100000
set_option maxHeartbeats 8000000
def iC (x : Nat) : List Value := [.int .i64 (x : Nat)]
theorem infoI : (Try.prog.info? 3).map (fun i => (i.zero, i.size, i.bytes)) = some (some (.int .i64 0), 1, 8) := by kernel_rfl
theorem cell_one_new (w : World) (a : Value) (t : TypeId) : ∀ j u, [a][j]? = some u → (w.alloc (.cells #[a] t)).cell? ((⟨w.heap.size, 0, none⟩ : Addr).add j) = some u := by
  intro j u hj
  have h := heap_alloc_new w (.cells #[a] t)
  match j, hj with
  | 0, hj => rw [show ((⟨w.heap.size, 0, none⟩ : Addr).add 0) = ⟨w.heap.size, 0, none⟩ from by simp [Addr.add], cell_blk h]; simpa using hj
/-- a row of numbers that was answered -/
theorem own_ints {w : World} {base n : Nat} {v : Value} {l : List Nat} (h : w.ownsRow base 3 1 v n (l.flatMap iC)) : ∃ a cap, v = .slice a n cap ∧ IsI w a l := by
  obtain ⟨a, cap, rfl, -⟩ := own_shape h
  refine ⟨a, cap, rfl, ?_⟩
  by_cases h0 : l = []
  · exact .inl h0
  · have g := fun i x (hx : l[i]? = some x) => flat_get iC 1 (fun _ => rfl) l i x hx 0 (by omega)
    obtain ⟨x0, hx0⟩ : ∃ x, l[0]? = some x := ⟨_, List.getElem?_eq_getElem (List.length_pos_iff.2 h0)⟩
    obtain ⟨b, cp, e, -, hlt⟩ := own_cell h (g 0 x0 hx0)
    cases e
    refine .inr ⟨b, 0, rfl, hlt, fun i x hx => ?_⟩
    obtain ⟨b1, cp1, e1, d0, -⟩ := own_cell h (g i x hx)
    cases e1
    simpa using d0
theorem rwaiting_any (Q : Nat → Prop) (w : World) (p : Nat) (L : List Wt) (h : RAt Q w p L) :
    Calls Try.prog 21 #[.pointer (some ⟨p, 0, none⟩)] w fun e w' => ∃ v, e = .returned v ∧ Hid (w'.ownsRow w.heap.size 3 1 v L.length ((L.map (·.conn)).flatMap iC) ∧ Below w.heap.size w w') := by
  obtain ⟨lv, D, h, hD⟩ := h
  obtain ⟨a, cap, rfl, -⟩ := own_shape h.own
  have few := h.few
  obtain ⟨n, hn⟩ : ∃ n, n = D.length := ⟨_, rfl⟩
  have hp := h.cell
  have HR : Hid (∀ i x, L[i]? = some x → ∃ b, a = some ⟨b, 0, none⟩ ∧ b < w.heap.size ∧ w.cell? ⟨b, i * 4, none⟩ = some (.int .i64 (x.conn : Nat))) := hide fun i x hx => by
    rw [← hD, List.getElem?_map] at hx
    obtain ⟨d, hd, rfl⟩ := Option.map_eq_some_iff.1 hx
    obtain ⟨b, cp, e, c0, -⟩ := h.at hd
    cases e
    exact ⟨b, rfl, h.lt b (h.lq b rfl), c0⟩
  rw [← hn] at hp few
  have HN : Hid (n = L.length) := by rw [← hD, List.length_map]; exact hide hn
  have c0 : w.cell? ⟨p, 0, none⟩ = some (.slice a n cap) := cell_blk hp 0
  have hpl : p < w.heap.size := blk_lt hp
  obtain ⟨i0, hi0, hzz⟩ := Option.map_eq_some_iff.1 infoI
  simp only [Prod.mk.injEq] at hzz
  obtain ⟨hz0, hz1, hz2⟩ := hzz
  clear hn hp h hD
  go_enter Try.func21, Try.ntmps21
  go_wp2_with fail
  go_loopw [3, 4] (fun v iv wr => ∃ i : Nat, iv = .int .i64 ((i : Nat) : Int) ∧ i ≤ n ∧ Hid (wr.ownsRow w.heap.size 3 1 v i (((L.take i).map (·.conn)).flatMap iC) ∧ Below w.heap.size w wr)) (fun _ iv _ => n - (intOf iv).toNat)
  case atStart => exact ⟨0, rfl, Nat.zero_le _, hide ⟨⟨by simp, .inl ⟨rfl, rfl⟩⟩, Below.refl _ _⟩⟩
  case round =>
    obtain ⟨i, rfl, hi, HO⟩ := hrel
    have cr : wr.cell? ⟨p, 0, none⟩ = some (.slice a n cap) := ((unhide HO).2.cell (p := ⟨p, 0, none⟩) hpl).trans c0
    by_cases hin : i < n
    · have f1 : decide ((i : Int) < (n : Int)) = true := decide_eq_true (by omega)
      have g1 : (0 : Int) ≤ (i : Int) := by omega
      have g2 : (i : Int) < (n : Int) := by omega
      obtain ⟨x, hx⟩ : ∃ x, L[i]? = some x := ⟨_, List.getElem?_eq_getElem (by have := unhide HN; omega)⟩
      obtain ⟨b, rfl, hbl, y0⟩ := unhide HR i x hx
      have y1 : wr.cell? ⟨b, i * 4, none⟩ = some (.int .i64 (x.conn : Nat)) := ((unhide HO).2.cell (p := ⟨b, i * 4, none⟩) hbl).trans y0
      have HX := hide hx
      clear hx y0
      have hrw : (wr.alloc (.cells #[.int .i64 (x.conn : Nat)] 3)).ownsRow w.heap.size 3 1 u3 i (((L.take i).map (·.conn)).flatMap iC) := World.ownsRow.alloc (unhide HO).1 _
      have hsz : w.heap.size ≤ wr.heap.size := (unhide HO).2.size
      go_wp2_with (first
        | (at_builtin; refine wpList_append_own _ rfl _ _ 51 rfl _ 3 i0 _ 1 8 Try.underlying51 hi0 hz0 hz1 hz2 rfl (by decide) _ _ _ rfl hrw ⟨wr.heap.size, 0, none⟩ 1 1 [.int .i64 (x.conn : Nat)] rfl rfl (cell_one_new _ _ _) (by simp [Value.oneCell']) (by unfold maxLen; omega) (by omega) (Nat.le_trans hsz (by simp)) ?_; intro v' w7 hown' hg7 hnil7; have H7 := hide (And.intro hown' hg7); clear hown' hg7 hnil7; go_frame))
      refine ⟨⟨i + 1, congrArg (Value.int .i64) (by omega), by omega, hide ?_⟩, by simp [intOf]; omega⟩
      obtain ⟨k1, k2⟩ := unhide H7
      obtain ⟨k3, k4⟩ := unhide HO
      refine ⟨?_, below_grown (k4.alloc k4.size _) (Nat.le_refl _) k2 (own_ge k3)⟩
      rw [List.take_add_one, unhide HX, List.map_append, List.flatMap_append]
      simpa [iC] using k1
    · obtain rfl : i = n := by omega
      have f1 : decide ((i : Int) < (i : Int)) = false := decide_eq_false (by omega)
      go_wp2_with fail
      go_ret
      refine ⟨_, rfl, hide ?_⟩
      obtain ⟨k1, k2⟩ := unhide HO
      rw [unhide HN, List.take_length] at k1
      exact ⟨k1, k2⟩
end Go.Proofs.Ytfebiemfmiahhab
namespace Go.Proofs.Ytfebiemfmiahhab
open Go.ChangeShapes Go.WideShapes Go.ChangeAt Go.RowKit Go.Maps
set_option linter.unusedVariables false
set_option linter.unusedSimpArgs false
set_option maxRecDepth 100000
set_option maxHeartbeats 8000000
theorem rplaces_any (Q : Nat → Prop) (w : World) (p : Nat) (L : List Wt) (c : Int) (h : RAt Q w p L) :
    Calls Try.prog 18 #[.pointer (some ⟨p, 0, none⟩), .int .i64 c] w fun e w' => ∃ v, e = .returned v ∧ Hid (w'.ownsRow w.heap.size 46 2 v (((lookW L c).map (·.places)).getD []).length ((((lookW L c).map (·.places)).getD []).flatMap plC) ∧ Below w.heap.size w w') := by
  have C := find_any Q w p L c h
  cases hf : findW L c with
  | none =>
    rw [find_nolook hf]
    unfold findI at C
    rw [hf] at C
    clear h
    go_enter Try.func18, Try.ntmps18
    go_wp2_with (go_at_call 39; refine C.mono ?_; clear C; rintro e w1 ⟨rfl, rfl⟩)
    go_ret
    exact ⟨_, rfl, hide ⟨⟨by simp, .inl ⟨rfl, rfl⟩⟩, Below.refl _ _⟩⟩
  | some i =>
    obtain ⟨x, hx, hl, -⟩ := find_look hf
    rw [hl]
    unfold findI at C
    rw [hf] at C
    obtain ⟨lv, D, h, hD⟩ := h
    have hxD := hx
    rw [← hD, List.getElem?_map] at hxD
    obtain ⟨d, hd, rfl⟩ := Option.map_eq_some_iff.1 hxD
    obtain ⟨b, cap, rfl, c0, c1, c2, c3⟩ := h.at hd
    have hi : i < D.length := (List.getElem?_eq_some_iff.1 hd).1
    have few := h.few
    have cp : w.cell? ⟨p, 0, none⟩ = some (.slice (some ⟨b, 0, none⟩) D.length cap) := cell_blk h.cell 0
    have hmem := List.mem_of_getElem? hd
    obtain ⟨pa, pc, e, hpl, -⟩ := (h.pl d hmem).at
    rw [e] at c2
    have hle := (h.ok d hmem).many.2
    obtain ⟨m, hm⟩ : ∃ m, m = d.x.places.length := ⟨_, rfl⟩
    rw [← hm] at c2 hle
    have C2 := copies_any w pa pc d.x.places m hm (by omega) hpl
    generalize D.length = n at *
    have f1 : decide ((i : Int) < 0) = false := decide_eq_false (by omega)
    have g1 : (0 : Int) ≤ (i : Int) := by omega
    have g2 : (i : Int) < (n : Int) := by omega
    clear h hD hd hx hl hf hxD hmem hpl e hm
    go_enter Try.func18, Try.ntmps18
    go_wp2_with (first
      | (go_at_call 39; refine C.mono ?_; clear C; rintro e w1 ⟨rfl, rfl⟩)
      | (go_at_call 41; refine C2.mono ?_; clear C2; rintro e w2 ⟨v, rfl, H2⟩))
    go_ret
    exact ⟨v, rfl, H2⟩
end Go.Proofs.Ytfebiemfmiahhab
namespace Go.Proofs.Ytfebiemfmiahhab
open Go.ChangeShapes Go.WideShapes Go.ChangeAt Go.RowKit Go.Maps
set_option linter.unusedVariables false
set_option linter.unusedSimpArgs false
set_option maxRecDepth 100000
set_option maxHeartbeats 8000000
theorem below_drewN {B : Nat} {w w' : World} (h : Below B w w') (n : Nat) : Below B w (w'.drewN n) := ⟨h.os, h.tape, h.output, h.size, h.block⟩
theorem names_any (w : World) (cn : Nat) (k : Int) (a : Option Addr) (cap t : Nat) (l : List Pl) (n : Nat) (y : Pl) (hn : n = l.length) (hn2 : n ≤ 64) (h : PlsAt w a l) :
    Calls Try.prog 48 #[.agg #[.int .i64 (cn : Nat), .int .i64 k, .slice a n cap, .int .u64 (t : Nat)], .agg #[.int .i64 y.1, .string (bs y.2)]] w fun e w' => e = .returned (.bool (decide (y ∈ l))) ∧ Hid (Below w.heap.size w w') := by
  have HN := hide hn
  obtain ⟨B, hB⟩ : ∃ B, B = decide (y ∈ l) := ⟨_, rfl⟩
  rw [← hB]
  have HBB := hide hB
  obtain ⟨w1, hw1⟩ : ∃ w1, w.alloc (.cells #[.int .i64 (cn : Nat), .int .i64 k, .slice a n cap, .int .u64 (t : Nat)] 78) = w1 := ⟨_, rfl⟩
  obtain ⟨w2, hw2⟩ : ∃ w2, w1.alloc (.cells #[.int .i64 y.1, .string (bs y.2)] 46) = w2 := ⟨_, rfl⟩
  have hb2 : Below w.heap.size w w2 := by
    rw [← hw2, ← hw1]
    exact ((Below.refl _ _).alloc (Nat.le_refl _) _).alloc (by simp) _
  have q1 : w1.heap[w.heap.size]? = some (.cells #[.int .i64 (cn : Nat), .int .i64 k, .slice a n cap, .int .u64 (t : Nat)] 78 (0, 0)) := by rw [← hw1]; exact heap_alloc_new _ _
  have q2 : w2.heap[w1.heap.size]? = some (.cells #[.int .i64 y.1, .string (bs y.2)] 46 (0, 0)) := by rw [← hw2]; exact heap_alloc_new _ _
  have b12 : Below w1.heap.size w1 w2 := by rw [← hw2]; exact (Below.refl _ _).alloc (Nat.le_refl _) _
  have q3 := (b12.block _ (blk_lt q1)).trans q1
  have HC : Hid (∀ wr, Below w2.heap.size w2 wr → wr.cell? ⟨w.heap.size, 2, none⟩ = some (.slice a n cap) ∧ wr.cell? ⟨w1.heap.size, 0, none⟩ = some (.int .i64 y.1) ∧ wr.cell? ⟨w1.heap.size, 1, none⟩ = some (.string (bs y.2)) ∧ PlsAt wr a l) := hide fun wr hb =>
    ⟨(hb.cell (p := ⟨w.heap.size, 2, none⟩) (blk_lt q3)).trans (cell_blk q3 2), (hb.cell (p := ⟨w1.heap.size, 0, none⟩) (blk_lt q2)).trans (cell_blk q2 0), (hb.cell (p := ⟨w1.heap.size, 1, none⟩) (blk_lt q2)).trans (cell_blk q2 1), (h.below hb2).below hb⟩
  have HB2 := hide hb2
  clear hn hB h hb2 q1 q2 q3 b12
  go_enter Try.func48, Try.ntmps48
  go_wp2_with fail
  clear hw1 hw2
  go_loopw [5] (fun iv wr => ∃ i : Nat, iv = .int .i64 ((i : Nat) : Int) ∧ i ≤ n ∧ Hid (Below w2.heap.size w2 wr ∧ y ∉ l.take i)) (fun iv _ => n - (intOf iv).toNat)
  case atStart => exact ⟨0, rfl, Nat.zero_le _, hide ⟨Below.refl _ _, by simp⟩⟩
  case round =>
    obtain ⟨i, rfl, hi, HO⟩ := hrel
    obtain ⟨c2, e0, e1, hpl⟩ := unhide HC wr (unhide HO).1
    by_cases hin : i < n
    · have f1 : decide ((i : Int) < (n : Int)) = true := decide_eq_true (by omega)
      have g1 : (0 : Int) ≤ (i : Int) := by omega
      have g2 : (i : Int) < (n : Int) := by omega
      obtain ⟨x, hx⟩ : ∃ x, l[i]? = some x := ⟨_, List.getElem?_eq_getElem (by have := unhide HN; omega)⟩
      obtain ⟨b, off, rfl, y0, y1⟩ : ∃ b off, a = some ⟨b, off, none⟩ ∧ wr.cell? ⟨b, off + i * 2, none⟩ = some (.int .i64 x.1) ∧ wr.cell? ⟨b, off + i * 2 + 1, none⟩ = some (.string (bs x.2)) := by
        rcases hpl with h0 | ⟨pb, po, e, hlt, hc⟩
        · rw [h0] at hx; simp at hx
        · exact ⟨pb, po, e, hc i x hx⟩
      have HX := hide hx
      clear hx hpl
      have hnext : x ≠ y → y ∉ l.take (i + 1) := fun hne => by
        rw [List.take_add_one, unhide HX]
        simp only [Option.toList, List.mem_append, List.mem_singleton, not_or]
        exact ⟨(unhide HO).2, fun e => hne e.symm⟩
      have HNX := hide hnext
      clear hnext
      by_cases h1 : x.1 = y.1
      · have f2 : (x.1 == y.1) = true := by simpa using h1
        by_cases h2 : x.2 = y.2
        · have f3 : ((bs x.2).toList == (bs y.2).toList) = true := by rw [h2]; exact beq_self_eq_true _
          obtain rfl : B = true := by
            rw [unhide HBB]
            exact decide_eq_true (by rw [← show x = y from Prod.ext h1 h2]; exact List.mem_of_getElem? (unhide HX))
          clear h1 h2
          go_wp2_with fail
          go_quiet (fail)
          go_wp2_with fail
          go_ret
          exact ⟨rfl, hide ((unhide HB2).trans ((below_drewN (unhide HO).1 _).mono (unhide HB2).size))⟩
        · have f3 : ((bs x.2).toList == (bs y.2).toList) = false := by
            cases e : ((bs x.2).toList == (bs y.2).toList)
            · rfl
            · have e2 := eq_of_beq e
              have e3 : ∀ T : List UInt8, (bs T).toList = T := fun T => by unfold bs; rw [ByteArray.toList_mk]
              rw [e3, e3] at e2
              exact absurd e2 h2
          have hne : x ≠ y := fun e => h2 (by rw [e])
          have HZ := hide (unhide HNX hne)
          clear h1 h2 hne
          go_wp2_with fail
          go_quiet (fail)
          go_wp2_with fail
          refine ⟨⟨i + 1, congrArg (Value.int .i64) (by omega), by omega, hide ⟨below_drewN (unhide HO).1 _, unhide HZ⟩⟩, by simp [intOf]; omega⟩
      · have f2 : (x.1 == y.1) = false := by simpa using h1
        have hne : x ≠ y := fun e => h1 (by rw [e])
        have HZ := hide (unhide HNX hne)
        clear h1 hne
        go_wp2_with fail
        go_quiet (fail)
        go_wp2_with fail
        refine ⟨⟨i + 1, congrArg (Value.int .i64) (by omega), by omega, hide ⟨below_drewN (unhide HO).1 _, unhide HZ⟩⟩, by simp [intOf]; omega⟩
    · obtain rfl : i = n := by omega
      have f1 : decide ((i : Int) < (i : Int)) = false := decide_eq_false (by omega)
      obtain rfl : B = false := by
        rw [unhide HBB]
        have := (unhide HO).2
        rw [unhide HN, List.take_length] at this
        exact decide_eq_false this
      clear hpl
      go_wp2_with fail
      go_ret
      exact ⟨rfl, hide ((unhide HB2).trans ((unhide HO).1.mono (unhide HB2).size))⟩
end Go.Proofs.Ytfebiemfmiahhab
