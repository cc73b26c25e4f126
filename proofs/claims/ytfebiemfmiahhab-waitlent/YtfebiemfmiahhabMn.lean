/- The document's Due. -/
import Derived.Test.YtfebiemfmiahhabMm
namespace Go.Proofs.Ytfebiemfmiahhab
open Go.ChangeShapes Go.WideShapes Go.ChangeAt Go.RowKit Go.Maps
set_option linter.unusedVariables false
set_option linter.unusedSimpArgs false
set_option maxRecDepth 100000
set_option maxHeartbeats 8000000
theorem info4 : (Try.prog.info? 4).map (fun i => (i.zero, i.size, i.bytes)) = some (some (.bool false), 1, 1) := by kernel_rfl
theorem makeB (n : Nat) (hn : n ≤ 8) (w : World) : (Instr.makeSlice 82 (.int .i64 (n : Nat)) (.int .i64 (n : Nat))).run Try.prog w = .ok (.slice (some ⟨w.heap.size, 0, none⟩) n n) (w.alloc (.cells (madeCells #[.bool false] n) 4)) :=
  run_make_row' (P := Try.prog) 82 4 (.bool false) 1 Try.underlying82 info4 rfl .i64 .i64 n (by omega) (by omega) w
def lenV : Value → Nat
  | .slice _ n _ => n
  | _ => 0
/-- the selection under way -/
structure DuAt (w wr : World) (L : List Wt) (now n : Nat) (v : Value) (S : List Nat) : Prop where
  bel : Below w.heap.size w wr
  sel : Sel L now S
  row : ∃ cur, wr.heap[w.heap.size]? = some (.cells cur 4 (0, 0)) ∧ cur.size = n ∧ ∀ i, i < n → cur[i]? = some (.bool (decide (i ∈ S)))
  own : wr.ownsRow (w.heap.size + 1) 3 1 v S.length ((S.map (cnW L)).flatMap iC)
theorem DuAt.drewN {w wr : World} {L : List Wt} {now n : Nat} {v : Value} {S : List Nat} (h : DuAt w wr L now n v S) (m : Nat) : DuAt w (wr.drewN m) L now n v S :=
  ⟨below_drewN h.bel m, h.sel, h.row, ownsRow_same h.own fun g hg => rfl⟩
theorem DuAt.cell {w wr : World} {L : List Wt} {now n : Nat} {v : Value} {S : List Nat} (h : DuAt w wr L now n v S) {i : Nat} (hi : i < n) : wr.cell? ⟨w.heap.size, i, none⟩ = some (.bool (decide (i ∈ S))) ∧ wr.frozen? ⟨w.heap.size, i, none⟩ = false := by
  obtain ⟨cur, h1, h2, h3⟩ := h.row
  exact ⟨(cell_blk h1 i).trans (h3 i hi), by simp [World.frozen?, h1]⟩
/-- one is marked -/
theorem DuAt.mark {w wr : World} {L : List Wt} {now n : Nat} {v : Value} {S : List Nat} {b : Nat} (h : DuAt w wr L now n v S) (hn : n = L.length) (hb : BestI L now S n (some b)) :
    Below w.heap.size w (wr.setCell ⟨w.heap.size, b, none⟩ (.bool true)) ∧ (∃ cur, (wr.setCell ⟨w.heap.size, b, none⟩ (.bool true)).heap[w.heap.size]? = some (.cells cur 4 (0, 0)) ∧ cur.size = n ∧ ∀ i, i < n → cur[i]? = some (.bool (decide (i ∈ S ++ [b])))) ∧ (wr.setCell ⟨w.heap.size, b, none⟩ (.bool true)).ownsRow (w.heap.size + 1) 3 1 v S.length ((S.map (cnW L)).flatMap iC) ∧ Sel L now (S ++ [b]) := by
  obtain ⟨cur, h1, h2, h3⟩ := h.row
  have hbn : b < n := hb.1
  have s1 := heap_setCell_same wr w.heap.size b cur 4 (.bool true) h1
  refine ⟨⟨h.bel.os, h.bel.tape, h.bel.output, by have := h.bel.size; simp; omega, fun k hk => ?_⟩, ⟨_, s1, by simp [h2], fun i hi => ?_⟩, ownsRow_same h.own fun g hg => ?_, h.sel.next (hn ▸ hb)⟩
  · rw [heap_setCell_other _ _ _ _ (by show k ≠ w.heap.size; omega)]
    exact h.bel.block k hk
  · by_cases e : i = b
    · subst e
      rw [Array.getElem?_setIfInBounds_self_of_lt (by omega), decide_eq_true (by simp)]
    · rw [Array.getElem?_setIfInBounds_ne (by omega), h3 i hi]
      congr 2
      simp [e]
  · have := own_ge h.own g hg
    exact heap_setCell_other _ _ _ _ (by show g ≠ w.heap.size; omega)
theorem rdue_any (Q : Nat → Prop) (w : World) (p now : Nat) (L : List Wt) (h : RAt Q w p L) :
    Calls Try.prog 20 #[.pointer (some ⟨p, 0, none⟩), .int .u64 (now : Nat)] w fun e w' => ∃ v, e = .returned v ∧ Hid (∃ S, DueI L now S ∧ w'.ownsRow w.heap.size 3 1 v S.length ((S.map (cnW L)).flatMap iC) ∧ Below w.heap.size w w') := by
  obtain ⟨lv, D, h, hD⟩ := h
  obtain ⟨a, cap, rfl, -⟩ := own_shape h.own
  have few := h.few
  obtain ⟨n, hn⟩ : ∃ n, n = D.length := ⟨_, rfl⟩
  have hp := h.cell
  rw [← hn] at hp few
  have HN : Hid (n = L.length) := by rw [← hD, List.length_map]; exact hide hn
  have HZ : Hid (∀ wr, Below w.heap.size w wr → wr.cell? ⟨p, 0, none⟩ = some (.slice a n cap)) := hide fun wr hb => (hb.cell (p := ⟨p, 0, none⟩) (blk_lt hp)).trans (cell_blk hp 0)
  have HR : Hid (∀ i, i < n → ∃ b, a = some ⟨b, 0, none⟩ ∧ ∀ wr, Below w.heap.size w wr → wr.cell? ⟨b, i * 4, none⟩ = some (.int .i64 (cnW L i : Nat)) ∧ wr.cell? ⟨b, i * 4 + 3, none⟩ = some (.int .u64 (tlW L i : Nat))) := hide fun i hi => by
    obtain ⟨d, hd⟩ : ∃ d, D[i]? = some d := ⟨_, List.getElem?_eq_getElem (by omega)⟩
    have hL : L[i]? = some d.x := by rw [← hD, List.getElem?_map, hd]; rfl
    obtain ⟨b, cp, e, c0, c1, c2, c3⟩ := h.at hd
    cases e
    have hbl : b < w.heap.size := h.lt b (h.lq b rfl)
    have e1 : cnW L i = d.x.conn := by unfold cnW; rw [hL]; rfl
    have e2 : tlW L i = d.x.till := by unfold tlW; rw [hL]; rfl
    rw [e1, e2]
    exact ⟨b, rfl, fun wr hb => ⟨(hb.cell (p := ⟨b, i * 4, none⟩) hbl).trans c0, (hb.cell (p := ⟨b, i * 4 + 3, none⟩) hbl).trans c3⟩⟩
  obtain ⟨i0, hi0, hzz⟩ := Option.map_eq_some_iff.1 infoI
  simp only [Prod.mk.injEq] at hzz
  obtain ⟨hz0, hz1, hz2⟩ := hzz
  have c0 : w.cell? ⟨p, 0, none⟩ = some (.slice a n cap) := unhide HZ w (Below.refl _ _)
  have hmk := makeB n few w
  have H0 : Hid (DuAt w (w.alloc (.cells (madeCells #[.bool false] n) 4)) L now n (.slice none 0 0) []) := hide ⟨(Below.refl _ _).alloc (Nat.le_refl _) _, Sel.nil _ _, ⟨_, heap_alloc_new _ _, by simp [madeCells], fun i hi => by simp [madeCells, hi, Nat.mod_one]⟩, ⟨by simp, .inl ⟨rfl, rfl⟩⟩⟩
  clear hn hp h hD
  go_enter Try.func20, Try.ntmps20
  go_wp2_with fail
  go_loopw [5] (fun v wr => ∃ S, Hid (DuAt w wr L now n v S ∧ S.length ≤ n)) (fun v _ => n - lenV v)
  case atStart => exact ⟨[], hide ⟨unhide H0, Nat.zero_le _⟩⟩
  case round =>
    obtain ⟨S, HS⟩ := hrel
    clear H0 hmk c0
    obtain ⟨va, vc, e5, -⟩ := own_shape (unhide HS).1.own
    subst e5
    obtain ⟨m, hm⟩ : ∃ m, m = S.length := ⟨_, rfl⟩
    rw [← hm] at HS ⊢
    have hmn : m ≤ n := (unhide HS).2
    have HM := hide hm
    clear hm
    go_wp2_with fail
    go_loopw [7, 8] (fun bv iv wx => ∃ (o : Option Nat) (i : Nat), bv = .int .i64 (bestV o) ∧ iv = .int .i64 ((i : Nat) : Int) ∧ i ≤ n ∧ Hid (DuAt w wx L now n (.slice va m vc) S ∧ BestI L now S i o)) (fun _ iv _ => n - (intOf iv).toNat)
    case atStart => exact ⟨none, 0, rfl, rfl, Nat.zero_le _, hide ⟨(unhide HS).1, BestI.zero _ _ _⟩⟩
    case round =>
      obtain ⟨o, i, rfl, rfl, hi, HO⟩ := hrel
      by_cases hin : i < n
      · have f1 : decide ((i : Int) < (n : Int)) = true := decide_eq_true (by omega)
        have g1 : (0 : Int) ≤ (i : Int) := by omega
        have g2 : (i : Int) < (n : Int) := by omega
        obtain ⟨b, rfl, hcs⟩ := unhide HR i hin
        have cp := unhide HZ _ (unhide HO).1.bel
        obtain ⟨-, y3⟩ := hcs _ (unhide HO).1.bel
        obtain ⟨d0, -⟩ := (unhide HO).1.cell hin
        clear hcs
        obtain ⟨t, ht⟩ : ∃ t, t = tlW L i := ⟨_, rfl⟩
        rw [← ht] at y3
        have HT := hide ht
        clear ht
        by_cases hS : i ∈ S
        · rw [decide_eq_true hS] at d0
          have HB2 : Hid (BestI L now S (i + 1) o) := hide ((unhide HO).2.skip fun _ => hS)
          clear hS
          go_wp2_with fail
          exact ⟨⟨o, i + 1, rfl, congrArg (Value.int .i64) (by omega), by omega, hide ⟨(unhide HO).1, unhide HB2⟩⟩, by simp [intOf]; omega⟩
        rw [decide_eq_false hS] at d0
        by_cases h0 : t = 0
        · have f2 : ((t : Int) != 0) = false := by simp [h0]
          have HB2 : Hid (BestI L now S (i + 1) o) := hide ((unhide HO).2.skip fun hd => absurd ((unhide HT).symm.trans h0) hd.2.1)
          clear hS h0
          go_wp2_with fail
          exact ⟨⟨o, i + 1, rfl, congrArg (Value.int .i64) (by omega), by omega, hide ⟨(unhide HO).1, unhide HB2⟩⟩, by simp [intOf]; omega⟩
        have f2 : ((t : Int) != 0) = true := by simp [h0]
        by_cases h1 : t ≤ now
        rotate_left
        · have f3 : decide ((t : Int) ≤ (now : Int)) = false := decide_eq_false (by omega)
          have HB2 : Hid (BestI L now S (i + 1) o) := hide ((unhide HO).2.skip fun hd => absurd ((unhide HT).symm ▸ hd.2.2) h1)
          have f6 : decide (t ≤ now) = false := decide_eq_false h1
          have g5 : (now : Int) < (t : Int) := by omega
          clear hS h0 h1
          go_wp2_with fail
          exact ⟨⟨o, i + 1, rfl, congrArg (Value.int .i64) (by omega), by omega, hide ⟨(unhide HO).1, unhide HB2⟩⟩, by simp [intOf]; omega⟩
        have f3 : decide ((t : Int) ≤ (now : Int)) = true := decide_eq_true (by omega)
        have f6 : decide (t ≤ now) = true := decide_eq_true h1
        have HD : Hid (dueI L now i ∧ i ∉ S) := hide ⟨⟨by have := unhide HN; omega, by rw [← unhide HT]; exact h0, by rw [← unhide HT]; exact h1⟩, hS⟩
        clear hS h0 h1
        cases o with
        | none =>
          have HB2 : Hid (BestI L now S (i + 1) (some i)) := hide ((unhide HO).2.first (unhide HD).1 (unhide HD).2)
          unfold bestV
          go_wp2_with fail
          exact ⟨⟨some i, i + 1, rfl, congrArg (Value.int .i64) (by omega), by omega, hide ⟨(unhide HO).1, unhide HB2⟩⟩, by simp [intOf]; omega⟩
        | some q =>
          have hqi : q < i := (unhide HO).2.1
          obtain ⟨b', e', hcs⟩ := unhide HR q (by omega)
          cases e'
          obtain ⟨-, y4⟩ := hcs _ (unhide HO).1.bel
          obtain ⟨t', ht'⟩ : ∃ t', t' = tlW L q := ⟨_, rfl⟩
          rw [← ht'] at y4
          have HT' := hide ht'
          clear ht' hcs
          have f4 : decide ((q : Int) < 0) = false := decide_eq_false (by omega)
          have g3 : (0 : Int) ≤ (q : Int) := by omega
          have g4 : (q : Int) < (n : Int) := by omega
          unfold bestV
          by_cases hl : t < t'
          · have f5 : decide ((t : Int) < (t' : Int)) = true := decide_eq_true (by omega)
            have f7 : decide (t < t') = true := decide_eq_true hl
            have HB2 : Hid (BestI L now S (i + 1) (some i)) := hide ((unhide HO).2.less (unhide HD).1 (unhide HD).2 (by rw [← unhide HT, ← unhide HT']; exact hl))
            clear hl
            go_wp2_with fail
            exact ⟨⟨some i, i + 1, rfl, congrArg (Value.int .i64) (by omega), by omega, hide ⟨(unhide HO).1, unhide HB2⟩⟩, by simp [intOf]; omega⟩
          · have f5 : decide ((t : Int) < (t' : Int)) = false := decide_eq_false (by omega)
            have f7 : decide (t < t') = false := decide_eq_false hl
            have HB2 : Hid (BestI L now S (i + 1) (some q)) := hide ((unhide HO).2.more (by rw [← unhide HT, ← unhide HT']; exact hl))
            clear hl
            go_wp2_with fail
            exact ⟨⟨some q, i + 1, rfl, congrArg (Value.int .i64) (by omega), by omega, hide ⟨(unhide HO).1, unhide HB2⟩⟩, by simp [intOf]; omega⟩
      · obtain rfl : i = n := by omega
        have cp := unhide HZ _ (unhide HO).1.bel
        have f1 : decide ((i : Int) < (i : Int)) = false := decide_eq_false (by omega)
        cases o with
        | none =>
          have HE : Hid (DueI L now S) := hide ⟨(unhide HO).1.sel, fun r hr => (unhide HO).2 r (by have := hr.1; have := unhide HN; omega) hr⟩
          unfold bestV
          go_wp2_with fail
          go_ret
          have ho := (unhide HO).1.own
          rw [← unhide HM] at ho
          refine ⟨_, rfl, hide ⟨S, unhide HE, ?_, (unhide HO).1.bel⟩⟩
          rw [← unhide HM]
          obtain ⟨h1, h2⟩ := ho
          refine ⟨h1, h2.imp id ?_⟩
          rintro ⟨g, cp, cur, r1, hb, r⟩
          exact ⟨g, cp, cur, r1, by omega, r⟩
        | some q =>
          have hqi : q < i := (unhide HO).2.1
          obtain ⟨b', rfl, hcs⟩ := unhide HR q hqi
          obtain ⟨d0, d1⟩ := (unhide HO).1.cell hqi
          have g3 : (0 : Int) ≤ (q : Int) := by omega
          have g4 : (q : Int) < (i : Int) := by omega
          have f4 : decide ((q : Int) < 0) = false := decide_eq_false (by omega)
          obtain ⟨k1, k2, k3, k4⟩ := (unhide HO).1.mark (unhide HN) (unhide HO).2
          have cp2 := unhide HZ _ k1
          obtain ⟨y0, -⟩ := hcs _ k1
          have hrw : ((wr.setCell ⟨w.heap.size, q, none⟩ (.bool true)).alloc (.cells #[.int .i64 (cnW L q : Nat)] 3)).ownsRow (w.heap.size + 1) 3 1 (.slice va m vc) m ((S.map (cnW L)).flatMap iC) := World.ownsRow.alloc (by rw [unhide HM]; rw [unhide HM] at k3; exact k3) _
          have hsz : w.heap.size + 1 ≤ wr.heap.size := by
            obtain ⟨cur, hc, -⟩ := k2
            have := blk_lt hc
            simp at this
            omega
          have HK := hide (And.intro k1 (And.intro k2 k4))
          clear k1 k2 k3 k4 hcs
          unfold bestV
          go_wp2_with (first
            | (at_builtin; refine wpList_append_own _ rfl _ _ 51 rfl _ 3 i0 _ 1 8 Try.underlying51 hi0 hz0 hz1 hz2 rfl (by decide) _ _ _ rfl hrw ⟨wr.heap.size, 0, none⟩ 1 1 [.int .i64 (cnW L q : Nat)] rfl rfl (by simpa using cell_one_new (wr.setCell ⟨w.heap.size, q, none⟩ (.bool true)) (.int .i64 (cnW L q : Nat)) 3) (by simp [Value.oneCell']) (by unfold maxLen; omega) (by omega) (Nat.le_trans hsz (by simp)) ?_; intro v' w7 hown' hg7 hnil7; have H7 := hide (And.intro hown' hg7); clear hown' hg7 hnil7; go_frame))
          obtain ⟨q1, q2⟩ := unhide H7
          obtain ⟨k1, ⟨cur, k2, k3, k4⟩, k5⟩ := unhide HK
          have hlen : (S ++ [q]).length = m + 1 := by rw [List.length_append, ← unhide HM]; rfl
          have hle : m + 1 ≤ i := by
            have := k5.len
            have := unhide HN
            omega
          obtain ⟨a7, c7, e7, -⟩ := own_shape q1
          have hnb : some w.heap.size ≠ Value.ownBlock (.slice va m vc) := fun e => by
            have := own_ge (unhide HO).1.own w.heap.size e.symm
            omega
          have hb8 : Below w.heap.size w ((wr.setCell ⟨w.heap.size, q, none⟩ (.bool true)).alloc (.cells #[.int .i64 (cnW L q : Nat)] 3)) := k1.alloc k1.size _
          refine ⟨⟨S ++ [q], hide ⟨⟨below_grown hb8 (Nat.le_refl _) q2 (fun k hk => by have := own_ge (unhide HO).1.own k hk; omega), k5, ⟨cur, ?_, k3, k4⟩, ?_⟩, by omega⟩⟩, ?_⟩
          · rw [q2.block w.heap.size (by simp; omega) hnb]
            exact (Below.block ((Below.refl _ _).alloc (Nat.le_refl _) _) _ (blk_lt k2)).trans k2
          · rw [hlen, List.map_append, List.flatMap_append]
            simpa [iC] using q1
          · subst e7
            simp only [lenV]
            omega
end Go.Proofs.Ytfebiemfmiahhab
