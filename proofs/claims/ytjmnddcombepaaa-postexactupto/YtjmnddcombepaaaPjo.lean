/- joined of the law. -/
import Derived.Test.YtjmnddcombepaaaPuz
namespace Go.Proofs.Ytjmnddcombepaaa
open Go.ChangeShapes Go.WideShapes Go.ChangeAt Go.RowKit Go.Maps Go.Sort
set_option linter.unusedVariables false
set_option linter.unusedSimpArgs false
set_option maxRecDepth 100000
set_option maxHeartbeats 8000000
structure JAt (W wr : World) (p b g : Nat) (S U : List Sv) : Prop where
  bel : Below W.heap.size W wr
  post : ∃ D, PostAt wr p b D (S.map (·.1)).reverse
  lo : W.heap.size ≤ b ∧ W.heap.size ≤ p ∧ W.heap.size ≤ g
  ne : p ≠ g ∧ b ≠ g
  cnt : ∀ c : Nat, c < 8 → wr.cell? ⟨g, c, none⟩ = some (.int .i64 (cnts U c : Nat)) ∧ wr.frozen? ⟨g, c, none⟩ = false
  lt : g < wr.heap.size
theorem JAt.below {W wr w' : World} {p b g : Nat} {S U : List Sv} (h : JAt W wr p b g S U) (hb : Below wr.heap.size wr w') : JAt W w' p b g S U := by
  obtain ⟨D, hD⟩ := h.post
  exact ⟨h.bel.trans (hb.mono h.bel.size), ⟨D, hD.below hb⟩, h.lo, h.ne, fun c hc => ⟨(hb.cell (p := ⟨g, c, none⟩) h.lt).trans (h.cnt c hc).1, (hb.frozen (p := ⟨g, c, none⟩) h.lt).trans (h.cnt c hc).2⟩, Nat.lt_of_lt_of_le h.lt hb.size⟩
theorem JAt.joins {W wr w' : World} {p b g : Nat} {D' : Dt} {S U : List Sv} {x : Sv} (h : JAt W wr p b g S U) (hp : PostAt w' p b D' (x.1 :: (S.map (·.1)).reverse)) (hk : KeptB b wr w') : JAt W w' p b g (S ++ [x]) U := by
  have hb : Below W.heap.size wr w' := ⟨hk.os, hk.tape, hk.output, hk.size, fun i hi => hk.blk i (Nat.lt_of_lt_of_le hi h.bel.size) (by have := h.lo.1; omega)⟩
  have hg := hk.blk g h.lt (fun e => h.ne.2 e.symm)
  exact ⟨h.bel.trans hb, ⟨D', by simpa using hp⟩, h.lo, h.ne, fun c hc => ⟨(World.cell?_of_block (w := wr) (a := ⟨g, c, none⟩) hg).trans (h.cnt c hc).1, (World.frozen?_of_block (w := wr) (a := ⟨g, c, none⟩) hg).trans (h.cnt c hc).2⟩, Nat.lt_of_lt_of_le h.lt hk.size⟩
theorem cnts_snoc (U : List Sv) (y : Sv) (k : Nat) (hk : y.1.1 = (k : Int)) (c : Nat) : cnts (U ++ [y]) c = cnts U c + (if k = c then 1 else 0) := by
  unfold cnts
  rw [List.map_append, List.map_cons, List.map_nil, cntC_snoc, hk]
  by_cases e : k = c
  · subst e; simp
  · rw [if_neg e, if_neg (by omega)]
theorem JAt.bump {W w4 : World} {p b g : Nat} {S U : List Sv} {y : Sv} {k : Nat} (h : JAt W w4 p b g S U) (hk : y.1.1 = (k : Int)) (hk8 : k < 8) : JAt W (w4.setCell ⟨g, k, none⟩ (.int .i64 (((cnts U k : Nat) : Int) + 1))) p b g S (U ++ [y]) := by
  obtain ⟨D, hD⟩ := h.post
  refine ⟨h.bel.setCell h.lo.2.2 _, ⟨D, hD.same (Below.heap_setCell _ _ _ _ h.ne.1) (Below.heap_setCell _ _ _ _ h.ne.2)⟩, h.lo, h.ne, fun c hc => ⟨?_, ?_⟩, Nat.lt_of_lt_of_le h.lt ((Below.refl g w4).setCell (p := ⟨g, k, none⟩) (Nat.le_refl _) _).size⟩
  · rw [cnts_snoc U y k hk c]
    by_cases e : k = c
    · subst e
      rw [World.cell?_setCell_same' _ _ _ (by rw [(h.cnt k hk8).1]; rfl)]
      simp
    · rw [World.cell?_setCell_other _ _ _ _ (by intro e2; cases e2; exact e rfl), (h.cnt c hc).1, if_neg e]
      simp
  · rw [World.frozen?_setCell]
    exact (h.cnt c hc).2
theorem joined_any (W : World) (la : Option Addr) (ln lc : Nat) (l : List Sv) (hl : SvAt W la l) (hln : ln = l.length) (hN : ∀ x ∈ l, Named W x) (hI : ∀ x ∈ l, (0 ≤ x.1.1 ∧ x.1.1 < 8) ∧ x.1.2.1.length ≤ 64) (hl1 : l.length ≤ 1000) (hnd : (l.map (·.1)).Nodup) (hc : ∀ c, cnts l c ≤ 64) :
    Calls Try.prog 18 #[.slice la ln lc] W fun e w' => ∃ p b D, e = .returned (.pointer (some ⟨p, 0, none⟩)) ∧ Hid (Below W.heap.size W w' ∧ PostAt w' p b D (l.map (·.1)).reverse ∧ W.heap.size ≤ b) := by
  have m1 : ∀ w', (Instr.makeSlice 61 (.int .i64 8) (.int .i64 8)).run Try.prog w' = .ok (.slice (some ⟨w'.heap.size, 0, none⟩) 8 8) (w'.alloc (.cells (madeCells #[.int .i64 0] 8) 3)) := fun w' => run_make_row' (P := Try.prog) 61 3 (.int .i64 0) 8 Try.underlying61 info3 rfl .i64 .i64 8 (by omega) (by omega) w'
  have CN := hide (new_any W)
  have HLN := hide hln
  have hln1 : ln ≤ 1000 := by omega
  clear hln
  go_enter Try.func18, Try.ntmps18
  go_wp2_with (first
    | (go_at_call 8; with_reducible refine (unhide CN).mono ?_; rintro e w1 ⟨rfl, k1⟩))
  have HJ0 : Hid (JAt W (w1.alloc (.cells (madeCells #[.int .i64 0] 8) 3)) (W.heap.size + 1) W.heap.size w1.heap.size [] []) := hide (by
    have hlt := (unhide k1).1.lt
    have hb := (unhide k1).2
    have ha : Below w1.heap.size w1 (w1.alloc (.cells (madeCells #[.int .i64 0] 8) 3)) := (Below.refl _ _).alloc (Nat.le_refl _) _
    have hh := heap_alloc_new w1 (.cells (madeCells #[.int .i64 0] 8) 3)
    exact ⟨hb.alloc hb.size _, ⟨_, (unhide k1).1.below ha⟩, ⟨Nat.le_refl _, by omega, hb.size⟩, ⟨by omega, by omega⟩, fun c hc => ⟨by rw [cell_blk hh, made_zero c hc]; rfl, froz_blk hh c⟩, by simp⟩)
  go_loopw [5] (fun iv wr => ∃ i, iv = .int .i64 ((i : Nat) : Int) ∧ i ≤ ln ∧ Hid (JAt W wr (W.heap.size + 1) W.heap.size w1.heap.size (l.take i) (l.take i))) (fun iv _ => ln - (intOf iv).toNat)
  case atStart => exact ⟨0, rfl, Nat.zero_le _, HJ0⟩
  case round =>
    clear HJ0 k1 CN
    obtain ⟨i, rfl, hi, HJ⟩ := hrel
    by_cases hlt : i < ln
    · have f1 : decide ((i : Int) < (ln : Int)) = true := decide_eq_true (by omega)
      have g1 : (0 : Int) ≤ (i : Int) := by omega
      have g2 : (i : Int) < (ln : Int) := by omega
      have hil : i < l.length := by rw [← unhide HLN]; exact hlt
      obtain ⟨x, hx⟩ : ∃ x, l[i]? = some x := ⟨_, List.getElem?_eq_getElem hil⟩
      have hxm : x ∈ l := List.mem_of_getElem? hx
      obtain ⟨b, off, rfl, hbl, hcl⟩ : ∃ b off, la = some ⟨b, off, none⟩ ∧ b < W.heap.size ∧ ∀ i x, l[i]? = some x → W.cell? ⟨b, off + i * 3, none⟩ = some (.int .i64 x.1.1) ∧ W.cell? ⟨b, off + i * 3 + 1, none⟩ = some (.slice x.2.1 x.1.2.1.length x.2.2) ∧ W.cell? ⟨b, off + i * 3 + 2, none⟩ = some (.bool x.1.2.2) := by
        rcases hl with h | h
        · rw [h] at hil; exact absurd hil (Nat.not_lt_zero _)
        · exact h
      obtain ⟨p0, p1, p2⟩ := hcl i x hx
      have htk : l.take (i + 1) = l.take i ++ [x] := by rw [List.take_add_one, hx]; rfl
      have hfresh : x.1 ∉ ((l.take i).map (·.1)).reverse := by
        have h1 : ((l.take (i + 1)).map (·.1)).Nodup := by
          rw [List.map_take]
          exact hnd.sublist (List.take_sublist _ _)
        rw [htk, List.map_append, List.nodup_append] at h1
        intro hm
        exact h1.2.2 x.1 (List.mem_reverse.1 hm) x.1 (by simp) rfl
      obtain ⟨⟨⟨hc0, hc8⟩, hT⟩, hNx⟩ := And.intro (hI x hxm) (hN x hxm)
      obtain ⟨k, hk⟩ : ∃ k : Nat, x.1.1 = (k : Int) := ⟨x.1.1.toNat, by omega⟩
      have hk8 : k < 8 := by omega
      have hcu : cnts (l.take i) k < 64 := by
        have h1 := cnts_snoc (l.take i) x k hk k
        rw [if_pos rfl, ← htk] at h1
        have h2 : cnts (l.take (i + 1)) k ≤ cnts l k := by
          unfold cnts cntC
          rw [List.map_take]
          exact ((List.take_sublist _ _).filter _).length_le
        have := hc k
        omega
      obtain ⟨m, hm⟩ : ∃ m, m = cnts (l.take i) k := ⟨_, rfl⟩
      have hm64 : m < 64 := by omega
      have CJ : Hid (∀ w', Hid (JAt W w' (W.heap.size + 1) W.heap.size w1.heap.size (l.take i) (l.take i)) → Calls Try.prog 10 #[.pointer (some ⟨W.heap.size + 1, 0, none⟩), .int .i64 (k : Int), .string (bs x.1.2.1), .bool x.1.2.2] w' fun e w2 => e = .returned (.tuple #[.int .i64 ((m : Int) + 1), .bool true, .int .i64 0]) ∧ Hid (JAt W w2 (W.heap.size + 1) W.heap.size w1.heap.size (l.take i ++ [x]) (l.take i)) ∧ (w2.cell? ⟨b, off + i * 3, none⟩ = some (.int .i64 (k : Int)) ∧ w2.cell? ⟨b, off + i * 3 + 1, none⟩ = some (.slice x.2.1 x.1.2.1.length x.2.2) ∧ w2.cell? ⟨b, off + i * 3 + 2, none⟩ = some (.bool x.1.2.2) ∧ (convert 23 9 (.slice x.2.1 x.1.2.1.length x.2.2)).run Try.prog w2 = .ok (.string (bs x.1.2.1)) w2)) := hide (fun w' h => by
        obtain ⟨D, hD⟩ := (unhide h).post
        have hS : ((l.take i).map (·.1)).reverse.length ≤ 1099511627776 := by simp; omega
        have hj := join_any w' _ _ D _ (k : Int) x.1.2.1 x.1.2.2 hD (by omega) (by omega) hS
        have hcn : cntC ((l.take i).map (·.1)).reverse (k : Int) = m := by rw [cntC_perm (List.reverse_perm _), hm]; rfl
        have hxk : ((k : Int), x.1.2.1, x.1.2.2) = x.1 := by rw [← hk]
        have hr : joinR ((l.take i).map (·.1)).reverse ((k : Int), x.1.2.1, x.1.2.2) = (x.1 :: ((l.take i).map (·.1)).reverse, m + 1, true, 0) := by
          unfold joinR
          rw [hxk, if_neg hfresh, hk, hcn, if_neg (by omega)]
        rw [hr] at hj
        refine hj.mono (fun e w2 ⟨e1, e2⟩ => ?_)
        obtain ⟨D', q1, q2⟩ := unhide e2
        have hJ2 := (unhide h).joins q1 q2
        exact ⟨e1, hide hJ2, by rw [← hk]; exact (hJ2.bel.cell (p := ⟨b, off + i * 3, none⟩) hbl).trans p0, (hJ2.bel.cell (p := ⟨b, off + i * 3 + 1, none⟩) hbl).trans p1, (hJ2.bel.cell (p := ⟨b, off + i * 3 + 2, none⟩) hbl).trans p2, conv_back w2 x.2.1 x.2.2 _ (hNx.below hJ2.bel)⟩)
      have HJd := hide ((unhide HJ).below (Below.refl _ _).drew)
      have c0 : wr.cell? ⟨b, off + i * 3, none⟩ = some (.int .i64 (k : Int)) := by rw [← hk]; exact ((unhide HJ).bel.cell (p := ⟨b, off + i * 3, none⟩) hbl).trans p0
      have c1 : wr.cell? ⟨b, off + i * 3 + 1, none⟩ = some (.slice x.2.1 x.1.2.1.length x.2.2) := ((unhide HJ).bel.cell (p := ⟨b, off + i * 3 + 1, none⟩) hbl).trans p1
      have c2 : wr.cell? ⟨b, off + i * 3 + 2, none⟩ = some (.bool x.1.2.2) := ((unhide HJ).bel.cell (p := ⟨b, off + i * 3 + 2, none⟩) hbl).trans p2
      have R1 := conv_back wr.drew x.2.1 x.2.2 _ (hNx.below (unhide HJd).bel)
      have HM := hide hm
      have HK := hide hk
      have HT := hide htk
      have hbg : Hid (b < W.heap.size ∧ W.heap.size ≤ w1.heap.size) := hide ⟨hbl, (unhide HJ).lo.2.2⟩
      clear hl hI hN hx hcl p0 p1 p2 hxm hil hnd hc hfresh hT hNx hcu hm hk htk hc0 hc8
      go_wp2_with fail
      go_region_held3 (fun w' => w'.cell? ⟨b, off + i * 3, none⟩ = some (.int .i64 (k : Int)) ∧ w'.cell? ⟨b, off + i * 3 + 1, none⟩ = some (.slice x.2.1 x.1.2.1.length x.2.2) ∧ w'.cell? ⟨b, off + i * 3 + 2, none⟩ = some (.bool x.1.2.2) ∧ (convert 23 9 (.slice x.2.1 x.1.2.1.length x.2.2)).run Try.prog w' = .ok (.string (bs x.1.2.1)) w') (first | exact z2 | go_keep) (first | (go_at_call 10; with_reducible refine (unhide CJ _ HJd).mono ?_; rintro e w2 ⟨rfl, k2, z2⟩))
      have z0 := z2.1
      have z1 : w2.cell? ⟨w1.heap.size, k, none⟩ = some (.int .i64 (m : Int)) := by rw [unhide HM]; exact ((unhide k2).cnt k hk8).1
      have zf := ((unhide k2).cnt k hk8).2
      have zs : ∀ v, (w2.setCell ⟨w1.heap.size, k, none⟩ v).cell? ⟨b, off + i * 3, none⟩ = some (.int .i64 (k : Int)) := fun v => by
        rw [World.cell?_setCell_other _ _ _ _ (by intro e; cases e; have := unhide hbg; omega)]
        exact z0
      have HB2 := hide ((unhide k2).bump (y := x) (unhide HK) hk8)
      rw [← unhide HM, ← unhide HT] at HB2
      clear z2 R1 c0 c1 c2
      go_wp2_with (first
        | (go_at_call 12; with_reducible refine (num_any _ _).mono ?_; rintro e wn ⟨rfl, hn⟩; obtain rfl := hn.symm))
      all_goals go_roundw
      case rel => exact ⟨i + 1, by go_num, by omega, HB2⟩
      case measure => simp [intOf]; omega
    · obtain rfl : i = ln := by omega
      have f1 : decide ((i : Int) < (i : Int)) = false := decide_eq_false (by omega)
      rw [List.take_of_length_le (by rw [← unhide HLN]; exact Nat.le_refl _)] at HJ
      clear hl hI hN hnd hc
      go_wp2_with fail
      go_ret
      obtain ⟨D, hD⟩ := (unhide HJ).post
      exact ⟨_, _, D, rfl, hide ⟨(unhide HJ).bel, hD, Nat.le_refl _⟩⟩
end Go.Proofs.Ytjmnddcombepaaa
