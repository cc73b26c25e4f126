/- pieces. -/
import Derived.Test.YtjmnddcombepaaaMems
namespace Go.Proofs.Ytjmnddcombepaaa
open Go.ChangeShapes Go.WideShapes Go.ChangeAt Go.RowKit
set_option linter.unusedVariables false
set_option maxRecDepth 20000

/-- a piece as the program has it -/
def PcIs (r : Nat × List Nat) (pc : Option (Nat → Bool)) : Prop := r.2.length = 4 ∧ ((r.1 = 1 ∧ pc = none) ∨ (r.1 = 2 ∧ ∃ f, pc = some f ∧ ∀ b, b < 256 → f b = true) ∨ (r.1 = 3 ∧ ∃ f, pc = some f ∧ Larder.IsC r.2 f))
/-- its cells -/
def pcells (r : Nat × List Nat) : List Value := Value.int .i64 (r.1 : Int) :: wc r.2
def rcells : List (Nat × List Nat) → List Value
  | [] => []
  | r :: rs => pcells r ++ rcells rs
def RowIs : List (Nat × List Nat) → List (Option (Nat → Bool)) → Prop
  | [], [] => True
  | r :: rs, pc :: l => PcIs r pc ∧ RowIs rs l
  | _, _ => False
theorem rcells_append : ∀ rs ss : List (Nat × List Nat), rcells (rs ++ ss) = rcells rs ++ rcells ss
  | [], ss => rfl
  | r :: rs, ss => by show pcells r ++ rcells (rs ++ ss) = _; rw [rcells_append rs ss]; simp [rcells]
theorem RowIs.snoc : ∀ {rs : List (Nat × List Nat)} {l : List (Option (Nat → Bool))} {r : Nat × List Nat} {pc : Option (Nat → Bool)}, RowIs rs l → PcIs r pc → RowIs (rs ++ [r]) (l ++ [pc])
  | [], [], r, pc, _, h => ⟨h, trivial⟩
  | r :: rs, pc :: l, r', pc', ⟨h1, h2⟩, h => ⟨h1, h2.snoc h⟩
  | [], _ :: _, _, _, h, _ => h.elim
  | _ :: _, [], _, _, h, _ => h.elim
theorem RowIs.length : ∀ {rs : List (Nat × List Nat)} {l : List (Option (Nat → Bool))}, RowIs rs l → rs.length = l.length
  | [], [], _ => rfl
  | r :: rs, pc :: l, ⟨_, h2⟩ => by simp [h2.length]
  | [], _ :: _, h => h.elim
  | _ :: _, [], h => h.elim
theorem RowIs.get : ∀ {rs : List (Nat × List Nat)} {l : List (Option (Nat → Bool))} (j : Nat) (pc : Option (Nat → Bool)), RowIs rs l → l[j]? = some pc → ∃ r, rs[j]? = some r ∧ PcIs r pc
  | [], [], j, pc, _, hj => by simp at hj
  | r :: rs, pc :: l, 0, pc', ⟨h, _⟩, hj => by
    simp at hj; subst hj; exact ⟨r, rfl, h⟩
  | r :: rs, pc :: l, j + 1, pc', ⟨_, h⟩, hj => h.get j pc' (by simpa using hj)
  | [], _ :: _, _, _, h, _ => h.elim
  | _ :: _, [], _, _, h, _ => h.elim
theorem pcells_length {r : Nat × List Nat} (h : r.2.length = 4) : (pcells r).length = 5 := by simp [pcells, wc, h]
theorem RowIs.cells_length : ∀ {rs : List (Nat × List Nat)} {l : List (Option (Nat → Bool))}, RowIs rs l → (rcells rs).length = rs.length * 5
  | [], [], _ => rfl
  | r :: rs, pc :: l, ⟨h1, h2⟩ => by
    show (pcells r ++ rcells rs).length = _
    rw [List.length_append, pcells_length h1.1, h2.cells_length, List.length_cons]; omega
  | [], _ :: _, h => h.elim
  | _ :: _, [], h => h.elim
theorem pcells_one (r : Nat × List Nat) : ∀ u ∈ pcells r, u.oneCell' = true := by
  intro u hu
  rcases List.mem_cons.1 hu with rfl | hu
  · rfl
  · obtain ⟨c, _, rfl⟩ := List.mem_map.1 hu; rfl

theorem Try.info90 : (Try.prog.info? 90).map (fun i => (i.zero, i.size, i.bytes)) = some (some (.agg #[.int .i64 0, .int .u64 0, .int .u64 0, .int .u64 0, .int .u64 0]), 5, 40) := by kernel_rfl

theorem own_below {w w' : World} {base e k n : Nat} {v : Value} {xs : List Value} (h : w.ownsRow base e k v n xs) (hb : Below w.heap.size w w') : w'.ownsRow base e k v n xs := by
  refine ⟨h.1, ?_⟩
  rcases h.2 with hn | ⟨g, cap, cur, rfl, hbb, hg, rest⟩
  · exact .inl hn
  · exact .inr ⟨g, cap, cur, rfl, hbb, by rw [hb.block g (Array.getElem?_eq_some_iff.1 hg).1]; exact hg, rest⟩
theorem own_block {w : World} {base e k n : Nat} {v : Value} {xs : List Value} (h : w.ownsRow base e k v n xs) : ∀ g, v.ownBlock = some g → base ≤ g := by
  intro g hg
  rcases h.2 with ⟨rfl, _⟩ | ⟨g', cap, cur, rfl, hbb, _⟩
  · cases hg
  · cases hg; exact hbb
/-- a new piece lies there -/
theorem piece_new (w : World) (r : Nat × List Nat) : ∀ j u, (pcells r)[j]? = some u → (w.alloc (.cells (pcells r).toArray 90)).cell? ((⟨w.heap.size, 0, none⟩ : Addr).add j) = some u := by
  intro j u hu
  rw [add_plain, Nat.zero_add]
  have h := heap_alloc_new w (.cells (pcells r).toArray 90)
  rw [cell_of_row _ _ j _ _ _ h]
  simpa using hu

theorem part4 (W : World) (a0 a1 a2 a3 : Int) : (part 86 #[.int .u64 a0, .int .u64 a1, .int .u64 a2, .int .u64 a3] 0).run Try.prog W = .ok (.int .u64 a0) W ∧ (part 86 #[.int .u64 a0, .int .u64 a1, .int .u64 a2, .int .u64 a3] 1).run Try.prog W = .ok (.int .u64 a1) W ∧ (part 86 #[.int .u64 a0, .int .u64 a1, .int .u64 a2, .int .u64 a3] 2).run Try.prog W = .ok (.int .u64 a2) W ∧ (part 86 #[.int .u64 a0, .int .u64 a1, .int .u64 a2, .int .u64 a3] 3).run Try.prog W = .ok (.int .u64 a3) W :=
  ⟨rfl, rfl, rfl, rfl⟩
theorem eq4' (d : Nat) (W : World) (a0 a1 a2 a3 b0 b1 b2 b3 : Int) : (Op.equalIn (d + 2) 88 (.agg #[.int .u64 a0, .int .u64 a1, .int .u64 a2, .int .u64 a3]) (.agg #[.int .u64 b0, .int .u64 b1, .int .u64 b2, .int .u64 b3])).run Try.prog W = .ok ((a0 == b0) && ((a1 == b1) && ((a2 == b2) && (a3 == b3)))) W := by
  have h1 : ∀ W, (sizeOf 86).run Try.prog W = .ok 1 W := fun W => by rfl
  obtain ⟨p0, p1, p2, p3⟩ := part4 W a0 a1 a2 a3
  obtain ⟨q0, q1, q2, q3⟩ := part4 W b0 b1 b2 b3
  have he : ∀ a b : Int, (Op.equalIn (d + 1) 86 (.int .u64 a) (.int .u64 b)).run Try.prog W = .ok (a == b) W := fun a b => run_equalIn_int W d 86 .u64 .u64 a b Try.underlying86
  unfold Op.equalIn
  simp only [Sem.run_bind, run_underlying Try.underlying88, Result.andThen_ok, h1, Std.Legacy.Range.forIn_eq_forIn_range', Std.Legacy.Range.size, List.range', List.forIn_cons, List.forIn_nil, p0, q0, he, Nat.mul_one, Nat.zero_mul, Nat.reduceAdd, Nat.reduceSub, Nat.reduceDiv]
  cases h0 : a0 == b0 <;> cases h1 : a1 == b1 <;> cases h2 : a2 == b2 <;> cases h3 : a3 == b3 <;> simp [p1, p2, p3, q1, q2, q3, he, h1, h2, h3]
/-- the same four? -/
def same4 (a0 a1 a2 a3 b0 b1 b2 b3 : Int) : Bool := (a0 == b0) && ((a1 == b1) && ((a2 == b2) && (a3 == b3)))
theorem eq4 (W : World) (a0 a1 a2 a3 b0 b1 b2 b3 : Int) : (Op.equalIn 10000 88 (.agg #[.int .u64 a0, .int .u64 a1, .int .u64 a2, .int .u64 a3]) (.agg #[.int .u64 b0, .int .u64 b1, .int .u64 b2, .int .u64 b3])).run Try.prog W = .ok (same4 a0 a1 a2 a3 b0 b1 b2 b3) W := eq4' 9998 W a0 a1 a2 a3 b0 b1 b2 b3
theorem _root_.Larder.IsC.inj {xs ys : List Nat} {S T : Nat → Bool} (h : Larder.IsC xs S) (h' : Larder.IsC ys T) (e : ∀ b, b < 256 → S b = T b) : xs = ys := by
  have key : ∀ k, k < 4 → xs.getD k 0 = ys.getD k 0 := by
    intro k hk
    refine Nat.eq_of_testBit_eq (fun i => ?_)
    by_cases hi : i < 64
    · have e1 := h.2.2 (64 * k + i) (by omega)
      have e2 := h'.2.2 (64 * k + i) (by omega)
      have q1 : (64 * k + i) / 64 = k := by omega
      have q2 : (64 * k + i) % 64 = i := by omega
      rw [q1, q2] at e1 e2
      rw [e1, e2, e _ (by omega)]
    · have p1 : xs.getD k 0 < 2 ^ i := Nat.lt_of_lt_of_le (h.2.1 k hk) (Nat.pow_le_pow_right (by decide : 0 < 2) (show 64 ≤ i by omega))
      have p2 : ys.getD k 0 < 2 ^ i := Nat.lt_of_lt_of_le (h'.2.1 k hk) (Nat.pow_le_pow_right (by decide : 0 < 2) (show 64 ≤ i by omega))
      rw [Nat.testBit_lt_two_pow p1, Nat.testBit_lt_two_pow p2]
  obtain ⟨a0, a1, a2, a3, rfl⟩ := Larder.four h.1
  obtain ⟨b0, b1, b2, b3, rfl⟩ := Larder.four h'.1
  have k0 := key 0 (by omega)
  have k1 := key 1 (by omega)
  have k2 := key 2 (by omega)
  have k3 := key 3 (by omega)
  simp at k0 k1 k2 k3
  rw [k0, k1, k2, k3]
theorem _root_.Larder.IsC.same {xs : List Nat} {S T : Nat → Bool} (h : Larder.IsC xs S) (h' : Larder.IsC xs T) : ∀ b, b < 256 → S b = T b := fun b hb => (h.2.2 b hb).symm.trans (h'.2.2 b hb)

set_option maxHeartbeats 4000000 in
theorem pieces_any (b off cap : Nat) (w : World) (p : List Nat) (hl : p.length ≤ 1073741824) (hs : Small p) (hb : b < w.heap.size) (hc : ∀ i, i < p.length → w.cell? ⟨b, off + i, none⟩ = some (.int .u8 (p.getD i 0 : Nat))) :
    Calls Try.prog 39 #[.slice (some ⟨b, off, none⟩) p.length cap] w fun e w' => Below w.heap.size w w' ∧
      ((∃ v rs, e = .returned (.tuple #[v, .bool true]) ∧ RowIs rs (Larder.parse p) ∧ w'.ownsRow w.heap.size 90 5 v rs.length (rcells rs)) ∨
       (e = .returned (.tuple #[.slice none 0 0, .bool false]) ∧ ∃ f, some f ∈ Larder.parse p ∧ ∀ c, c < 256 → f c = false)) := by
  obtain ⟨i0, hi, hz0, hz1, hz2⟩ := info_parts Try.info90
  have HB : Hid (Bytes w (some ⟨b, off, none⟩) p) := hide (.inr ⟨b, off, rfl, hb, hc⟩)
  have HC := hide hc
  have HS := hide hs
  generalize hP : Larder.parse p = P
  have HP := hide hP
  clear hc hs hP
  go_enter Try.func39, Try.ntmps39
  go_wp2_with (at_make; refine wpList_make_own _ rfl _ _ 83 rfl w.heap.size 90 i0 _ 5 Try.underlying83 hi hz0 hz1 _ _ _ p.length rfl rfl rfl (by rw [hz2]; omega) (by simp [maxLen]; omega) (Nat.le_refl _) ?_)
  intro w1 hown hgrow
  have hb1 : Below w.heap.size w w1 := (Below.refl _ _).grown hgrow (Nat.le_refl _) (fun k h => by cases h)
  clear hgrow
  go_wp2_with fail
  go_loopw [4, 5] (fun v i wr => ∃ (k n : Nat) (rs : List (Nat × List Nat)) (l : List (Option (Nat → Bool))), k ≤ p.length ∧ p.length - k ≤ n ∧ rs.length + n ≤ p.length ∧ l ++ Larder.parseK p n k = P ∧ i = .int .i64 k ∧ RowIs rs l ∧ wr.ownsRow w.heap.size 90 5 v rs.length (rcells rs) ∧ Below w.heap.size w wr) (fun _ i _ => p.length - (intOf i).toNat)
  case atStart =>
    exact ⟨0, p.length, [], [], by omega, by omega, by simp, unhide HP, rfl, trivial, hown, hb1⟩
  case round =>
    obtain ⟨k, n, rs, l, hk, hn, hrs, hM, rfl, hRow, hO, hbl⟩ := hrel
    by_cases hlt : k < p.length
    · obtain ⟨n, rfl⟩ : ∃ m, n = m + 1 := ⟨n - 1, by omega⟩
      rw [Larder.parseK_step p n k hlt] at hM
      have hpr := Larder.pieceAt_prog p k hlt
      have c0 := (hbl.cell (p := ⟨b, off + k, none⟩) hb).trans (unhide HC k hlt)
      have k0 := unhide HS k hlt
      have HM := hide hM
      have HO := hide hO
      have HRow := hide hRow
      have HBL := hide hbl
      have hgr := hbl.size
      clear hM hO hRow hbl hown hb1
      by_cases h42 : p.getD k 0 = 42
      · have hpc : Larder.pieceAt p k = (none, k + 1) := by unfold Larder.pieceAt; rw [if_pos h42]
        rw [hpc] at HM hpr
        rw [h42] at c0
        clear hpc h42 k0
        have q4 : rs.length + 1 ≤ maxLen := by simp [maxLen]; omega
        have q5 : (rs.length + 1) * 40 ≤ 140737488355328 := by omega
        have q6 : w.heap.size ≤ (wr.alloc (.cells (pcells (1, [0, 0, 0, 0])).toArray 90)).heap.size := by simp; omega
        have Q1 := hide (piece_new wr (1, [0, 0, 0, 0]))
        have Q2 : Hid ((wr.alloc (.cells (pcells (1, [0, 0, 0, 0])).toArray 90)).ownsRow w.heap.size 90 5 u4 rs.length (rcells rs)) := hide (own_below (unhide HO) ((Below.refl _ _).alloc (Nat.le_refl _) _))
        have Q3 := hide (pcells_one (1, [0, 0, 0, 0]))
        go_wp2_with (at_builtin; refine wpList_append_own _ rfl _ _ 83 rfl w.heap.size 90 i0 _ 5 40 Try.underlying83 hi hz0 hz1 hz2 rfl (by decide) u4 rs.length (rcells rs) rfl (unhide Q2) ⟨wr.heap.size, 0, none⟩ 1 1 (pcells (1, [0, 0, 0, 0])) rfl rfl (unhide Q1) (unhide Q3) q4 q5 q6 ?_)
        intro v2 w9 hO2 hg2 _
        go_wp2
        go_roundw
        case rel =>
          refine ⟨k + 1, n, rs ++ [(1, [0, 0, 0, 0])], l ++ [none], by omega, by omega, by simp; omega, ?_, by go_num, (unhide HRow).snoc (⟨rfl, .inl ⟨rfl, rfl⟩⟩), ?_, ?_⟩
          · rw [List.append_assoc]; exact unhide HM
          · rw [List.length_append, rcells_append, show rcells [(1, [0, 0, 0, 0])] = pcells (1, [0, 0, 0, 0]) from List.append_nil _]
            exact hO2
          · exact ((unhide HBL).alloc (hgr) _).grown hg2 (by simp; omega) (own_block (unhide HO))
        case measure => simp [intOf]; omega
      · by_cases h91 : p.getD k 0 = 91
        · have hpc : Larder.pieceAt p k = (some (Larder.clsAt p (k + 1)).1, (Larder.clsAt p (k + 1)).2) := by unfold Larder.pieceAt; rw [if_neg h42, if_pos h91]
          rw [hpc] at HM hpr
          rw [h91] at c0
          clear hpc h91 h42 k0
          have hbW : Below w.heap.size w (wr.alloc (.cells #[.int .u64 0, .int .u64 0, .int .u64 0, .int .u64 0] 88)) := (unhide HBL).alloc hgr _
          have hAW : At4 (wr.alloc (.cells #[.int .u64 0, .int .u64 0, .int .u64 0, .int .u64 0] 88)) wr.heap.size [0, 0, 0, 0] := heap_alloc_new _ _
          have hOW := own_below (unhide HO) ((Below.refl _ _).alloc (Nat.le_refl _) (.cells #[.int .u64 0, .int .u64 0, .int .u64 0, .int .u64 0] 88))
          have H1 := hide (members_any (some ⟨b, off, none⟩) cap (wr.alloc (.cells #[.int .u64 0, .int .u64 0, .int .u64 0, .int .u64 0] 88)) p (k + 1) (by omega) (unhide HS) ((unhide HB).below hbW) (by omega) (by omega))
          have e1 : (((k + 1 : Nat) : Int)) = (k : Int) + 1 := by omega
          rw [e1] at H1
          generalize Larder.clsAt p (k + 1) = C at *
          have HbW := hide hbW
          have HAW := hide hAW
          have HOW := hide hOW
          clear hbW hAW hOW e1
          go_wp2_with fail
          refine (unhide H1).mono ?_
          rintro e w2 ⟨ys, rfl, hI, hb2⟩
          obtain ⟨y0, y1, y2, y3, rfl⟩ := Larder.four hI.1
          have hA2 := (unhide HAW).keep hb2
          have hO2 := own_below (unhide HOW) hb2
          have hBw2 := chain (unhide HbW) hb2 (Nat.le_refl _)
          have hgr2 := hb2.size
          simp only [World.size_alloc] at hgr2
          obtain ⟨b0, b1, b2, b3, f0, f1, f2, f3⟩ := hA2.cells8
          have hA3 := hA2.store4 y0 y1 y2 y3
          have HA3 := hide hA3
          have HO2 := hide hO2
          have HI := hide hI
          have HB2 := hide hBw2
          have HBr2 := hide (((Below.refl _ wr).alloc (Nat.le_refl _) (.cells #[.int .u64 0, .int .u64 0, .int .u64 0, .int .u64 0] 88)).trans (hb2.mono (by simp)))
          clear hI hb2 hA2 hO2 hBw2 hA3
          have hE := fun W => eq4 W y0 y1 y2 y3 0 0 0 0
          unfold clsV wc
          by_cases hz : y0 = 0 ∧ y1 = 0 ∧ y2 = 0 ∧ y3 = 0
          · obtain ⟨rfl, rfl, rfl, rfl⟩ := hz
            have hE := fun W => eq4 W 0 0 0 0 0 0 0 0
            have hEz : same4 0 0 0 0 0 0 0 0 = true := by decide
            go_wp2
            go_ret2
            refine ⟨((((unhide HB2).setCell hgr _).setCell hgr _).setCell hgr _).setCell hgr _, .inr ⟨rfl, C.1, ?_, fun c hc => ((unhide HI).same Larder.IsC.zero c hc)⟩⟩
            rw [← unhide HM]; simp
          · have hzb : same4 y0 y1 y2 y3 0 0 0 0 = false := by
              unfold same4
              rw [← Bool.not_eq_true]
              simp only [Bool.and_eq_true, beq_iff_eq]
              omega
            have hE2 : ∀ W, (Op.equalIn 10000 88 (.agg #[.int .u64 y0, .int .u64 y1, .int .u64 y2, .int .u64 y3]) (.agg #[.int .u64 0, .int .u64 0, .int .u64 0, .int .u64 0])).run Try.prog W = .ok false W := fun W => by rw [hE W, hzb]
            have hzz := hide hz
            clear hE hzb hz
            have hBr3 := hide (((((unhide HBr2).setCell (p := ⟨wr.heap.size, 0, none⟩) (Nat.le_refl _) (.int .u64 y0)).setCell (p := ⟨wr.heap.size, 1, none⟩) (Nat.le_refl _) (.int .u64 y1)).setCell (p := ⟨wr.heap.size, 2, none⟩) (Nat.le_refl _) (.int .u64 y2)).setCell (p := ⟨wr.heap.size, 3, none⟩) (Nat.le_refl _) (.int .u64 y3))
            have hs3 : Hid (wr.heap.size < ((((w2.setCell ⟨wr.heap.size, 0, none⟩ (.int .u64 y0)).setCell ⟨wr.heap.size, 1, none⟩ (.int .u64 y1)).setCell ⟨wr.heap.size, 2, none⟩ (.int .u64 y2)).setCell ⟨wr.heap.size, 3, none⟩ (.int .u64 y3)).heap.size) := hide (by simp; omega)
            go_wp2
            generalize ((((w2.setCell ⟨wr.heap.size, 0, none⟩ (.int .u64 y0)).setCell ⟨wr.heap.size, 1, none⟩ (.int .u64 y1)).setCell ⟨wr.heap.size, 2, none⟩ (.int .u64 y2)).setCell ⟨wr.heap.size, 3, none⟩ (.int .u64 y3)) = w3 at *
            obtain ⟨a0, a1, a2, a3⟩ := (unhide HA3).cells
            have hE := eq4
            clear b0 b1 b2 b3 f0 f1 f2 f3 hE2
            go_region_with (go_at_call 62; refine (every_any w3.drew).mono ?_; rintro e w4 ⟨zs, rfl, hT, hb4⟩; obtain ⟨z0, z1, z2, z3, rfl⟩ := Larder.four hT.1; have hA4 := At4.keep (w := w3.drew) (unhide HA3) hb4; obtain ⟨c1, c2, c3, c4⟩ := hA4.cells; unfold clsV wc)
            all_goals
              have hBr4 := hide (chain (unhide hBr3).drew hb4 (Nat.le_refl _))
              have hgr4 : w.heap.size ≤ w4.heap.size := Nat.le_trans hgr (unhide hBr4).size
              have HT := hide hT
              clear hT hb4 hA4
              by_cases hall : y0 = z0 ∧ y1 = z1 ∧ y2 = z2 ∧ y3 = z3
              · obtain ⟨rfl, rfl, rfl, rfl⟩ := hall
                have hf : ∀ c, c < 256 → C.1 c = true := (unhide HI).same (unhide HT)
                have hne : (!same4 y0 y1 y2 y3 y0 y1 y2 y3) = false := by simp [same4]
                rw [hne]
                have HF := hide hf
                clear hf
                have q4 : rs.length + 1 ≤ maxLen := by simp [maxLen]; omega
                have q5 : (rs.length + 1) * 40 ≤ 140737488355328 := by omega
                have q6 : w.heap.size ≤ (w4.alloc (.cells (pcells (2, [0, 0, 0, 0])).toArray 90)).heap.size := by simp; omega
                have Q1 := hide (piece_new w4 (2, [0, 0, 0, 0]))
                have Q2 : Hid ((w4.alloc (.cells (pcells (2, [0, 0, 0, 0])).toArray 90)).ownsRow w.heap.size 90 5 u4 rs.length (rcells rs)) := hide (own_below (own_below (unhide HO) (unhide hBr4)) ((Below.refl _ _).alloc (Nat.le_refl _) _))
                have Q3 := hide (pcells_one (2, [0, 0, 0, 0]))
                go_wp2_with (at_builtin; refine wpList_append_own _ rfl _ _ 83 rfl w.heap.size 90 i0 _ 5 40 Try.underlying83 hi hz0 hz1 hz2 rfl (by decide) u4 rs.length (rcells rs) rfl (unhide Q2) ⟨w4.heap.size, 0, none⟩ 1 1 (pcells (2, [0, 0, 0, 0])) rfl rfl (unhide Q1) (unhide Q3) q4 q5 q6 ?_)
                intro v2 w9 hO2 hg2 _
                go_wp2
                go_roundw
                case rel =>
                  refine ⟨C.2, n, rs ++ [(2, [0, 0, 0, 0])], l ++ [some C.1], by omega, by omega, by simp; omega, ?_, by exact rfl, (unhide HRow).snoc (⟨rfl, .inr (.inl ⟨rfl, _, rfl, unhide HF⟩)⟩), ?_, ?_⟩
                  · rw [List.append_assoc]; exact unhide HM
                  · rw [List.length_append, rcells_append, show rcells [(2, [0, 0, 0, 0])] = pcells (2, [0, 0, 0, 0]) from List.append_nil _]
                    exact hO2
                  · exact ((chain (unhide HBL) (unhide hBr4) (Nat.le_refl _)).alloc (hgr4) _).grown hg2 (by simp; omega) (own_block (unhide HO))
                case measure => simp [intOf]; omega
              · have hne : (!same4 y0 y1 y2 y3 z0 z1 z2 z3) = true := by
                  unfold same4
                  rw [Bool.not_eq_true', ← Bool.not_eq_true]
                  simp only [Bool.and_eq_true, beq_iff_eq]
                  omega
                rw [hne]
                have q4 : rs.length + 1 ≤ maxLen := by simp [maxLen]; omega
                have q5 : (rs.length + 1) * 40 ≤ 140737488355328 := by omega
                have q6 : w.heap.size ≤ (w4.alloc (.cells (pcells (3, [y0, y1, y2, y3])).toArray 90)).heap.size := by simp; omega
                have Q1 := hide (piece_new w4 (3, [y0, y1, y2, y3]))
                have Q2 : Hid ((w4.alloc (.cells (pcells (3, [y0, y1, y2, y3])).toArray 90)).ownsRow w.heap.size 90 5 u4 rs.length (rcells rs)) := hide (own_below (own_below (unhide HO) (unhide hBr4)) ((Below.refl _ _).alloc (Nat.le_refl _) _))
                have Q3 := hide (pcells_one (3, [y0, y1, y2, y3]))
                go_wp2_with (at_builtin; refine wpList_append_own _ rfl _ _ 83 rfl w.heap.size 90 i0 _ 5 40 Try.underlying83 hi hz0 hz1 hz2 rfl (by decide) u4 rs.length (rcells rs) rfl (unhide Q2) ⟨w4.heap.size, 0, none⟩ 1 1 (pcells (3, [y0, y1, y2, y3])) rfl rfl (unhide Q1) (unhide Q3) q4 q5 q6 ?_)
                intro v2 w9 hO2 hg2 _
                go_wp2
                go_roundw
                case rel =>
                  refine ⟨C.2, n, rs ++ [(3, [y0, y1, y2, y3])], l ++ [some C.1], by omega, by omega, by simp; omega, ?_, by exact rfl, (unhide HRow).snoc (⟨rfl, .inr (.inr ⟨rfl, _, rfl, unhide HI⟩)⟩), ?_, ?_⟩
                  · rw [List.append_assoc]; exact unhide HM
                  · rw [List.length_append, rcells_append, show rcells [(3, [y0, y1, y2, y3])] = pcells (3, [y0, y1, y2, y3]) from List.append_nil _]
                    exact hO2
                  · exact ((chain (unhide HBL) (unhide hBr4) (Nat.le_refl _)).alloc (hgr4) _).grown hg2 (by simp; omega) (own_block (unhide HO))
                case measure => simp [intOf]; omega
        · by_cases h63 : p.getD k 0 = 63
          · have hpc : Larder.pieceAt p k = (some (fun _ => true), k + 1) := by unfold Larder.pieceAt; rw [if_neg h42, if_neg h91, if_pos h63]
            rw [hpc] at HM hpr
            rw [h63] at c0
            clear hpc h63 k0 h42 h91
            have q4 : rs.length + 1 ≤ maxLen := by simp [maxLen]; omega
            have q5 : (rs.length + 1) * 40 ≤ 140737488355328 := by omega
            have q6 : w.heap.size ≤ (wr.alloc (.cells (pcells (2, [0, 0, 0, 0])).toArray 90)).heap.size := by simp; omega
            have Q1 := hide (piece_new wr (2, [0, 0, 0, 0]))
            have Q2 : Hid ((wr.alloc (.cells (pcells (2, [0, 0, 0, 0])).toArray 90)).ownsRow w.heap.size 90 5 u4 rs.length (rcells rs)) := hide (own_below (unhide HO) ((Below.refl _ _).alloc (Nat.le_refl _) _))
            have Q3 := hide (pcells_one (2, [0, 0, 0, 0]))
            go_wp2_with (at_builtin; refine wpList_append_own _ rfl _ _ 83 rfl w.heap.size 90 i0 _ 5 40 Try.underlying83 hi hz0 hz1 hz2 rfl (by decide) u4 rs.length (rcells rs) rfl (unhide Q2) ⟨wr.heap.size, 0, none⟩ 1 1 (pcells (2, [0, 0, 0, 0])) rfl rfl (unhide Q1) (unhide Q3) q4 q5 q6 ?_)
            intro v2 w9 hO2 hg2 _
            go_wp2
            go_roundw
            case rel =>
              refine ⟨k + 1, n, rs ++ [(2, [0, 0, 0, 0])], l ++ [some (fun _ => true)], by omega, by omega, by simp; omega, ?_, by go_num, (unhide HRow).snoc (⟨rfl, .inr (.inl ⟨rfl, _, rfl, fun _ _ => rfl⟩)⟩), ?_, ?_⟩
              · rw [List.append_assoc]; exact unhide HM
              · rw [List.length_append, rcells_append, show rcells [(2, [0, 0, 0, 0])] = pcells (2, [0, 0, 0, 0]) from List.append_nil _]
                exact hO2
              · exact ((unhide HBL).alloc (hgr) _).grown hg2 (by simp; omega) (own_block (unhide HO))
            case measure => simp [intOf]; omega
          · have hpc : Larder.pieceAt p k = (some (Larder.between (Larder.byteAt p k).1 (Larder.byteAt p k).1), (Larder.byteAt p k).2) := by unfold Larder.pieceAt; rw [if_neg h42, if_neg h91, if_neg h63]
            rw [hpc] at HM hpr
            clear hpc
            by_cases h92 : p.getD k 0 = 92
            · by_cases hk1 : k + 1 < p.length
              · have hby : Larder.byteAt p k = (p.getD (k + 1) 0, k + 2) := by unfold Larder.byteAt; rw [if_pos ⟨h92, hk1⟩]
                have c1 := ((unhide HBL).cell (p := ⟨b, off + (k + 1), none⟩) hb).trans (unhide HC (k + 1) hk1)
                have k1 := unhide HS (k + 1) hk1
                rw [hby] at HM hpr
                rw [h92] at c0
                clear hby h92 h42 h91 h63 k0
                generalize p.getD (k + 1) 0 = d at *
                have H1 : Hid (Calls Try.prog 63 #[.agg #[.int .u64 0, .int .u64 0, .int .u64 0, .int .u64 0], .int .u8 (d : Nat), .int .u8 (d : Nat)] wr fun e w' => ∃ ys, e = .returned (clsV ys) ∧ Larder.IsC ys (fun c => false || Larder.between d d c) ∧ Below wr.heap.size wr w') := hide (with_any [0, 0, 0, 0] _ Larder.IsC.zero d d wr (by omega) (by omega))
                go_wp2_with fail
                refine (unhide H1).mono ?_
                rintro e w2 ⟨ys, rfl, hI, hb2⟩
                obtain ⟨y0, y1, y2, y3, rfl⟩ := Larder.four hI.1
                have hgr2 := hb2.size
                have HI := hide (hI.congr (S' := Larder.between d d) (fun c _ => Bool.false_or _))
                have HB2 := hide hb2
                clear hI hb2
                unfold clsV wc

                have q4 : rs.length + 1 ≤ maxLen := by simp [maxLen]; omega
                have q5 : (rs.length + 1) * 40 ≤ 140737488355328 := by omega
                have q6 : w.heap.size ≤ (w2.alloc (.cells (pcells (3, [y0, y1, y2, y3])).toArray 90)).heap.size := by simp; omega
                have Q1 := hide (piece_new w2 (3, [y0, y1, y2, y3]))
                have Q2 : Hid ((w2.alloc (.cells (pcells (3, [y0, y1, y2, y3])).toArray 90)).ownsRow w.heap.size 90 5 u4 rs.length (rcells rs)) := hide (own_below (own_below (unhide HO) (unhide HB2)) ((Below.refl _ _).alloc (Nat.le_refl _) _))
                have Q3 := hide (pcells_one (3, [y0, y1, y2, y3]))
                go_wp2_with (at_builtin; refine wpList_append_own _ rfl _ _ 83 rfl w.heap.size 90 i0 _ 5 40 Try.underlying83 hi hz0 hz1 hz2 rfl (by decide) u4 rs.length (rcells rs) rfl (unhide Q2) ⟨w2.heap.size, 0, none⟩ 1 1 (pcells (3, [y0, y1, y2, y3])) rfl rfl (unhide Q1) (unhide Q3) q4 q5 q6 ?_)
                intro v2 w9 hO2 hg2 _
                go_wp2
                go_roundw
                case rel =>
                  refine ⟨k + 2, n, rs ++ [(3, [y0, y1, y2, y3])], l ++ [some (Larder.between d d)], by omega, by omega, by simp; omega, ?_, by go_num, (unhide HRow).snoc (⟨rfl, .inr (.inr ⟨rfl, _, rfl, unhide HI⟩)⟩), ?_, ?_⟩
                  · rw [List.append_assoc]; exact unhide HM
                  · rw [List.length_append, rcells_append, show rcells [(3, [y0, y1, y2, y3])] = pcells (3, [y0, y1, y2, y3]) from List.append_nil _]
                    exact hO2
                  · exact ((chain (unhide HBL) (unhide HB2) (Nat.le_refl _)).alloc (by omega) _).grown hg2 (by simp; omega) (own_block (unhide HO))
                case measure => simp [intOf]; omega
              · have hby : Larder.byteAt p k = (92, k + 1) := by unfold Larder.byteAt; rw [if_neg (fun h => hk1 h.2), h92]
                rw [hby] at HM hpr
                rw [h92] at c0
                clear hby h92 h42 h91 h63 k0
                have hg : ¬ ((k : Int) + 1 < (p.length : Int)) := by omega
                have H1 : Hid (Calls Try.prog 63 #[.agg #[.int .u64 0, .int .u64 0, .int .u64 0, .int .u64 0], .int .u8 (92 : Nat), .int .u8 (92 : Nat)] wr fun e w' => ∃ ys, e = .returned (clsV ys) ∧ Larder.IsC ys (fun c => false || Larder.between 92 92 c) ∧ Below wr.heap.size wr w') := hide (with_any [0, 0, 0, 0] _ Larder.IsC.zero 92 92 wr (by omega) (by omega))
                go_wp2_with fail
                refine (unhide H1).mono ?_
                rintro e w2 ⟨ys, rfl, hI, hb2⟩
                obtain ⟨y0, y1, y2, y3, rfl⟩ := Larder.four hI.1
                have hgr2 := hb2.size
                have HI := hide (hI.congr (S' := Larder.between 92 92) (fun c _ => Bool.false_or _))
                have HB2 := hide hb2
                clear hI hb2
                unfold clsV wc

                have q4 : rs.length + 1 ≤ maxLen := by simp [maxLen]; omega
                have q5 : (rs.length + 1) * 40 ≤ 140737488355328 := by omega
                have q6 : w.heap.size ≤ (w2.alloc (.cells (pcells (3, [y0, y1, y2, y3])).toArray 90)).heap.size := by simp; omega
                have Q1 := hide (piece_new w2 (3, [y0, y1, y2, y3]))
                have Q2 : Hid ((w2.alloc (.cells (pcells (3, [y0, y1, y2, y3])).toArray 90)).ownsRow w.heap.size 90 5 u4 rs.length (rcells rs)) := hide (own_below (own_below (unhide HO) (unhide HB2)) ((Below.refl _ _).alloc (Nat.le_refl _) _))
                have Q3 := hide (pcells_one (3, [y0, y1, y2, y3]))
                go_wp2_with (at_builtin; refine wpList_append_own _ rfl _ _ 83 rfl w.heap.size 90 i0 _ 5 40 Try.underlying83 hi hz0 hz1 hz2 rfl (by decide) u4 rs.length (rcells rs) rfl (unhide Q2) ⟨w2.heap.size, 0, none⟩ 1 1 (pcells (3, [y0, y1, y2, y3])) rfl rfl (unhide Q1) (unhide Q3) q4 q5 q6 ?_)
                intro v2 w9 hO2 hg2 _
                go_wp2
                go_roundw
                case rel =>
                  refine ⟨k + 1, n, rs ++ [(3, [y0, y1, y2, y3])], l ++ [some (Larder.between 92 92)], by omega, by omega, by simp; omega, ?_, by go_num, (unhide HRow).snoc (⟨rfl, .inr (.inr ⟨rfl, _, rfl, unhide HI⟩)⟩), ?_, ?_⟩
                  · rw [List.append_assoc]; exact unhide HM
                  · rw [List.length_append, rcells_append, show rcells [(3, [y0, y1, y2, y3])] = pcells (3, [y0, y1, y2, y3]) from List.append_nil _]
                    exact hO2
                  · exact ((chain (unhide HBL) (unhide HB2) (Nat.le_refl _)).alloc (by omega) _).grown hg2 (by simp; omega) (own_block (unhide HO))
                case measure => simp [intOf]; omega
            · have hby : Larder.byteAt p k = (p.getD k 0, k + 1) := by unfold Larder.byteAt; rw [if_neg (fun h => h92 h.1)]
              rw [hby] at HM hpr
              generalize p.getD k 0 = d at *
              have e1 : ((d : Int) == 42) = false := by rw [beq_eq_false_iff_ne]; omega
              have e2 : ((d : Int) == 91) = false := by rw [beq_eq_false_iff_ne]; omega
              have e3 : ((d : Int) == 63) = false := by rw [beq_eq_false_iff_ne]; omega
              have e4 : ((d : Int) == 92) = false := by rw [beq_eq_false_iff_ne]; omega
              clear hby
              have H1 : Hid (Calls Try.prog 63 #[.agg #[.int .u64 0, .int .u64 0, .int .u64 0, .int .u64 0], .int .u8 (d : Nat), .int .u8 (d : Nat)] wr fun e w' => ∃ ys, e = .returned (clsV ys) ∧ Larder.IsC ys (fun c => false || Larder.between d d c) ∧ Below wr.heap.size wr w') := hide (with_any [0, 0, 0, 0] _ Larder.IsC.zero d d wr (by omega) (by omega))
              go_wp2_with fail
              refine (unhide H1).mono ?_
              rintro e w2 ⟨ys, rfl, hI, hb2⟩
              obtain ⟨y0, y1, y2, y3, rfl⟩ := Larder.four hI.1
              have hgr2 := hb2.size
              have HI := hide (hI.congr (S' := Larder.between d d) (fun c _ => Bool.false_or _))
              have HB2 := hide hb2
              clear hI hb2
              unfold clsV wc

              have q4 : rs.length + 1 ≤ maxLen := by simp [maxLen]; omega
              have q5 : (rs.length + 1) * 40 ≤ 140737488355328 := by omega
              have q6 : w.heap.size ≤ (w2.alloc (.cells (pcells (3, [y0, y1, y2, y3])).toArray 90)).heap.size := by simp; omega
              have Q1 := hide (piece_new w2 (3, [y0, y1, y2, y3]))
              have Q2 : Hid ((w2.alloc (.cells (pcells (3, [y0, y1, y2, y3])).toArray 90)).ownsRow w.heap.size 90 5 u4 rs.length (rcells rs)) := hide (own_below (own_below (unhide HO) (unhide HB2)) ((Below.refl _ _).alloc (Nat.le_refl _) _))
              have Q3 := hide (pcells_one (3, [y0, y1, y2, y3]))
              go_wp2_with (at_builtin; refine wpList_append_own _ rfl _ _ 83 rfl w.heap.size 90 i0 _ 5 40 Try.underlying83 hi hz0 hz1 hz2 rfl (by decide) u4 rs.length (rcells rs) rfl (unhide Q2) ⟨w2.heap.size, 0, none⟩ 1 1 (pcells (3, [y0, y1, y2, y3])) rfl rfl (unhide Q1) (unhide Q3) q4 q5 q6 ?_)
              intro v2 w9 hO2 hg2 _
              go_wp2
              go_roundw
              case rel =>
                refine ⟨k + 1, n, rs ++ [(3, [y0, y1, y2, y3])], l ++ [some (Larder.between d d)], by omega, by omega, by simp; omega, ?_, by go_num, (unhide HRow).snoc (⟨rfl, .inr (.inr ⟨rfl, _, rfl, unhide HI⟩)⟩), ?_, ?_⟩
                · rw [List.append_assoc]; exact unhide HM
                · rw [List.length_append, rcells_append, show rcells [(3, [y0, y1, y2, y3])] = pcells (3, [y0, y1, y2, y3]) from List.append_nil _]
                  exact hO2
                · exact ((chain (unhide HBL) (unhide HB2) (Nat.le_refl _)).alloc (by omega) _).grown hg2 (by simp; omega) (own_block (unhide HO))
              case measure => simp [intOf]; omega
    · obtain rfl : k = p.length := by omega
      rw [Larder.parseK_done p n _ (Nat.lt_irrefl _), List.append_nil] at hM
      subst hM
      have HO := hide hO
      have HRow := hide hRow
      have HBL := hide hbl
      clear hO hRow hbl hown hb1
      go_wp2
      go_ret2
      exact ⟨unhide HBL, .inl ⟨_, rs, rfl, unhide HRow, unhide HO⟩⟩
end Go.Proofs.Ytjmnddcombepaaa
