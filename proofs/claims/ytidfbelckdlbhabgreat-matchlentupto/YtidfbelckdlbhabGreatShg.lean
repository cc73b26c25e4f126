/- larderlaw3's Shelf: Given. -/
import Derived.Test.YtidfbelckdlbhabGreatShf
import Derived.Deep.RegionLaw
namespace Go.Proofs.YtidfbelckdlbhabGreat
open Go.ChangeShapes Go.WideShapes Go.ChangeAt Go.RowKit
set_option linter.unusedVariables false
set_option linter.unusedSimpArgs false
set_option maxRecDepth 20000
set_option maxHeartbeats 4000000

/-- a whole list appended to nil -/
theorem run_append_all {P : Program} {w : World} (ty t e : TypeId) (i : TypeInfo) (z : Value) (bytes : Nat) (ht : P.underlying t = some (.slice e)) (hi : P.info? e = some i) (hz : i.zero = some z) (hsize : i.size = 1) (hby : i.bytes = bytes) (hzs : z.cells.size = 1)
    (a : Option Addr) (n c : Nat) (f : Nat → Value) (h : Rws w e 1 (.slice a n c) n f) (h1 : ∀ j, j < n → (f j).oneCell' = true) (hn : n * bytes ≤ 140737488355328) (hn2 : n ≤ 9007199254740992) :
    ∃ v' w', (Builtin.append_ #[t, t] ty #[.slice none 0 0, .slice a n c]).run P w = .ok v' w' ∧ Rws w' e 1 v' n f ∧ Below w.heap.size w w' ∧ ∀ g, v'.ownBlock = some g → w.heap.size ≤ g := by
  rcases Nat.eq_zero_or_pos n with rfl | hp
  · refine ⟨.slice none 0 0, w, ?_, .inl ⟨rfl, rfl⟩, Below.refl _ _, fun g hg => by simp [Value.ownBlock] at hg⟩
    cases a with
    | none => simp [Builtin.append_, run_underlying ht, sizeOf, typeInfo, hi, Builtin.lenOf, Builtin.firstCells, storeCells]
    | some x =>
      have hf := run_firstCells_some (P := P) w i.size 0 x 0 c [] (by simp) (fun j v h => by simp at h)
      simp [Builtin.append_, run_underlying ht, sizeOf, typeInfo, hi, Builtin.lenOf, hf, storeCells]
  · obtain ⟨g, cap, hv, hown, hlt, hat⟩ := h.at hp
    cases hv
    have hl : ((List.range n).map f).length = n := by simp
    have hg : ∀ j x, ((List.range n).map f)[j]? = some x → w.cell? ⟨g, j, none⟩ = some x := fun j x hx => by
      have hj : j < n := by have := (List.getElem?_eq_some_iff.1 hx).1; simpa using this
      rw [List.getElem?_map, List.getElem?_range hj] at hx
      rw [hat j (by omega), ← Option.some.inj hx]
    obtain ⟨v', w', r1, r2, r3⟩ := run_append_rws (P := P) (w := w) ty t e i z 1 bytes ht hi hz hsize hby hzs e (.slice none 0 0) 0 (fun _ => undef) (.inl ⟨rfl, rfl⟩) (.inl rfl) g n c ((List.range n).map f) hp (by rw [hl, Nat.mul_one]) hg (fun x hx => by
      obtain ⟨j, hj, rfl⟩ := List.mem_map.1 hx
      exact h1 j (List.mem_range.1 hj)) (by rw [Nat.zero_add]; exact hn) (by omega)
    rw [Nat.zero_add] at r2
    refine ⟨v', w', r1, r2.congr (fun q hq => ?_), r3.below _ (Nat.le_refl _) (fun g hg => by simp [Value.ownBlock] at hg), r3.own _ (Nat.le_refl _) (fun g hg => by simp [Value.ownBlock] at hg)⟩
    rw [Nat.zero_mul, if_neg (Nat.not_lt_zero _), Nat.sub_zero, List.getD_eq_getElem?_getD, List.getElem?_map, List.getElem?_range (by omega)]
    rfl
theorem step_append_all {P : Program} {ops : Array Oper} {o : Oper} {act : Act} {w : World} {K : Act → World → Prop} {Q : Exit → Act → World → Prop} {E : Prop} (hg : o.guard = none) (so x : Operand) (t : TypeId) (ho : o.op = .call { callee := .builtin .append, args := #[so, x], argTypes := #[t, t] })
    (e : TypeId) (i : TypeInfo) (z : Value) (bytes : Nat) (ht : P.underlying t = some (.slice e)) (hi : P.info? e = some i) (hz : i.zero = some z) (hsize : i.size = 1) (hby : i.bytes = bytes) (hzs : z.cells.size = 1)
    (a : Option Addr) (n c : Nat) (f : Nat → Value) (hs : act.eval so = .slice none 0 0) (hx : act.eval x = .slice a n c) (h0 : Rws w e 1 (.slice a n c) n f) (h1 : ∀ j, j < n → (f j).oneCell' = true) (hn : n * bytes ≤ 140737488355328) (hn2 : n ≤ 9007199254740992)
    (h : ∀ v' w', Rws w' e 1 v' n f → Below w.heap.size w w' → (∀ g, v'.ownBlock = some g → w.heap.size ≤ g) → K (act.put o.dst v') w') : if Region.wanted o (yielded ops act.tmps) = true then Oper.wp P o act w K Q else E := by
  have hw : Region.wanted o (yielded ops act.tmps) = true := by simp [Region.wanted, hg]
  rw [if_pos hw]
  obtain ⟨v', w', hr, h2, h3, h4⟩ := run_append_all (P := P) (w := w) o.type t e i z bytes ht hi hz hsize hby hzs a n c f h0 h1 hn hn2
  exact wp_appended so x t ho _ _ hs hx _ _ hr (h v' w' h2 h3 h4)
/-- nil appended to nil -/
theorem step_append_nils {P : Program} {ops : Array Oper} {o : Oper} {act : Act} {w : World} {K : Act → World → Prop} {Q : Exit → Act → World → Prop} {E : Prop} (hg : o.guard = none) (so x : Operand) (t : TypeId) (ho : o.op = .call { callee := .builtin .append, args := #[so, x], argTypes := #[t, t] })
    (e : TypeId) (i : TypeInfo) (ht : P.underlying t = some (.slice e)) (hi : P.info? e = some i) (hs : act.eval so = .slice none 0 0) (hx : act.eval x = .slice none 0 0) (h : K (act.put o.dst (.slice none 0 0)) w) : if Region.wanted o (yielded ops act.tmps) = true then Oper.wp P o act w K Q else E := by
  have hw : Region.wanted o (yielded ops act.tmps) = true := by simp [Region.wanted, hg]
  rw [if_pos hw]
  have hr : (Builtin.append_ #[t, t] o.type #[.slice none 0 0, .slice none 0 0]).run P w = .ok (.slice none 0 0) w := by
    simp [Builtin.append_, run_underlying ht, sizeOf, typeInfo, hi, Builtin.lenOf, Builtin.firstCells, storeCells]
  exact wp_appended so x t ho _ _ hs hx _ _ hr h
theorem Tryz.info128 : (Tryz.prog.info? 128).map (fun i => (i.zero, i.size, i.bytes)) = some (some (.slice none 0 0), 1, 24) := by kernel_rfl
theorem SpAt.put {W : World} {py : Nat} {yv : Value} (h : SpAt W py yv) (v : Value) : SpAt (W.setCell ⟨py, 0, none⟩ v) py v := by
  unfold SpAt
  rw [setCell_block W py 0 v _ _ _ h]
  rfl
theorem SpAt.again {W : World} {py : Nat} {yv : Value} (h : SpAt W py yv) : SpAt (W.setCell ⟨py, 2, none⟩ (.slice none 0 0)) py yv := by
  unfold SpAt
  rw [setCell_block W py 2 _ _ _ _ h]
  rfl
theorem SpAt.frozen {W : World} {py : Nat} {yv : Value} (h : SpAt W py yv) (j : Nat) : W.frozen? ⟨py, j, none⟩ = false := by
  unfold SpAt at h
  simp only [World.frozen?, h]
  simp
theorem Still.belowN {w w' : World} (h : Still w w') : Below w.heap.size w w' := h.below
/-- the shelf's lists are taken into a spread -/
theorem ShAt.spread {w WA W w2 : World} {px : Nat} {xv wv v' : Value} {n : Nat} {F G : Nat → Value} {D : Nat → List Nat} {sz py : Nat} (h : ShAt w px xv wv n F G D sz) (hA : Below w.heap.size w WA) (hpy : w.heap.size ≤ py) (ha : SpAt WA py (.slice none 0 0)) (hS : Still WA W)
    (hR : Rws w2 34 1 v' n F) (hB : Below W.heap.size W w2) (hO : ∀ g, v'.ownBlock = some g → W.heap.size ≤ g) :
    w2.cell? ⟨py, 0, none⟩ = some (.slice none 0 0) ∧ w2.frozen? ⟨py, 0, none⟩ = false ∧ (∃ a c, v' = .slice a n c) ∧ Hid (Mk (w2.setCell ⟨py, 0, none⟩ v') py v' n F (fun j => (D j).length) 0 0 ∧ Tch n F w (w2.setCell ⟨py, 0, none⟩ v') ∧ (w2.setCell ⟨py, 0, none⟩ v').heap[px]? = w.heap[px]?) := by
  have hAW : Below w.heap.size w W := hA.trans (hS.belowN.mono hA.size)
  have h2 : Below w.heap.size w w2 := hAW.trans (hB.mono hAW.size)
  have haw : WA.heap[py]? = W.heap[py]? := by rw [hS.heap]
  have hpl : py < W.heap.size := by rw [hS.heap]; exact block_lt ha
  have a2 : SpAt w2 py (.slice none 0 0) := by unfold SpAt; rw [hB.block _ hpl, ← haw]; exact ha
  have hpx := block_lt h.at'
  have els : ∀ b, b ≠ py → (w2.setCell ⟨py, 0, none⟩ v').heap[b]? = w2.heap[b]? := fun b hb => setCell_else _ _ _ _ _ hb
  refine ⟨a2.cells.1, a2.frozen 0, hR.shape, hide ⟨⟨a2.put v', hR.same (fun g hg => els g (fun e => ?_)), fun j hj => ⟨byV (D j), (h.fe j hj).same (fun g hg => ?_), fun q _ hh => by omega⟩, h.one, fun j hj => Nat.le_trans (h.len j hj) (by decide)⟩, ⟨h2.os, h2.tape, h2.output, by simp only [World.setCell, Array.size_modify]; exact h2.size, fun b hb _ => ?_⟩, ?_⟩⟩
  · have := hO g hg
    omega
  · have hg' := (h.fe j hj).lt g hg
    rw [els g (by omega), h2.block g hg']
  · rw [els b (by omega), h2.block b hb]
  · rw [els px (by omega), h2.block px hpx]
theorem Mk.again {W : World} {py : Nat} {yv : Value} {n : Nat} {F : Nat → Value} {L : Nat → Nat} {i k : Nat} (h : Mk W py yv n F L i k) : Mk (W.setCell ⟨py, 2, none⟩ (.slice none 0 0)) py yv n F L i k := by
  have els : ∀ b, b ≠ py → (W.setCell ⟨py, 2, none⟩ (.slice none 0 0)).heap[b]? = W.heap[b]? := fun b hb => setCell_else _ _ _ _ _ hb
  refine ⟨h.at'.again, h.row.same (fun g hg => els g (fun e => ?_)), fun j hj => ?_, h.one, h.len⟩
  · obtain ⟨c, hc⟩ := h.row.type g hg
    have := h.at'
    unfold SpAt at this
    rw [e, this] at hc
    cases hc
  · obtain ⟨f, h1, h2⟩ := h.ent j hj
    refine ⟨f, h1.same (fun g hg => els g (fun e => ?_)), h2⟩
    obtain ⟨c, hc⟩ := h1.type g hg
    have := h.at'
    unfold SpAt at this
    rw [e, this] at hc
    cases hc
theorem Gn.md {w0 wr : World} {py : Nat} {yv : Value} {n : Nat} {F : Nat → Value} {L : Nat → Nat} {pz : Nat} {zv : Value} {Z : Nat → Value} (h : Gn w0 wr py yv n F L pz zv n Z) : Md wr py yv n F L ∧ Md wr pz zv n Z (fun j => L j + 96) :=
  ⟨⟨h.ya, h.yr, h.ye, fun j hj => Nat.le_trans (h.len j hj) (by omega)⟩, ⟨h.za, h.zr, h.ze, fun j hj => by have := h.len j hj; show L j + 96 ≤ _; omega⟩⟩
theorem Md.drewN {W : World} {py : Nat} {yv : Value} {n : Nat} {F : Nat → Value} {L : Nat → Nat} (h : Md W py yv n F L) (m : Nat) : Md (W.drewN m) py yv n F L := ⟨h.at', h.row, h.ent, h.len⟩
theorem given_any (w : World) (px : Nat) (xa wa : Option Addr) (xc wc n : Nat) (F G : Nat → Value) (D : Nat → List Nat) (sz : Nat) (h : ShAt w px (.slice xa n xc) (.slice wa n wc) n F G D sz) :
    Calls Tryz.prog 27 #[.pointer (some ⟨px, 0, none⟩)] w fun e w' => e = .returned (.bool true) ∧ Hid (Tch n F w w') := by
  have SM := hide (same_any' w px xa wa xc wc n F G D sz h)
  have H := hide h
  have hn := h.few.2
  obtain ⟨i3, hi3, hz3, hs3, hb3⟩ := info_partsS Tryz.info34s
  clear h
  go_enter Tryz.func27, Tryz.ntmps27
  go_wp2_with fail
  refine (unhide SM).mono ?_
  rintro e w1 ⟨rfl, k1⟩
  clear SM
  go_wp2_with fail
  obtain ⟨py, hpy⟩ : ∃ py, py = w1.heap.size := ⟨_, rfl⟩
  have bA := hide (((unhide k1).belowN.alloc (unhide k1).belowN.size (.cells #[.slice none 0 0, .slice none 0 0, .slice none 0 0, .slice none 0 0] 107)))
  have sA : Hid (SpAt (w1.alloc (.cells #[.slice none 0 0, .slice none 0 0, .slice none 0 0, .slice none 0 0] 107)) py (.slice none 0 0)) := hide (by rw [hpy]; exact heap_alloc_new w1 _)
  have ple : w.heap.size ≤ py := by rw [hpy]; exact (unhide k1).belowN.size
  rw [← hpy]
  generalize w1.alloc (.cells #[.slice none 0 0, .slice none 0 0, .slice none 0 0, .slice none 0 0] 107) = WA at *
  clear hpy
  have HPL := hide ple
  have hpx : px < w.heap.size := block_lt (unhide H).at'
  have xW : ∀ j, WA.cell? ⟨px, j, none⟩ = w.cell? ⟨px, j, none⟩ := fun j => (unhide bA).cell (p := ⟨px, j, none⟩) hpx
  obtain ⟨X0, -, X2, X4, X6, -⟩ := (unhide H).cells
  have x0 := (xW 0).trans X0
  have y0 := (unhide sA).cells.1
  have yf : WA.frozen? ⟨py, 0, none⟩ = false := (unhide sA).frozen 0
  have HR : Hid (∀ W, Still WA W → Rws W 34 1 (.slice xa n xc) n F) := hide (fun W hS => ((unhide H).xr.below (unhide bA)).below hS.belowN)
  have H1 : Hid (∀ j, j < n → (F j).oneCell' = true) := hide (fun j hj => by
    obtain ⟨a, c, e⟩ := ((unhide H).fe j hj).shape
    rw [e]; rfl)
  have HF : Hid (∀ W v' w2, Still WA W → Rws w2 34 1 v' n F → Below W.heap.size W w2 → (∀ g, v'.ownBlock = some g → W.heap.size ≤ g) → _) := hide (fun W v' w2 hS hR hB hO => (unhide H).spread (unhide bA) (unhide HPL) (unhide sA) hS hR hB hO)
  clear xW ple
  go_region_law (refine step_append_all rfl (.tmp 16) (.tmp 20) 41 rfl 34 i3 _ 24 Tryz.underlying41 hi3 hz3 hs3 hb3 rfl xa n xc F (by simp [Act.eval]) (by simp [Act.eval]) (unhide HR WA.drew ⟨rfl, rfl, rfl, rfl⟩) (unhide H1) (by omega) (by omega) ?_; intro v2 w2 hL hB hO; obtain ⟨c2, z2, ⟨a2, cc2, rfl⟩, m2⟩ := unhide HF WA.drew v2 w2 ⟨rfl, rfl, rfl, rfl⟩ hL hB hO; clear hL hB hO)
  all_goals (have xP : ∀ j, (w2.setCell ⟨py, 0, none⟩ (.slice a2 n cc2)).cell? ⟨px, j, none⟩ = w.cell? ⟨px, j, none⟩ := fun j => World.cell?_of_block (w := w) (unhide m2).2.2)
  all_goals (generalize w2.setCell ⟨py, 0, none⟩ (.slice a2 n cc2) = WB at *)
  all_goals (have x2 := (xP 2).trans X2; have x4 := (xP 4).trans X4; have x6 := (xP 6).trans X6)
  all_goals (obtain ⟨-, -, yy2, -⟩ := (unhide m2).1.at'.cells)
  all_goals (have yf2 := (unhide m2).1.at'.frozen 2)
  all_goals (clear xP X0 X2 X4 X6 x0 y0 yf HR H1 HF c2 z2)
  all_goals go_wp2_with fail
  all_goals
    go_loopw [4] (fun iv wr => iv = .int .i64 0 ∧ wr = WB) (fun _ _ => 0)
    case atStart => exact ⟨rfl, rfl⟩
    case round =>
      obtain ⟨rfl, hwo⟩ := hrel
      subst hwo
      rename World => WB
      go_wp2_with fail
      obtain ⟨i4, hi4, hz4, hs4, hb4⟩ := info_partsS Tryz.info128
      have AG := hide (unhide m2).1.again
      have AT : Hid (Tch n F w (WB.setCell ⟨py, 2, none⟩ (.slice none 0 0))) := hide (by
        have t := (unhide m2).2.1
        have hp := unhide HPL
        exact ⟨t.os, t.tape, t.output, by simp only [World.setCell, Array.size_modify]; exact t.size, fun b hb hF => by rw [setCell_else _ _ _ _ _ (by omega), t.blk b hb hF]⟩)
      have x6' : (WB.setCell ⟨py, 2, none⟩ (.slice none 0 0)).cell? ⟨px, 6, none⟩ = some (.slice none 0 0) := by
        have hp := unhide HPL
        have hpp : px ≠ py := by omega
        exact (World.cell?_of_block (w := WB) (setCell_else _ _ _ _ _ hpp)).trans x6
      go_region_law (refine step_append_nils rfl (.tmp 68) (.tmp 72) 44 rfl 128 i4 Tryz.underlying44 hi4 (by simp [Act.eval]) (by simp [Act.eval]) ?_)
      all_goals (have AG2 := hide ((unhide AG).below (Below.drew (Below.refl _ _))))
      all_goals (have AT2 := hide ((unhide AT).trans (Tch.below (Below.drew (Below.refl _ _)))))
      all_goals (have x6d : (WB.setCell ⟨py, 2, none⟩ (.slice none 0 0)).drew.cell? ⟨px, 6, none⟩ = some (.slice none 0 0) := x6')
      all_goals (generalize (WB.setCell ⟨py, 2, none⟩ (.slice none 0 0)).drew = WC at *)
      all_goals (clear AG AT x6' x2 x4 x6 yy2 yf2 m2)
      all_goals go_wp2_with fail
      all_goals
        go_loopw [5] (fun iv wr => iv = .int .i64 0 ∧ wr = WC) (fun _ _ => 0)
        case atStart => exact ⟨rfl, rfl⟩
        case round =>
          obtain ⟨rfl, hwo⟩ := hrel
          subst hwo
          rename World => WC
          go_wp2_with fail
          refine (mark_any WC py a2 cc2 n F (fun j => (D j).length) (unhide AG2) (by omega)).mono ?_
          rintro e w3 ⟨rfl, k3⟩
          go_wp2_with fail
          refine (grown_any w3 py a2 cc2 n F (fun j => (D j).length) (unhide k3).1 (by omega)).mono ?_
          rintro e w4 ⟨rfl, k4⟩
          obtain ⟨za, zc, Z, gn⟩ := unhide k4
          have GN := hide gn
          clear gn k4
          go_wp2_with fail
          refine (marked_any w4 py a2 cc2 n F (fun j => (D j).length) (unhide GN).md.1 (by omega)).mono ?_
          rintro e w5 ⟨rfl, k5⟩
          go_wp2_with fail
          have M2 : Hid (Md w5 w3.heap.size (.slice za n zc) n Z (fun j => (D j).length + 96)) := hide (by obtain ⟨m, rfl⟩ := unhide k5; exact (unhide GN).md.2.drewN m)
          refine (marked_any w5 w3.heap.size za zc n Z (fun j => (D j).length + 96) (unhide M2) (by omega)).mono ?_
          rintro e w6 ⟨rfl, k6⟩
          go_wp2
          go_ret
          refine ⟨rfl, hide (((unhide AT2).trans (unhide k3).2).trans ((unhide GN).tc.trans ?_))⟩
          obtain ⟨m, rfl⟩ := unhide k5
          obtain ⟨m', rfl⟩ := unhide k6
          exact Tch.below ⟨rfl, rfl, rfl, Nat.le_refl _, fun _ _ => rfl⟩
end Go.Proofs.YtidfbelckdlbhabGreat
