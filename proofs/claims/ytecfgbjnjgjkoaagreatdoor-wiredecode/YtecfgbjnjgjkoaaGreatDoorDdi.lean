/- The document's listed: its list. -/
import Derived.Test.YtecfgbjnjgjkoaaGreatDoorDdg
import Derived.Test.YtecfgbjnjgjkoaaGreatDoorLiu
import Derived.Test.YtecfgbjnjgjkoaaGreatDoorPfb
namespace Go.Proofs.YtecfgbjnjgjkoaaGreatDoor
open Go.ChangeShapes Go.WideShapes Go.ChangeAt Go.RowKit
set_option linter.unusedVariables false
set_option linter.unusedSimpArgs false
set_option maxRecDepth 20000
set_option maxHeartbeats 8000000

theorem Tryz.info31s : (Tryz.prog.info? 31).map (fun i => (i.zero, i.size, i.bytes)) = some (some (.agg #[.int .i64 0, .int .i64 0, .slice none 0 0, .slice none 0 0]), 4, 64) := by kernel_rfl
theorem info_parts4 {P : Program} {t : TypeId} {z : Value} {s b : Nat} (h : (P.info? t).map (fun i => (i.zero, i.size, i.bytes)) = some (some z, s, b)) : ∃ i, P.info? t = some i ∧ i.zero = some z ∧ i.size = s ∧ i.bytes = b := by
  cases e : P.info? t with
  | none => rw [e] at h; cases h
  | some i => rw [e] at h; simp at h; exact ⟨i, rfl, h.1, h.2.1, h.2.2⟩
theorem DrAt.tight {w : World} : ∀ {d : Nat} {S : Nat → Prop} {x : Tr d} {v0 v1 v2 v3 : Value}, DrAt w d S x v0 v1 v2 v3 → DrAt w d (fun b => S b ∧ b < w.heap.size) x v0 v1 v2 v3
  | 0, _, _, _, _, _, _, h => h
  | d + 1, S, x, v0, v1, v2, v3, ⟨h0, h1, ⟨h2, h3, h4⟩, f, h5, h6, Q, h8, h9, h7⟩ => by
    refine ⟨h0, h1, ⟨h2, h3, fun g hg => ⟨h4 g hg, ?_⟩⟩, f, h5, fun g hg => ⟨h6 g hg, h5.lt g hg⟩, fun i b => Q i b ∧ b < w.heap.size, fun i j b hi hj => h8 i j b hi.1 hj.1, fun i b hb => ⟨⟨(h9 i b hb.1).1, hb.2⟩, (h9 i b hb.1).2⟩, fun i y hi => (h7 i y hi).tight⟩
    rcases h2.2 with ⟨rfl, -⟩ | ⟨g', cap, cur, rfl, hbb, hg', rest⟩
    · simp [Value.ownBlock] at hg
    · simp [Value.ownBlock] at hg
      subst hg
      exact block_lt hg'
theorem list_end {W : World} {g : Nat} {v0 v1 v2 v3 : Value} (N st : Int) (tmps : Array Value) (hg : W.heap[g]? = some (.cells #[v0, v1, v2, v3] 31 (0, 0))) (h2 : tmps.getD 4 undef = .pointer (some ⟨g, 0, none⟩)) (h3 : tmps.getD 5 undef = .int .i64 N) (h4 : tmps.getD 6 undef = .int .i64 st) :
    (results Tryz.f73 tmps).run Tryz.prog W = .ok (.tuple #[.agg #[v0, v1, v2, v3], .int .i64 N, .int .i64 st]) W := by
  refine results_box3 (p := 4) (q := 5) (s := 6) (ty := 31) rfl tmps _ g 31 _ (0, 0) _ h2 hg Tryz.underlying31 rfl (by kernel_rfl) _ _ h3 h4
/-- a list that the document reads -/
structure LsAt (w W : World) (G d : Nat) (v : Value) (Y : List (Tr d)) : Prop where
  ix : Ix w W
  gw : w.heap.size < G
  b6 : W.heap[G]? = some (.cells #[.int .i64 6, .int .i64 0, .slice none 0 0, v] 31 (0, 0))
  row : ∃ F : Nat → Value, Rws W 31 4 v Y.length F ∧ (∀ g, v.ownBlock = some g → G < g) ∧
    Els W d (fun b => G < b ∧ v.ownBlock ≠ some b) Y F
theorem LsAt.start {w W : World} (h : Ix w W) (d : Nat) : LsAt w (W.alloc (.cells #[.int .i64 6, .int .i64 0, .slice none 0 0, .slice none 0 0] 31)) W.heap.size d (.slice none 0 0) [] :=
  ⟨h.next ((Below.refl _ _).alloc (Nat.le_refl _) _), block_lt h.box, heap_alloc_new _ _, fun _ => undef, .inl ⟨rfl, rfl⟩, fun g hg => (by simp [Value.ownBlock] at hg), Els.nil _ _ _ _⟩
theorem LsAt.step {w W w3 w6 : World} {G d : Nat} {v v' : Value} {Y : List (Tr d)} {x : Tr d} {F : Nat → Value} {k0 k1 : Int} {ta : Option Addr} {tn tc : Nat} {la : Option Addr} {ln lc : Nat} (h : LsAt w W G d v Y)
    (hF : Rws W 31 4 v Y.length F) (hO : ∀ g, v.ownBlock = some g → G < g) (hE : Els W d (fun b => G < b ∧ v.ownBlock ≠ some b) Y F)
    (hk : Below W.heap.size W w3) (hx : DrAt w3 d (fun b => W.heap.size ≤ b) x (.int .i64 k0) (.int .i64 k1) (.slice ta tn tc) (.slice la ln lc)) (o1 o2 : Obj)
    (hR : Rws w6 31 4 v' (Y.length + 1) (fun k => if k < Y.length * 4 then F k else [Value.int .i64 k0, .int .i64 k1, .slice ta tn tc, .slice la ln lc].getD (k - Y.length * 4) undef))
    (hG : Gr 31 (Y.length * 4) 4 ((w3.alloc o1).alloc o2) w6 v v') : LsAt w (w6.setCell ⟨G, 3, none⟩ v') G d v' (Y ++ [x]) ∧ w6.cell? ⟨G, 3, none⟩ = some v ∧ w6.frozen? ⟨G, 3, none⟩ = false := by
  have hW : G < W.heap.size := block_lt h.b6
  have hw3 := hk.size
  have s5 : ((w3.alloc o1).alloc o2).heap.size = w3.heap.size + 2 := by simp
  have al : ∀ b, b < w3.heap.size → ((w3.alloc o1).alloc o2).heap[b]? = w3.heap[b]? := fun b hb => (heap_alloc_old (w3.alloc o1) o2 (by simp; omega)).trans (heap_alloc_old w3 o1 hb)
  have k6 : ∀ b, b < w3.heap.size → v.ownBlock ≠ some b → w6.heap[b]? = w3.heap[b]? := fun b hb hv => (hG.other b (by omega) hv).trans (al b hb)
  have g6 : ((w3.alloc o1).alloc o2).heap.size ≤ w6.heap.size := hG.size
  have own : ∀ g, v'.ownBlock = some g → v.ownBlock = some g ∨ w3.heap.size ≤ g := fun g hg => by
    rcases hG.how with ⟨g', cur, cur', e1, e2, _⟩ | ⟨e2, _⟩
    · rw [hg] at e2; cases e2; exact .inl e1
    · rw [hg] at e2; cases e2; right; omega
  have vlt : ∀ g, v.ownBlock = some g → g < W.heap.size := hF.lt
  have vno : ∀ k, k ≤ G → v.ownBlock ≠ some k := fun k hk e => by have := hO k e; omega
  have ownB : ∀ g, v'.ownBlock = some g → G < g := fun g hg => by
    rcases own g hg with q | q
    · exact hO g q
    · omega
  have k7 : ∀ b, b ≠ G → (w6.setCell ⟨G, 3, none⟩ v').heap[b]? = w6.heap[b]? := fun b hb => Bk.setCell_else _ _ _ _ _ hb
  have lowB : ∀ b, b ≤ G → w6.heap[b]? = W.heap[b]? := fun b hb => (k6 b (by omega) (vno b hb)).trans (hk.block b (by omega))
  have hg := h.gw
  have hb6 := (lowB _ (Nat.le_refl _)).trans h.b6
  refine ⟨⟨⟨⟨?_, ?_, ?_, ?_, fun k hk1 => ?_⟩, ?_⟩, hg, ?_, _, (by rw [List.length_append]; exact hR.same (fun g hg => k7 g (by have := ownB g hg; omega))), ownB, ?_⟩, by rw [cell_of_row _ _ _ _ _ _ hb6]; rfl, by simp only [World.frozen?, hb6]; simp⟩
  · exact (hG.os.trans hk.os).trans h.ix.k.os
  · exact (hG.tape.trans hk.tape).trans h.ix.k.tape
  · exact (hG.output.trans hk.output).trans h.ix.k.output
  · have := h.ix.k.size; simp; omega
  · rw [k7 k (by omega), lowB k (by omega), h.ix.k.block k hk1]
  · rw [k7 _ (by omega), lowB _ (by omega), h.ix.box]
  · rw [Bk.setCell_block _ _ 3 v' _ _ _ hb6]
    rfl
  · refine hE.push W.heap.size (fun i y Q hi hQ hD => ?_) (fun b hb hlt => ⟨hb.1, fun e => ?_⟩) ?_
    · have q : i < Y.length := (List.getElem?_eq_some_iff.1 hi).1
      have c : ∀ j, j < 4 → i * 4 + j < Y.length * 4 := fun j hj => by omega
      have e0 := c 0 (by omega)
      have e1 := c 1 (by omega)
      have e2 := c 2 (by omega)
      have e3 := c 3 (by omega)
      simp only [Nat.add_zero] at e0
      simp only [if_pos e0, if_pos e1, if_pos e2, if_pos e3]
      exact (hD.tight.same (w' := w3) (fun b hb hlt => hk.block b hlt)).same (w' := w6.setCell ⟨G, 3, none⟩ v') (fun b hb hlt => (k7 b (by have := (hQ b hb.1).1; omega)).trans (k6 b hlt (hQ b hb.1).2))
    · rcases own b e with q2 | q2
      · exact hb.2 q2
      · omega
    · have c : ∀ j, ¬ (Y.length * 4 + j < Y.length * 4) := fun j => by omega
      have c0 : ¬ (Y.length * 4 < Y.length * 4) := by omega
      simp only [if_neg (c 1), if_neg (c 2), if_neg (c 3), if_neg c0, Nat.add_sub_cancel_left, Nat.sub_self]
      refine (hx.tight.same (w' := w6.setCell ⟨G, 3, none⟩ v') (fun b hb hlt => (k7 b (by omega)).trans (k6 b hlt (fun e => by have := vlt b e; omega)))).mono (fun b hb => ⟨hb.1, by omega, fun e => ?_⟩)
      rcases own b e with q2 | q2
      · have := vlt b q2; omega
      · omega
/-- the list's end -/
theorem LsAt.out {w W : World} {G d : Nat} {va : Option Addr} {vn vc : Nat} {Y : List (Tr d)} (h : LsAt w W G d (.slice va vn vc) Y) :
    DrAt ((((W.setCell ⟨w.heap.size, 0, none⟩ (.int .i64 6)).setCell ⟨w.heap.size, 1, none⟩ (.int .i64 0)).setCell ⟨w.heap.size, 2, none⟩ (.slice none 0 0)).setCell ⟨w.heap.size, 3, none⟩ (.slice va vn vc)) (d + 1) (fun b => w.heap.size ≤ b) (mkR 6 0 [] Y) (.int .i64 6) (.int .i64 0) (.slice none 0 0) (.slice va vn vc) := by
  have hb : ∀ k, k ≠ w.heap.size → ((((W.setCell ⟨w.heap.size, 0, none⟩ (.int .i64 6)).setCell ⟨w.heap.size, 1, none⟩ (.int .i64 0)).setCell ⟨w.heap.size, 2, none⟩ (.slice none 0 0)).setCell ⟨w.heap.size, 3, none⟩ (.slice va vn vc)).heap[k]? = W.heap[k]? := fun k hk => by
    rw [Bk.setCell_else _ _ _ _ _ hk, Bk.setCell_else _ _ _ _ _ hk, Bk.setCell_else _ _ _ _ _ hk, Bk.setCell_else _ _ _ _ _ hk]
  obtain ⟨F, h1, h2, Q, q1, q2, q3⟩ := h.row
  have := h.gw
  exact ⟨rfl, rfl, ⟨OwnB.nil _ _, small_nil, fun g hg => (by simp [Value.ownBlock] at hg)⟩, F, h1.same (fun g hg => hb g (by have := h2 g hg; omega)), fun g hg => (by have := h2 g hg; omega), Q, q1, fun i b hb' => ⟨by have := (q2 i b hb').1; omega, (q2 i b hb').2, by simp [Value.ownBlock]⟩, fun i y hi => (q3 i y hi).same (fun b hb' hlt => hb b (by have := (q2 i b hb').1; omega))⟩
theorem list_no8 (w : World) (a : Option Addr) (n cp I d : Nat) (r : List Nat) (h : Rst w a n cp (42 :: r)) (hs : Small r) (hl : n ≤ 1073741824) (hI : ((I : Int) == 8) = true) (Q : Larder8.St (Tr (d + 1))) (hP : (Larder8.numP (-1) (-1) r = .short ∧ Q = .short) ∨ (Larder8.numP (-1) (-1) r = .wrong ∧ Q = .wrong)) :
    Calls Tryz.prog 73 #[.slice a n cp, .int .i64 (I : Int)] w (ItEnd w (d + 1) n Q) := by
  have hlen := h.len
  have hle := h.le
  have htop := h.top
  simp only [List.length_cons] at hlen
  obtain ⟨b, off, rfl, hbl, hcell⟩ := h.at (show 0 < n by omega)
  have k1 : Below w.heap.size w (w.alloc (.cells #[.int .i64 0, .int .i64 0, .slice none 0 0, .slice none 0 0] 31)) := (Below.refl _ _).alloc (Nat.le_refl _) _
  have h1 := h.below k1
  have d1 : (w.alloc (.cells #[.int .i64 0, .int .i64 0, .slice none 0 0, .slice none 0 0] 31)).cell? ⟨b, off, none⟩ = some (.int .u8 42) := by
    rw [k1.cell (show b < _ from hbl)]
    exact hcell 0 (by omega)
  have q0 : (0 : Int) < (n : Int) := by omega
  have q1 : (1 : Int) ≤ (n : Int) := by omega
  have q2 : (1 : Int) ≤ (cp : Int) := by omega
  have q4 : ((n : Int) == 0) = false := by rw [beq_eq_false_iff_ne]; omega
  have B0 := hide (Ix.new w)
  have HR : Hid (∀ a', (a' = some ⟨b, off + 1, none⟩ ∨ cp = 1 ∧ a' = some ⟨b, off, none⟩) → Rst (w.alloc (.cells #[.int .i64 0, .int .i64 0, .slice none 0 0, .slice none 0 0] 31)) a' (n - 1) (cp - 1) r) := hide (fun a' ha => by
    rcases ha with e | ⟨e1, e2⟩
    · rw [e]; exact h1.drop 1 (by omega)
    · rw [e2]; have := h1.brim 1 e1; exact this)
  have HN := hide hlen
  have hP2 : ∀ y r', Larder8.numP (-1) (-1) r ≠ .ok y r' := fun y r' e => by rcases hP with h | h <;> (rw [h.1] at e; cases e)
  have HE : Hid (∀ st, StD (Larder8.numP (-1) (-1) r) st → StD Q st ∧ ∀ x r', Q = .ok x r' → False) := hide (fun st h => by
    rcases hP with ⟨h1, rfl⟩ | ⟨h1, rfl⟩
    · rw [h1] at h; exact ⟨h, fun x r' e => by cases e⟩
    · rw [h1] at h; exact ⟨h, fun x r' e => by cases e⟩)
  by_cases hcp : cp = 1
  · obtain rfl := hcp
    have H2 := hide (unhide HR (some ⟨b, off, none⟩) (.inr ⟨rfl, rfl⟩))
    rw [Nat.sub_self] at H2
    have CP := hide (rnum_no (unhide H2) hs (by omega) hP2)
    clear h h1 hcell k1 hlen hle htop HR H2 hP hP2 d1
    go_enter Tryz.func73, Tryz.ntmps73
    go_wp2_with (first
      | (go_at_call 71; with_reducible refine (unhide CP).mono ?_; rintro e w3 ⟨v, m, st, rfl, hst, hS, h3⟩; have B3 := hide ((unhide B0).next (unhide h3)); have z0 := (unhide B3).cell 0 _ rfl; have y0 := (unhide B3).froz 0; have z1 := (unhide B3).cell 1 _ rfl; have y1 := (unhide B3).froz 1; have z2 := (unhide B3).cell 2 _ rfl; have y2 := (unhide B3).froz 2; have z3 := (unhide B3).cell 3 _ rfl; have y3 := (unhide B3).froz 3))
    refine bodyPost_ret (list_end _ _ _ (store4 (unhide B3).box rfl _ _ _ _) rfl rfl rfl) rfl ?_
    exact ⟨7, 0, none, 0, 0, none, 0, 0, _, st, rfl, hide ⟨(unhide HE st (unhide hS)).1, (unhide B3).boxed _ _ _ _, fun x r' e => ((unhide HE st (unhide hS)).2 x r' e).elim⟩⟩
  · have hne : (cp = 1) = False := eq_false hcp
    clear hcp
    have H2 := hide (unhide HR (some ⟨b, off + 1, none⟩) (.inl rfl))
    have CP := hide (rnum_no (unhide H2) hs (by omega) hP2)
    clear h h1 hcell k1 hlen hle htop HR H2 hP hP2 d1
    go_enter Tryz.func73, Tryz.ntmps73
    go_wp2_with (first
      | (go_at_call 71; with_reducible refine (unhide CP).mono ?_; rintro e w3 ⟨v, m, st, rfl, hst, hS, h3⟩; have B3 := hide ((unhide B0).next (unhide h3)); have z0 := (unhide B3).cell 0 _ rfl; have y0 := (unhide B3).froz 0; have z1 := (unhide B3).cell 1 _ rfl; have y1 := (unhide B3).froz 1; have z2 := (unhide B3).cell 2 _ rfl; have y2 := (unhide B3).froz 2; have z3 := (unhide B3).cell 3 _ rfl; have y3 := (unhide B3).froz 3))
    refine bodyPost_ret (list_end _ _ _ (store4 (unhide B3).box rfl _ _ _ _) rfl rfl rfl) rfl ?_
    exact ⟨7, 0, none, 0, 0, none, 0, 0, _, st, rfl, hide ⟨(unhide HE st (unhide hS)).1, (unhide B3).boxed _ _ _ _, fun x r' e => ((unhide HE st (unhide hS)).2 x r' e).elim⟩⟩
theorem list_nil8 (w : World) (a : Option Addr) (n cp I d : Nat) (r : List Nat) (h : Rst w a n cp (42 :: r)) (hs : Small r) (hl : n ≤ 1073741824) (hI : ((I : Int) == 8) = true) (r' : List Nat) (hP : Larder8.numP (-1) (-1) r = .ok (-1) r') :
    Calls Tryz.prog 73 #[.slice a n cp, .int .i64 (I : Int)] w (ItEnd w (d + 1) n (.ok (mkR 7 0 [] []) r')) := by
  have hlen := h.len
  have hle := h.le
  have htop := h.top
  simp only [List.length_cons] at hlen
  obtain ⟨b, off, rfl, hbl, hcell⟩ := h.at (show 0 < n by omega)
  have k1 : Below w.heap.size w (w.alloc (.cells #[.int .i64 0, .int .i64 0, .slice none 0 0, .slice none 0 0] 31)) := (Below.refl _ _).alloc (Nat.le_refl _) _
  have h1 := h.below k1
  have d1 : (w.alloc (.cells #[.int .i64 0, .int .i64 0, .slice none 0 0, .slice none 0 0] 31)).cell? ⟨b, off, none⟩ = some (.int .u8 42) := by
    rw [k1.cell (show b < _ from hbl)]
    exact hcell 0 (by omega)
  have q0 : (0 : Int) < (n : Int) := by omega
  have q1 : (1 : Int) ≤ (n : Int) := by omega
  have q2 : (1 : Int) ≤ (cp : Int) := by omega
  have q4 : ((n : Int) == 0) = false := by rw [beq_eq_false_iff_ne]; omega
  have B0 := hide (Ix.new w)
  have HR : Hid (∀ a', (a' = some ⟨b, off + 1, none⟩ ∨ cp = 1 ∧ a' = some ⟨b, off, none⟩) → Rst (w.alloc (.cells #[.int .i64 0, .int .i64 0, .slice none 0 0, .slice none 0 0] 31)) a' (n - 1) (cp - 1) r) := hide (fun a' ha => by
    rcases ha with e | ⟨e1, e2⟩
    · rw [e]; exact h1.drop 1 (by omega)
    · rw [e2]; have := h1.brim 1 e1; exact this)
  have HN := hide hlen
  have hlt := congrArg List.length (Larder8.numP_text hP).1
  simp only [List.length_append, List.length_cons, List.length_nil] at hlt
  obtain ⟨q, hq⟩ : ∃ q, n - 1 = q + r'.length := ⟨n - 1 - r'.length, by omega⟩
  have HQ := hide hq
  have hq9 : q ≤ 1073741824 := by omega
  by_cases hcp : cp = 1
  · obtain rfl := hcp
    have H2 := hide (unhide HR (some ⟨b, off, none⟩) (.inr ⟨rfl, rfl⟩))
    rw [Nat.sub_self] at H2
    have CP := hide (rnum_ok (unhide H2) hs (by omega) q hP hq)
    clear h h1 hcell k1 hlen hle htop HR H2 hP hq hlt d1
    go_enter Tryz.func73, Tryz.ntmps73
    go_wp2_with (first
      | (go_at_call 71; with_reducible refine (unhide CP).mono ?_; rintro e w3 ⟨rfl, h3⟩; have B3 := hide ((unhide B0).next (unhide h3)); have z0 := (unhide B3).cell 0 _ rfl; have y0 := (unhide B3).froz 0; have z1 := (unhide B3).cell 1 _ rfl; have y1 := (unhide B3).froz 1; have z2 := (unhide B3).cell 2 _ rfl; have y2 := (unhide B3).froz 2; have z3 := (unhide B3).cell 3 _ rfl; have y3 := (unhide B3).froz 3))
    refine bodyPost_ret (list_end _ _ _ (store4 (unhide B3).box rfl _ _ _ _) rfl rfl rfl) rfl ?_
    refine ⟨7, 0, none, 0, 0, none, 0, 0, _, 0, rfl, hide ⟨rfl, (unhide B3).boxed _ _ _ _, fun x r' e => ?_⟩⟩
    cases e
    have hT := unhide HN
    have hQ := unhide HQ
    exact ⟨by omega, DrAt.leaf (OwnB.nil _ _) small_nil⟩
  · have hne : (cp = 1) = False := eq_false hcp
    clear hcp
    have H2 := hide (unhide HR (some ⟨b, off + 1, none⟩) (.inl rfl))
    have CP := hide (rnum_ok (unhide H2) hs (by omega) q hP hq)
    clear h h1 hcell k1 hlen hle htop HR H2 hP hq hlt d1
    go_enter Tryz.func73, Tryz.ntmps73
    go_wp2_with (first
      | (go_at_call 71; with_reducible refine (unhide CP).mono ?_; rintro e w3 ⟨rfl, h3⟩; have B3 := hide ((unhide B0).next (unhide h3)); have z0 := (unhide B3).cell 0 _ rfl; have y0 := (unhide B3).froz 0; have z1 := (unhide B3).cell 1 _ rfl; have y1 := (unhide B3).froz 1; have z2 := (unhide B3).cell 2 _ rfl; have y2 := (unhide B3).froz 2; have z3 := (unhide B3).cell 3 _ rfl; have y3 := (unhide B3).froz 3))
    refine bodyPost_ret (list_end _ _ _ (store4 (unhide B3).box rfl _ _ _ _) rfl rfl rfl) rfl ?_
    refine ⟨7, 0, none, 0, 0, none, 0, 0, _, 0, rfl, hide ⟨rfl, (unhide B3).boxed _ _ _ _, fun x r' e => ?_⟩⟩
    cases e
    have hT := unhide HN
    have hQ := unhide HQ
    exact ⟨by omega, DrAt.leaf (OwnB.nil _ _) small_nil⟩
theorem list_no (w : World) (a : Option Addr) (n cp I d : Nat) (r : List Nat) (h : Rst w a n cp (42 :: r)) (hs : Small r) (hl : n ≤ 1073741824) (hI : ((I : Int) == 8) = false) (Q : Larder8.St (Tr (d + 1))) (hP : (Larder8.numP (-1) 65536 r = .short ∧ Q = .short) ∨ (Larder8.numP (-1) 65536 r = .wrong ∧ Q = .wrong)) :
    Calls Tryz.prog 73 #[.slice a n cp, .int .i64 (I : Int)] w (ItEnd w (d + 1) n Q) := by
  have hlen := h.len
  have hle := h.le
  have htop := h.top
  simp only [List.length_cons] at hlen
  obtain ⟨b, off, rfl, hbl, hcell⟩ := h.at (show 0 < n by omega)
  have k1 : Below w.heap.size w (w.alloc (.cells #[.int .i64 0, .int .i64 0, .slice none 0 0, .slice none 0 0] 31)) := (Below.refl _ _).alloc (Nat.le_refl _) _
  have h1 := h.below k1
  have d1 : (w.alloc (.cells #[.int .i64 0, .int .i64 0, .slice none 0 0, .slice none 0 0] 31)).cell? ⟨b, off, none⟩ = some (.int .u8 42) := by
    rw [k1.cell (show b < _ from hbl)]
    exact hcell 0 (by omega)
  have q0 : (0 : Int) < (n : Int) := by omega
  have q1 : (1 : Int) ≤ (n : Int) := by omega
  have q2 : (1 : Int) ≤ (cp : Int) := by omega
  have q4 : ((n : Int) == 0) = false := by rw [beq_eq_false_iff_ne]; omega
  have B0 := hide (Ix.new w)
  have HR : Hid (∀ a', (a' = some ⟨b, off + 1, none⟩ ∨ cp = 1 ∧ a' = some ⟨b, off, none⟩) → Rst (w.alloc (.cells #[.int .i64 0, .int .i64 0, .slice none 0 0, .slice none 0 0] 31)) a' (n - 1) (cp - 1) r) := hide (fun a' ha => by
    rcases ha with e | ⟨e1, e2⟩
    · rw [e]; exact h1.drop 1 (by omega)
    · rw [e2]; have := h1.brim 1 e1; exact this)
  have HN := hide hlen
  have hP2 : ∀ y r', Larder8.numP (-1) 65536 r ≠ .ok y r' := fun y r' e => by rcases hP with h | h <;> (rw [h.1] at e; cases e)
  have HE : Hid (∀ st, StD (Larder8.numP (-1) 65536 r) st → StD Q st ∧ ∀ x r', Q = .ok x r' → False) := hide (fun st h => by
    rcases hP with ⟨h1, rfl⟩ | ⟨h1, rfl⟩
    · rw [h1] at h; exact ⟨h, fun x r' e => by cases e⟩
    · rw [h1] at h; exact ⟨h, fun x r' e => by cases e⟩)
  by_cases hcp : cp = 1
  · obtain rfl := hcp
    have H2 := hide (unhide HR (some ⟨b, off, none⟩) (.inr ⟨rfl, rfl⟩))
    rw [Nat.sub_self] at H2
    have CP := hide (rnum_no (unhide H2) hs (by omega) hP2)
    clear h h1 hcell k1 hlen hle htop HR H2 hP hP2 d1
    go_enter Tryz.func73, Tryz.ntmps73
    go_wp2_with (first
      | (go_at_call 71; with_reducible refine (unhide CP).mono ?_; rintro e w3 ⟨v, m, st, rfl, hst, hS, h3⟩; have B3 := hide ((unhide B0).next (unhide h3)); have z0 := (unhide B3).cell 0 _ rfl; have y0 := (unhide B3).froz 0; have z1 := (unhide B3).cell 1 _ rfl; have y1 := (unhide B3).froz 1; have z2 := (unhide B3).cell 2 _ rfl; have y2 := (unhide B3).froz 2; have z3 := (unhide B3).cell 3 _ rfl; have y3 := (unhide B3).froz 3))
    refine bodyPost_ret (list_end _ _ _ (store4 (unhide B3).box rfl _ _ _ _) rfl rfl rfl) rfl ?_
    exact ⟨7, 0, none, 0, 0, none, 0, 0, _, st, rfl, hide ⟨(unhide HE st (unhide hS)).1, (unhide B3).boxed _ _ _ _, fun x r' e => ((unhide HE st (unhide hS)).2 x r' e).elim⟩⟩
  · have hne : (cp = 1) = False := eq_false hcp
    clear hcp
    have H2 := hide (unhide HR (some ⟨b, off + 1, none⟩) (.inl rfl))
    have CP := hide (rnum_no (unhide H2) hs (by omega) hP2)
    clear h h1 hcell k1 hlen hle htop HR H2 hP hP2 d1
    go_enter Tryz.func73, Tryz.ntmps73
    go_wp2_with (first
      | (go_at_call 71; with_reducible refine (unhide CP).mono ?_; rintro e w3 ⟨v, m, st, rfl, hst, hS, h3⟩; have B3 := hide ((unhide B0).next (unhide h3)); have z0 := (unhide B3).cell 0 _ rfl; have y0 := (unhide B3).froz 0; have z1 := (unhide B3).cell 1 _ rfl; have y1 := (unhide B3).froz 1; have z2 := (unhide B3).cell 2 _ rfl; have y2 := (unhide B3).froz 2; have z3 := (unhide B3).cell 3 _ rfl; have y3 := (unhide B3).froz 3))
    refine bodyPost_ret (list_end _ _ _ (store4 (unhide B3).box rfl _ _ _ _) rfl rfl rfl) rfl ?_
    exact ⟨7, 0, none, 0, 0, none, 0, 0, _, st, rfl, hide ⟨(unhide HE st (unhide hS)).1, (unhide B3).boxed _ _ _ _, fun x r' e => ((unhide HE st (unhide hS)).2 x r' e).elim⟩⟩
theorem list_nil (w : World) (a : Option Addr) (n cp I d : Nat) (r : List Nat) (h : Rst w a n cp (42 :: r)) (hs : Small r) (hl : n ≤ 1073741824) (hI : ((I : Int) == 8) = false) (r' : List Nat) (hP : Larder8.numP (-1) 65536 r = .ok (-1) r') :
    Calls Tryz.prog 73 #[.slice a n cp, .int .i64 (I : Int)] w (ItEnd w (d + 1) n (.ok (mkR 7 0 [] []) r')) := by
  have hlen := h.len
  have hle := h.le
  have htop := h.top
  simp only [List.length_cons] at hlen
  obtain ⟨b, off, rfl, hbl, hcell⟩ := h.at (show 0 < n by omega)
  have k1 : Below w.heap.size w (w.alloc (.cells #[.int .i64 0, .int .i64 0, .slice none 0 0, .slice none 0 0] 31)) := (Below.refl _ _).alloc (Nat.le_refl _) _
  have h1 := h.below k1
  have d1 : (w.alloc (.cells #[.int .i64 0, .int .i64 0, .slice none 0 0, .slice none 0 0] 31)).cell? ⟨b, off, none⟩ = some (.int .u8 42) := by
    rw [k1.cell (show b < _ from hbl)]
    exact hcell 0 (by omega)
  have q0 : (0 : Int) < (n : Int) := by omega
  have q1 : (1 : Int) ≤ (n : Int) := by omega
  have q2 : (1 : Int) ≤ (cp : Int) := by omega
  have q4 : ((n : Int) == 0) = false := by rw [beq_eq_false_iff_ne]; omega
  have B0 := hide (Ix.new w)
  have HR : Hid (∀ a', (a' = some ⟨b, off + 1, none⟩ ∨ cp = 1 ∧ a' = some ⟨b, off, none⟩) → Rst (w.alloc (.cells #[.int .i64 0, .int .i64 0, .slice none 0 0, .slice none 0 0] 31)) a' (n - 1) (cp - 1) r) := hide (fun a' ha => by
    rcases ha with e | ⟨e1, e2⟩
    · rw [e]; exact h1.drop 1 (by omega)
    · rw [e2]; have := h1.brim 1 e1; exact this)
  have HN := hide hlen
  have hlt := congrArg List.length (Larder8.numP_text hP).1
  simp only [List.length_append, List.length_cons, List.length_nil] at hlt
  obtain ⟨q, hq⟩ : ∃ q, n - 1 = q + r'.length := ⟨n - 1 - r'.length, by omega⟩
  have HQ := hide hq
  have hq9 : q ≤ 1073741824 := by omega
  by_cases hcp : cp = 1
  · obtain rfl := hcp
    have H2 := hide (unhide HR (some ⟨b, off, none⟩) (.inr ⟨rfl, rfl⟩))
    rw [Nat.sub_self] at H2
    have CP := hide (rnum_ok (unhide H2) hs (by omega) q hP hq)
    clear h h1 hcell k1 hlen hle htop HR H2 hP hq hlt d1
    go_enter Tryz.func73, Tryz.ntmps73
    go_wp2_with (first
      | (go_at_call 71; with_reducible refine (unhide CP).mono ?_; rintro e w3 ⟨rfl, h3⟩; have B3 := hide ((unhide B0).next (unhide h3)); have z0 := (unhide B3).cell 0 _ rfl; have y0 := (unhide B3).froz 0; have z1 := (unhide B3).cell 1 _ rfl; have y1 := (unhide B3).froz 1; have z2 := (unhide B3).cell 2 _ rfl; have y2 := (unhide B3).froz 2; have z3 := (unhide B3).cell 3 _ rfl; have y3 := (unhide B3).froz 3))
    refine bodyPost_ret (list_end _ _ _ (store4 (unhide B3).box rfl _ _ _ _) rfl rfl rfl) rfl ?_
    refine ⟨7, 0, none, 0, 0, none, 0, 0, _, 0, rfl, hide ⟨rfl, (unhide B3).boxed _ _ _ _, fun x r' e => ?_⟩⟩
    cases e
    have hT := unhide HN
    have hQ := unhide HQ
    exact ⟨by omega, DrAt.leaf (OwnB.nil _ _) small_nil⟩
  · have hne : (cp = 1) = False := eq_false hcp
    clear hcp
    have H2 := hide (unhide HR (some ⟨b, off + 1, none⟩) (.inl rfl))
    have CP := hide (rnum_ok (unhide H2) hs (by omega) q hP hq)
    clear h h1 hcell k1 hlen hle htop HR H2 hP hq hlt d1
    go_enter Tryz.func73, Tryz.ntmps73
    go_wp2_with (first
      | (go_at_call 71; with_reducible refine (unhide CP).mono ?_; rintro e w3 ⟨rfl, h3⟩; have B3 := hide ((unhide B0).next (unhide h3)); have z0 := (unhide B3).cell 0 _ rfl; have y0 := (unhide B3).froz 0; have z1 := (unhide B3).cell 1 _ rfl; have y1 := (unhide B3).froz 1; have z2 := (unhide B3).cell 2 _ rfl; have y2 := (unhide B3).froz 2; have z3 := (unhide B3).cell 3 _ rfl; have y3 := (unhide B3).froz 3))
    refine bodyPost_ret (list_end _ _ _ (store4 (unhide B3).box rfl _ _ _ _) rfl rfl rfl) rfl ?_
    refine ⟨7, 0, none, 0, 0, none, 0, 0, _, 0, rfl, hide ⟨rfl, (unhide B3).boxed _ _ _ _, fun x r' e => ?_⟩⟩
    cases e
    have hT := unhide HN
    have hQ := unhide HQ
    exact ⟨by omega, DrAt.leaf (OwnB.nil _ _) small_nil⟩
end Go.Proofs.YtecfgbjnjgjkoaaGreatDoor
namespace Go.Proofs.YtecfgbjnjgjkoaaGreatDoor
open Go.ChangeShapes Go.WideShapes Go.ChangeAt Go.RowKit
set_option linter.unusedVariables false
set_option linter.unusedSimpArgs false
set_option maxRecDepth 20000
set_option maxHeartbeats 20000000

/-- the document reads replies inside so many arrays -/
def ItOk (d : Nat) (I : Int) : Prop := ∀ (W : World) (a : Option Addr) (n cp : Nat) (R : List Nat), Rst W a n cp R → Small R → n ≤ 1073741824 → Calls Tryz.prog 53 #[.slice a n cp, .int .i64 I] W (ItEnd W d n (repP d R))
theorem it_no {d : Nat} {I : Int} (H : ItOk d I) {W : World} {a : Option Addr} {n cp : Nat} {R : List Nat} (h : Rst W a n cp R) (hs : Small R) (hl : n ≤ 1073741824) (hP : ∀ y r, repP d R ≠ .ok y r) :
    Calls Tryz.prog 53 #[.slice a n cp, .int .i64 I] W fun e w' => ∃ (k0 k1 : Int) (ta : Option Addr) (tn tc : Nat) (la : Option Addr) (ln lc : Nat) (m st : Int), e = .returned (.tuple #[.agg #[.int .i64 k0, .int .i64 k1, .slice ta tn tc, .slice la ln lc], .int .i64 m, .int .i64 st]) ∧ (st != 0) = true ∧ Hid (StD (repP d R) st) ∧ Hid (Below W.heap.size W w') :=
  (H W a n cp R h hs hl).mono (fun e w' ⟨k0, k1, ta, tn, tc, la, ln, lc, m, st, h1, h2⟩ => ⟨k0, k1, ta, tn, tc, la, ln, lc, m, st, h1, (unhide h2).1.no hP, hide (unhide h2).1, hide (unhide h2).2.1⟩)
theorem it_ok {d : Nat} {I : Int} (H : ItOk d I) {W : World} {a : Option Addr} {n cp : Nat} {R r : List Nat} {x : Tr d} (h : Rst W a n cp R) (hs : Small R) (hl : n ≤ 1073741824) (q : Nat) (hP : repP d R = .ok x r) (hq : n = q + r.length) :
    Calls Tryz.prog 53 #[.slice a n cp, .int .i64 I] W fun e w' => ∃ (k0 k1 : Int) (ta : Option Addr) (tn tc : Nat) (la : Option Addr) (ln lc : Nat), e = .returned (.tuple #[.agg #[.int .i64 k0, .int .i64 k1, .slice ta tn tc, .slice la ln lc], .int .i64 (q : Nat), .int .i64 0]) ∧ Hid (Below W.heap.size W w' ∧ DrAt w' d (fun b => W.heap.size ≤ b) x (.int .i64 k0) (.int .i64 k1) (.slice ta tn tc) (.slice la ln lc)) :=
  (H W a n cp R h hs hl).mono (fun e w' ⟨k0, k1, ta, tn, tc, la, ln, lc, m, st, h1, h2⟩ => by
    obtain ⟨h3, h4, h5⟩ := unhide h2
    obtain ⟨h6, h7⟩ := h5 x r hP
    rw [hP] at h3
    have h3' : st = 0 := h3
    exact ⟨k0, k1, ta, tn, tc, la, ln, lc, by rw [h1, h3', h6, show ((n : Int) - (r.length : Int)) = (q : Int) by omega], hide ⟨h4, h7⟩⟩)
theorem listP_ok {α : Type} {f : List Nat → Larder8.St α} {k : Nat} {R r : List Nat} {x : α} (h : f R = .ok x r) : Larder8.listP f (k + 1) R = (Larder8.listP f k r).map (x :: ·) := by
  conv => lhs; unfold Larder8.listP; rw [h]
theorem map_map {α β γ : Type} (f : α → β) (g : β → γ) (P : Larder8.St α) : (P.map f).map g = P.map (fun x => g (f x)) := by cases P <;> rfl
theorem list_bad {α β : Type} {f : List Nat → Larder8.St α} {k : Nat} {R : List Nat} (hP : ∀ y r, f R ≠ .ok y r) (g : List α → β) (g2 : β → β) (st : Int) (h : StD (f R) st) : StD (((Larder8.listP f (k + 1) R).map g).map g2) st ∧ ∀ x r', ((Larder8.listP f (k + 1) R).map g).map g2 = .ok x r' → False := by
  unfold Larder8.listP
  cases hq : f R with
  | ok y r => exact absurd hq (hP y r)
  | short => rw [hq] at h; exact ⟨h, fun x r' e => by cases e⟩
  | wrong => rw [hq] at h; exact ⟨h, fun x r' e => by cases e⟩
theorem rep_less {d : Nat} {R r : List Nat} {x : Tr d} (h : repP d R = .ok x r) : r.length < R.length := by
  have h1 := repP_text d R x r h
  have h2 := congrArg List.length h1.1
  have h3 : 0 < (encL d x).length := List.length_pos_iff.2 h1.2.1
  rw [List.length_append] at h2
  omega
theorem list_some (w : World) (a : Option Addr) (n cp I d : Nat) (r : List Nat) (h : Rst w a n cp (42 :: r)) (hs : Small r) (hl : n ≤ 1073741824) (hI : I ≤ 7) (hd : d ≠ 0) (RP : ItOk d ((I : Int) + 1)) (r' : List Nat) (N : Nat) (hP : Larder8.numP (-1) 65536 r = .ok (N : Int) r') :
    Calls Tryz.prog 73 #[.slice a n cp, .int .i64 (I : Int)] w (ItEnd w (d + 1) n ((Larder8.listP (repP d) N r').map (fun l => (mkR 6 0 [] l)))) := by
  have hlen := h.len
  have hle := h.le
  have htop := h.top
  simp only [List.length_cons] at hlen
  obtain ⟨b, off, rfl, hbl, hcell⟩ := h.at (show 0 < n by omega)
  have k1 : Below w.heap.size w (w.alloc (.cells #[.int .i64 0, .int .i64 0, .slice none 0 0, .slice none 0 0] 31)) := (Below.refl _ _).alloc (Nat.le_refl _) _
  have h1 := h.below k1
  have d1 : (w.alloc (.cells #[.int .i64 0, .int .i64 0, .slice none 0 0, .slice none 0 0] 31)).cell? ⟨b, off, none⟩ = some (.int .u8 42) := by
    rw [k1.cell (show b < _ from hbl)]
    exact hcell 0 (by omega)
  have q0 : (0 : Int) < (n : Int) := by omega
  have q1 : (1 : Int) ≤ (n : Int) := by omega
  have q2 : (1 : Int) ≤ (cp : Int) := by omega
  have q4 : ((n : Int) == 0) = false := by rw [beq_eq_false_iff_ne]; omega
  have B0 := hide (Ix.new w)
  have HR : Hid (∀ a', (a' = some ⟨b, off + 1, none⟩ ∨ cp = 1 ∧ a' = some ⟨b, off, none⟩) → Rst (w.alloc (.cells #[.int .i64 0, .int .i64 0, .slice none 0 0, .slice none 0 0] 31)) a' (n - 1) (cp - 1) r) := hide (fun a' ha => by
    rcases ha with e | ⟨e1, e2⟩
    · rw [e]; exact h1.drop 1 (by omega)
    · rw [e2]; have := h1.brim 1 e1; exact this)
  have HN := hide hlen
  have hin := Larder8.numP_in hP
  have htx := (Larder8.numP_text hP).1
  have hlt := congrArg List.length htx
  simp only [List.length_append, List.length_cons, List.length_nil] at hlt
  obtain ⟨q, hq⟩ : ∃ q, n - 1 = q + r'.length := ⟨n - 1 - r'.length, by omega⟩
  obtain ⟨q1', hq1⟩ : ∃ q1, q1 = 1 + q := ⟨_, rfl⟩
  have hdr : (42 :: r).drop q1' = r' := by
    rw [hq1, Nat.add_comm, List.drop_succ_cons, ← htx]
    have hpl : (Larder.spellI (N : Int) ++ [13, 10]).length = q := by rw [List.length_append]; simp; omega
    rw [← hpl, List.drop_left]
  have hI8 : ((I : Int) == 8) = false := by rw [beq_eq_false_iff_ne]; omega
  have hN9 : N ≤ 65536 := by omega
  have hcp : cp ≠ 1 := by omega
  have hne : (cp = 1) = False := eq_false hcp
  have H2 := hide (unhide HR (some ⟨b, off + 1, none⟩) (.inl rfl))
  have CP := hide (rnum_ok (unhide H2) hs (by omega) q hP hq)
  have hTs : Small (42 :: r) := fun i hi => by
    cases i with
    | zero => simp
    | succ i => simpa using hs i (by simpa using hi)
  have HSM : Hid (∀ at', Small ((42 :: r).drop at')) := hide (fun at' => hTs.drop at')
  have H3 : Hid (∀ W at' a', Below w.heap.size w W → at' ≤ n → (a' = some ⟨b, off + at', none⟩ ∨ cp = at' ∧ a' = some ⟨b, off, none⟩) → Rst W a' (n - at') (cp - at') ((42 :: r).drop at')) := hide (fun W at' a' hW hat ha => by
    have hb := h.below hW
    rcases ha with e | ⟨e1, e2⟩
    · rw [e]; exact hb.drop at' hat
    · rw [e2]; exact hb.brim at' e1)
  have s1 : (1 : Int) + (q : Int) = (q1' : Int) := by omega
  have s5 : decide ((N : Int) < 0) = false := decide_eq_false (by omega)
  have HQ : Hid (n = q1' + r'.length) := hide (by omega)
  have HLE := hide hle
  have HLN : Hid ((42 :: r).length = n) := hide (by rw [List.length_cons]; omega)
  have HDR := hide hdr
  have HRP := hide RP
  have HD := hide hd
  obtain ⟨i31, hi31, hz31, hs31, hb31⟩ := info_parts4 Tryz.info31s
  clear h h1 hcell k1 hlen hle htop HR H2 hP hq hlt htx hdr hq1 hcp hin hs hTs RP hd d1
  go_enter Tryz.func73, Tryz.ntmps73
  go_wp2_with (first
    | (go_at_call 71; with_reducible refine (unhide CP).mono ?_; rintro e w3 ⟨rfl, h3⟩; have B2 := hide ((unhide B0).next (unhide h3)); have L0 := hide (LsAt.start (unhide B2) d))
    )
  go_loopw [11] (fun av wr => ∃ (at' i : Nat) (va : Option Addr) (vc : Nat) (Y : List (Tr d)), av = .int .i64 (at' : Nat) ∧ at' ≤ n ∧ i ≤ N ∧ Hid (LsAt w wr w3.heap.size d (.slice va i vc) Y ∧ Y.length = i ∧ Larder8.listP (repP d) N r' = (Larder8.listP (repP d) (N - i) ((42 :: r).drop at')).map (Y ++ ·))) (fun av _ => n - (intOf av).toNat)
  case atStart => exact ⟨q1', 0, none, 0, [], by rw [show wrap64 (q1' : Int) = (q1' : Int) by have := unhide HQ; unfold wrap64; omega], by have := unhide HQ; omega, Nat.zero_le _, hide ⟨unhide L0, rfl, by rw [unhide HDR]; cases Larder8.listP (repP d) N r' <;> rfl⟩⟩
  case round =>
    obtain ⟨at', i, va, vc, Y, rfl, hat, hi, HS⟩ := hrel
    rename World => wr
    have l3 : wr.cell? ⟨w3.heap.size, 3, none⟩ = some (.slice va i vc) := by rw [cell_of_row _ _ _ _ _ _ (unhide HS).1.b6]; rfl
    by_cases hlt : i < N
    · have f1 : decide ((i : Int) < (N : Int)) = true := decide_eq_true (by omega)
      have u1 : (at' : Int) ≤ (n : Int) := by omega
      have u2 : (at' : Int) ≤ (cp : Int) := by have := unhide HLE; omega
      have u3 : (0 : Int) ≤ (at' : Int) := by omega
      have hmi : N - i = (N - (i + 1)) + 1 := by omega
      have u4 : n - at' ≤ 1073741824 := by omega
      have BI := hide (unhide HS).1.ix
      by_cases hcq : cp = at'
      · have hR0 : (42 :: r).drop at' = [] := List.drop_eq_nil_of_le (by have := unhide HLN; have := unhide HLE; omega)
        have hsh : repP d [] = .short := by
          obtain ⟨d', hd'⟩ : ∃ d', d = d' + 1 := ⟨d - 1, by have := unhide HD; omega⟩
          subst hd'
          rfl
        have CN := hide (it_no (unhide HRP) (unhide H3 wr at' _ (unhide BI).k hat (.inr ⟨hcq, rfl⟩)) (unhide HSM at') u4 (fun y r e => by rw [hR0, hsh] at e; cases e))
        rw [hcq, Nat.sub_self] at CN
        have ES : Hid (∀ st, StD (repP d ((42 :: r).drop at')) st → StD ((Larder8.listP (repP d) N r').map (fun l => (mkR 6 0 [] l : Tr (d + 1)))) st ∧ ∀ x r2, (Larder8.listP (repP d) N r').map (fun l => (mkR 6 0 [] l : Tr (d + 1))) = .ok x r2 → False) := hide (fun st h => by
          rw [hR0, hsh] at h
          rw [(unhide HS).2.2, hmi, hR0]
          have : Larder8.listP (repP d) (N - (i + 1) + 1) [] = .short := by unfold Larder8.listP; rw [hsh]
          rw [this]
          exact ⟨h, fun x r2 e => by cases e⟩)
        have hcq' : (cp = at') = True := eq_true hcq
        have hcs : cp - at' = 0 := by omega
        clear hcq hR0 hsh hmi
        go_wp2_with (first
          | (go_at_call 53; with_reducible refine (unhide CN).mono ?_; rintro e w5 ⟨k0, k1, ta, tn, tc, la, ln, lc, m, st, rfl, hst, hS, h5⟩; have B6 := hide (((unhide BI).next (unhide h5)).next ((Below.refl _ _).alloc (Nat.le_refl _) (.cells #[.int .i64 k0, .int .i64 k1, .slice ta tn tc, .slice la ln lc] 31))); have z0 := (unhide B6).cell 0 _ rfl; have y0 := (unhide B6).froz 0; have z1 := (unhide B6).cell 1 _ rfl; have y1 := (unhide B6).froz 1; have z2 := (unhide B6).cell 2 _ rfl; have y2 := (unhide B6).froz 2; have z3 := (unhide B6).cell 3 _ rfl; have y3 := (unhide B6).froz 3))
        refine bodyPost_ret (list_end _ _ _ (store4 (unhide B6).box rfl _ _ _ _) rfl rfl rfl) rfl ?_
        exact ⟨0, 0, none, 0, 0, none, 0, 0, 0, st, rfl, hide ⟨(unhide ES st (unhide hS)).1, (unhide B6).boxed _ _ _ _, fun x r3 e => ((unhide ES st (unhide hS)).2 x r3 e).elim⟩⟩
      · have hnq : (cp = at') = False := eq_false hcq
        have HRA := hide (unhide H3 wr at' _ (unhide BI).k hat (.inl rfl))
        clear hcq
        cases hq : repP d ((42 :: r).drop at') with
        | ok x R2 =>
          have hless := rep_less hq
          obtain ⟨p, hp⟩ : ∃ p, n - at' = p + R2.length := ⟨n - at' - R2.length, by have := (unhide HRA).len; omega⟩
          have CO := hide (it_ok (unhide HRP) (unhide HRA) (unhide HSM at') u4 p hq hp)
          obtain ⟨at2, hat2⟩ : ∃ at2, at2 = at' + p := ⟨_, rfl⟩
          have v1 : (at' : Int) + (p : Int) = (at2 : Int) := by omega
          have hR2 : (42 :: r).drop at2 = R2 := by
            have h1 := (repP_text d _ x R2 hq).1
            have hl2 := (unhide HRA).len
            have h2 : ((42 :: r).drop at').drop p = R2 := by
              have hpl : (encL d x).length = p := by
                have := congrArg List.length h1
                rw [List.length_append] at this
                omega
              rw [← h1, ← hpl, List.drop_left]
            rw [hat2, ← List.drop_drop]
            exact h2
          have v2 : at2 ≤ n := by omega
          have v3 : at' < at2 := by have := (unhide HRA).len; omega
          have HE : Hid (Larder8.listP (repP d) N r' = (Larder8.listP (repP d) (N - (i + 1)) ((42 :: r).drop at2)).map ((Y ++ [x]) ++ ·)) := hide (by rw [(unhide HS).2.2, hmi, listP_ok hq, map_map, hR2]; congr 1; funext y; simp)
          obtain ⟨F, hF, hO, hEl⟩ := (unhide HS).1.row
          have HYL := hide (unhide HS).2.1
          have RW : Hid (∀ w5, Below wr.heap.size wr w5 → ∀ o1 o2, Rws ((w5.alloc o1).alloc o2) 31 4 (.slice va i vc) i F) := hide (fun w5 k o1 o2 => by
            rw [unhide HYL] at hF
            exact ((hF.below k).below ((Below.refl _ _).alloc (Nat.le_refl _) o1)).below ((Below.refl _ _).alloc (Nat.le_refl _) o2))
          have ST : Hid (∀ w5 v1 w6 o1 o2 k0 k1 ta tn tc la ln lc, Below wr.heap.size wr w5 → DrAt w5 d (fun b => wr.heap.size ≤ b) x (.int .i64 k0) (.int .i64 k1) (.slice ta tn tc) (.slice la ln lc) → Rws w6 31 4 v1 (i + 1) (fun k => if k < i * 4 then F k else [Value.int .i64 k0, .int .i64 k1, .slice ta tn tc, .slice la ln lc].getD (k - i * 4) undef) → Gr 31 (i * 4) 4 ((w5.alloc o1).alloc o2) w6 (.slice va i vc) v1 → LsAt w (w6.setCell ⟨w3.heap.size, 3, none⟩ v1) w3.heap.size d v1 (Y ++ [x]) ∧ w6.cell? ⟨w3.heap.size, 3, none⟩ = some (.slice va i vc) ∧ w6.frozen? ⟨w3.heap.size, 3, none⟩ = false) := hide (fun w5 v1 w6 o1 o2 k0 k1 ta tn tc la ln lc q1 q2 q3 q4 => by
            have hl0 := unhide HYL
            exact (unhide HS).1.step hF hO hEl q1 q2 o1 o2 (by rw [hl0]; exact q3) (by rw [hl0]; exact q4))
          have MC : Hid (∀ (W : World) (o1 : Obj) (q : List Value), ∀ j y, q[j]? = some y → ((W.alloc o1).alloc (.cells q.toArray 31)).cell? ⟨W.heap.size + 1, j, none⟩ = some y) := hide (fun W o1 q j y hj => by
            have := made_cells (W.alloc o1) q 31 j y hj
            rw [World.size_alloc] at this
            exact this)
          have l4 : Hid (∀ w5, Below wr.heap.size wr w5 → ∀ o1, (w5.alloc o1).cell? ⟨w3.heap.size, 3, none⟩ = some (.slice va i vc)) := hide (fun w5 k o1 => by
            rw [((Below.refl w5.heap.size w5).alloc (Nat.le_refl _) o1).cell (show w3.heap.size < _ by have := block_lt (unhide HS).1.b6; have := k.size; omega), k.cell (show w3.heap.size < _ from block_lt (unhide HS).1.b6)]
            exact l3)
          clear hq hless hp hat2 hR2 hF hO hEl hmi
          go_wp2_with (first
            | (go_at_call 53; with_reducible refine (unhide CO).mono ?_; rintro e w5 ⟨k0, k1, ta, tn, tc, la, ln, lc, rfl, h5⟩; have l5 := unhide l4 w5 (unhide h5).1 (.cells #[.int .i64 k0, .int .i64 k1, .slice ta tn tc, .slice la ln lc] 31))
            | (at_builtin; refine append_rws rfl _ _ 29 rfl 31 i31 _ 4 64 Tryz.underlying29 hi31 hz31 hs31 hb31 rfl 31 (.slice va i vc) i F rfl (unhide RW w5 (unhide h5).1 _ _) (.inl rfl) (w5.heap.size + 1) 1 rfl [.int .i64 k0, .int .i64 k1, .slice ta tn tc, .slice la ln lc] (by decide) rfl (unhide MC w5 _ _) (by simp [Value.oneCell']) (by omega) (by omega) ?_; intro v1 w6 h1 g1; obtain ⟨hz0, l6, l7⟩ := unhide ST w5 v1 w6 _ _ k0 k1 ta tn tc la ln lc (unhide h5).1 (unhide h5).2 h1 g1; have HZ := hide hz0; obtain ⟨a1, c1, rfl⟩ := h1.shape; clear h1 g1 hz0))
          go_roundw
          case rel => exact ⟨at2, i + 1, a1, c1, Y ++ [x], rfl, v2, by omega, hide ⟨unhide HZ, by simp [(unhide HS).2.1], unhide HE⟩⟩
          case measure => simp [intOf]; omega
        | short =>
          have ES : Hid (∀ st, StD (repP d ((42 :: r).drop at')) st → StD ((Larder8.listP (repP d) N r').map (fun l => (mkR 6 0 [] l : Tr (d + 1)))) st ∧ ∀ x r2, (Larder8.listP (repP d) N r').map (fun l => (mkR 6 0 [] l : Tr (d + 1))) = .ok x r2 → False) := hide (fun st h => by
            rw [(unhide HS).2.2, hmi]
            unfold Larder8.listP
            rw [hq]
            rw [hq] at h
            exact ⟨h, fun x r2 e => by cases e⟩)
          have CN := hide (it_no (unhide HRP) (unhide HRA) (unhide HSM at') u4 (fun y r e => by rw [hq] at e; cases e))
          clear hq hmi
          go_wp2_with (first
            | (go_at_call 53; with_reducible refine (unhide CN).mono ?_; rintro e w5 ⟨k0, k1, ta, tn, tc, la, ln, lc, m, st, rfl, hst, hS, h5⟩; have B6 := hide (((unhide BI).next (unhide h5)).next ((Below.refl _ _).alloc (Nat.le_refl _) (.cells #[.int .i64 k0, .int .i64 k1, .slice ta tn tc, .slice la ln lc] 31))); have z0 := (unhide B6).cell 0 _ rfl; have y0 := (unhide B6).froz 0; have z1 := (unhide B6).cell 1 _ rfl; have y1 := (unhide B6).froz 1; have z2 := (unhide B6).cell 2 _ rfl; have y2 := (unhide B6).froz 2; have z3 := (unhide B6).cell 3 _ rfl; have y3 := (unhide B6).froz 3))
          refine bodyPost_ret (list_end _ _ _ (store4 (unhide B6).box rfl _ _ _ _) rfl rfl rfl) rfl ?_
          exact ⟨0, 0, none, 0, 0, none, 0, 0, 0, st, rfl, hide ⟨(unhide ES st (unhide hS)).1, (unhide B6).boxed _ _ _ _, fun x r3 e => ((unhide ES st (unhide hS)).2 x r3 e).elim⟩⟩
        | wrong =>
          have ES : Hid (∀ st, StD (repP d ((42 :: r).drop at')) st → StD ((Larder8.listP (repP d) N r').map (fun l => (mkR 6 0 [] l : Tr (d + 1)))) st ∧ ∀ x r2, (Larder8.listP (repP d) N r').map (fun l => (mkR 6 0 [] l : Tr (d + 1))) = .ok x r2 → False) := hide (fun st h => by
            rw [(unhide HS).2.2, hmi]
            unfold Larder8.listP
            rw [hq]
            rw [hq] at h
            exact ⟨h, fun x r2 e => by cases e⟩)
          have CN := hide (it_no (unhide HRP) (unhide HRA) (unhide HSM at') u4 (fun y r e => by rw [hq] at e; cases e))
          clear hq hmi
          go_wp2_with (first
            | (go_at_call 53; with_reducible refine (unhide CN).mono ?_; rintro e w5 ⟨k0, k1, ta, tn, tc, la, ln, lc, m, st, rfl, hst, hS, h5⟩; have B6 := hide (((unhide BI).next (unhide h5)).next ((Below.refl _ _).alloc (Nat.le_refl _) (.cells #[.int .i64 k0, .int .i64 k1, .slice ta tn tc, .slice la ln lc] 31))); have z0 := (unhide B6).cell 0 _ rfl; have y0 := (unhide B6).froz 0; have z1 := (unhide B6).cell 1 _ rfl; have y1 := (unhide B6).froz 1; have z2 := (unhide B6).cell 2 _ rfl; have y2 := (unhide B6).froz 2; have z3 := (unhide B6).cell 3 _ rfl; have y3 := (unhide B6).froz 3))
          refine bodyPost_ret (list_end _ _ _ (store4 (unhide B6).box rfl _ _ _ _) rfl rfl rfl) rfl ?_
          exact ⟨0, 0, none, 0, 0, none, 0, 0, 0, st, rfl, hide ⟨(unhide ES st (unhide hS)).1, (unhide B6).boxed _ _ _ _, fun x r3 e => ((unhide ES st (unhide hS)).2 x r3 e).elim⟩⟩
    · obtain rfl : i = N := by omega
      have f1 : decide ((i : Int) < (i : Int)) = false := decide_eq_false (by omega)
      have B6 := hide (unhide HS).1.ix
      have z0 := (unhide B6).cell 0 _ rfl; have y0 := (unhide B6).froz 0; have z1 := (unhide B6).cell 1 _ rfl; have y1 := (unhide B6).froz 1; have z2 := (unhide B6).cell 2 _ rfl; have y2 := (unhide B6).froz 2; have z3 := (unhide B6).cell 3 _ rfl; have y3 := (unhide B6).froz 3
      have x0 : wr.cell? ⟨w3.heap.size, 0, none⟩ = some (.int .i64 6) := by rw [cell_of_row _ _ _ _ _ _ (unhide HS).1.b6]; rfl
      have x1 : wr.cell? ⟨w3.heap.size, 1, none⟩ = some (.int .i64 0) := by rw [cell_of_row _ _ _ _ _ _ (unhide HS).1.b6]; rfl
      have x2 : wr.cell? ⟨w3.heap.size, 2, none⟩ = some (.slice none 0 0) := by rw [cell_of_row _ _ _ _ _ _ (unhide HS).1.b6]; rfl
      have E : Hid (Larder8.listP (repP d) i r' = .ok Y ((42 :: r).drop at')) := hide (by rw [(unhide HS).2.2, Nat.sub_self]; show Larder8.St.ok (Y ++ []) _ = _; rw [List.append_nil])
      go_wp2_with fail
      refine bodyPost_ret (list_end _ _ _ (store4 (unhide B6).box rfl _ _ _ _) rfl rfl rfl) rfl ?_
      refine ⟨6, 0, none, 0, 0, va, i, vc, _, 0, rfl, hide ⟨by rw [unhide E]; rfl, (unhide B6).boxed _ _ _ _, fun x r3 e => ?_⟩⟩
      rw [unhide E] at e
      cases e
      have hL := unhide HLN
      exact ⟨by rw [List.length_drop]; omega, (unhide HS).1.out⟩
end Go.Proofs.YtecfgbjnjgjkoaaGreatDoor
