/- larderlaw3's Shelf: Bytes. -/
import Derived.Test.YtidfbelckdlbhabGreatShg
import Derived.Test.YtidfbelckdlbhabGreatCpy
namespace Go.Proofs.YtidfbelckdlbhabGreat
open Go.ChangeShapes Go.WideShapes Go.ChangeAt Go.RowKit
set_option linter.unusedVariables false
set_option linter.unusedSimpArgs false
set_option maxRecDepth 20000
set_option maxHeartbeats 4000000

/-- the shelf's struct -/
def shC (xv wv : Value) (sz : Nat) : Array Value := #[xv, wv, .slice none 0 0, .slice none 0 0, .slice none 0 0, .slice none 0 0, .slice none 0 0, .slice none 0 0, .int .i64 (sz : Nat)]
theorem holds_any' (w : World) (px : Nat) (xv wv : Value) (sz k : Nat) (h : w.heap[px]? = some (.cells (shC xv wv sz) 73 (0, 0))) (hs : sz ≤ 1152921504606846976) (hk : k ≤ 1152921504606846976) :
    Calls Tryz.prog 49 #[.pointer (some ⟨px, 0, none⟩), .int .i64 (k : Nat)] w fun e w' => e = .returned (.bool (decide (sz + k + 50 ≤ 4194304))) ∧ w' = w.setCell ⟨px, 8, none⟩ (.int .i64 ((sz + k + 50 : Nat) : Int)) := by
  have c8 : w.cell? ⟨px, 8, none⟩ = some (.int .i64 (sz : Nat)) := by rw [cell_of_row _ _ _ _ _ _ h]; rfl
  have z8 : w.frozen? ⟨px, 8, none⟩ = false := by simp only [World.frozen?, h]; simp
  have e1 : ((sz + k + 50 : Nat) : Int) = (sz : Int) + (k : Int) + 50 := by omega
  have e2 : decide (sz + k + 50 ≤ 4194304) = decide ((sz : Int) + (k : Int) + 50 ≤ 4194304) := by
    by_cases q : sz + k + 50 ≤ 4194304
    · rw [decide_eq_true q, decide_eq_true (by omega)]
    · rw [decide_eq_false q, decide_eq_false (by omega)]
  rw [e1, e2]
  clear e1 e2 h
  go_enter Tryz.func49, Tryz.ntmps49
  go_wp2
  go_ret
  exact ⟨rfl, rfl⟩
end Go.Proofs.YtidfbelckdlbhabGreat
namespace Go.Proofs.YtidfbelckdlbhabGreat
open Go.ChangeShapes Go.WideShapes Go.ChangeAt Go.RowKit
set_option linter.unusedVariables false
set_option linter.unusedSimpArgs false
set_option maxRecDepth 20000
set_option maxHeartbeats 4000000

/-- a list that grew, and was laid into cell i of a struct -/
structure Put (w w' : World) (px i : Nat) (cs : Array Value) (t e : TypeId) (v v' : Value) (n : Nat) (f : Nat → Value) : Prop where
  os : w'.os = w.os
  tape : w'.tape = w.tape
  output : w'.output = w.output
  size : w.heap.size ≤ w'.heap.size
  at' : w'.heap[px]? = some (.cells (cs.setIfInBounds i v') t (0, 0))
  row : Rws w' e 1 v' n f
  blk : ∀ b, b < w.heap.size → b ≠ px → v.ownBlock ≠ some b → w'.heap[b]? = w.heap[b]?
  own : ∀ g, v'.ownBlock = some g → v.ownBlock = some g ∨ w.heap.size ≤ g
/-- w: before the element's own row was made -/
theorem Put.of {w wA w2 : World} {px i : Nat} {cs : Array Value} {t e : TypeId} {v v' : Value} {n c m : Nat} {f : Nat → Value} {n' : Nat} {f' : Nat → Value} (hpx : w.heap[px]? = some (.cells cs t (0, 0))) (ht : e ≠ t) (hb : Below w.heap.size w wA) (hR : Rws w e 1 v n f) (hL : Rws w2 e 1 v' n' f') (hG : Gr e c m wA w2 v v') :
    w2.cell? ⟨px, i, none⟩ = cs[i]? ∧ w2.frozen? ⟨px, i, none⟩ = false ∧ Put w (w2.setCell ⟨px, i, none⟩ v') px i cs t e v v' n' f' := by
  have hlt := block_lt hpx
  have ltA : px < wA.heap.size := Nat.lt_of_lt_of_le hlt hb.size
  have hv : v.ownBlock ≠ some px := fun q => by
    obtain ⟨c, hc⟩ := hR.type px q
    rw [hpx] at hc
    cases hc
    exact ht rfl
  have h2 : w2.heap[px]? = some (.cells cs t (0, 0)) := by rw [hG.other px ltA hv, hb.block px hlt]; exact hpx
  refine ⟨cell_of_row _ _ _ _ _ _ h2, by simp only [World.frozen?, h2]; simp, hG.os.trans hb.os, hG.tape.trans hb.tape, hG.output.trans hb.output, ?_, setCell_block _ _ _ _ _ _ _ h2, hL.same (fun g hg => setCell_else _ _ _ _ _ (fun q => ?_)), fun b hb1 hb2 hb3 => ?_, fun g hg => ?_⟩
  · have := hG.size
    have := hb.size
    simp only [World.setCell, Array.size_modify]
    omega
  · obtain ⟨c, hc⟩ := hL.type g hg
    rw [q, h2] at hc
    cases hc
    exact ht rfl
  · rw [setCell_else _ _ _ _ _ hb2, hG.other b (Nat.lt_of_lt_of_le hb1 hb.size) hb3, hb.block b hb1]
  · rcases hG.how with ⟨g', _, _, h1, h3, _⟩ | ⟨h3, _⟩
    · rw [hg] at h3; cases h3; exact .inl h1
    · rw [hg] at h3; cases h3; exact .inr hb.size
/-- a shelf whose struct alone changed -/
theorem ShAt.moved {w w' : World} {px : Nat} {xv wv : Value} {n : Nat} {F G : Nat → Value} {D : Nat → List Nat} {sz : Nat} (h : ShAt w px xv wv n F G D sz) (sz' : Nat) (hs : sz ≤ sz') (ha : w'.heap[px]? = some (.cells (shC xv wv sz') 73 (0, 0))) (hb : ∀ b, b < w.heap.size → b ≠ px → w'.heap[b]? = w.heap[b]?) : ShAt w' px xv wv n F G D sz' := by
  have k : ∀ {e : TypeId} {v : Value} {m : Nat} {f : Nat → Value}, e ≠ 73 → Rws w e 1 v m f → Rws w' e 1 v m f := fun {e v m f} he hR => hR.same (fun g hg => hb g (hR.lt g hg) (fun q => by
    obtain ⟨c, hc⟩ := hR.type g hg
    rw [q, h.at'] at hc
    cases hc
    exact he rfl))
  exact ⟨ha, k (by decide) h.xr, k (by decide) h.gr, fun j hj => k (by decide) (h.fe j hj), fun j hj => k (by decide) (h.ge j hj), h.one, h.xw, h.len, by have := h.few; omega, h.few.2⟩
/-- a shelf is laid one list more, or not -/
structure ShTo (w w' : World) (px : Nat) (xv wv : Value) (n : Nat) (F G : Nat → Value) (v xv' wv' : Value) (n' : Nat) (F' G' : Nat → Value) : Prop where
  os : w'.os = w.os
  tape : w'.tape = w.tape
  output : w'.output = w.output
  size : w.heap.size ≤ w'.heap.size
  blk : ∀ b, b < w.heap.size → b ≠ px → xv.ownBlock ≠ some b → wv.ownBlock ≠ some b → w'.heap[b]? = w.heap[b]?
  own : ∀ g, xv'.ownBlock = some g ∨ wv'.ownBlock = some g → xv.ownBlock = some g ∨ wv.ownBlock = some g ∨ w.heap.size ≤ g
  fs : ∀ j, j < n' → (∃ i, i < n ∧ F' j = F i) ∨ F' j = v
  gs : ∀ j, j < n' → (∃ i, i < n ∧ G' j = G i) ∨ ∀ g, (G' j).ownBlock = some g → w.heap.size ≤ g
theorem Rws.same' {w w' : World} {e t : TypeId} {v : Value} {m : Nat} {f : Nat → Value} {px : Nat} {cs : Array Value} (hR : Rws w e 1 v m f) (hx : w.heap[px]? = some (.cells cs t (0, 0))) (he : e ≠ t) (hb : ∀ g, v.ownBlock = some g → g ≠ px → w'.heap[g]? = w.heap[g]?) : Rws w' e 1 v m f := hR.same (fun g hg => hb g hg (fun q => by
  obtain ⟨c, hc⟩ := hR.type g hg
  rw [q, hx] at hc
  cases hc
  exact he rfl))
/-- one list more -/
theorem ShAt.more {w w1 w3 w4 : World} {px : Nat} {xv wv : Value} {n : Nat} {F G : Nat → Value} {D : Nat → List Nat} {sz : Nat} {v c xv' wv' : Value} {l : List Nat} (h : ShAt w px xv wv n F G D sz) (hv : Rws w 5 1 v l.length (byV l)) (hp : ∀ j g, j < n → (F j).ownBlock = some g → v.ownBlock ≠ some g)
    (p1 : Put w w1 px 0 (shC xv wv sz) 73 34 xv xv' (n + 1) (fun k => if k < n * 1 then F k else [v].getD (k - n * 1) undef)) (hb : Below w1.heap.size w1 w3) (hc : Rws w3 5 1 c l.length (byV l)) (hco : ∀ g, c.ownBlock = some g → w.heap.size ≤ g)
    (p2 : Put w3 w4 px 1 (shC xv' wv sz) 73 34 wv wv' (n + 1) (fun k => if k < n * 1 then G k else [c].getD (k - n * 1) undef)) (hl : l.length ≤ 4194304) (hn : 50 * (n + 1) ≤ sz ∧ n + 1 ≤ 100000) :
    ShAt w4 px xv' wv' (n + 1) (fun k => if k < n then F k else v) (fun k => if k < n then G k else c) (fun k => if k < n then D k else l) sz ∧ ShTo w w4 px xv wv n F G v xv' wv' (n + 1) (fun k => if k < n then F k else v) (fun k => if k < n then G k else c) := by
  have ad : ∀ (k : Nat) (A B : Nat → Value) (u : Value), k < (n + 1) * 1 → (if k < n * 1 then A k else [u].getD (k - n * 1) undef) = if k < n then A k else u := fun k A _ u hk => by
    by_cases q : k < n
    · rw [if_pos (by omega), if_pos q]
    · rw [if_neg (by omega), if_neg q, show k - n * 1 = 0 by omega]
      rfl
  have ltx := block_lt h.at'
  have x3 : w3.heap[px]? = some (.cells (shC xv' wv sz) 73 (0, 0)) := by
    rw [hb.block px (block_lt p1.at'), p1.at']
    rfl
  have apx : ∀ g, xv'.ownBlock = some g → wv.ownBlock ≠ some g := fun g hg e => by
    rcases p1.own g hg with q | q
    · exact h.xw g q e
    · have := h.gr.lt g e
      omega
  -- what lies in neither list and not in the struct
  have all : ∀ b, b < w.heap.size → b ≠ px → xv.ownBlock ≠ some b → wv.ownBlock ≠ some b → w4.heap[b]? = w.heap[b]? := fun b h1 h2 h3 h4 => by
    have := p1.size
    have := hb.size
    rw [p2.blk b (by omega) h2 h4, hb.block b (by omega), p1.blk b h1 h2 h3]
  have k5 : ∀ {u : Value} {m : Nat} {f : Nat → Value}, Rws w 5 1 u m f → Rws w4 5 1 u m f := fun {u m f} hR => hR.same' h.at' (by decide) (fun g hg hx => all g (hR.lt g hg) hx (fun q => hR.apart h.xr (by decide) g hg q) (fun q => hR.apart h.gr (by decide) g hg q))
  have xr4 : Rws w4 34 1 xv' (n + 1) (fun k => if k < n * 1 then F k else [v].getD (k - n * 1) undef) := (p1.row.below hb).same' x3 (by decide) (fun g hg hx => p2.blk g ((p1.row.below hb).lt g hg) hx (apx g hg))
  have c4 : Rws w4 5 1 c l.length (byV l) := hc.same' x3 (by decide) (fun g hg hx => p2.blk g (hc.lt g hg) hx (fun q => by
    have hw3 : Rws w3 34 1 wv n G := (h.gr.same' h.at' (by decide) (fun g hg hx => p1.blk g (h.gr.lt g hg) hx (fun q => h.xw g q hg))).below hb
    exact hc.apart hw3 (by decide) g hg q))
  refine ⟨⟨p2.at', xr4.congr (fun k hk => ad k F F v hk), p2.row.congr (fun k hk => ad k G G c hk), fun j hj => ?_, fun j hj => ?_, fun i j g hi hj h1 h2 => ?_, fun g h1 h2 => ?_, fun j hj => ?_, hn⟩, ⟨?_, ?_, ?_, ?_, all, fun g hg => ?_, fun j hj => ?_, fun j hj => ?_⟩⟩
  · by_cases q : j < n
    · simp only [if_pos q]; exact k5 (h.fe j q)
    · simp only [if_neg q]; exact k5 hv
  · by_cases q : j < n
    · simp only [if_pos q]; exact k5 (h.ge j q)
    · simp only [if_neg q]; exact c4
  · by_cases q : i < n <;> by_cases q' : j < n
    · simp only [if_pos q, if_pos q'] at h1 h2; exact h.one i j g q q' h1 h2
    · simp only [if_pos q, if_neg q'] at h1 h2; exact absurd h2 (hp i g q h1)
    · simp only [if_neg q, if_pos q'] at h1 h2; exact absurd h1 (hp j g q' h2)
    · omega
  · rcases p2.own g h2 with q | q
    · exact apx g h1 q
    · have := (p1.row.below hb).lt g h1
      omega
  · by_cases q : j < n
    · simp only [if_pos q]; exact h.len j q
    · simp only [if_neg q]; exact hl
  · rw [p2.os, hb.os, p1.os]
  · rw [p2.tape, hb.tape, p1.tape]
  · rw [p2.output, hb.output, p1.output]
  · exact Nat.le_trans p1.size (Nat.le_trans hb.size p2.size)
  · rcases hg with q | q
    · rcases p1.own g q with q | q
      · exact .inl q
      · exact .inr (.inr q)
    · rcases p2.own g q with q | q
      · exact .inr (.inl q)
      · exact .inr (.inr (Nat.le_trans (Nat.le_trans p1.size hb.size) q))
  · by_cases q : j < n
    · exact .inl ⟨j, q, if_pos q⟩
    · exact .inr (if_neg q)
  · by_cases q : j < n
    · exact .inl ⟨j, q, if_pos q⟩
    · exact .inr (fun g hg => hco g (by simp only [if_neg q] at hg; exact hg))
end Go.Proofs.YtidfbelckdlbhabGreat
namespace Go.Proofs.YtidfbelckdlbhabGreat
open Go.ChangeShapes Go.WideShapes Go.ChangeAt Go.RowKit
set_option linter.unusedVariables false
set_option linter.unusedSimpArgs false
set_option maxRecDepth 20000
set_option maxHeartbeats 4000000

theorem OwnB.rws {w : World} {b : Nat} {v : Value} {l : List Nat} (h : OwnB w b v l) : Rws w 5 1 v l.length (byV l) := by
  rcases h.2 with ⟨h1, h2⟩ | ⟨g, cap, cur, h1, _, h3, h4, h5, h6, h7⟩
  · exact .inl ⟨h1, h2⟩
  · refine .inr ⟨g, cap, cur, h1, h3, h4, h5, h6, fun k hk => ?_⟩
    have e : cur[k]? = (cellsOf l)[k]? := by rw [← h7, List.getElem?_take, if_pos hk]; simp
    have hk' : k < l.length := by omega
    rw [e]
    unfold cellsOf byV
    rw [List.getElem?_map, List.getElem?_eq_getElem hk', List.getD_eq_getElem?_getD, List.getElem?_eq_getElem hk']
    rfl
theorem OwnB.ge {w : World} {b : Nat} {v : Value} {l : List Nat} (h : OwnB w b v l) : ∀ g, v.ownBlock = some g → b ≤ g := fun g hg => by
  rcases h.2 with ⟨rfl, h2⟩ | ⟨g', cap, cur, rfl, h2, _⟩
  · simp [Value.ownBlock] at hg
  · simp [Value.ownBlock] at hg
    omega
theorem shbytes_any (w : World) (px : Nat) (xa wa va : Option Addr) (xc wc n vc : Nat) (F G : Nat → Value) (D : Nat → List Nat) (l : List Nat) (sz : Nat) (h : ShAt w px (.slice xa n xc) (.slice wa n wc) n F G D sz) (hv : Rws w 5 1 (.slice va l.length vc) l.length (byV l)) (hp : ∀ j g, j < n → (F j).ownBlock = some g → (Value.slice va l.length vc).ownBlock ≠ some g) (hsz : sz ≤ 1099511627776) (hl : l.length ≤ 1099511627776) :
    Calls Tryz.prog 26 #[.pointer (some ⟨px, 0, none⟩), .slice va l.length vc] w fun e w' => e = .returned (.tuple #[]) ∧ Hid (∃ xa' xc' wa' wc' n' F' G' D', ShAt w' px (.slice xa' n' xc') (.slice wa' n' wc') n' F' G' D' (sz + l.length + 50) ∧ ShTo w w' px (.slice xa n xc) (.slice wa n wc) n F G (.slice va l.length vc) (.slice xa' n' xc') (.slice wa' n' wc') n' F' G') := by
  have hn := h.few
  have HO := hide (holds_any' w px (.slice xa n xc) (.slice wa n wc) sz l.length h.at' (by omega) (by omega))
  have hw1 : (w.setCell ⟨px, 8, none⟩ (.int .i64 ((sz + l.length + 50 : Nat) : Int))).heap[px]? = some (.cells (shC (.slice xa n xc) (.slice wa n wc) (sz + l.length + 50)) 73 (0, 0)) := by
    rw [setCell_block w px 8 _ _ _ _ h.at']
    rfl
  have hb1 : ∀ b, b < w.heap.size → b ≠ px → (w.setCell ⟨px, 8, none⟩ (.int .i64 ((sz + l.length + 50 : Nat) : Int))).heap[b]? = w.heap[b]? := fun b _ hb => setCell_else _ _ _ _ _ hb
  have hz1 : (w.setCell ⟨px, 8, none⟩ (.int .i64 ((sz + l.length + 50 : Nat) : Int))).heap.size = w.heap.size := by simp only [World.setCell, Array.size_modify]
  have H := hide (h.moved (sz + l.length + 50) (by omega) hw1 hb1)
  have HV := hide (hv.same' (w' := w.setCell ⟨px, 8, none⟩ (.int .i64 ((sz + l.length + 50 : Nat) : Int))) h.at' (by decide) (fun g hg hx => hb1 g (hv.lt g hg) hx))
  have HP := hide hp
  have HT : Hid (∀ w' xv' wv' n' F' G', ShTo (w.setCell ⟨px, 8, none⟩ (.int .i64 ((sz + l.length + 50 : Nat) : Int))) w' px (.slice xa n xc) (.slice wa n wc) n F G (.slice va l.length vc) xv' wv' n' F' G' → ShTo w w' px (.slice xa n xc) (.slice wa n wc) n F G (.slice va l.length vc) xv' wv' n' F' G') := hide (fun w' xv' wv' n' F' G' t => ⟨t.os, t.tape, t.output, by rw [← hz1]; exact t.size, fun b h1 h2 h3 h4 => (t.blk b (by rw [hz1]; exact h1) h2 h3 h4).trans (hb1 b h1 h2), fun g hg => by have := t.own g hg; rw [hz1] at this; exact this, t.fs, fun j hj => by have := t.gs j hj; rw [hz1] at this; exact this⟩)
  have HB := hide hv.bytes
  clear h hv hp hw1 hb1 hz1
  obtain ⟨sz', hsz'⟩ : ∃ sz', sz' = sz + l.length + 50 := ⟨_, rfl⟩
  obtain ⟨ll, hll⟩ : ∃ ll, ll = l.length := ⟨_, rfl⟩
  have HLL := hide hll
  rw [← hsz'] at H HT HO HV ⊢
  rw [← hll] at HO HV HP HT hl hsz' ⊢
  generalize w.setCell ⟨px, 8, none⟩ (.int .i64 (sz' : Int)) = w1 at *
  obtain ⟨i3, hi3, hz3, hs3, hb3⟩ := info_partsS Tryz.info34s
  clear hll
  go_enter Tryz.func26, Tryz.ntmps26
  go_wp2_with fail
  refine (unhide HO).mono ?_
  rintro e w1' ⟨rfl, k1⟩
  obtain rfl := k1.symm
  clear HO
  rename World => w1
  rcases Nat.lt_or_ge 4194304 sz' with hbig | hfit
  · rw [decide_eq_false (by omega)]
    go_wp2
    (try simp only [Exit.inBlock, Exit.then])
    refine bodyPost_ret (results_none rfl _ _ _) rfl ?_
    exact ⟨rfl, hide ⟨xa, xc, wa, wc, n, F, G, D, unhide H, unhide HT _ _ _ _ _ _ ⟨rfl, rfl, rfl, Nat.le_refl _, fun _ _ _ _ _ => rfl, fun g hg => hg.elim .inl (fun q => .inr (.inl q)), fun j hj => .inl ⟨j, hj, rfl⟩, fun j hj => .inl ⟨j, hj, rfl⟩⟩⟩⟩
  · rw [decide_eq_true (by omega)]
    obtain ⟨X0, X1, -, -, -, -⟩ := (unhide H).cells
    have qb := hide ((Below.refl w1.heap.size w1).alloc (Nat.le_refl _) (.cells #[.slice va ll vc] 34))
    go_wp2_with (at_builtin; refine append_rws rfl _ _ 41 rfl 34 i3 _ 1 24 Tryz.underlying41 hi3 hz3 hs3 hb3 rfl 34 (.slice xa n xc) n F rfl ((unhide H).xr.below (unhide qb)) (.inl rfl) w1.heap.size 1 rfl [.slice va ll vc] (by decide) rfl (made_cells w1 [.slice va ll vc] 34) (fun x hx => by simp at hx; subst hx; rfl) (by omega) (by omega) ?_; intro v' w3 hL hG; obtain ⟨a3, c3, rfl⟩ := hL.shape; obtain ⟨y3, z3, p3⟩ := Put.of (i := 0) (unhide H).at' (by decide) (unhide qb) (unhide H).xr hL hG; have P3 := hide p3; clear hL hG p3)
    have x1 : (w3.setCell ⟨px, 0, none⟩ (.slice a3 (n + 1) c3)).cell? ⟨px, 1, none⟩ = some (.slice wa n wc) := by
      rw [cell_of_row _ _ _ _ _ _ (unhide P3).at']
      rfl
    generalize w3.setCell ⟨px, 0, none⟩ (.slice a3 (n + 1) c3) = W at *
    clear y3 z3 qb X0 X1
    have VW := hide ((unhide HV).same' (w' := W) (unhide H).at' (by decide) (fun g hg hx => (unhide P3).blk g ((unhide HV).lt g hg) hx (fun q => (unhide HV).apart (unhide H).xr (by decide) g hg q)))
    have hpx : px < W.heap.size := block_lt (unhide P3).at'
    have CP : Hid (∀ W', Still W W' → Calls Tryz.prog 32 #[.slice va ll vc] W' fun e w5 => ∃ ca cc, e = .returned (.slice ca ll cc) ∧ Hid (Rws w5 5 1 (.slice ca ll cc) ll (byV l) ∧ Below W.heap.size W w5 ∧ ∀ g, (Value.slice ca ll cc).ownBlock = some g → W.heap.size ≤ g) ∧ w5.cell? ⟨px, 1, none⟩ = some (.slice wa n wc) ∧ (w5.alloc (.cells #[.slice ca ll cc] 34)).cell? ⟨px, 1, none⟩ = some (.slice wa n wc)) := hide (fun W' hS => by
      have hll := unhide HLL
      subst hll
      obtain ⟨a, c, ha, hB, -⟩ := (unhide VW).bytes
      cases ha
      refine (copyB_any va vc W' l (by omega) (hB.below hS.below)).mono ?_
      rintro e w5 ⟨v, rfl, hO, hb⟩
      have hz : W'.heap.size = W.heap.size := by rw [hS.heap]
      rw [hz] at hb
      have hb' : Below W.heap.size W w5 := hS.below.trans hb
      obtain ⟨ca, cc, rfl⟩ := hO.rws.shape
      exact ⟨ca, cc, rfl, hide ⟨hO.rws, hb', fun g hg => by rw [← hz]; exact hO.ge g hg⟩, (hb'.cell (p := ⟨px, 1, none⟩) hpx).trans x1, ((hb'.alloc hb'.size _).cell (p := ⟨px, 1, none⟩) hpx).trans x1⟩)
    have FX : Hid (∀ w5, Below W.heap.size W w5 → w5.heap[px]? = some (.cells (shC (.slice a3 (n + 1) c3) (.slice wa n wc) sz') 73 (0, 0)) ∧ Rws w5 34 1 (.slice wa n wc) n G) := hide (fun w5 hb => ⟨by rw [hb.block px hpx, (unhide P3).at']; rfl, ((unhide H).gr.same' (unhide H).at' (by decide) (fun g hg hx => (unhide P3).blk g ((unhide H).gr.lt g hg) hx (fun q => (unhide H).xw g q hg))).below hb⟩)
    go_region_law (first
      | (refine step_append_rws rfl (.tmp 23) (.tmp 26) 41 rfl 34 i3 _ 1 24 Tryz.underlying41 hi3 hz3 hs3 hb3 rfl 34 (.slice wa n wc) n G (by simp [Act.eval]) ((unhide FX w5 (unhide k5).2.1).2.below ((Below.refl _ _).alloc (Nat.le_refl _) _)) (.inl rfl) w5.heap.size 1 (by simp [Act.eval]) [.slice ca ll cc] (by decide) rfl (made_cells w5 [.slice ca ll cc] 34) (fun x hx => by simp at hx; subst hx; rfl) (by omega) (by omega) ?_; intro v' w6 hL hG; obtain ⟨a6, c6, rfl⟩ := hL.shape; obtain ⟨y6, z6, p6⟩ := Put.of (i := 1) (unhide FX w5 (unhide k5).2.1).1 (by decide) ((Below.refl _ _).alloc (Nat.le_refl _) _) (unhide FX w5 (unhide k5).2.1).2 hL hG; have P6 := hide p6; clear hL hG p6; rw [show (shC (.slice a3 (n + 1) c3) (.slice wa n wc) sz')[1]? = some (.slice wa n wc) from rfl] at y6)
      | (go_simp; refine (unhide CP W.drew ⟨rfl, rfl, rfl, rfl⟩).mono ?_; rintro e w5 ⟨ca, cc, rfl, k5, s5, t5⟩; dsimp only))
    all_goals go_wp2
    all_goals go_end0
    all_goals
      have hll := unhide HLL
      subst hll
      have M := (unhide H).more (unhide HV) (unhide HP) (unhide P3) (unhide k5).2.1 (unhide k5).1 (fun g hg => Nat.le_trans (unhide P3).size ((unhide k5).2.2 g hg)) (unhide P6) (by omega) (by omega)
      exact ⟨rfl, hide ⟨_, _, _, _, _, _, _, _, M.1, unhide HT _ _ _ _ _ _ M.2⟩⟩
end Go.Proofs.YtidfbelckdlbhabGreat
