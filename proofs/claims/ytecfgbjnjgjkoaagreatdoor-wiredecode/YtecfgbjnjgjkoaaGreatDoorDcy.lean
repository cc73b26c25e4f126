/- Decode, whole. -/
import Derived.Test.YtecfgbjnjgjkoaaGreatDoorDcs
import Derived.Test.YtecfgbjnjgjkoaaGreatDoorDdi
import Derived.Test.YtecfgbjnjgjkoaaGreatDoorPfb
namespace Go.Proofs.YtecfgbjnjgjkoaaGreatDoor
open Go.ChangeShapes Go.WideShapes Go.ChangeAt Go.RowKit
set_option linter.unusedVariables false
set_option linter.unusedSimpArgs false
set_option maxRecDepth 20000
set_option maxHeartbeats 4000000

/-- arrays inside 8 - d others are read -/
def ArrOk (pd d : Nat) : Prop := ∀ (W : World) (a : Option Addr) (n cp : Nat) (R : List Nat), DcAt W pd a n cp R → UOk W → n ≤ 140737488355328 → Part W pd (d + 1) 69 #[.pointer (some ⟨pd, 0, none⟩), .int .i64 ((8 - d : Nat) : Int)] (arrP (repP d) R)
theorem reply_none (w : World) (pd : Nat) (a : Option Addr) (n cp : Nat) (d : Nat) (h : DcAt w pd a n cp []) :
    Calls Tryz.prog 52 #[.pointer (some ⟨pd, 0, none⟩), .int .i64 ((8 - d : Nat) : Int)] w (RpEnd w pd (d + 1) .short) := by
  have hlen := h.rst.len
  simp only [List.length_nil] at hlen
  subst hlen
  have B3 := hide (Bx.new w pd (block_lt h.box))
  have c1 := (h.below ((Below.refl _ _).alloc (Nat.le_refl _) (.cells #[.int .i64 0, .int .i64 0, .slice none 0 0, .slice none 0 0] 31))).cell0
  clear h
  go_enter Tryz.func52, Tryz.ntmps52
  go_wp2_with fail
  refine bodyPost_ret (reply_end _ _ (heap_alloc_new _ _) rfl rfl) rfl ?_
  exact ⟨0, 0, none, 0, 0, none, 0, 0, rfl, hide ⟨(unhide B3).k, fun x r e => (by cases e)⟩⟩
theorem reply_of (w : World) (pd : Nat) (a : Option Addr) (n cp : Nat) (T : List Nat) (d : Nat) (h : DcAt w pd a n cp T) (hU : UOk w) (hp : 2 < pd) (hl : n ≤ 140737488355328) (AR : ArrOk pd d) :
    Calls Tryz.prog 52 #[.pointer (some ⟨pd, 0, none⟩), .int .i64 ((8 - d : Nat) : Int)] w (RpEnd w pd (d + 1) (repP (d + 1) T)) := by
  cases T with
  | nil => exact reply_none w pd a n cp d h
  | cons c r =>
    unfold repP
    by_cases m43 : c = 43
    · subst m43; rw [if_pos rfl]; exact reply_status w pd a n cp r d h hU hp hl
    rw [if_neg m43]
    by_cases m45 : c = 45
    · subst m45; rw [if_pos rfl]; exact reply_error w pd a n cp r d h hU hp hl
    rw [if_neg m45]
    by_cases m58 : c = 58
    · subst m58; rw [if_pos rfl]; exact reply_num w pd a n cp r d h hU hp hl
    rw [if_neg m58]
    by_cases m36 : c = 36
    · subst m36; rw [if_pos rfl]; exact reply_bulk w pd a n cp r d h hU hp hl
    rw [if_neg m36]
    by_cases m42 : c = 42
    · subst m42; rw [if_pos rfl]; exact reply_array w pd a n cp r d h hU hp hl AR
    rw [if_neg m42]
    exact reply_other w pd a n cp c r d h hU hp hl m43 m45 m58 m36 m42
end Go.Proofs.YtecfgbjnjgjkoaaGreatDoor
namespace Go.Proofs.YtecfgbjnjgjkoaaGreatDoor
open Go.ChangeShapes Go.WideShapes Go.ChangeAt Go.RowKit
set_option linter.unusedVariables false
set_option linter.unusedSimpArgs false
set_option maxRecDepth 20000
set_option maxHeartbeats 4000000

theorem Tryz.info27s : (Tryz.prog.info? 31).map (fun i => (i.zero, i.size, i.bytes)) = some (some (.agg #[.int .i64 0, .int .i64 0, .slice none 0 0, .slice none 0 0]), 4, 64) := by kernel_rfl
theorem DcAt.low {w W : World} {pd : Nat} {a : Option Addr} {n cp : Nat} {T : List Nat} (h : DcAt w pd a n cp T) (hb : Below (pd + 1) w W) : DcAt W pd a n cp T := by
  refine ⟨(hb.block pd (by omega)).trans h.box, ⟨?_, h.rst.len, h.rst.le, h.rst.top⟩, h.ap, h.sm, h.so⟩
  rcases h.rst.bytes with e | ⟨b, off, e, h1, h2⟩
  · exact .inl e
  · obtain ⟨b', off', e', hlt⟩ := h.so
    rw [e'] at e
    cases e
    exact .inr ⟨b, off, e', Nat.lt_of_lt_of_le h1 hb.size, fun i hi => by rw [hb.cell (show b < pd + 1 by omega)]; exact h2 i hi⟩
/-- an array that is being read: the box of the answer, the list, what is left -/
structure ArrAt (w W : World) (pd d : Nat) (v : Value) (l : List (Tr d)) (R : List Nat) : Prop where
  bx : Bx w W pd
  dc : ∃ a n cp, DcAt W pd a n cp R
  row : ∃ F : Nat → Value, Rws W 31 4 v l.length F ∧ (∀ g, v.ownBlock = some g → w.heap.size < g) ∧
    Els W d (fun b => w.heap.size < b ∧ v.ownBlock ≠ some b) l F
theorem ArrAt.rws {w W : World} {pd d : Nat} {v : Value} {l : List (Tr d)} {R : List Nat} (h : ArrAt w W pd d v l R) : ∃ F, Rws W 31 4 v l.length F := ⟨_, h.row.choose_spec.1⟩
/-- one more -/
theorem ArrAt.step {w W w3 w6 : World} {pd d : Nat} {v v' : Value} {l : List (Tr d)} {R r : List Nat} {x : Tr d} {F : Nat → Value} {k0 k1 : Int} {ta : Option Addr} {tn tc : Nat} {la : Option Addr} {ln lc : Nat} (h : ArrAt w W pd d v l R)
    (hF : Rws W 31 4 v l.length F) (hO : ∀ g, v.ownBlock = some g → w.heap.size < g) (hE : Els W d (fun b => w.heap.size < b ∧ v.ownBlock ≠ some b) l F)
    (hk : DcK pd W w3) (hx : DrAt w3 d (fun b => W.heap.size ≤ b) x (.int .i64 k0) (.int .i64 k1) (.slice ta tn tc) (.slice la ln lc)) (hd : ∃ a n cp, DcAt w3 pd a n cp r)
    (o1 o2 : Obj)
    (hR : Rws w6 31 4 v' (l.length + 1) (fun k => if k < l.length * 4 then F k else [Value.int .i64 k0, .int .i64 k1, .slice ta tn tc, .slice la ln lc].getD (k - l.length * 4) undef))
    (hG : Gr 31 (l.length * 4) 4 ((w3.alloc o1).alloc o2) w6 v v') : ArrAt w w6 pd d v' (l ++ [x]) r := by
  have hp := h.bx.lt
  have hW : w.heap.size < W.heap.size := block_lt h.bx.box
  have hw3 := hk.size
  have s5 : ((w3.alloc o1).alloc o2).heap.size = w3.heap.size + 2 := by simp
  have al : ∀ b, b < w3.heap.size → ((w3.alloc o1).alloc o2).heap[b]? = w3.heap[b]? := fun b hb => (heap_alloc_old (w3.alloc o1) o2 (by simp; omega)).trans (heap_alloc_old w3 o1 hb)
  have k6 : ∀ b, b < w3.heap.size → v.ownBlock ≠ some b → w6.heap[b]? = w3.heap[b]? := fun b hb hv => (hG.other b (by omega) hv).trans (al b hb)
  have g6 : ((w3.alloc o1).alloc o2).heap.size ≤ w6.heap.size := hG.size
  have own : ∀ g, v'.ownBlock = some g → v.ownBlock = some g ∨ w3.heap.size ≤ g := fun g hg => by
    rcases hG.how with ⟨g', cur, cur', e1, e2, _⟩ | ⟨e2, _⟩
    · rw [hg] at e2; cases e2; exact .inl e1
    · rw [hg] at e2; cases e2; right; omega
  have vlt : ∀ g, v.ownBlock = some g → g < W.heap.size := hF.lt
  have kw := h.bx.k
  refine ⟨⟨hp, ⟨(hG.os.trans hk.os).trans kw.os, (hG.tape.trans hk.tape).trans kw.tape, (hG.output.trans hk.output).trans kw.output, by omega, fun k hk1 hk2 => ?_⟩, ?_⟩, ?_, _, by rw [List.length_append]; exact hR, fun g hg => ?_, ?_⟩
  · rw [k6 k (by omega) (fun e => by have := hO k e; omega), hk.blk k (by omega) hk2, kw.blk k hk1 hk2]
  · rw [k6 _ (by omega) (fun e => by have := hO _ e; omega), hk.blk _ (by omega) (by omega), h.bx.box]
  · obtain ⟨a, n, cp, hd⟩ := hd
    exact ⟨a, n, cp, hd.low ⟨hG.os, hG.tape, hG.output, by omega, fun b hb => k6 b (by omega) (fun e => by have := hO b e; omega)⟩⟩
  · rcases own g hg with q | q
    · exact hO g q
    · omega
  · refine hE.push W.heap.size (fun i y Q hi hQ hD => ?_) (fun b hb hlt => ⟨hb.1, fun e => ?_⟩) ?_
    · have q : i < l.length := (List.getElem?_eq_some_iff.1 hi).1
      have c : ∀ j, j < 4 → i * 4 + j < l.length * 4 := fun j hj => by omega
      have e0 := c 0 (by omega)
      have e1 := c 1 (by omega)
      have e2 := c 2 (by omega)
      have e3 := c 3 (by omega)
      simp only [Nat.add_zero] at e0
      simp only [if_pos e0, if_pos e1, if_pos e2, if_pos e3]
      exact (hD.tight.same (w' := w3) (fun b hb hlt => hk.blk b hlt (by have := (hQ b hb.1).1; omega))).same (w' := w6) (fun b hb hlt => k6 b hlt (hQ b hb.1).2)
    · rcases own b e with q2 | q2
      · exact hb.2 q2
      · omega
    · have c : ∀ j, ¬ (l.length * 4 + j < l.length * 4) := fun j => by omega
      have c0 : ¬ (l.length * 4 < l.length * 4) := by omega
      simp only [if_neg (c 1), if_neg (c 2), if_neg (c 3), if_neg c0, Nat.add_sub_cancel_left, Nat.sub_self]
      refine (hx.tight.same (w' := w6) (fun b hb hlt => k6 b hlt (fun e => by have := vlt b e; omega))).mono (fun b hb => ⟨hb.1, by omega, fun e => ?_⟩)
      rcases own b e with q2 | q2
      · have := vlt b q2; omega
      · omega
end Go.Proofs.YtecfgbjnjgjkoaaGreatDoor
namespace Go.Proofs.YtecfgbjnjgjkoaaGreatDoor
open Go.ChangeShapes Go.WideShapes Go.ChangeAt Go.RowKit
set_option linter.unusedVariables false
set_option linter.unusedSimpArgs false
set_option maxRecDepth 20000
set_option maxHeartbeats 4000000

theorem arr_end {W : World} {g : Nat} {v0 v1 v2 v3 : Value} (er : Int) (tmps : Array Value) (hg : W.heap[g]? = some (.cells #[v0, v1, v2, v3] 31 (0, 0))) (h2 : tmps.getD 4 undef = .pointer (some ⟨g, 0, none⟩)) (h3 : tmps.getD 5 undef = .int .i64 er) :
    (results Tryz.f69 tmps).run Tryz.prog W = .ok (.tuple #[.agg #[v0, v1, v2, v3], .int .i64 er]) W := by
  refine results_box (p := 4) (q := 5) (ty := 31) rfl tmps _ g 31 _ (0, 0) _ h2 hg Tryz.underlying31 rfl (by kernel_rfl) _ h3

theorem arr_bad8 (w : World) (pd I d : Nat) (a : Option Addr) (n cp : Nat) (T : List Nat) (hI : ((I : Int) == 8) = true) (h : DcAt w pd a n cp T) (hl : n ≤ 140737488355328) (P : Larder8.St (Tr (d + 1))) (Q : Larder8.St Int) (hQ : Larder8.numP (-1) (-1) T = Q) (hPQ : (Q = .short ∧ P = .short) ∨ (Q = .wrong ∧ P = .wrong)) :
    Part w pd (d + 1) 69 #[.pointer (some ⟨pd, 0, none⟩), .int .i64 (I : Int)] P := by
  have CN := hide (dnum_any _ pd a n cp T (-1) (-1) (h.below ((Below.refl _ _).alloc (Nat.le_refl _) (.cells #[.int .i64 0, .int .i64 0, .slice none 0 0, .slice none 0 0] 31))) hl ⟨by omega, by omega⟩ ⟨by omega, by omega⟩)
  have HB := hide (Bx.new w pd (block_lt h.box))
  rw [hQ] at CN
  clear h hQ
  unfold Part
  unfold NumEnd at CN
  rcases hPQ with ⟨rfl, rfl⟩ | ⟨rfl, rfl⟩
  all_goals
    go_enter Tryz.func69, Tryz.ntmps69
    go_wp2_with (first
      | (go_at_call 67; with_reducible refine (unhide CN).mono ?_; rintro e w5 ⟨v, rfl, h5⟩; have B5 := hide ((unhide HB).next (unhide h5).1); have z0 := (unhide B5).cell 0 _ rfl; have z1 := (unhide B5).cell 1 _ rfl; have z2 := (unhide B5).cell 2 _ rfl; have z3 := (unhide B5).cell 3 _ rfl; have y0 := (unhide B5).froz 0; have y1 := (unhide B5).froz 1; have y2 := (unhide B5).froz 2; have y3 := (unhide B5).froz 3; simp only [Larder8.St.err]))
    refine bodyPost_ret (arr_end _ _ (store4 (unhide B5).box rfl _ _ _ _) rfl rfl) rfl ?_
    exact ⟨7, 0, none, 0, 0, none, 0, 0, rfl, hide ⟨DcK.boxed (unhide B5) _ _ _ _, fun x r e => (by cases e)⟩⟩
theorem arr_nil8 (w : World) (pd I d : Nat) (a : Option Addr) (n cp : Nat) (T r : List Nat) (hI : ((I : Int) == 8) = true) (h : DcAt w pd a n cp T) (hl : n ≤ 140737488355328) (hQ : Larder8.numP (-1) (-1) T = .ok (-1) r) :
    Part w pd (d + 1) 69 #[.pointer (some ⟨pd, 0, none⟩), .int .i64 (I : Int)] (.ok (mkR 7 0 [] []) r) := by
  have CN := hide (dnum_any _ pd a n cp T (-1) (-1) (h.below ((Below.refl _ _).alloc (Nat.le_refl _) (.cells #[.int .i64 0, .int .i64 0, .slice none 0 0, .slice none 0 0] 31))) hl ⟨by omega, by omega⟩ ⟨by omega, by omega⟩)
  have HB := hide (Bx.new w pd (block_lt h.box))
  rw [hQ] at CN
  clear h hQ
  unfold Part
  unfold NumEnd at CN
  go_enter Tryz.func69, Tryz.ntmps69
  go_wp2_with (first
    | (go_at_call 67; with_reducible refine (unhide CN).mono ?_; rintro e w5 ⟨v, rfl, h5⟩; obtain ⟨rfl, h7⟩ := (unhide h5).2 _ _ rfl; have B5 := hide ((unhide HB).next (unhide h5).1); have z0 := (unhide B5).cell 0 _ rfl; have z1 := (unhide B5).cell 1 _ rfl; have z2 := (unhide B5).cell 2 _ rfl; have z3 := (unhide B5).cell 3 _ rfl; have y0 := (unhide B5).froz 0; have y1 := (unhide B5).froz 1; have y2 := (unhide B5).froz 2; have y3 := (unhide B5).froz 3; simp only [Larder8.St.err]))
  refine bodyPost_ret (arr_end _ _ (store4 (unhide B5).box rfl _ _ _ _) rfl rfl) rfl ?_
  obtain ⟨a', n', cp', h8⟩ := h7
  refine ⟨7, 0, none, 0, 0, none, 0, 0, rfl, hide ⟨DcK.boxed (unhide B5) _ _ _ _, fun x r' e => ?_⟩⟩
  cases e
  exact ⟨DrAt.leaf (OwnB.nil _ _) small_nil, a', n', cp', h8.boxed (by have := (unhide B5).lt; omega) ((unhide B5).apart h8) _ _ _ _⟩

theorem arr_bad (w : World) (pd I d : Nat) (a : Option Addr) (n cp : Nat) (T : List Nat) (hI : ((I : Int) == 8) = false) (h : DcAt w pd a n cp T) (hl : n ≤ 140737488355328) (P : Larder8.St (Tr (d + 1))) (Q : Larder8.St Int) (hQ : Larder8.numP (-1) 65536 T = Q) (hPQ : (Q = .short ∧ P = .short) ∨ (Q = .wrong ∧ P = .wrong)) :
    Part w pd (d + 1) 69 #[.pointer (some ⟨pd, 0, none⟩), .int .i64 (I : Int)] P := by
  have CN := hide (dnum_any _ pd a n cp T (-1) 65536 (h.below ((Below.refl _ _).alloc (Nat.le_refl _) (.cells #[.int .i64 0, .int .i64 0, .slice none 0 0, .slice none 0 0] 31))) hl ⟨by omega, by omega⟩ ⟨by omega, by omega⟩)
  have HB := hide (Bx.new w pd (block_lt h.box))
  rw [hQ] at CN
  clear h hQ
  unfold Part
  unfold NumEnd at CN
  rcases hPQ with ⟨rfl, rfl⟩ | ⟨rfl, rfl⟩
  all_goals
    go_enter Tryz.func69, Tryz.ntmps69
    go_wp2_with (first
      | (go_at_call 67; with_reducible refine (unhide CN).mono ?_; rintro e w5 ⟨v, rfl, h5⟩; have B5 := hide ((unhide HB).next (unhide h5).1); have z0 := (unhide B5).cell 0 _ rfl; have z1 := (unhide B5).cell 1 _ rfl; have z2 := (unhide B5).cell 2 _ rfl; have z3 := (unhide B5).cell 3 _ rfl; have y0 := (unhide B5).froz 0; have y1 := (unhide B5).froz 1; have y2 := (unhide B5).froz 2; have y3 := (unhide B5).froz 3; simp only [Larder8.St.err]))
    refine bodyPost_ret (arr_end _ _ (store4 (unhide B5).box rfl _ _ _ _) rfl rfl) rfl ?_
    exact ⟨7, 0, none, 0, 0, none, 0, 0, rfl, hide ⟨DcK.boxed (unhide B5) _ _ _ _, fun x r e => (by cases e)⟩⟩
theorem arr_nil (w : World) (pd I d : Nat) (a : Option Addr) (n cp : Nat) (T r : List Nat) (hI : ((I : Int) == 8) = false) (h : DcAt w pd a n cp T) (hl : n ≤ 140737488355328) (hQ : Larder8.numP (-1) 65536 T = .ok (-1) r) :
    Part w pd (d + 1) 69 #[.pointer (some ⟨pd, 0, none⟩), .int .i64 (I : Int)] (.ok (mkR 7 0 [] []) r) := by
  have CN := hide (dnum_any _ pd a n cp T (-1) 65536 (h.below ((Below.refl _ _).alloc (Nat.le_refl _) (.cells #[.int .i64 0, .int .i64 0, .slice none 0 0, .slice none 0 0] 31))) hl ⟨by omega, by omega⟩ ⟨by omega, by omega⟩)
  have HB := hide (Bx.new w pd (block_lt h.box))
  rw [hQ] at CN
  clear h hQ
  unfold Part
  unfold NumEnd at CN
  go_enter Tryz.func69, Tryz.ntmps69
  go_wp2_with (first
    | (go_at_call 67; with_reducible refine (unhide CN).mono ?_; rintro e w5 ⟨v, rfl, h5⟩; obtain ⟨rfl, h7⟩ := (unhide h5).2 _ _ rfl; have B5 := hide ((unhide HB).next (unhide h5).1); have z0 := (unhide B5).cell 0 _ rfl; have z1 := (unhide B5).cell 1 _ rfl; have z2 := (unhide B5).cell 2 _ rfl; have z3 := (unhide B5).cell 3 _ rfl; have y0 := (unhide B5).froz 0; have y1 := (unhide B5).froz 1; have y2 := (unhide B5).froz 2; have y3 := (unhide B5).froz 3; simp only [Larder8.St.err]))
  refine bodyPost_ret (arr_end _ _ (store4 (unhide B5).box rfl _ _ _ _) rfl rfl) rfl ?_
  obtain ⟨a', n', cp', h8⟩ := h7
  refine ⟨7, 0, none, 0, 0, none, 0, 0, rfl, hide ⟨DcK.boxed (unhide B5) _ _ _ _, fun x r' e => ?_⟩⟩
  cases e
  exact ⟨DrAt.leaf (OwnB.nil _ _) small_nil, a', n', cp', h8.boxed (by have := (unhide B5).lt; omega) ((unhide B5).apart h8) _ _ _ _⟩

end Go.Proofs.YtecfgbjnjgjkoaaGreatDoor
namespace Go.Proofs.YtecfgbjnjgjkoaaGreatDoor
open Go.ChangeShapes Go.WideShapes Go.ChangeAt Go.RowKit
set_option linter.unusedVariables false
set_option linter.unusedSimpArgs false
set_option maxRecDepth 20000
set_option maxHeartbeats 8000000

/-- replies inside so many arrays are read -/
def RepOk (pd d : Nat) (I : Int) : Prop := ∀ (W : World) (a : Option Addr) (n cp : Nat) (R : List Nat), DcAt W pd a n cp R → UOk W → n ≤ 140737488355328 → Calls Tryz.prog 52 #[.pointer (some ⟨pd, 0, none⟩), .int .i64 I] W (RpEnd W pd d (repP d R))
theorem listP_bad {α : Type} {f : List Nat → Larder8.St α} {k : Nat} {R : List Nat} {Q : Larder8.St α} (h : f R = Q) (hq : Q = .short ∨ Q = .wrong) : (Q = .short → Larder8.listP f (k + 1) R = .short) ∧ (Q = .wrong → Larder8.listP f (k + 1) R = .wrong) := by
  subst h
  exact ⟨fun e => by unfold Larder8.listP; rw [e], fun e => by unfold Larder8.listP; rw [e]⟩
theorem ArrAt.start {w W : World} {pd d : Nat} {R : List Nat} (h : Bx w W pd) (hd : ∃ a n cp, DcAt W pd a n cp R) : ArrAt w W pd d (.slice none 0 0) [] R :=
  ⟨h, hd, fun _ => undef, .inl ⟨rfl, rfl⟩, fun g hg => (by simp [Value.ownBlock] at hg), Els.nil _ _ _ _⟩
/-- the array's end -/
theorem ArrAt.told {w W : World} {pd d : Nat} {va : Option Addr} {vn vc : Nat} {l : List (Tr d)} {R : List Nat} (h : ArrAt w W pd d (.slice va vn vc) l R) :
    Told4 w pd (d + 1) (.ok (mkR 6 0 [] l) R) 6 0 none 0 0 va vn vc ((((W.setCell ⟨w.heap.size, 0, none⟩ (.int .i64 6)).setCell ⟨w.heap.size, 1, none⟩ (.int .i64 0)).setCell ⟨w.heap.size, 2, none⟩ (.slice none 0 0)).setCell ⟨w.heap.size, 3, none⟩ (.slice va vn vc)) := by
  have hb : ∀ k, k ≠ w.heap.size → ((((W.setCell ⟨w.heap.size, 0, none⟩ (.int .i64 6)).setCell ⟨w.heap.size, 1, none⟩ (.int .i64 0)).setCell ⟨w.heap.size, 2, none⟩ (.slice none 0 0)).setCell ⟨w.heap.size, 3, none⟩ (.slice va vn vc)).heap[k]? = W.heap[k]? := fun k hk => by
    rw [Bk.setCell_else _ _ _ _ _ hk, Bk.setCell_else _ _ _ _ _ hk, Bk.setCell_else _ _ _ _ _ hk, Bk.setCell_else _ _ _ _ _ hk]
  refine ⟨DcK.boxed h.bx _ _ _ _, fun x r e => ?_⟩
  cases e
  obtain ⟨F, h1, h2, Q, q1, q2, q3⟩ := h.row
  obtain ⟨a, n, cp, hd⟩ := h.dc
  refine ⟨⟨rfl, rfl, ⟨OwnB.nil _ _, small_nil, fun g hg => (by simp [Value.ownBlock] at hg)⟩, F, h1.same (fun g hg => hb g (by have := h2 g hg; omega)), fun g hg => Nat.le_of_lt (h2 g hg), Q, q1, fun i b hb' => ⟨by have := (q2 i b hb').1; omega, (q2 i b hb').2, by simp [Value.ownBlock]⟩, fun i y hi => (q3 i y hi).same (fun b hb' hlt => hb b (by have := (q2 i b hb').1; omega))⟩, a, n, cp, hd.boxed (by have := h.bx.lt; omega) (h.bx.apart hd) _ _ _ _⟩
theorem arr_list (w : World) (pd I d m : Nat) (a : Option Addr) (n cp : Nat) (T r : List Nat) (hI : I ≤ 7) (h : DcAt w pd a n cp T) (hU : UOk w) (hp : 2 < pd) (hl : n ≤ 140737488355328) (hQ : Larder8.numP (-1) 65536 T = .ok (m : Int) r) (RP : RepOk pd d ((I : Int) + 1)) :
    Part w pd (d + 1) 69 #[.pointer (some ⟨pd, 0, none⟩), .int .i64 (I : Int)] ((Larder8.listP (repP d) m r).map (fun l => (mkR 6 0 [] l))) := by
  have CN := hide (dnum_any _ pd a n cp T (-1) 65536 (h.below ((Below.refl _ _).alloc (Nat.le_refl _) (.cells #[.int .i64 0, .int .i64 0, .slice none 0 0, .slice none 0 0] 31))) hl ⟨by omega, by omega⟩ ⟨by omega, by omega⟩)
  have HB := hide (Bx.new w pd (block_lt h.box))
  have hm := (Larder8.numP_in hQ).2
  have hin : ((I : Int) == 8) = false := by rw [beq_eq_false_iff_ne]; omega
  have hm1 : ((m : Int) == -1) = false := by rw [beq_eq_false_iff_ne]; omega
  have HT : Hid (∀ R, (∃ k, R = T.drop k) → R.length ≤ 140737488355328) := hide (by
    rintro R ⟨k, rfl⟩
    have := h.rst.len
    rw [List.length_drop]
    omega)
  have HR : Hid (r.length ≤ 140737488355328) := hide (by
    have h1 := congrArg List.length (Larder8.numP_text hQ).1
    have := h.rst.len
    simp only [List.length_append] at h1
    omega)
  have HU := hide hU
  have HP := hide hp
  have HRP := hide RP
  obtain ⟨i27, hi27, hz27, hs27, hb27⟩ := info_parts4 Tryz.info27s
  rw [hQ] at CN
  clear h hQ hU hp RP HT
  unfold Part
  unfold NumEnd at CN
  go_enter Tryz.func69, Tryz.ntmps69
  go_wp2_with (first
    | (go_at_call 67; with_reducible refine (unhide CN).mono ?_; rintro e w5 ⟨v, rfl, h5⟩; obtain ⟨rfl, h7⟩ := (unhide h5).2 _ _ rfl; have B5 := hide ((unhide HB).next (unhide h5).1); have A5 := hide (ArrAt.start (d := d) (unhide B5) h7); clear h7; simp only [Larder8.St.err]))
  go_loopw [9, 29] (fun v iv wr => ∃ (i : Nat) (va : Option Addr) (vc : Nat) (l : List (Tr d)) (R : List Nat), v = .slice va i vc ∧ iv = .int .i64 (i : Nat) ∧ i ≤ m ∧ Hid (ArrAt w wr pd d (.slice va i vc) l R ∧ l.length = i ∧ R.length ≤ 140737488355328 ∧ Larder8.listP (repP d) m r = (Larder8.listP (repP d) (m - i) R).map (l ++ ·))) (fun _ iv _ => m - (intOf iv).toNat)
  case atStart => exact ⟨0, none, 0, [], r, rfl, rfl, Nat.zero_le _, hide ⟨unhide A5, rfl, unhide HR, by simp [Larder8.St.map]; cases Larder8.listP (repP d) m r <;> rfl⟩⟩
  case round =>
    obtain ⟨i, va, vc, l, R, rfl, rfl, hi, hS⟩ := hrel
    rename World => wr
    rcases Nat.lt_or_ge i m with hlt | hge
    · have f3 : decide ((i : Int) < (m : Int)) = true := decide_eq_true (by omega)
      have hL := (unhide hS).2.1
      obtain ⟨a5, n5, c5, D5⟩ := (unhide hS).1.dc
      have BR := hide (unhide hS).1.bx
      have CR := hide (unhide HRP wr a5 n5 c5 R D5 ((unhide HU).dck (unhide BR).k (unhide HP)) (by have := D5.rst.len; have := (unhide hS).2.2.1; omega))
      clear D5
      have hmi : m - i = (m - (i + 1)) + 1 := by omega
      cases hq : repP d R with
      | short =>
        rw [hq] at CR
        unfold RpEnd at CR
        have HE : Hid (Larder8.listP (repP d) m r = .short) := hide (by rw [(unhide hS).2.2.2, hmi, (listP_bad hq (.inl rfl)).1 rfl]; rfl)
        clear hmi hq
        go_wp2_with (first
          | (go_at_call 52; with_reducible refine (unhide CR).mono ?_; rintro e w3 ⟨k0, k1, ta, tn, tc, la, ln, lc, rfl, h3⟩; have B6 := hide (((unhide BR).next (unhide h3).1).next (DcK.below ((Below.refl _ _).alloc (Nat.le_refl _) (.cells #[.int .i64 k0, .int .i64 k1, .slice ta tn tc, .slice la ln lc] 31)))); have z0 := (unhide B6).cell 0 _ rfl; have z1 := (unhide B6).cell 1 _ rfl; have z2 := (unhide B6).cell 2 _ rfl; have z3 := (unhide B6).cell 3 _ rfl; have y0 := (unhide B6).froz 0; have y1 := (unhide B6).froz 1; have y2 := (unhide B6).froz 2; have y3 := (unhide B6).froz 3; simp only [Larder8.St.err]))
        refine bodyPost_ret (arr_end _ _ (store4 (unhide B6).box rfl _ _ _ _) rfl rfl) rfl ?_
        rw [unhide HE]
        exact ⟨0, 0, none, 0, 0, none, 0, 0, rfl, hide ⟨DcK.boxed (unhide B6) _ _ _ _, fun x r e => (by cases e)⟩⟩
      | wrong =>
        rw [hq] at CR
        unfold RpEnd at CR
        have HE : Hid (Larder8.listP (repP d) m r = .wrong) := hide (by rw [(unhide hS).2.2.2, hmi, (listP_bad hq (.inr rfl)).2 rfl]; rfl)
        clear hmi hq
        go_wp2_with (first
          | (go_at_call 52; with_reducible refine (unhide CR).mono ?_; rintro e w3 ⟨k0, k1, ta, tn, tc, la, ln, lc, rfl, h3⟩; have B6 := hide (((unhide BR).next (unhide h3).1).next (DcK.below ((Below.refl _ _).alloc (Nat.le_refl _) (.cells #[.int .i64 k0, .int .i64 k1, .slice ta tn tc, .slice la ln lc] 31)))); have z0 := (unhide B6).cell 0 _ rfl; have z1 := (unhide B6).cell 1 _ rfl; have z2 := (unhide B6).cell 2 _ rfl; have z3 := (unhide B6).cell 3 _ rfl; have y0 := (unhide B6).froz 0; have y1 := (unhide B6).froz 1; have y2 := (unhide B6).froz 2; have y3 := (unhide B6).froz 3; simp only [Larder8.St.err]))
        refine bodyPost_ret (arr_end _ _ (store4 (unhide B6).box rfl _ _ _ _) rfl rfl) rfl ?_
        rw [unhide HE]
        exact ⟨0, 0, none, 0, 0, none, 0, 0, rfl, hide ⟨DcK.boxed (unhide B6) _ _ _ _, fun x r e => (by cases e)⟩⟩
      | ok x r1 =>
        rw [hq] at CR
        unfold RpEnd at CR
        have HE : Hid (Larder8.listP (repP d) m r = (Larder8.listP (repP d) (m - (i + 1)) r1).map ((l ++ [x]) ++ ·)) := hide (by rw [(unhide hS).2.2.2, hmi, listP_ok hq, map_map]; congr 1; funext y; simp)
        have HR1 : Hid (r1.length ≤ 140737488355328) := hide (by
          have h1 := congrArg List.length (repP_text d R x r1 hq).1
          have := (unhide hS).2.2.1
          simp only [List.length_append] at h1
          omega)
        obtain ⟨F, hF, hO, hEl⟩ := (unhide hS).1.row
        have hwr : w.heap.size < wr.heap.size := block_lt (unhide BR).box
        have hpl := (unhide BR).lt
        have RW : Hid (∀ w3, DcK pd wr w3 → ∀ o1 o2, Rws ((w3.alloc o1).alloc o2) 31 4 (.slice va i vc) i F) := hide (fun w3 k o1 o2 => by
          rw [hL] at hF
          refine ((hF.same (w' := w3) (fun g hg => k.blk g (hF.lt g hg) (by have := hO g hg; omega))).below ((Below.refl _ _).alloc (Nat.le_refl _) o1)).below ((Below.refl _ _).alloc (Nat.le_refl _) o2))
        have ST : Hid (∀ w3 v1 w6 o1 o2 k0 k1 ta tn tc la ln lc, DcK pd wr w3 → (DrAt w3 d (fun b => wr.heap.size ≤ b) x (.int .i64 k0) (.int .i64 k1) (.slice ta tn tc) (.slice la ln lc) ∧ ∃ a n cp, DcAt w3 pd a n cp r1) → Rws w6 31 4 v1 (i + 1) (fun k => if k < i * 4 then F k else [Value.int .i64 k0, .int .i64 k1, .slice ta tn tc, .slice la ln lc].getD (k - i * 4) undef) → Gr 31 (i * 4) 4 ((w3.alloc o1).alloc o2) w6 (.slice va i vc) v1 → ArrAt w w6 pd d v1 (l ++ [x]) r1) := hide (fun w3 v1 w6 o1 o2 k0 k1 ta tn tc la ln lc k1' k2 k3 k4 => by
          have h0 := (unhide hS).1
          subst hL
          exact h0.step hF hO hEl k1' k2.1 k2.2 o1 o2 k3 k4)
        have MC : Hid (∀ (W : World) (o1 : Obj) (q : List Value), ∀ j y, q[j]? = some y → ((W.alloc o1).alloc (.cells q.toArray 31)).cell? ⟨W.heap.size + 1, j, none⟩ = some y) := hide (fun W o1 q j y hj => by
          have := made_cells (W.alloc o1) q 31 j y hj
          rw [World.size_alloc] at this
          exact this)
        clear hmi hq hF hO hEl hL hwr hpl
        go_wp2_with (first
          | (go_at_call 52; with_reducible refine (unhide CR).mono ?_; rintro e w3 ⟨k0, k1, ta, tn, tc, la, ln, lc, rfl, h3⟩; simp only [Larder8.St.err])
          | (at_builtin; refine append_rws rfl _ _ 29 rfl 31 i27 _ 4 64 Tryz.underlying29 hi27 hz27 hs27 hb27 rfl 31 (.slice va i vc) i F rfl (unhide RW w3 (unhide h3).1 _ _) (.inl rfl) (w3.heap.size + 1) 1 rfl [.int .i64 k0, .int .i64 k1, .slice ta tn tc, .slice la ln lc] (by decide) rfl (unhide MC w3 _ _) (by simp [Value.oneCell']) (by omega) (by omega) ?_; intro v1 w6 h1 g1; have HZ := hide (unhide ST w3 v1 w6 _ _ k0 k1 ta tn tc la ln lc (unhide h3).1 ((unhide h3).2 x r1 rfl) h1 g1); obtain ⟨a1, c1, rfl⟩ := h1.shape; clear h1 g1))
        go_roundw
        case rel => exact ⟨i + 1, a1, c1, l ++ [x], r1, rfl, rfl, by omega, hide ⟨unhide HZ, by simp [(unhide hS).2.1], unhide HR1, unhide HE⟩⟩
        case measure => simp [intOf]; omega
    · obtain rfl : i = m := by omega
      have f3 : decide ((i : Int) < (i : Int)) = false := decide_eq_false (by omega)
      have HE : Hid ((Larder8.listP (repP d) i r) = .ok l R) := hide (by rw [(unhide hS).2.2.2, Nat.sub_self]; show Larder8.St.ok (l ++ []) R = _; rw [List.append_nil])
      have B6 := hide (unhide hS).1.bx
      have z0 := (unhide B6).cell 0 _ rfl; have z1 := (unhide B6).cell 1 _ rfl; have z2 := (unhide B6).cell 2 _ rfl; have z3 := (unhide B6).cell 3 _ rfl; have y0 := (unhide B6).froz 0; have y1 := (unhide B6).froz 1; have y2 := (unhide B6).froz 2; have y3 := (unhide B6).froz 3
      go_wp2_with fail
      refine bodyPost_ret (arr_end _ _ (store4 (unhide B6).box rfl _ _ _ _) rfl rfl) rfl ?_
      rw [unhide HE]
      exact ⟨6, 0, none, 0, 0, va, i, vc, rfl, hide (unhide hS).1.told⟩
end Go.Proofs.YtecfgbjnjgjkoaaGreatDoor
namespace Go.Proofs.YtecfgbjnjgjkoaaGreatDoor
open Go.ChangeShapes Go.WideShapes Go.ChangeAt Go.RowKit
set_option linter.unusedVariables false
set_option linter.unusedSimpArgs false
set_option maxRecDepth 20000
set_option maxHeartbeats 8000000

theorem arr_ok (pd d : Nat) (hp : 2 < pd) (hd : d ≤ 8) (RP : d ≠ 0 → RepOk pd d (((8 - d : Nat) : Int) + 1)) : ArrOk pd d := by
  intro W a n cp R h hU hl
  by_cases h0 : d = 0
  · subst h0
    have hI : (((8 - 0 : Nat) : Int) == 8) = true := by decide
    unfold arrP
    rw [if_pos rfl]
    cases hn : Larder8.numP (-1) (-1) R with
    | short => exact arr_bad8 W pd (8 - 0) 0 a n cp R hI h hl .short .short hn (.inl ⟨rfl, rfl⟩)
    | wrong => exact arr_bad8 W pd (8 - 0) 0 a n cp R hI h hl .wrong .wrong hn (.inr ⟨rfl, rfl⟩)
    | ok v r =>
      have hv := Larder8.numP_in hn
      obtain rfl : v = -1 := by omega
      simp only
      rw [if_pos trivial]
      exact arr_nil8 W pd (8 - 0) 0 a n cp R r hI h hl hn
  · have hI : (((8 - d : Nat) : Int) == 8) = false := by rw [beq_eq_false_iff_ne]; omega
    unfold arrP
    rw [if_neg h0]
    cases hn : Larder8.numP (-1) 65536 R with
    | short => exact arr_bad W pd (8 - d) d a n cp R hI h hl .short .short hn (.inl ⟨rfl, rfl⟩)
    | wrong => exact arr_bad W pd (8 - d) d a n cp R hI h hl .wrong .wrong hn (.inr ⟨rfl, rfl⟩)
    | ok v r =>
      have hv := Larder8.numP_in hn
      simp only
      by_cases h1 : v = -1
      · subst h1
        rw [if_pos rfl]
        exact arr_nil W pd (8 - d) d a n cp R r hI h hl hn
      · rw [if_neg h1]
        obtain ⟨m, rfl⟩ : ∃ m : Nat, v = (m : Int) := ⟨v.toNat, by omega⟩
        rw [Int.toNat_natCast]
        exact arr_list W pd (8 - d) d m a n cp R r (by omega) h hU hp hl hn (RP h0)
theorem rep_ok (pd : Nat) (hp : 2 < pd) : ∀ d, d ≤ 8 → RepOk pd (d + 1) ((8 - d : Nat) : Int)
  | 0, hd => fun W a n cp R h hU hl => reply_of W pd a n cp R 0 h hU hp hl (arr_ok pd 0 hp hd (fun e => absurd rfl e))
  | d + 1, hd => fun W a n cp R h hU hl => reply_of W pd a n cp R (d + 1) h hU hp hl (arr_ok pd (d + 1) hp hd (fun _ => by
      have ih := rep_ok pd hp d (by omega)
      have e : ((8 - (d + 1) : Nat) : Int) + 1 = ((8 - d : Nat) : Int) := by omega
      rw [e]
      exact ih))
/-- nothing is there to be read -/
theorem reply_empty (w : World) (pd : Nat) (a : Option Addr) (cp : Nat) (hb : w.heap[pd]? = some (.cells #[.slice a 0 cp] 97 (0, 0))) :
    Calls Tryz.prog 52 #[.pointer (some ⟨pd, 0, none⟩), .int .i64 0] w (RpEnd w pd 9 .short) := by
  have B3 := hide (Bx.new w pd (block_lt hb))
  have c1 : (w.alloc (.cells #[.int .i64 0, .int .i64 0, .slice none 0 0, .slice none 0 0] 31)).cell? ⟨pd, 0, none⟩ = some (.slice a 0 cp) := by
    rw [cell_of_row _ _ _ _ _ _ ((heap_alloc_old w _ (block_lt hb)).trans hb)]; rfl
  clear hb
  go_enter Tryz.func52, Tryz.ntmps52
  go_wp2_with fail
  refine bodyPost_ret (reply_end _ _ (heap_alloc_new _ _) rfl rfl) rfl ?_
  exact ⟨0, 0, none, 0, 0, none, 0, 0, rfl, hide ⟨(unhide B3).k, fun x r e => (by cases e)⟩⟩
/-- the decoder's reply, of any bytes -/
theorem top_any (w : World) (pd : Nat) (a : Option Addr) (n cp : Nat) (T : List Nat) (hp : 2 < pd) (hU : UOk w) (hb : w.heap[pd]? = some (.cells #[.slice a n cp] 97 (0, 0))) (hB : Bytes w a T) (hS : Small T) (hn : n = T.length) (hc : n ≤ cp) (hm : cp ≤ 9223372036854775807) (hl : n ≤ 140737488355328) (ha : ∀ b off, a = some ⟨b, off, none⟩ → 0 < n → b < pd) :
    Calls Tryz.prog 52 #[.pointer (some ⟨pd, 0, none⟩), .int .i64 0] w (RpEnd w pd 9 (repP 9 T)) := by
  cases T with
  | nil =>
    simp only [List.length_nil] at hn
    subst hn
    exact reply_empty w pd a cp hb
  | cons c T =>
    rcases hB with e | ⟨b, off, rfl, h1, h2⟩
    · cases e
    · have hn0 : 0 < n := by rw [hn]; simp
      exact rep_ok pd hp 8 (Nat.le_refl _) w (some ⟨b, off, none⟩) n cp (c :: T) ⟨hb, ⟨.inr ⟨b, off, rfl, h1, h2⟩, hn, hc, by omega⟩, fun b' off' e _ => by cases e; have := ha b off rfl hn0; omega, hS, b, off, rfl, ha b off rfl hn0⟩ hU (by omega)
end Go.Proofs.YtecfgbjnjgjkoaaGreatDoor
namespace Go.Proofs.YtecfgbjnjgjkoaaGreatDoor
open Go.ChangeShapes Go.WideShapes Go.ChangeAt Go.RowKit
set_option linter.unusedVariables false
set_option linter.unusedSimpArgs false
set_option maxRecDepth 20000
set_option maxHeartbeats 8000000

theorem dec_end {W : World} {g : Nat} {v0 v1 v2 v3 : Value} (N er : Int) (tmps : Array Value) (hg : W.heap[g]? = some (.cells #[v0, v1, v2, v3] 31 (0, 0))) (h2 : tmps.getD 2 undef = .pointer (some ⟨g, 0, none⟩)) (h3 : tmps.getD 3 undef = .int .i64 N) (h4 : tmps.getD 4 undef = .int .i64 er) :
    (results Tryz.f28 tmps).run Tryz.prog W = .ok (.tuple #[.agg #[v0, v1, v2, v3], .int .i64 N, .int .i64 er]) W := by
  refine results_box3 (p := 2) (q := 3) (s := 4) (ty := 31) rfl tmps _ g 31 _ (0, 0) _ h2 hg Tryz.underlying31 rfl (by kernel_rfl) _ _ h3 h4
/-- the box of Decode's answer, beside all that was there -/
structure Dx (w W : World) : Prop where
  k : Below w.heap.size w W
  box : W.heap[w.heap.size]? = some (.cells #[.int .i64 0, .int .i64 0, .slice none 0 0, .slice none 0 0] 31 (0, 0))
theorem Dx.cell {w W : World} (h : Dx w W) (j : Nat) (v : Value) (hv : (#[.int .i64 0, .int .i64 0, .slice none 0 0, .slice none 0 0] : Array Value)[j]? = some v) : W.cell? ⟨w.heap.size, j, none⟩ = some v := by rw [cell_of_row _ _ _ _ _ _ h.box]; exact hv
theorem Dx.froz {w W : World} (h : Dx w W) (j : Nat) : W.frozen? ⟨w.heap.size, j, none⟩ = false := by simp only [World.frozen?, h.box]; simp
theorem Dx.new (w : World) (o : Obj) : Dx w ((w.alloc (.cells #[.int .i64 0, .int .i64 0, .slice none 0 0, .slice none 0 0] 31)).alloc o) :=
  ⟨((Below.refl _ _).alloc (Nat.le_refl _) _).alloc (by simp) _, (heap_alloc_old _ o (by simp)).trans (heap_alloc_new w _)⟩
theorem Dx.next {w W W' : World} {pd : Nat} (h : Dx w W) (k : DcK pd W W') (hp : w.heap.size < pd) : Dx w W' :=
  ⟨⟨k.os.trans h.k.os, k.tape.trans h.k.tape, k.output.trans h.k.output, Nat.le_trans h.k.size k.size, fun b hb => (k.blk b (Nat.lt_of_lt_of_le hb h.k.size) (by omega)).trans (h.k.block b hb)⟩, (k.blk _ (block_lt h.box) (by omega)).trans h.box⟩
theorem Dx.alloc {w W : World} (h : Dx w W) (o : Obj) : Dx w (W.alloc o) := ⟨h.k.alloc h.k.size o, (heap_alloc_old _ o (block_lt h.box)).trans h.box⟩
theorem Dx.boxed {w W : World} (h : Dx w W) (v0 v1 v2 v3 : Value) : Below w.heap.size w ((((W.setCell ⟨w.heap.size, 0, none⟩ v0).setCell ⟨w.heap.size, 1, none⟩ v1).setCell ⟨w.heap.size, 2, none⟩ v2).setCell ⟨w.heap.size, 3, none⟩ v3) := by
  refine ⟨h.k.os, h.k.tape, h.k.output, by simpa using h.k.size, fun k hk => ?_⟩
  rw [Bk.setCell_else _ _ _ _ _ (by omega), Bk.setCell_else _ _ _ _ _ (by omega), Bk.setCell_else _ _ _ _ _ (by omega), Bk.setCell_else _ _ _ _ _ (by omega)]
  exact h.k.block k hk
def DecEnd (w : World) (L : Nat) (P : Larder8.St (Tr 9)) (e : Ending) (w' : World) : Prop := ∃ (k0 k1 : Int) (ta : Option Addr) (tn tc : Nat) (la : Option Addr) (ln lc : Nat) (N : Int), e = .returned (.tuple #[.agg #[.int .i64 k0, .int .i64 k1, .slice ta tn tc, .slice la ln lc], .int .i64 N, .int .i64 P.err]) ∧ Hid (Below w.heap.size w w' ∧ (∀ x r, P = .ok x r → N = (L : Int) - (r.length : Int) ∧ DrAt w' 9 (fun b => w.heap.size ≤ b) x (.int .i64 k0) (.int .i64 k1) (.slice ta tn tc) (.slice la ln lc)) ∧ ((∀ x r, P ≠ .ok x r) → N = 0 ∧ k0 = 0 ∧ k1 = 0 ∧ ta = none ∧ tn = 0 ∧ la = none ∧ ln = 0 ∧ tc = 0 ∧ lc = 0))
theorem wdecode_any (w : World) (a : Option Addr) (n cp : Nat) (T : List Nat) (hU : UOk w) (hB : Bytes w a T) (hS : Small T) (hn : n = T.length) (hc : n ≤ cp) (hm : cp ≤ 9223372036854775807) (hl : n ≤ 140737488355328) (ha : ∀ b off, a = some ⟨b, off, none⟩ → 0 < n → b < w.heap.size) (h2 : 2 < w.heap.size) :
    Calls Tryz.prog 28 #[.slice a n cp] w (DecEnd w n (repP 9 T)) := by
  have HX := hide (Dx.new w (.cells #[.slice a n cp] 97))
  have CT := hide (top_any _ (w.heap.size + 1) a n cp T (by omega) (UOk.below _ _ (UOk.below _ _ hU ((Below.refl _ _).alloc (Nat.le_refl _) (.cells #[.int .i64 0, .int .i64 0, .slice none 0 0, .slice none 0 0] 31))) ((Below.refl _ _).alloc (Nat.le_refl _) (.cells #[.slice a n cp] 97))) (by rw [← World.size_alloc (w := w) (o := .cells #[.int .i64 0, .int .i64 0, .slice none 0 0, .slice none 0 0] 31)]; exact heap_alloc_new _ _) ((hB.below ((Below.refl _ _).alloc (Nat.le_refl _) _)).below ((Below.refl _ _).alloc (Nat.le_refl _) _)) hS hn hc hm hl (fun b off e h0 => by have := ha b off e h0; omega))
  have HN := hide hn
  have HC := hide hc
  clear hU hB hS hn ha h2
  cases hP : repP 9 T with
  | short =>
    rw [hP] at CT
    unfold RpEnd at CT
    clear hP
    go_enter Tryz.func28, Tryz.ntmps28
    go_wp2_with (first
      | (go_at_call 52; with_reducible refine (unhide CT).mono ?_; rintro e w3 ⟨k0, k1, ta, tn, tc, la, ln, lc, rfl, h3⟩; have B6 := hide (((unhide HX).next (unhide h3).1 (Nat.lt_succ_self _)).alloc (.cells #[.int .i64 k0, .int .i64 k1, .slice ta tn tc, .slice la ln lc] 31)); have z0 := (unhide B6).cell 0 _ rfl; have z1 := (unhide B6).cell 1 _ rfl; have z2 := (unhide B6).cell 2 _ rfl; have z3 := (unhide B6).cell 3 _ rfl; have y0 := (unhide B6).froz 0; have y1 := (unhide B6).froz 1; have y2 := (unhide B6).froz 2; have y3 := (unhide B6).froz 3; simp only [Larder8.St.err]))
    refine bodyPost_ret (dec_end _ _ _ (store4 (unhide B6).box rfl _ _ _ _) rfl rfl rfl) rfl ?_
    exact ⟨0, 0, none, 0, 0, none, 0, 0, 0, rfl, hide ⟨(unhide B6).boxed _ _ _ _, fun x r e => (by cases e), fun _ => ⟨rfl, rfl, rfl, rfl, rfl, rfl, rfl, rfl, rfl⟩⟩⟩
  | wrong =>
    rw [hP] at CT
    unfold RpEnd at CT
    clear hP
    go_enter Tryz.func28, Tryz.ntmps28
    go_wp2_with (first
      | (go_at_call 52; with_reducible refine (unhide CT).mono ?_; rintro e w3 ⟨k0, k1, ta, tn, tc, la, ln, lc, rfl, h3⟩; have B6 := hide (((unhide HX).next (unhide h3).1 (Nat.lt_succ_self _)).alloc (.cells #[.int .i64 k0, .int .i64 k1, .slice ta tn tc, .slice la ln lc] 31)); have z0 := (unhide B6).cell 0 _ rfl; have z1 := (unhide B6).cell 1 _ rfl; have z2 := (unhide B6).cell 2 _ rfl; have z3 := (unhide B6).cell 3 _ rfl; have y0 := (unhide B6).froz 0; have y1 := (unhide B6).froz 1; have y2 := (unhide B6).froz 2; have y3 := (unhide B6).froz 3; simp only [Larder8.St.err]))
    refine bodyPost_ret (dec_end _ _ _ (store4 (unhide B6).box rfl _ _ _ _) rfl rfl rfl) rfl ?_
    exact ⟨0, 0, none, 0, 0, none, 0, 0, 0, rfl, hide ⟨(unhide B6).boxed _ _ _ _, fun x r e => (by cases e), fun _ => ⟨rfl, rfl, rfl, rfl, rfl, rfl, rfl, rfl, rfl⟩⟩⟩
  | ok x r =>
    rw [hP] at CT
    unfold RpEnd at CT
    have HR : Hid (r.length ≤ n) := hide (by
      have h1 := congrArg List.length (repP_text 9 T x r hP).1
      simp only [List.length_append] at h1
      have := unhide HN
      omega)
    clear hP
    go_enter Tryz.func28, Tryz.ntmps28
    go_wp2_with (first
      | (go_at_call 52; with_reducible refine (unhide CT).mono ?_; rintro e w3 ⟨k0, k1, ta, tn, tc, la, ln, lc, rfl, h3⟩; obtain ⟨h4, a5, n5, c5, h5⟩ := (unhide h3).2 x r rfl; have B6 := hide (((unhide HX).next (unhide h3).1 (Nat.lt_succ_self _)).alloc (.cells #[.int .i64 k0, .int .i64 k1, .slice ta tn tc, .slice la ln lc] 31)); have z0 := (unhide B6).cell 0 _ rfl; have z1 := (unhide B6).cell 1 _ rfl; have z2 := (unhide B6).cell 2 _ rfl; have z3 := (unhide B6).cell 3 _ rfl; have y0 := (unhide B6).froz 0; have y1 := (unhide B6).froz 1; have y2 := (unhide B6).froz 2; have y3 := (unhide B6).froz 3; have q5 := (h5.below ((Below.refl _ _).alloc (Nat.le_refl _) (.cells #[.int .i64 k0, .int .i64 k1, .slice ta tn tc, .slice la ln lc] 31))).cell0; have q6 : (n5 : Int) ≤ (n : Int) := (by have := h5.rst.len; have := unhide HR; omega); have HL5 := hide h5.rst.len; have H4 := hide h4; clear h4 h5; simp only [Larder8.St.err]))
    have XB := hide (heap_alloc_new w3 (.cells #[.int .i64 k0, .int .i64 k1, .slice ta tn tc, .slice la ln lc] 31))
    have H4b := hide ((unhide H4).same (w' := w3.alloc (.cells #[.int .i64 k0, .int .i64 k1, .slice ta tn tc, .slice la ln lc] 31)) (fun b _ hb => heap_alloc_old _ _ hb))
    have x0 : (w3.alloc (Obj.cells #[.int .i64 k0, .int .i64 k1, .slice ta tn tc, .slice la ln lc] 31)).cell? ⟨w3.heap.size, 0, none⟩ = some (.int .i64 k0) := by rw [cell_of_row _ _ _ _ _ _ (unhide XB)]; rfl
    have x1 : (w3.alloc (Obj.cells #[.int .i64 k0, .int .i64 k1, .slice ta tn tc, .slice la ln lc] 31)).cell? ⟨w3.heap.size, 1, none⟩ = some (.int .i64 k1) := by rw [cell_of_row _ _ _ _ _ _ (unhide XB)]; rfl
    have x2 : (w3.alloc (Obj.cells #[.int .i64 k0, .int .i64 k1, .slice ta tn tc, .slice la ln lc] 31)).cell? ⟨w3.heap.size, 2, none⟩ = some (.slice ta tn tc) := by rw [cell_of_row _ _ _ _ _ _ (unhide XB)]; rfl
    have x3 : (w3.alloc (Obj.cells #[.int .i64 k0, .int .i64 k1, .slice ta tn tc, .slice la ln lc] 31)).cell? ⟨w3.heap.size, 3, none⟩ = some (.slice la ln lc) := by rw [cell_of_row _ _ _ _ _ _ (unhide XB)]; rfl
    generalize w3.alloc (Obj.cells #[.int .i64 k0, .int .i64 k1, .slice ta tn tc, .slice la ln lc] 31) = W at z0 z1 z2 z3 y0 y1 y2 y3 q5 x0 x1 x2 x3 B6 XB H4b ⊢
    go_region
    go_wp2_with fail
    refine bodyPost_ret (dec_end _ _ _ (store4 (W := W) (unhide B6).box rfl _ _ _ _) rfl rfl rfl) rfl ?_
    have hb := (unhide B6).boxed (.int .i64 k0) (.int .i64 k1) (.slice ta tn tc) (.slice la ln lc)
    refine ⟨k0, k1, ta, tn, tc, la, ln, lc, _, rfl, hide ⟨⟨hb.os, hb.tape, hb.output, hb.size, hb.block⟩, fun x' r' e => ?_, fun e => absurd rfl (e x r)⟩⟩
    cases e
    refine ⟨by rw [unhide HL5], ((unhide H4b).same (fun b h1 h2 => ?_)).mono (fun b h1 => by simp at h1; omega)⟩
    simp at h1
    show ((((W.setCell ⟨w.heap.size, 0, none⟩ (.int .i64 k0)).setCell ⟨w.heap.size, 1, none⟩ (.int .i64 k1)).setCell ⟨w.heap.size, 2, none⟩ (.slice ta tn tc)).setCell ⟨w.heap.size, 3, none⟩ (.slice la ln lc)).heap[b]? = _
    rw [Bk.setCell_else _ _ _ _ _ (by omega), Bk.setCell_else _ _ _ _ _ (by omega), Bk.setCell_else _ _ _ _ _ (by omega), Bk.setCell_else _ _ _ _ _ (by omega)]
end Go.Proofs.YtecfgbjnjgjkoaaGreatDoor
