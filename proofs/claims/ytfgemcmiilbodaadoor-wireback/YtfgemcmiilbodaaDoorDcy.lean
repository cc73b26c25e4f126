/- Decode, whole. -/
import Derived.Test.YtfgemcmiilbodaaDoorDcx
namespace Go.Proofs.YtfgemcmiilbodaaDoor
open Go.ChangeShapes Go.WideShapes Go.ChangeAt Go.RowKit
set_option linter.unusedVariables false
set_option linter.unusedSimpArgs false
set_option maxRecDepth 20000
set_option maxHeartbeats 8000000

theorem results_box3 {P : Program} {fn : Func} {p q s : Tmp} {ty : TypeId} (h : fn.results = #[.cell p ty, .tmp q, .tmp s]) (tmps : Array Value) (w : World) (g : Nat) (t : TypeId) (cs : Array Value) (fr : Nat × Nat) (d : TypeDesc)
    (hp : tmps.getD p undef = .pointer (some ⟨g, 0, none⟩)) (hg : w.heap[g]? = some (.cells cs t fr))
    (hu : P.underlying ty = some d) (hd : (match d with | .struct _ | .array _ _ => true | _ => false) = true) (hi : (P.info? ty).map (·.size) = some cs.size) (v u : Value) (hv : tmps.getD q undef = v) (hs : tmps.getD s undef = u) :
    (results fn tmps).run P w = .ok (.tuple #[.agg cs, v, u]) w := by
  have hp' : tmps[p]?.getD undef = .pointer (some ⟨g, 0, none⟩) := by simpa using hp
  have hv' : tmps[q]?.getD undef = v := by simpa using hv
  have hs' : tmps[s]?.getD undef = u := by simpa using hs
  simp [results, h, hp', hv', hs', asAddr, run_loadVar_row w g t ty cs fr d hg hu hd hi]
theorem dec_end {W : World} {g : Nat} {v0 v1 v2 v3 : Value} (N er : Int) (tmps : Array Value) (hg : W.heap[g]? = some (.cells #[v0, v1, v2, v3] 27 (0, 0))) (h2 : tmps.getD 2 undef = .pointer (some ⟨g, 0, none⟩)) (h3 : tmps.getD 3 undef = .int .i64 N) (h4 : tmps.getD 4 undef = .int .i64 er) :
    (results Tryd.f5 tmps).run Tryd.prog W = .ok (.tuple #[.agg #[v0, v1, v2, v3], .int .i64 N, .int .i64 er]) W := by
  refine results_box3 (p := 2) (q := 3) (s := 4) (ty := 27) rfl tmps _ g 27 _ (0, 0) _ h2 hg Tryd.underlying27 rfl (by kernel_rfl) _ _ h3 h4
/-- the box of Decode's answer, beside all that was there -/
structure Dx (w W : World) : Prop where
  k : Below w.heap.size w W
  box : W.heap[w.heap.size]? = some (.cells #[.int .i64 0, .int .i64 0, .slice none 0 0, .slice none 0 0] 27 (0, 0))
theorem Dx.cell {w W : World} (h : Dx w W) (j : Nat) (v : Value) (hv : (#[.int .i64 0, .int .i64 0, .slice none 0 0, .slice none 0 0] : Array Value)[j]? = some v) : W.cell? ⟨w.heap.size, j, none⟩ = some v := by rw [cell_of_row _ _ _ _ _ _ h.box]; exact hv
theorem Dx.froz {w W : World} (h : Dx w W) (j : Nat) : W.frozen? ⟨w.heap.size, j, none⟩ = false := by simp only [World.frozen?, h.box]; simp
theorem Dx.new (w : World) (o : Obj) : Dx w ((w.alloc (.cells #[.int .i64 0, .int .i64 0, .slice none 0 0, .slice none 0 0] 27)).alloc o) :=
  ⟨((Below.refl _ _).alloc (Nat.le_refl _) _).alloc (by simp) _, (heap_alloc_old _ o (by simp)).trans (heap_alloc_new w _)⟩
theorem Dx.next {w W W' : World} {pd : Nat} (h : Dx w W) (k : DcK pd W W') (hp : w.heap.size < pd) : Dx w W' :=
  ⟨⟨k.os.trans h.k.os, k.tape.trans h.k.tape, k.output.trans h.k.output, Nat.le_trans h.k.size k.size, fun b hb => (k.blk b (Nat.lt_of_lt_of_le hb h.k.size) (by omega)).trans (h.k.block b hb)⟩, (k.blk _ (block_lt h.box) (by omega)).trans h.box⟩
theorem Dx.alloc {w W : World} (h : Dx w W) (o : Obj) : Dx w (W.alloc o) := ⟨h.k.alloc h.k.size o, (heap_alloc_old _ o (block_lt h.box)).trans h.box⟩
theorem Dx.boxed {w W : World} (h : Dx w W) (v0 v1 v2 v3 : Value) : Below w.heap.size w ((((W.setCell ⟨w.heap.size, 0, none⟩ v0).setCell ⟨w.heap.size, 1, none⟩ v1).setCell ⟨w.heap.size, 2, none⟩ v2).setCell ⟨w.heap.size, 3, none⟩ v3) := by
  refine ⟨h.k.os, h.k.tape, h.k.output, by simpa using h.k.size, fun k hk => ?_⟩
  rw [Bk.setCell_else _ _ _ _ _ (by omega), Bk.setCell_else _ _ _ _ _ (by omega), Bk.setCell_else _ _ _ _ _ (by omega), Bk.setCell_else _ _ _ _ _ (by omega)]
  exact h.k.block k hk
def DecEnd (w : World) (L : Nat) (P : Larder8.St (Tr 9)) (e : Ending) (w' : World) : Prop := ∃ (k0 k1 : Int) (ta : Option Addr) (tn tc : Nat) (la : Option Addr) (ln lc : Nat) (N : Int), e = .returned (.tuple #[.agg #[.int .i64 k0, .int .i64 k1, .slice ta tn tc, .slice la ln lc], .int .i64 N, .int .i64 P.err]) ∧ Hid (Below w.heap.size w w' ∧ (∀ x r, P = .ok x r → N = (L : Int) - (r.length : Int) ∧ DrAt w' 9 (fun b => w.heap.size ≤ b) x (.int .i64 k0) (.int .i64 k1) (.slice ta tn tc) (.slice la ln lc)) ∧ ((∀ x r, P ≠ .ok x r) → N = 0 ∧ k0 = 0 ∧ k1 = 0 ∧ ta = none ∧ tn = 0 ∧ la = none ∧ ln = 0))
theorem wdecode_any (w : World) (a : Option Addr) (n cp : Nat) (T : List Nat) (hU : UOk w) (hB : Bytes w a T) (hS : Small T) (hn : n = T.length) (hc : n ≤ cp) (hm : cp ≤ 9223372036854775807) (hl : n ≤ 140737488355328) (ha : ∀ b off, a = some ⟨b, off, none⟩ → 0 < n → b < w.heap.size) (h2 : 2 < w.heap.size) :
    Calls Tryd.prog 5 #[.slice a n cp] w (DecEnd w n (repP 9 T)) := by
  have HX := hide (Dx.new w (.cells #[.slice a n cp] 44))
  have CT := hide (top_any _ (w.heap.size + 1) a n cp T (by omega) (UOk.below _ _ (UOk.below _ _ hU ((Below.refl _ _).alloc (Nat.le_refl _) (.cells #[.int .i64 0, .int .i64 0, .slice none 0 0, .slice none 0 0] 27))) ((Below.refl _ _).alloc (Nat.le_refl _) (.cells #[.slice a n cp] 44))) (by rw [← World.size_alloc (w := w) (o := .cells #[.int .i64 0, .int .i64 0, .slice none 0 0, .slice none 0 0] 27)]; exact heap_alloc_new _ _) ((hB.below ((Below.refl _ _).alloc (Nat.le_refl _) _)).below ((Below.refl _ _).alloc (Nat.le_refl _) _)) hS hn hc hm hl (fun b off e h0 => by have := ha b off e h0; omega))
  have HN := hide hn
  have HC := hide hc
  clear hU hB hS hn ha h2
  cases hP : repP 9 T with
  | short =>
    rw [hP] at CT
    unfold RpEnd at CT
    clear hP
    go_enter Tryd.func5, Tryd.ntmps5
    go_wp2_with (first
      | (go_at_call 13; with_reducible refine (unhide CT).mono ?_; rintro e w3 ⟨k0, k1, ta, tn, tc, la, ln, lc, rfl, h3⟩; have B6 := hide (((unhide HX).next (unhide h3).1 (Nat.lt_succ_self _)).alloc (.cells #[.int .i64 k0, .int .i64 k1, .slice ta tn tc, .slice la ln lc] 27)); have z0 := (unhide B6).cell 0 _ rfl; have z1 := (unhide B6).cell 1 _ rfl; have z2 := (unhide B6).cell 2 _ rfl; have z3 := (unhide B6).cell 3 _ rfl; have y0 := (unhide B6).froz 0; have y1 := (unhide B6).froz 1; have y2 := (unhide B6).froz 2; have y3 := (unhide B6).froz 3; simp only [Larder8.St.err]))
    refine bodyPost_ret (dec_end _ _ _ (store4 (unhide B6).box rfl _ _ _ _) rfl rfl rfl) rfl ?_
    exact ⟨0, 0, none, 0, 0, none, 0, 0, 0, rfl, hide ⟨(unhide B6).boxed _ _ _ _, fun x r e => (by cases e), fun _ => ⟨rfl, rfl, rfl, rfl, rfl, rfl, rfl⟩⟩⟩
  | wrong =>
    rw [hP] at CT
    unfold RpEnd at CT
    clear hP
    go_enter Tryd.func5, Tryd.ntmps5
    go_wp2_with (first
      | (go_at_call 13; with_reducible refine (unhide CT).mono ?_; rintro e w3 ⟨k0, k1, ta, tn, tc, la, ln, lc, rfl, h3⟩; have B6 := hide (((unhide HX).next (unhide h3).1 (Nat.lt_succ_self _)).alloc (.cells #[.int .i64 k0, .int .i64 k1, .slice ta tn tc, .slice la ln lc] 27)); have z0 := (unhide B6).cell 0 _ rfl; have z1 := (unhide B6).cell 1 _ rfl; have z2 := (unhide B6).cell 2 _ rfl; have z3 := (unhide B6).cell 3 _ rfl; have y0 := (unhide B6).froz 0; have y1 := (unhide B6).froz 1; have y2 := (unhide B6).froz 2; have y3 := (unhide B6).froz 3; simp only [Larder8.St.err]))
    refine bodyPost_ret (dec_end _ _ _ (store4 (unhide B6).box rfl _ _ _ _) rfl rfl rfl) rfl ?_
    exact ⟨0, 0, none, 0, 0, none, 0, 0, 0, rfl, hide ⟨(unhide B6).boxed _ _ _ _, fun x r e => (by cases e), fun _ => ⟨rfl, rfl, rfl, rfl, rfl, rfl, rfl⟩⟩⟩
  | ok x r =>
    rw [hP] at CT
    unfold RpEnd at CT
    have HR : Hid (r.length ≤ n) := hide (by
      have h1 := congrArg List.length (repP_text 9 T x r hP).1
      simp only [List.length_append] at h1
      have := unhide HN
      omega)
    clear hP
    go_enter Tryd.func5, Tryd.ntmps5
    go_wp2_with (first
      | (go_at_call 13; with_reducible refine (unhide CT).mono ?_; rintro e w3 ⟨k0, k1, ta, tn, tc, la, ln, lc, rfl, h3⟩; obtain ⟨h4, a5, n5, c5, h5⟩ := (unhide h3).2 x r rfl; have B6 := hide (((unhide HX).next (unhide h3).1 (Nat.lt_succ_self _)).alloc (.cells #[.int .i64 k0, .int .i64 k1, .slice ta tn tc, .slice la ln lc] 27)); have z0 := (unhide B6).cell 0 _ rfl; have z1 := (unhide B6).cell 1 _ rfl; have z2 := (unhide B6).cell 2 _ rfl; have z3 := (unhide B6).cell 3 _ rfl; have y0 := (unhide B6).froz 0; have y1 := (unhide B6).froz 1; have y2 := (unhide B6).froz 2; have y3 := (unhide B6).froz 3; have q5 := (h5.below ((Below.refl _ _).alloc (Nat.le_refl _) (.cells #[.int .i64 k0, .int .i64 k1, .slice ta tn tc, .slice la ln lc] 27))).cell0; have q6 : (n5 : Int) ≤ (n : Int) := (by have := h5.rst.len; have := unhide HR; omega); have HL5 := hide h5.rst.len; have H4 := hide h4; clear h4 h5; simp only [Larder8.St.err]))
    have XB := hide (heap_alloc_new w3 (.cells #[.int .i64 k0, .int .i64 k1, .slice ta tn tc, .slice la ln lc] 27))
    have H4b := hide ((unhide H4).same (w' := w3.alloc (.cells #[.int .i64 k0, .int .i64 k1, .slice ta tn tc, .slice la ln lc] 27)) (fun b _ hb => heap_alloc_old _ _ hb))
    have x0 : (w3.alloc (Obj.cells #[.int .i64 k0, .int .i64 k1, .slice ta tn tc, .slice la ln lc] 27)).cell? ⟨w3.heap.size, 0, none⟩ = some (.int .i64 k0) := by rw [cell_of_row _ _ _ _ _ _ (unhide XB)]; rfl
    have x1 : (w3.alloc (Obj.cells #[.int .i64 k0, .int .i64 k1, .slice ta tn tc, .slice la ln lc] 27)).cell? ⟨w3.heap.size, 1, none⟩ = some (.int .i64 k1) := by rw [cell_of_row _ _ _ _ _ _ (unhide XB)]; rfl
    have x2 : (w3.alloc (Obj.cells #[.int .i64 k0, .int .i64 k1, .slice ta tn tc, .slice la ln lc] 27)).cell? ⟨w3.heap.size, 2, none⟩ = some (.slice ta tn tc) := by rw [cell_of_row _ _ _ _ _ _ (unhide XB)]; rfl
    have x3 : (w3.alloc (Obj.cells #[.int .i64 k0, .int .i64 k1, .slice ta tn tc, .slice la ln lc] 27)).cell? ⟨w3.heap.size, 3, none⟩ = some (.slice la ln lc) := by rw [cell_of_row _ _ _ _ _ _ (unhide XB)]; rfl
    generalize w3.alloc (Obj.cells #[.int .i64 k0, .int .i64 k1, .slice ta tn tc, .slice la ln lc] 27) = W at z0 z1 z2 z3 y0 y1 y2 y3 q5 x0 x1 x2 x3 B6 XB H4b ⊢
    go_region
    go_wp2_with fail
    refine bodyPost_ret (dec_end _ _ _ (store4 (W := W) (unhide B6).box rfl _ _ _ _) rfl rfl rfl) rfl ?_
    have hb := (unhide B6).boxed (.int .i64 k0) (.int .i64 k1) (.slice ta tn tc) (.slice la ln lc)
    refine ⟨k0, k1, ta, tn, tc, la, ln, lc, _, rfl, hide ⟨⟨hb.os, hb.tape, hb.output, hb.size, hb.block⟩, fun x' r' e => ?_, fun e => absurd rfl (e x r)⟩⟩
    cases e
    refine ⟨by rw [unhide HL5], ((unhide H4b).same (fun b h1 h2 => ?_)).mono (fun b h1 => by simp at h1; omega)⟩
    simp at h1
    show ((((W.setCell ⟨w.heap.size, 0, none⟩ (.int .i64 k0)).setCell ⟨w.heap.size, 1, none⟩ (.int .i64 k1)).setCell ⟨w.heap.size, 2, none⟩ (.slice ta tn tc)).setCell ⟨w.heap.size, 3, none⟩ (.slice la ln lc)).heap[b]? = _
    rw [Bk.setCell_else _ _ _ _ _ (by omega), Bk.setCell_else _ _ _ _ _ (by omega), Bk.setCell_else _ _ _ _ _ (by omega), Bk.setCell_else _ _ _ _ _ (by omega)]
end Go.Proofs.YtfgemcmiilbodaaDoor
