/- record: the reader: commands. -/
import Derived.Test.YtljeedgnjgeopaaYf
namespace Larder
set_option linter.unusedVariables false
set_option linter.unusedSimpArgs false
theorem rdA_tk (s : Rd) : s.bind rdA = ((tkS s 1).bind (rdLst rdT)).map fun p => ((ofBig (tkV s 1), p.1), p.2) := by
  cases s with
  | none => rfl
  | some l =>
    show rdA l = _
    unfold rdA
    rw [rdN_tk]
    cases tkS (some l) 1 with
    | none => rfl
    | some r =>
      simp only [Option.map_some, Option.bind_some]
      unfold rdLst
      cases h4 : rdN 4 r with
      | none => rfl
      | some p =>
        obtain ⟨n, r2⟩ := p
        dsimp only
        cases rdL rdT n r2 with
        | none => rfl
        | some q => rfl
theorem rdL_less {α : Type} {f : List Nat → Option (α × List Nat)} (hf : ∀ l x r, f l = some (x, r) → r.length < l.length) {l r : List Nat} {xs : List α} (h : rdLst f l = some (xs, r)) : r.length < l.length := by
  unfold rdLst at h
  split at h
  · cases h
  · rename_i n r1 h1
    have := rdN_less (by decide) h1
    have := (rdL_len hf n r1 r xs h).2
    omega
theorem rdA_less {l r : List Nat} {x : ActP} (h : rdA l = some (x, r)) : r.length < l.length := by
  have h2 := rdA_tk (some l)
  rw [Option.bind_some, h] at h2
  cases h3 : tkS (some l) 1 with
  | none => rw [h3] at h2; cases h2
  | some r1 =>
    rw [h3, Option.bind_some] at h2
    cases h4 : rdLst rdT r1 with
    | none => rw [h4] at h2; cases h2
    | some p =>
      rw [h4] at h2
      cases h2
      have h5 := rdL_less (fun l x r => rdT_less) (r := p.2) (xs := p.1) h4
      obtain ⟨l2, e, q1, q2, q3⟩ := tkS_tkV h3
      cases e
      have := congrArg List.length q2
      rw [List.length_drop] at this
      omega
end Larder
namespace Go.Proofs.Ytljeedgnjgeopaa
open Go.ChangeShapes Go.WideShapes Go.ChangeAt Go.RowKit
set_option linter.unusedVariables false
set_option linter.unusedSimpArgs false
set_option maxRecDepth 100000
set_option maxHeartbeats 4000000
theorem results_box1 {P : Program} {fn : Func} {p : Tmp} {ty : TypeId} (h : fn.results = #[.cell p ty]) (tmps : Array Value) (w : World) (g : Nat) (t : TypeId) (cs : Array Value) (fr : Nat × Nat) (d : TypeDesc)
    (hp : tmps.getD p undef = .pointer (some ⟨g, 0, none⟩)) (hg : w.heap[g]? = some (.cells cs t fr))
    (hu : P.underlying ty = some d) (hd : (match d with | .struct _ | .array _ _ => true | _ => false) = true) (hi : (P.info? ty).map (·.size) = some cs.size) :
    (results fn tmps).run P w = .ok (.agg cs) w := by
  have hp' : tmps[p]?.getD undef = .pointer (some ⟨g, 0, none⟩) := by simpa using hp
  simp [results, h, hp', asAddr, run_loadVar_row w g t ty cs fr d hg hu hd hi]
theorem frz {w : World} {A : Nat} {C : Array Value} {t : TypeId} (h : w.heap[A]? = some (.cells C t (0, 0))) (i : Nat) : w.frozen? ⟨A, i, none⟩ = false := by simp only [World.frozen?, h]; simp
theorem rest_len {s : Larder.Rd} (k : Nat) {B : Nat} (h : (s.getD []).length ≤ B) : ((Larder.tkS s k).getD []).length ≤ B := Nat.le_trans (Larder.tkS_len s k) h
/-- a store into a block that is neither the reader's nor below it -/
theorem RdAt.put {w : World} {g A i : Nat} {s : Larder.Rd} {v : Value} (h : RdAt w g s) (hA : g < A) : RdAt (w.setCell ⟨A, i, none⟩ v) g s := h.kx (g' := A) Kx.put hA
theorem Kx.put2 {g A i : Nat} {w0 w : World} {v : Value} (h : Kx g w0 w) (hA : w0.heap.size ≤ A) : Kx g w0 (w.setCell ⟨A, i, none⟩ v) := ⟨h.os, h.tape, h.output, by simpa using h.size, fun k hk hn => (set_else w A i k v (by omega)).trans (h.blk k hk hn)⟩
theorem Kt.put {w : World} {A i : Nat} {v : Value} {C : Array Value} {t : TypeId} {f : Nat × Nat} (h : w.heap[A]? = some (.cells C t f)) : Kt (fun u => u ≠ t) w (w.setCell ⟨A, i, none⟩ v) := fun b C' t' f' hb ht => by
  refine set_else w A i b v (fun e => ?_)
  rw [e, h] at hb
  cases hb
  exact ht rfl
/-- what a command answers -/
def AcEnd (w : World) (g : Nat) (R : Option (Larder.ActP × List Nat)) (e : Ending) (w' : World) : Prop := ∃ (d : Nat) (a : Option Addr) (n c : Nat), e = .returned (.agg #[.int .i64 (d : Nat), .slice a n c]) ∧ Hid (Kx g w w' ∧ (∀ q, (Value.slice a n c).ownBlock = some q → w.heap.size ≤ q) ∧ ((R = none ∧ RdAt w' g none) ∨ ∃ xs r, R = some ((d, xs), r) ∧ RdAt w' g (some r) ∧ n = xs.length ∧ TL w' (.slice a n c) xs))
theorem act_any (w : World) (g : Nat) (s : Larder.Rd) (h : RdAt w g s) (hs : SmS s) (hl : (s.getD []).length ≤ 1099511627776) : Calls Try.prog 69 #[.pointer (some ⟨g, 0, none⟩)] w (AcEnd w g (s.bind Larder.rdA)) := by
  obtain ⟨A, hA⟩ : ∃ A, A = w.heap.size := ⟨_, rfl⟩
  have hgw : g < A := by rw [hA]; exact rdlt h
  have hb1 := (Below.refl w.heap.size w).alloc (Nat.le_refl _) (.cells #[.int .i64 0, .slice none 0 0] 64)
  have hn1 := heap_alloc_new w (.cells #[.int .i64 0, .slice none 0 0] 64)
  obtain ⟨w1, hw1⟩ : ∃ w1, w.alloc (.cells #[.int .i64 0, .slice none 0 0] 64) = w1 := ⟨_, rfl⟩
  rw [hw1] at hb1 hn1
  have hs1 : w1.heap.size = A + 1 := by rw [← hw1, hA]; simp
  have hb2 := (Below.refl w1.heap.size w1).alloc (Nat.le_refl _) (.cells #[.int .i64 0, .slice none 0 0] 64)
  have hn2 := heap_alloc_new w1 (.cells #[.int .i64 0, .slice none 0 0] 64)
  obtain ⟨w2, hw2⟩ : ∃ w2, w1.alloc (.cells #[.int .i64 0, .slice none 0 0] 64) = w2 := ⟨_, rfl⟩
  rw [hw2] at hb2 hn2
  rw [hs1] at hn2
  rw [← hA] at hn1
  have hn1' : w2.heap[A]? = _ := (hb2.block A (by omega)).trans hn1
  have hb : Below w.heap.size w w2 := hb1.trans (hb2.mono hb1.size)
  have hs2 : w2.heap.size = A + 2 := by rw [← hw2]; simp [hs1]
  have C74 := num8 w2 g s (h.below hb) hs
  have hd := ofBig_lt (Larder.tkV s 1) (hs.tkV 1)
  have hd2 : Larder.ofBig (Larder.tkV s 1) < 256 := by rcases tk_len s 1 with e | e <;> rw [e] at hd <;> omega
  rw [Larder.rdA_tk]
  have hS := hs.tkS 1
  have hL := rest_len 1 hl
  unfold NmEnd at C74
  generalize Larder.tkS s 1 = S at C74 hS hL ⊢
  generalize Larder.ofBig (Larder.tkV s 1) = d at C74 hd2 ⊢
  have q1 : IntKind.i64.wrap (d : Int) = (d : Int) := by rw [IntKind.wrap_i64]; omega
  have C74' : Calls Try.prog 74 #[.pointer (some ⟨g, 0, none⟩)] w2 fun e w' => e = .returned (.int .u8 (d : Nat)) ∧ w'.cell? ⟨A + 1, 0, none⟩ = some (.int .i64 0) ∧ w'.frozen? ⟨A + 1, 0, none⟩ = false ∧ Hid (Kx g w2 w' ∧ RdAt w' g S) := C74.mono fun e w' ⟨z1, z2⟩ => ⟨z1, cell_blk (((unhide z2).1.blk (A + 1) (by omega) (by omega)).trans hn2) 0, frz (((unhide z2).1.blk (A + 1) (by omega) (by omega)).trans hn2) 0, z2⟩
  have C75 : Hid (∀ w3, Kx g w2 w3 ∧ RdAt w3 g S → Calls Try.prog 75 #[.pointer (some ⟨g, 0, none⟩), .func (.func 76) #[] #[]] (w3.setCell ⟨A + 1, 0, none⟩ (.int .i64 (d : Nat))) fun e w5 => ∃ a n c, e = .returned (.slice a n c) ∧ w5.cell? ⟨A + 1, 1, none⟩ = some (.slice none 0 0) ∧ w5.frozen? ⟨A + 1, 1, none⟩ = false ∧ (w5.setCell ⟨A + 1, 1, none⟩ (.slice a n c)).cell? ⟨A + 1, 0, none⟩ = some (.int .i64 (d : Nat)) ∧ (w5.setCell ⟨A + 1, 1, none⟩ (.slice a n c)).cell? ⟨A + 1, 1, none⟩ = some (.slice a n c) ∧ (w5.setCell ⟨A + 1, 1, none⟩ (.slice a n c)).cell? ⟨A, 0, none⟩ = some (.int .i64 0) ∧ (w5.setCell ⟨A + 1, 1, none⟩ (.slice a n c)).frozen? ⟨A, 0, none⟩ = false ∧ ((w5.setCell ⟨A + 1, 1, none⟩ (.slice a n c)).setCell ⟨A, 0, none⟩ (.int .i64 (d : Nat))).cell? ⟨A, 1, none⟩ = some (.slice none 0 0) ∧ ((w5.setCell ⟨A + 1, 1, none⟩ (.slice a n c)).setCell ⟨A, 0, none⟩ (.int .i64 (d : Nat))).frozen? ⟨A, 1, none⟩ = false ∧ Hid ((((w5.setCell ⟨A + 1, 1, none⟩ (.slice a n c)).setCell ⟨A, 0, none⟩ (.int .i64 (d : Nat))).setCell ⟨A, 1, none⟩ (.slice a n c)).heap[A]? = some (.cells #[.int .i64 (d : Nat), .slice a n c] 64 (0, 0))) ∧ Hid (AcEnd w g ((S.bind (Larder.rdLst Larder.rdT)).map fun p => ((d, p.1), p.2)) (.returned (.agg #[.int .i64 (d : Nat), .slice a n c])) (((w5.setCell ⟨A + 1, 1, none⟩ (.slice a n c)).setCell ⟨A, 0, none⟩ (.int .i64 (d : Nat))).setCell ⟨A, 1, none⟩ (.slice a n c)))) := hide (by
    rintro w3 ⟨z1, z2⟩
    have m1 : w3.heap[A + 1]? = _ := (z1.blk (A + 1) (by omega) (by omega)).trans hn2
    have m0 : w3.heap[A]? = _ := (z1.blk A (by omega) (by omega)).trans hn1'
    have m1' := set_block w3 (A + 1) 0 (.int .i64 (d : Nat)) _ _ _ m1
    have m0' := (set_else w3 (A + 1) 0 A (.int .i64 (d : Nat)) (by omega)).trans m0
    have hsz : A + 2 ≤ w3.heap.size := by have := z1.size; omega
    refine (list_texts _ g S (z2.put (by omega)) hS hL).mono ?_
    rintro e w5 ⟨a, n, c, rfl, H⟩
    obtain ⟨u1, u2, u3⟩ := unhide H
    have n1 : w5.heap[A + 1]? = _ := (u1.blk (A + 1) (by simp; omega) (by omega)).trans m1'
    have n0 : w5.heap[A]? = _ := (u1.blk A (by simp; omega) (by omega)).trans m0'
    have p1 := set_block w5 (A + 1) 1 (.slice a n c) _ _ _ n1
    have p0 := (set_else w5 (A + 1) 1 A (.slice a n c) (by omega)).trans n0
    have r0 := set_block _ A 0 (.int .i64 (d : Nat)) _ _ _ p0
    have r1 := set_block _ A 1 (.slice a n c) _ _ _ r0
    refine ⟨a, n, c, rfl, cell_blk n1 1, frz n1 1, cell_blk p1 0, cell_blk p1 1, cell_blk p0 0, frz p0 0, cell_blk r0 1, frz r0 1, hide r1, hide ⟨d, a, n, c, rfl, hide ⟨?_, fun q hq => ?_, ?_⟩⟩⟩
    · have x1 : Kx g w w3 := (Kx.below hb).trans z1
      have x2 : Kx g w w5 := (x1.put2 (i := 0) (v := .int .i64 (d : Nat)) (A := A + 1) (by omega)).trans u1
      exact ((x2.put2 (A := A + 1) (by omega)).put2 (A := A) (by omega)).put2 (A := A) (by omega)
    · have := u2 q hq
      simp at this
      omega
    · rcases u3 with ⟨e1, e2⟩ | ⟨xs, r, e1, e2, e3, e4⟩
      · exact .inl ⟨by rw [e1]; rfl, ((e2.put (by omega)).put (by omega)).put (by omega)⟩
      · refine .inr ⟨xs, r, by rw [e1]; rfl, ((e2.put (by omega)).put (by omega)).put (by omega), e3, ?_⟩
        exact ((e4.kt (Kt.put n1) (by decide) (by decide)).kt (Kt.put p0) (by decide) (by decide)).kt (Kt.put r0) (by decide) (by decide))
  clear h hs hl hb1 hn1 hb2 hn2 hn1' hb C74 hd hS hL hd2
  have hA' := hA.symm
  clear hA
  go_enter Try.func69, Try.ntmps69
  go_wp2_with (first
    | (go_at_call 75; refine ((unhide C75) w3 (unhide k3)).mono ?_; clear C75; rintro e w5 ⟨a, n, c, rfl, y1, y1', y2, y3, y4, y4', y5, y5', y6, y7⟩)
    | (go_at_call 74; refine C74'.mono ?_; clear C74'; rintro e w3 ⟨rfl, y0, y0', k3⟩))
  refine bodyPost_ret (results_box1 (p := 2) (ty := 64) rfl _ _ A 64 _ (0, 0) _ rfl (unhide y6) Try.underlying64 rfl (by kernel_rfl)) rfl ?_
  exact unhide y7
end Go.Proofs.Ytljeedgnjgeopaa
