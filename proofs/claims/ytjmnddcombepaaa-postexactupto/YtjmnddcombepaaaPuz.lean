/- unlike of the law: seats made fit, each once. -/
import Derived.Test.YtjmnddcombepaaaPsv
import Derived.Deep.OwnRows
namespace Go.Proofs.Ytjmnddcombepaaa
open Go.ChangeShapes Go.WideShapes Go.ChangeAt Go.RowKit Go.Maps Go.Sort
set_option linter.unusedVariables false
set_option linter.unusedSimpArgs false
set_option maxRecDepth 100000
set_option maxHeartbeats 8000000

def OwnV (w : World) (base : Nat) (v : Value) (l : List Sv) : Prop := w.ownsRow base 40 3 v l.length (l.flatMap seatC)
theorem OwnV.nil (w : World) (base : Nat) : OwnV w base (.slice none 0 0) [] := World.ownsRow_nil w base 40 3
theorem OwnV.ge {w : World} {base : Nat} {v : Value} {l : List Sv} (h : OwnV w base v l) : ∀ g, v.ownBlock = some g → base ≤ g ∧ g < w.heap.size := fun g hg => World.ownsRow.lt h g hg
theorem OwnV.kept {w w' : World} {base : Nat} {v : Value} {l : List Sv} {row : Option Nat} (h : OwnV w base v l) (hg : w.grownBy w' row) (hr : ∀ g, v.ownBlock = some g → row ≠ some g) : OwnV w' base v l := by
  cases hv : v.ownBlock with
  | none => exact World.ownsRow.kept h hg (.inl hv)
  | some g => exact World.ownsRow.kept h hg (.inr (by rw [hv]; exact (hr g hv).symm))
theorem OwnV.below {w w' : World} {base : Nat} {v : Value} {l : List Sv} (h : OwnV w base v l) (hb : Below w.heap.size w w') : OwnV w' base v l := h.kept (grown_of hb) (fun g _ => by simp)
theorem OwnV.slice {w : World} {base : Nat} {v : Value} {l : List Sv} (h : OwnV w base v l) : ∃ a n cp, v = .slice a n cp ∧ n = l.length := by
  rcases h.2 with ⟨e, h0⟩ | ⟨g, cap, cur, e, hb, hg, h1, h2, h3, h4⟩
  · exact ⟨_, _, _, e, h0.symm⟩
  · exact ⟨_, _, _, e, rfl⟩
theorem flatV_get (l : List Sv) (i : Nat) (x : Sv) (hi : l[i]? = some x) (j : Nat) (hj : j < 3) : (l.flatMap seatC)[i * 3 + j]? = (seatC x)[j]? := by
  induction l generalizing i with
  | nil => simp at hi
  | cons y l ih =>
    cases i with
    | zero =>
      simp at hi
      subst hi
      simp only [List.flatMap_cons, Nat.zero_mul, Nat.zero_add]
      rw [List.getElem?_append_left (by simp [seatC]; exact hj)]
    | succ i =>
      simp only [List.flatMap_cons]
      rw [List.getElem?_append_right (by simp [seatC]; omega)]
      rw [show (i + 1) * 3 + j - (seatC y).length = i * 3 + j by simp [seatC]; omega]
      exact ih i (by simpa using hi)
theorem OwnV.cell {w : World} {base : Nat} {a : Option Addr} {n cap : Nat} {l : List Sv} (h : OwnV w base (.slice a n cap) l) {i : Nat} {x : Sv} (hi : l[i]? = some x) : ∃ g, a = some ⟨g, 0, none⟩ ∧ base ≤ g ∧ g < w.heap.size ∧ w.cell? ⟨g, i * 3, none⟩ = some (.int .i64 x.1.1) ∧ w.cell? ⟨g, i * 3 + 1, none⟩ = some (.slice x.2.1 x.1.2.1.length x.2.2) ∧ w.cell? ⟨g, i * 3 + 2, none⟩ = some (.bool x.1.2.2) := by
  have hil : i < l.length := by
    rw [List.getElem?_eq_some_iff] at hi
    exact hi.1
  rcases h.2 with ⟨e, h0⟩ | ⟨g, cap, cur, e, hb, hg, h1, h2, h3, h4⟩
  · rw [h0] at hil
    exact absurd hil (Nat.not_lt_zero _)
  · cases e
    have key : ∀ j, j < 3 → w.cell? ⟨g, i * 3 + j, none⟩ = (seatC x)[j]? := fun j hj => by
      rw [cell_blk hg, ← flatV_get l i x hi j hj, ← h4, List.getElem?_take_of_lt (by omega), Array.getElem?_toList]
    exact ⟨g, rfl, hb, blk_lt hg, key 0 (by omega), key 1 (by omega), key 2 (by omega)⟩
def cnts (l : List Sv) (c : Int) : Nat := cntC (l.map (·.1)) c
def addV (o : List Sv) (x : Sv) : List Sv := if 64 ≤ cnts o x.1.1 ∨ x.1 ∈ o.map (·.1) then o else o ++ [x]
def unV (l : List Sv) : List Sv := l.foldl (fun o x => addV o (fitV x)) []
theorem unV_succ (l : List Sv) (i : Nat) (x : Sv) (hi : l[i]? = some x) : unV (l.take (i + 1)) = addV (unV (l.take i)) (fitV x) := by
  unfold unV
  rw [List.take_add_one, hi, List.foldl_append]
  rfl
theorem addV_len (o : List Sv) (x : Sv) : (addV o x).length ≤ o.length + 1 := by
  unfold addV
  split <;> simp
theorem unV_len (l : List Sv) : (unV l).length ≤ l.length := by
  unfold unV
  suffices h : ∀ o : List Sv, (l.foldl (fun o x => addV o (fitV x)) o).length ≤ o.length + l.length by simpa using h []
  induction l with
  | nil => intro o; simp
  | cons x l ih =>
    intro o
    have h1 := ih (addV o (fitV x))
    have h2 := addV_len o (fitV x)
    simp only [List.foldl_cons, List.length_cons]
    omega
theorem addV_all {P : Sv → Prop} {o : List Sv} {x : Sv} (ho : ∀ y ∈ o, P y) (hx : P x) : ∀ y ∈ addV o x, P y := by
  unfold addV
  split
  · exact ho
  · intro y hy
    rcases List.mem_append.1 hy with h | h
    · exact ho y h
    · rw [List.mem_singleton.1 h]; exact hx
theorem unV_all {P : Sv → Prop} (l : List Sv) (hx : ∀ x ∈ l, P (fitV x)) : ∀ y ∈ unV l, P y := by
  unfold unV
  suffices h : ∀ o : List Sv, (∀ y ∈ o, P y) → ∀ y ∈ l.foldl (fun o x => addV o (fitV x)) o, P y from h [] (by simp)
  induction l with
  | nil => intro o ho; exact ho
  | cons x l ih =>
    intro o ho
    exact ih (fun y hy => hx y (List.mem_cons_of_mem _ hy)) _ (addV_all ho (hx x List.mem_cons_self))
theorem Named.fit {w : World} {x : Sv} (h : Named w x) : Named w (fitV x) := by
  unfold Named fitV
  simp only
  rcases h with h | ⟨b, off, e, hb, hc⟩
  · left
    rw [show x.1.2.1 = [] from List.eq_nil_of_length_eq_zero (by rw [← nb_len, h]; rfl)]
    rfl
  · refine .inr ⟨b, off, e, hb, fun i hi => ?_⟩
    rw [nb_len, List.length_take] at hi
    rw [hc i (by rw [nb_len]; omega), nb_getD, nb_getD, List.getD_eq_getElem?_getD, List.getD_eq_getElem?_getD, List.getElem?_take_of_lt (by omega)]
theorem info3 : (Try.prog.info? 3).map (fun i => (i.zero, i.size, i.bytes)) = some (some (.int .i64 0), 1, 8) := by kernel_rfl
theorem info40 : (Try.prog.info? 40).map (fun i => (i.zero, i.size, i.bytes)) = some (some (.agg #[.int .i64 0, .slice none 0 0, .bool false]), 3, 40) := by kernel_rfl
theorem made_zero (c : Nat) (hc : c < 8) : (madeCells #[.int .i64 0] 8)[c]? = some (.int .i64 0) := by
  simp [madeCells, hc, Nat.mod_one]
theorem froz_blk {w : World} {g : Nat} {cs : Array Value} {t : TypeId} (h : w.heap[g]? = some (.cells cs t (0, 0))) (c : Nat) : w.frozen? ⟨g, c, none⟩ = false := by
  unfold World.frozen?
  simp only [h]
  simp
/-- seats in memory, told by where their names lie -/
def SvAt (W : World) (a : Option Addr) (l : List Sv) : Prop := l = [] ∨ ∃ b off, a = some ⟨b, off, none⟩ ∧ b < W.heap.size ∧ ∀ i x, l[i]? = some x → W.cell? ⟨b, off + i * 3, none⟩ = some (.int .i64 x.1.1) ∧ W.cell? ⟨b, off + i * 3 + 1, none⟩ = some (.slice x.2.1 x.1.2.1.length x.2.2) ∧ W.cell? ⟨b, off + i * 3 + 2, none⟩ = some (.bool x.1.2.2)
structure UnAt (W wr : World) (v : Value) (l : List Sv) : Prop where
  bel : Below W.heap.size W wr
  own : OwnV wr (W.heap.size + 1) v l
  cnt : ∀ c : Nat, c < 8 → wr.cell? ⟨W.heap.size, c, none⟩ = some (.int .i64 (cnts l c : Nat)) ∧ wr.frozen? ⟨W.heap.size, c, none⟩ = false
  lt : W.heap.size < wr.heap.size
structure XAt (W wr : World) (v : Value) (l : List Sv) (bx : Nat) (c : Int) (nv : Value) (p : Bool) : Prop where
  un : UnAt W wr v l
  lt : W.heap.size < bx ∧ bx < wr.heap.size
  ne : ∀ g, v.ownBlock = some g → g ≠ bx
  c0 : wr.cell? ⟨bx, 0, none⟩ = some (.int .i64 c)
  c1 : wr.cell? ⟨bx, 1, none⟩ = some nv
  c2 : wr.cell? ⟨bx, 2, none⟩ = some (.bool p)
theorem UnAt.below {W wr w' : World} {v : Value} {l : List Sv} (h : UnAt W wr v l) (hb : Below wr.heap.size wr w') : UnAt W w' v l :=
  ⟨h.bel.trans (hb.mono h.bel.size), h.own.below hb, fun c hc => ⟨(hb.cell (p := ⟨W.heap.size, c, none⟩) h.lt).trans (h.cnt c hc).1, (hb.frozen (p := ⟨W.heap.size, c, none⟩) h.lt).trans (h.cnt c hc).2⟩, Nat.lt_of_lt_of_le h.lt hb.size⟩
theorem UnAt.lay {W wr w' : World} {v : Value} {l : List Sv} (h : UnAt W wr v l) (hb : Below wr.heap.size wr w') (c : Int) (nv : Value) (p : Bool) : XAt W (w'.alloc (.cells #[.int .i64 c, nv, .bool p] 40)) v l w'.heap.size c nv p := by
  have h1 := h.below hb
  have hh := heap_alloc_new w' (.cells #[.int .i64 c, nv, .bool p] 40)
  exact ⟨h1.below ((Below.refl _ _).alloc (Nat.le_refl _) _), ⟨h1.lt, by simp⟩, fun g hg => by have := (h1.own.ge g hg).2; omega, by rw [cell_blk hh]; rfl, by rw [cell_blk hh]; rfl, by rw [cell_blk hh]; rfl⟩
theorem XAt.below {W wr w' : World} {v : Value} {l : List Sv} {bx : Nat} {c : Int} {nv : Value} {p : Bool} (h : XAt W wr v l bx c nv p) (hb : Below wr.heap.size wr w') : XAt W w' v l bx c nv p :=
  ⟨h.un.below hb, ⟨h.lt.1, Nat.lt_of_lt_of_le h.lt.2 hb.size⟩, h.ne, (hb.cell (p := ⟨bx, 0, none⟩) h.lt.2).trans h.c0, (hb.cell (p := ⟨bx, 1, none⟩) h.lt.2).trans h.c1, (hb.cell (p := ⟨bx, 2, none⟩) h.lt.2).trans h.c2⟩
structure GAt (W w4 : World) (v' : Value) (U : List Sv) (y : Sv) : Prop where
  bel : Below W.heap.size W w4
  own : OwnV w4 (W.heap.size + 1) v' (U ++ [y])
  cnt : ∀ c : Nat, c < 8 → w4.cell? ⟨W.heap.size, c, none⟩ = some (.int .i64 (cnts U c : Nat)) ∧ w4.frozen? ⟨W.heap.size, c, none⟩ = false
  lt : W.heap.size < w4.heap.size
theorem XAt.push {W wr w4 : World} {v v' : Value} {U : List Sv} {bx : Nat} {c : Int} {nv : Value} {p : Bool} {o : Obj} {y : Sv} (h : XAt W wr v U bx c nv p) (hg : (wr.alloc o).grownBy w4 v.ownBlock) (ho : w4.ownsRow (W.heap.size + 1) 40 3 v' (U.length + 1) (U.flatMap seatC ++ seatC y)) : GAt W w4 v' U y ∧ w4.cell? ⟨bx, 0, none⟩ = some (.int .i64 c) := by
  have ha := h.below ((Below.refl _ _).alloc (Nat.le_refl _) o)
  have hne : some W.heap.size ≠ v.ownBlock := fun e => by have := (ha.un.own.ge _ e.symm).1; omega
  refine ⟨⟨ha.un.bel.grown hg ha.un.bel.size (fun k hk => by have := (ha.un.own.ge k hk).1; omega), ?_, fun c hc => ⟨hg.cell (ha.un.cnt c hc).1 hne, (World.frozen?_of_block (w := wr.alloc o) (a := ⟨W.heap.size, c, none⟩) (hg.block W.heap.size ha.un.lt hne)).trans (ha.un.cnt c hc).2⟩, Nat.lt_of_lt_of_le ha.un.lt hg.size⟩, hg.cell ha.c0 (fun e => ha.ne _ e.symm rfl)⟩
  unfold OwnV
  simpa [List.flatMap_append] using ho
theorem GAt.bump {W w4 : World} {v' : Value} {U : List Sv} {y : Sv} {k : Nat} (h : GAt W w4 v' U y) (hk : y.1.1 = (k : Int)) (hk8 : k < 8) : UnAt W (w4.setCell ⟨W.heap.size, k, none⟩ (.int .i64 (((cnts U k : Nat) : Int) + 1))) v' (U ++ [y]) := by
  have hcn : ∀ c : Nat, cnts (U ++ [y]) c = cnts U c + (if k = c then 1 else 0) := fun c => by
    unfold cnts
    rw [List.map_append, List.map_cons, List.map_nil, cntC_snoc, hk]
    by_cases e : k = c
    · subst e; simp
    · rw [if_neg e, if_neg (by omega)]
  refine ⟨h.bel.setCell (Nat.le_refl _) _, h.own.kept (row := some W.heap.size) ⟨rfl, rfl, rfl, ((Below.refl W.heap.size w4).setCell (p := ⟨W.heap.size, k, none⟩) (Nat.le_refl _) _).size, fun j _ hj => Below.heap_setCell _ _ _ j (fun e => hj (by rw [e]))⟩ (fun g hg e => by cases e; have := (h.own.ge _ hg).1; omega), fun c hc => ⟨?_, ?_⟩, Nat.lt_of_lt_of_le h.lt ((Below.refl W.heap.size w4).setCell (p := ⟨W.heap.size, k, none⟩) (Nat.le_refl _) _).size⟩
  · rw [hcn c]
    by_cases e : k = c
    · subst e
      rw [World.cell?_setCell_same' _ _ _ (by rw [(h.cnt k hk8).1]; rfl)]
      simp
    · rw [World.cell?_setCell_other _ _ _ _ (by intro e2; cases e2; exact e rfl), (h.cnt c hc).1, if_neg e]
      simp
  · rw [World.frozen?_setCell]
    exact (h.cnt c hc).2
theorem one_more {U : List Sv} {j : Nat} {y : Sv} (K : Key) (P : Prop) [Decidable P] (hy : U[j]? = some y) (ho : false = decide (P ∨ K ∈ (U.take j).map (·.1))) : decide (y.1 = K) = decide (P ∨ K ∈ (U.take (j + 1)).map (·.1)) := by
  have h := of_decide_eq_false ho.symm
  rw [decide_eq_decide, List.take_add_one, hy]
  constructor
  · intro e
    right
    simp [e]
  · rintro (e | e)
    · exact absurd (.inl e) h
    · rw [List.map_append, List.mem_append] at e
      rcases e with e | e
      · exact absurd (.inr e) h
      · have e2 : K = y.1 := by simpa using e
        exact e2.symm
theorem seats_any (W : World) (la : Option Addr) (ln lc : Nat) (l : List Sv) (hl : SvAt W la l) (hln : ln = l.length) (hN : ∀ x ∈ l, Named W x) (hI : ∀ x ∈ l, (-9223372036854775808 ≤ x.1.1 ∧ x.1.1 ≤ 9223372036854775807) ∧ x.1.2.1.length ≤ x.2.2 ∧ x.1.2.1.length ≤ 9223372036854775807) :
    Calls Try.prog 17 #[.slice la ln lc] W fun e w' => ∃ a n cap, e = .returned (.slice a n cap) ∧ n = (unV (l.take 1000)).length ∧ Hid (Below W.heap.size W w' ∧ OwnV w' (W.heap.size + 1) (.slice a n cap) (unV (l.take 1000))) := by
  have m1 : ∀ w', (Instr.makeSlice 61 (.int .i64 8) (.int .i64 8)).run Try.prog w' = .ok (.slice (some ⟨w'.heap.size, 0, none⟩) 8 8) (w'.alloc (.cells (madeCells #[.int .i64 0] 8) 3)) := fun w' => run_make_row' (P := Try.prog) 61 3 (.int .i64 0) 8 Try.underlying61 info3 rfl .i64 .i64 8 (by omega) (by omega) w'
  go_enter Try.func17, Try.ntmps17
  go_wp2_with fail
  go_loopw [3, 5] (fun ov iv wr => ∃ i a n c, iv = .int .i64 ((i : Nat) : Int) ∧ ov = .slice a n c ∧ i ≤ ln ∧ i ≤ 1000 ∧ n = (unV (l.take i)).length ∧ Hid (UnAt W wr (.slice a n c) (unV (l.take i)))) (fun _ iv _ => ln - (intOf iv).toNat)
  case atStart =>
    refine ⟨0, none, 0, 0, rfl, rfl, Nat.zero_le _, by omega, rfl, hide ⟨(Below.refl _ _).alloc (Nat.le_refl _) _, OwnV.nil _ _, fun c hc => ?_, by simp⟩⟩
    have hh := heap_alloc_new W (.cells (madeCells #[.int .i64 0] 8) 3)
    refine ⟨?_, froz_blk hh c⟩
    rw [cell_blk hh, made_zero c hc]
    rfl
  case round =>
    obtain ⟨i, a, n, cp, rfl, rfl, hi, hi2, hn, HU⟩ := hrel
    by_cases hgo : i < ln ∧ i < 1000
    · have f1 : decide ((i : Int) < (ln : Int)) = true := decide_eq_true (by omega)
      have f2 : decide ((i : Int) < 1000) = true := decide_eq_true (by omega)
      have g1 : (0 : Int) ≤ (i : Int) := by omega
      have g2 : (i : Int) < (ln : Int) := by omega
      have hil : i < l.length := by omega
      obtain ⟨x, hx⟩ : ∃ x, l[i]? = some x := ⟨_, List.getElem?_eq_getElem hil⟩
      have hxm : x ∈ l := List.mem_of_getElem? hx
      obtain ⟨b, off, rfl, hbl, hc⟩ : ∃ b off, la = some ⟨b, off, none⟩ ∧ b < W.heap.size ∧ ∀ i x, l[i]? = some x → W.cell? ⟨b, off + i * 3, none⟩ = some (.int .i64 x.1.1) ∧ W.cell? ⟨b, off + i * 3 + 1, none⟩ = some (.slice x.2.1 x.1.2.1.length x.2.2) ∧ W.cell? ⟨b, off + i * 3 + 2, none⟩ = some (.bool x.1.2.2) := by
        rcases hl with h | h
        · rw [h] at hil; exact absurd hil (Nat.not_lt_zero _)
        · exact h
      obtain ⟨p0, p1, p2⟩ := hc i x hx
      have HB0 := hide (unhide HU).bel
      have c0 : wr.cell? ⟨b, off + i * 3, none⟩ = some (.int .i64 x.1.1) := ((unhide HB0).cell (p := ⟨b, off + i * 3, none⟩) hbl).trans p0
      have c1 : wr.cell? ⟨b, off + i * 3 + 1, none⟩ = some (.slice x.2.1 x.1.2.1.length x.2.2) := ((unhide HB0).cell (p := ⟨b, off + i * 3 + 1, none⟩) hbl).trans p1
      have c2 : wr.cell? ⟨b, off + i * 3 + 2, none⟩ = some (.bool x.1.2.2) := ((unhide HB0).cell (p := ⟨b, off + i * 3 + 2, none⟩) hbl).trans p2
      obtain ⟨k, hk⟩ : ∃ k : Nat, x.1.1 % 8 = (k : Int) := ⟨(x.1.1 % 8).toNat, by omega⟩
      have hk8 : k < 8 := by omega
      obtain ⟨T, hT⟩ : ∃ T, T = x.1.2.1.take 64 := ⟨_, rfl⟩
      have hTl : min 64 x.1.2.1.length = T.length := by rw [hT, List.length_take]
      have hfit : fitV x = (((k : Int), T, x.1.2.2), x.2.1, x.2.2) := by unfold fitV; rw [hk, hT]
      have CF := fit_any wr x.1.1 x.2.1 x.1.2.1.length x.2.2 x.1.2.2 (hI x hxm).1 (hI x hxm).2.1 (hI x hxm).2.2
      rw [hk, hTl] at CF
      replace CF := hide (CF.mono (R' := fun e w2 => e = .returned (.agg #[.int .i64 (k : Int), .slice x.2.1 T.length x.2.2, .bool x.1.2.2]) ∧ Hid (XAt W (w2.alloc (.cells #[.int .i64 (k : Int), .slice x.2.1 T.length x.2.2, .bool x.1.2.2] 40)) (.slice a n cp) (unV (l.take i)) w2.heap.size (k : Int) (.slice x.2.1 T.length x.2.2) x.1.2.2)) (fun e w2 ⟨h1, h2⟩ => ⟨h1, hide ((unhide HU).lay (unhide h2) _ _ _)⟩))
      have HL := hide hl
      have HI := hide hI
      have HN := hide hN
      have HX := hide hx
      have HC := hide hc
      have hnb : n ≤ 1000 := by
        have h1 := unV_len (l.take i)
        rw [List.length_take] at h1
        omega
      have hlen := hide hn
      have HT := hide hT
      have HF := hide hfit
      clear hl hI hN hx hc hln p0 p1 p2 hn hxm hil hT hTl hfit hk
      go_wp2_with (first
        | (go_at_call 34; with_reducible refine (unhide CF).mono ?_; rintro e w1 ⟨rfl, k1⟩; have x1 := ((unhide k1).un.cnt k hk8).1))
      go_loopw [7, 8] (fun ob jv wr => ∃ (j : Nat) (o : Bool), jv = .int .i64 ((j : Nat) : Int) ∧ ob = .bool o ∧ j ≤ n ∧ o = decide (64 ≤ cnts (unV (l.take i)) k ∨ ((k : Int), T, x.1.2.2) ∈ ((unV (l.take i)).take j).map (·.1)) ∧ Hid (XAt W wr (.slice a n cp) (unV (l.take i)) w1.heap.size (k : Int) (.slice x.2.1 T.length x.2.2) x.1.2.2)) (fun _ jv _ => n - (intOf jv).toNat)
      case atStart => exact ⟨0, _, rfl, rfl, Nat.zero_le _, by rw [List.take_zero, List.map_nil, decide_eq_decide]; constructor <;> (intro h; simp at h ⊢; omega), k1⟩
      case round =>
        clear x1 k1 CF
        obtain ⟨j, o, rfl, rfl, hj, ho, HXA⟩ := hrel
        have HO := hide ho
        clear ho
        cases o with
        | true =>
          have HE : Hid (unV (l.take (i + 1)) = unV (l.take i)) := hide (by
            rw [unV_succ l i x (unhide HX), unhide HF]
            unfold addV
            rw [if_pos]
            rcases of_decide_eq_true (unhide HO).symm with h | h
            · exact .inl h
            · obtain ⟨z, hz, e⟩ := List.mem_map.1 h
              exact .inr (List.mem_map.2 ⟨z, List.mem_of_mem_take hz, e⟩))
          have HU2 := hide (unhide HXA).un
          have q0 : (if (j : Int) < (n : Int) then (false : Bool) else false) = false := by simp
          by_cases hjn : j < n
          · have q1 : decide ((j : Int) < (n : Int)) = true := decide_eq_true (by omega)
            go_wp2_with fail
            all_goals go_roundw
            case rel => exact ⟨i + 1, a, n, cp, by go_num, rfl, by omega, by omega, by rw [unhide HE]; exact unhide hlen, hide (by rw [unhide HE]; exact unhide HU2)⟩
            case measure => simp [intOf]; omega
          · have q1 : decide ((j : Int) < (n : Int)) = false := decide_eq_false (by omega)
            go_wp2_with fail
            all_goals go_roundw
            case rel => exact ⟨i + 1, a, n, cp, by go_num, rfl, by omega, by omega, by rw [unhide HE]; exact unhide hlen, hide (by rw [unhide HE]; exact unhide HU2)⟩
            case measure => simp [intOf]; omega
        | false =>
          by_cases hjn : j < n
          · have q1 : decide ((j : Int) < (n : Int)) = true := decide_eq_true (by omega)
            have q2 : (0 : Int) ≤ (j : Int) := by omega
            have q3 : (j : Int) < (n : Int) := by omega
            have hjl : j < (unV (l.take i)).length := by rw [← unhide hlen]; exact hjn
            obtain ⟨y, hy⟩ : ∃ y, (unV (l.take i))[j]? = some y := ⟨_, List.getElem?_eq_getElem hjl⟩
            have hyN : Hid (Named W y) := hide (unV_all _ (fun z hz => (unhide HN z (List.mem_of_mem_take hz)).fit) y (List.mem_of_getElem? hy))
            have hxN : Hid (Named W (((k : Int), T, x.1.2.2), x.2.1, x.2.2)) := hide (by rw [← unhide HF]; exact (unhide HN x (List.mem_of_getElem? (unhide HX))).fit)
            obtain ⟨g, rfl, hgb, hgl, y0, y1, y2⟩ := (unhide HXA).un.own.cell hy
            have x0 := (unhide HXA).c0
            have x1 := (unhide HXA).c1
            have x2 := (unhide HXA).c2
            have CS : Hid (∀ w', Hid (XAt W w' (.slice (some ⟨g, 0, none⟩) n cp) (unV (l.take i)) w1.heap.size (k : Int) (.slice x.2.1 T.length x.2.2) x.1.2.2) → Calls Try.prog 35 #[.agg #[.int .i64 y.1.1, .slice y.2.1 y.1.2.1.length y.2.2, .bool y.1.2.2], .agg #[.int .i64 (k : Int), .slice x.2.1 T.length x.2.2, .bool x.1.2.2]] w' fun e w2 => e = .returned (.bool (decide (y.1 = ((k : Int), T, x.1.2.2)))) ∧ Hid (XAt W w2 (.slice (some ⟨g, 0, none⟩) n cp) (unV (l.take i)) w1.heap.size (k : Int) (.slice x.2.1 T.length x.2.2) x.1.2.2) ∧ (w2.cell? ⟨g, j * 3, none⟩ = some (.int .i64 y.1.1) ∧ w2.cell? ⟨g, j * 3 + 1, none⟩ = some (.slice y.2.1 y.1.2.1.length y.2.2) ∧ w2.cell? ⟨g, j * 3 + 2, none⟩ = some (.bool y.1.2.2) ∧ w2.cell? ⟨w1.heap.size, 0, none⟩ = some (.int .i64 (k : Int)) ∧ w2.cell? ⟨w1.heap.size, 1, none⟩ = some (.slice x.2.1 T.length x.2.2) ∧ w2.cell? ⟨w1.heap.size, 2, none⟩ = some (.bool x.1.2.2))) := hide (fun w' h => (same_any w' y (((k : Int), T, x.1.2.2), x.2.1, x.2.2) ((unhide hyN).below (unhide h).un.bel) ((unhide hxN).below (unhide h).un.bel)).mono (fun e w2 ⟨e1, e2⟩ => by
              have hX2 := (unhide h).below (unhide e2)
              obtain ⟨g', eg, -, -, a0, a1, a2⟩ := hX2.un.own.cell hy
              cases eg
              exact ⟨e1, hide hX2, a0, a1, a2, hX2.c0, hX2.c1, hX2.c2⟩))
            have HXd := hide ((unhide HXA).below (Below.refl _ _).drew)
            have HY := hide hy
            clear hy hgb hgl hjl
            go_wp2_with fail
            go_region_held3 (fun w' => w'.cell? ⟨g, j * 3, none⟩ = some (.int .i64 y.1.1) ∧ w'.cell? ⟨g, j * 3 + 1, none⟩ = some (.slice y.2.1 y.1.2.1.length y.2.2) ∧ w'.cell? ⟨g, j * 3 + 2, none⟩ = some (.bool y.1.2.2) ∧ w'.cell? ⟨w1.heap.size, 0, none⟩ = some (.int .i64 (k : Int)) ∧ w'.cell? ⟨w1.heap.size, 1, none⟩ = some (.slice x.2.1 T.length x.2.2) ∧ w'.cell? ⟨w1.heap.size, 2, none⟩ = some (.bool x.1.2.2)) (first | exact z2 | go_keep) (first | (go_at_call 35; with_reducible refine (unhide CS _ HXd).mono ?_; rintro e w2 ⟨rfl, k2, z2⟩))
            go_wp2_with fail
            all_goals go_roundw
            case rel => exact ⟨j + 1, _, by go_num, rfl, by omega, one_more _ _ (unhide HY) (unhide HO), k2⟩
            case measure => simp [intOf]; omega
          · obtain rfl : j = n := by omega
            have q1 : decide ((j : Int) < (j : Int)) = false := decide_eq_false (by omega)
            have HE : Hid (unV (l.take (i + 1)) = unV (l.take i) ++ [(((k : Int), T, x.1.2.2), x.2.1, x.2.2)]) := hide (by
              have h := of_decide_eq_false (unhide HO).symm
              rw [show (unV (l.take i)).take j = unV (l.take i) from List.take_of_length_le (by rw [← unhide hlen]; exact Nat.le_refl _)] at h
              rw [unV_succ l i x (unhide HX), unhide HF]
              unfold addV
              rw [if_neg h])
            have hcb : Hid (cnts (unV (l.take i)) k < 64) := hide (by
              have h := of_decide_eq_false (unhide HO).symm
              omega)
            obtain ⟨i0, hi0, hz0, hz1, hz2⟩ := info_parts info40
            have x0 := (unhide HXA).c0
            have x1 := (unhide HXA).c1
            have x2 := (unhide HXA).c2
            rename World => wq
            have hrw : (wq.alloc (.cells #[.int .i64 (k : Int), .slice x.2.1 T.length x.2.2, .bool x.1.2.2] 40)).ownsRow (W.heap.size + 1) 40 3 (.slice a j cp) (unV (l.take i)).length ((unV (l.take i)).flatMap seatC) := World.ownsRow.alloc (unhide HXA).un.own _
            have hlv : ∀ ty w', (Builtin.len_ #[22] ty #[.slice a j cp]).run Try.prog w' = .ok (.int .i64 ((j : Nat) : Int)) w' := fun ty w' => by simp [Builtin.len_, go_sem]
            generalize hv : Value.slice a j cp = v at HXA hrw hlv ⊢
            replace hv := hide hv
            have hszq := (unhide HXA).un.lt
            go_wp2_with (first
              | (at_builtin; refine wpList_append_own _ rfl _ _ 22 rfl (W.heap.size + 1) 40 i0 _ 3 40 Try.underlying22 hi0 hz0 hz1 hz2 rfl (by decide) _ _ _ rfl hrw ⟨wq.heap.size, 0, none⟩ 1 1 [.int .i64 (k : Int), .slice x.2.1 T.length x.2.2, .bool x.1.2.2] rfl rfl (cell_three_new _ _ _ _ _) (by simp [Value.oneCell']) (by rw [← unhide hlen]; unfold maxLen; omega) (by rw [← unhide hlen]; omega) (by simp; omega) ?_; intro v' w4 hown' hg4 hnil4; have K4 := hide ((unhide HXA).push (y := (((k : Int), T, x.1.2.2), x.2.1, x.2.2)) hg4 hown'); have z0 := (unhide K4).2; have z1 := ((unhide K4).1.cnt k hk8).1; have z2 := ((unhide K4).1.cnt k hk8).2; go_frame))
            have hw : wrap64 (((cnts (unV (l.take i)) k : Nat) : Int) + 1) = ((cnts (unV (l.take i)) k : Nat) : Int) + 1 := by
              have := unhide hcb
              unfold wrap64
              omega
            rw [hw]
            obtain ⟨a', n', cp', hv', hn'⟩ := (unhide K4).1.own.slice
            refine ⟨⟨i + 1, a', n', cp', by go_num, hv', by omega, by omega, by rw [unhide HE]; exact hn', hide (by rw [unhide HE, ← hv']; exact (unhide K4).1.bump rfl hk8)⟩, by simp [intOf]; omega⟩
    · have hend : l.take i = l.take 1000 := by
        by_cases h : i < 1000
        · rw [List.take_of_length_le (by omega), List.take_of_length_le (by omega)]
        · rw [show i = 1000 by omega]
      rw [hend] at hn HU
      by_cases h : i < ln
      · have f1 : decide ((i : Int) < (ln : Int)) = true := decide_eq_true (by omega)
        have f2 : decide ((i : Int) < 1000) = false := decide_eq_false (by omega)
        clear hend hl hN hI hln
        replace hn := hide hn
        go_wp2_with fail
        go_ret
        exact ⟨a, n, cp, rfl, unhide hn, hide ⟨(unhide HU).bel, (unhide HU).own⟩⟩
      · have f1 : decide ((i : Int) < (ln : Int)) = false := decide_eq_false (by omega)
        clear hend hl hN hI hln
        replace hn := hide hn
        go_wp2_with fail
        go_ret
        exact ⟨a, n, cp, rfl, unhide hn, hide ⟨(unhide HU).bel, (unhide HU).own⟩⟩
end Go.Proofs.Ytjmnddcombepaaa
