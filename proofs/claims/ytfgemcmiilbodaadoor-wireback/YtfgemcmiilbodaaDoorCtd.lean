/- bytes.IndexAny with the two bytes of a line's end: the long road; ContainsAny. -/
import Derived.Test.YtfgemcmiilbodaaDoorCtc
import Derived.Deep.MidRow
import Derived.Deep.WholeRow
import Derived.Great.BuildSlice
import Derived.Great.Walk
namespace Go.Proofs.YtfgemcmiilbodaaDoor
open Go.ChangeShapes Go.WideShapes Go.ChangeAt Go.RowKit
set_option linter.unusedVariables false
set_option linter.unusedSimpArgs false
set_option maxRecDepth 100000
set_option maxHeartbeats 4000000

theorem results_cellT {P : Program} {fn : Func} {p q : Tmp} {ty : TypeId} (h : fn.results = #[.cell p ty, .tmp q]) (tmps : Array Value) (w : World) (g : Nat) (t : TypeId) (cs : Array Value) (fr : Nat × Nat) (d : TypeDesc)
    (hp : tmps.getD p undef = .pointer (some ⟨g, 0, none⟩)) (hg : w.heap[g]? = some (.cells cs t fr))
    (hu : P.underlying ty = some d) (hd : (match d with | .struct _ | .array _ _ => true | _ => false) = true) (hi : (P.info? ty).map (·.size) = some cs.size) (v : Value) (hv : tmps.getD q undef = v) :
    (results fn tmps).run P w = .ok (.tuple #[.agg cs, v]) w := by
  have hp' : tmps[p]?.getD undef = .pointer (some ⟨g, 0, none⟩) := by simpa using hp
  have hv' : tmps[q]?.getD undef = v := by simpa using hv
  simp [results, h, hp', hv', asAddr, run_loadVar_row w g t ty cs fr d hg hu hd hi]
/-- an empty set -/
def zs : Array Value := Array.replicate 256 (.bool false)
theorem zs_size : zs.size = 256 := by unfold zs; simp
theorem zs_at (k : Nat) (h : k < 256) : zs[k]? = some (.bool false) := by unfold zs; simp [h]
theorem Tryd.zero71 : (Tryd.prog.info? 71).map (fun i => (i.zero, i.size, i.bytes)) = some (some (.agg zs), 256, 256) := by kernel_rfl
theorem size123 {C : Array Value} (h : C.size = 256) : (Tryd.prog.info? 71).map (fun i => i.size) = some C.size := by rw [h]; kernel_rfl
structure IsA (C : Array Value) (f : Nat → Bool) : Prop where
  size : C.size = 256
  has : ∀ k, k < 256 → C[k]? = some (.bool (f k))
theorem IsA.zero : IsA zs (fun _ => false) := ⟨zs_size, fun k hk => zs_at _ hk⟩
theorem IsA.one {C : Array Value} {f : Nat → Bool} (h : IsA C f) : C.all (fun v => v.oneCell') = true := by
  rw [Array.all_eq_true]
  intro i hi
  have hs := h.size
  have := h.has i (by omega)
  rw [Array.getElem?_eq_getElem hi] at this
  rw [Option.some.inj this]; rfl
theorem IsA.set {C : Array Value} {f : Nat → Bool} (h : IsA C f) (k : Nat) (hk : k < 256) : IsA (C.setIfInBounds k (.bool true)) (fun c => c == k || f c) := by
  have hs := h.size
  refine ⟨by simpa using hs, fun c hc => ?_⟩
  rw [Array.getElem?_setIfInBounds]
  by_cases e : k = c
  · subst e; rw [if_pos rfl, if_pos (by omega)]; simp
  · rw [if_neg e, h.has c hc]
    have : (c == k) = false := by rw [beq_eq_false_iff_ne]; omega
    rw [this]; rfl
section
variable {ops : Array Oper} {rest : List Oper} {o : Oper} {a : Act} {w : World} {Q : Exit → Act → World → Prop}
theorem wpList_alloc123 (hgd : o.guard = none) (ho : o.op = .alloc 71) (g : Nat) (hg : w.heap.size = g)
    (h : ∀ w', Hid (w'.heap[g]? = some (.cells zs 71 (0, 0)) ∧ w'.heap.size = g + 1 ∧ Below g w w') → wpList Tryd.prog ops Q rest (a.put o.dst (.pointer (some ⟨g, 0, none⟩))) w') : wpList Tryd.prog ops Q (o :: rest) a w := by
  subst hg
  obtain ⟨i, hi, h1⟩ := Option.map_eq_some_iff.1 Tryd.zero71
  simp only [Prod.mk.injEq] at h1
  refine wpList_plain hgd fun _ hK => ?_
  have hr : (execOp a.eval o).run Tryd.prog w = .ok (.value (.pointer (some ⟨w.heap.size, 0, none⟩))) (w.alloc (.cells zs 71)) := by
    unfold execOp
    simp only [ho]
    simp [Instr.alloc, zeroValue, typeInfo, hi, h1.1, newVar, newRow, Value.cells]
  unfold Oper.wp
  rw [hr, Oper.upon_value]
  exact hK _ _ (h _ (hide ⟨heap_alloc_last w _, by simp, (Below.refl _ _).alloc (Nat.le_refl _) _⟩))
theorem wpList_store123 (hgd : o.guard = none) (x y : Operand) (ho : o.op = .store 71 x y) (hd : o.dst = none) (g : Nat) (C : Array Value) (hx : a.eval x = .pointer (some ⟨g, 0, none⟩)) (hy : a.eval y = .agg C)
    (old : Array Value) (hg : w.heap[g]? = some (.cells old 71 (0, 0))) (hs : C.size = 256) (hold : old.size = 256) (h1 : C.all (fun v => v.oneCell') = true)
    (h : ∀ w', Hid (w'.heap[g]? = some (.cells C 71 (0, 0)) ∧ Kept (fun b => b = g) w w') → wpList Tryd.prog ops Q rest a w') : wpList Tryd.prog ops Q (o :: rest) a w :=
  wpList_store_rowTo hgd 71 x y ho hd g C hx hy 71 old hg (size123 hs) (by omega) h1 (h _ (hide ⟨setRow_heap w g old C 71 _ hg, ⟨rfl, rfl, rfl, by simp [World.setRow], fun k _ hk => setRow_other w g k _ hk⟩⟩))
theorem wpList_load123 (hgd : o.guard = none) (x : Operand) (ho : o.op = .load 71 x) (g : Nat) (hx : a.eval x = .pointer (some ⟨g, 0, none⟩)) (C : Array Value) (hg : w.heap[g]? = some (.cells C 71 (0, 0))) (hs : C.size = 256)
    (h : wpList Tryd.prog ops Q rest (a.put o.dst (.agg C)) w) : wpList Tryd.prog ops Q (o :: rest) a w :=
  wpList_load_row hgd 71 x ho g hx 71 C (0, 0) _ hg Tryd.underlying71 rfl (size123 hs) h
end
/-- the set while it is made -/
structure Mst (w wr : World) (C : Array Value) (f : Nat → Bool) : Prop where
  blk : wr.heap[w.heap.size]? = some (.cells C 71 (0, 0))
  bel : Below w.heap.size w wr
  is : IsA C f
theorem Mst.put {w wr : World} {C : Array Value} {f : Nat → Bool} (h : Mst w wr C f) (k : Nat) (hk : k < 256) : Mst w (wr.setCell ⟨w.heap.size, k, none⟩ (.bool true)) (C.setIfInBounds k (.bool true)) (fun c => c == k || f c) :=
  ⟨setCell_block wr _ k _ C 71 _ h.blk, h.bel.trans ⟨rfl, rfl, rfl, by simp, fun b hb => setCell_else wr _ _ b _ (by omega)⟩, h.is.set k hk⟩
theorem make_set (w : World) : Calls Tryd.prog 37 #[.string ⟨#[13, 10]⟩] w fun e w' => ∃ C, e = .returned (.tuple #[.agg C, .bool true]) ∧ Hid (Below w.heap.size w w' ∧ IsA C (fun c => c == 10 || (c == 13 || false))) := by
  go_enter Tryd.func37, Tryd.ntmps37
  go_wp2_with (refine wpList_alloc123 rfl rfl w.heap.size rfl ?_; intro w1 k1)
  have M0 : Hid (Mst w w1 zs (fun _ => false)) := hide ⟨(unhide k1).1, (unhide k1).2.2, IsA.zero⟩
  go_loopw [4] (fun iv wr => (iv = .int .i64 0 ∧ Hid (Mst w wr zs (fun _ => false))) ∨ (iv = .int .i64 1 ∧ ∃ C, Hid (Mst w wr C (fun c => c == 13 || false))) ∨ (iv = .int .i64 2 ∧ ∃ C, Hid (Mst w wr C (fun c => c == 10 || (c == 13 || false))))) (fun iv _ => 2 - (intOf iv).toNat)
  case atStart => exact .inl ⟨rfl, M0⟩
  case round =>
    clear M0 k1
    rcases hrel with ⟨rfl, m⟩ | ⟨rfl, C, m⟩ | ⟨rfl, C, m⟩
    · have c1 : wr.cell? ⟨w.heap.size, 13, none⟩ = some (.bool false) := by rw [cell_of_row _ _ _ _ _ _ (unhide m).blk]; exact (unhide m).is.has 13 (by decide)
      have c2 : wr.frozen? ⟨w.heap.size, 13, none⟩ = false := by simp only [World.frozen?, (unhide m).blk]; simp
      have N := hide ((unhide m).put 13 (by decide))
      have e0 : (({ data := #[13, 10] } : ByteArray)[0]'(by decide)).toNat = 13 := rfl
      go_wp2
      all_goals go_roundw
      all_goals first | exact .inr (.inl ⟨rfl, _, N⟩) | (simp [intOf])
    · have c1 : wr.cell? ⟨w.heap.size, 10, none⟩ = some (.bool false) := by rw [cell_of_row _ _ _ _ _ _ (unhide m).blk]; exact (unhide m).is.has 10 (by decide)
      have c2 : wr.frozen? ⟨w.heap.size, 10, none⟩ = false := by simp only [World.frozen?, (unhide m).blk]; simp
      have N := hide ((unhide m).put 10 (by decide))
      have e0 : (({ data := #[13, 10] } : ByteArray)[1]'(by decide)).toNat = 10 := rfl
      go_wp2
      all_goals go_roundw
      all_goals first | exact .inr (.inr ⟨rfl, _, N⟩) | (simp [intOf])
    · go_wp2_with (first
        | (refine wpList_load123 rfl _ rfl w.heap.size rfl C (unhide m).blk (unhide m).is.size ?_)
        | (refine wpList_store123 rfl _ _ rfl rfl w.heap.size C rfl rfl C (unhide m).blk (unhide m).is.size (unhide m).is.size (unhide m).is.one ?_; intro w6 k6))
      all_goals refine bodyPost_ret (results_cellT (p := 2) (q := 3) (ty := 71) rfl _ _ w.heap.size 71 C (0, 0) _ rfl (unhide k6).1 Tryd.underlying71 rfl (size123 (unhide m).is.size) _ rfl) rfl ?_
      all_goals exact ⟨C, rfl, hide ⟨(unhide m).bel.trans ⟨(unhide k6).2.os, (unhide k6).2.tape, (unhide k6).2.output, (unhide k6).2.size, fun b hb => (unhide k6).2.blk b (Nat.lt_of_lt_of_le hb (unhide m).bel.size) (by omega)⟩, (unhide m).is⟩⟩
theorem contains_any (w : World) (g x : Nat) (C : Array Value) (f : Nat → Bool) (hx : x < 256) (hg : w.heap[g]? = some (.cells C 71 (0, 0))) (hC : IsA C f) : Calls Tryd.prog 38 #[.pointer (some ⟨g, 0, none⟩), .int .u8 (x : Nat)] w fun e w' => e = .returned (.bool (f x)) ∧ w' = w := by
  have c1 : w.cell? ⟨g, x, none⟩ = some (.bool (f x)) := by rw [cell_of_row _ _ _ _ _ _ hg]; exact hC.has x hx
  have y1 : (0 : Int) ≤ (x : Int) := by omega
  have y2 : (x : Int) < 256 := by omega
  clear hg hC
  generalize f x = q at *
  go_enter Tryd.func38, Tryd.ntmps38
  go_wp2
  go_ret
  exact ⟨rfl, rfl⟩
theorem idx_long (w : World) (b off c n : Nat) (T : List Nat) (hn : n = T.length) (hb : b < w.heap.size) (hB : ∀ j, j < T.length → w.cell? ⟨b, off + j, none⟩ = some (.int .u8 (T.getD j 0 : Nat))) (hS : Small T) (h8 : 8 < n) (hc : n ≤ 1073741824) :
    Calls Tryd.prog 27 #[.slice (some ⟨b, off, none⟩) n c, .string ⟨#[13, 10]⟩] w fun e w' => ∃ r : Int, e = .returned (.int .i64 r) ∧ Hid (decide (0 ≤ r) = crlf T) ∧ Below w.heap.size w w' := by
  have f1 : ((n : Int) == 1) = false := by rw [beq_eq_false_iff_ne]; omega
  have f1b : (n == 1) = false := by rw [beq_eq_false_iff_ne]; omega
  have SH : Hid (∀ W : World, Calls Tryd.prog 36 #[.int .i64 (n : Nat)] W fun e w' => e = .returned (.bool true) ∧ w' = W) := hide (fun W => should_yes n h8 W)
  have CM : Hid (Calls Tryd.prog 37 #[.string ⟨#[13, 10]⟩] w fun e w' => ∃ C, e = .returned (.tuple #[.agg C, .bool true]) ∧ Hid (Below w.heap.size w w' ∧ IsA C (fun c => c == 10 || (c == 13 || false)))) := hide (make_set w)
  have HB := hide hB
  have HS := hide hS
  have HN := hide hn
  clear hB hS hn
  go_enter Tryd.func27, Tryd.ntmps27
  go_wp2_with (first
    | (go_at_call 36; refine (unhide SH _).mono ?_; rintro e w1 ⟨rfl, hw1⟩; obtain rfl := hw1.symm)
    | (go_at_call 37; refine (unhide CM).mono ?_; rintro e w2 ⟨C, rfl, k2⟩)
    | (refine wpList_alloc123 rfl rfl w2.heap.size rfl ?_; intro w3 k3)
    | (refine wpList_store123 rfl _ _ rfl rfl w2.heap.size C rfl rfl zs (unhide k3).1 (unhide k2).2.size zs_size (unhide k2).2.one ?_; intro w4 k4))
  have HG : Hid (w4.heap[w2.heap.size]? = some (.cells C 71 (0, 0)) ∧ Below w.heap.size w w4 ∧ IsA C (fun c => c == 10 || (c == 13 || false))) := hide ⟨(unhide k4).1, ((unhide k2).1.trans ((unhide k3).2.2.mono (unhide k2).1.size)).trans ⟨(unhide k4).2.os, (unhide k4).2.tape, (unhide k4).2.output, (unhide k4).2.size, fun b hb => (unhide k4).2.blk b (by have := (unhide k2).1.size; have := (unhide k3).2.1; omega) (by have := (unhide k2).1.size; omega)⟩, (unhide k2).2⟩
  clear k2 k3 k4
  go_loopw [62] (fun iv wr => ∃ i : Nat, iv = .int .i64 (i : Nat) ∧ i ≤ n ∧ Hid (crlf (T.take i) = false) ∧ wr = w4) (fun iv _ => n - (intOf iv).toNat)
  case atStart => exact ⟨0, rfl, Nat.zero_le _, hide (by simp [crlf]), rfl⟩
  case round =>
    obtain ⟨i, rfl, hi, hcr, rfl⟩ := hrel
    rcases Nat.lt_or_ge i n with hlt | hge
    · have g0 : decide ((i : Int) < (n : Int)) = true := decide_eq_true (by omega)
      have y1 : (0 : Int) ≤ (i : Int) := by omega
      have y2 : (i : Int) < (n : Int) := by omega
      have hNT := unhide HN
      obtain ⟨x, hx⟩ : ∃ x, x = T.getD i 0 := ⟨_, rfl⟩
      have hx8 : x < 256 := by rw [hx]; exact unhide HS i (by omega)
      have c1 : wr.cell? ⟨b, off + i, none⟩ = some (.int .u8 (x : Nat)) := by rw [(unhide HG).2.1.cell hb, unhide HB i (by omega), hx]
      have CC : Hid (Calls Tryd.prog 38 #[.pointer (some ⟨w2.heap.size, 0, none⟩), .int .u8 (x : Nat)] wr fun e w' => ∃ q, e = .returned (.bool q) ∧ Hid (q = (x == 10 || (x == 13 || false))) ∧ w' = wr) := hide ((contains_any wr w2.heap.size x C _ hx8 (unhide HG).1 (unhide HG).2.2).mono (fun e w' ⟨h1, h2⟩ => ⟨_, h1, hide rfl, h2⟩))
      have H1 : Hid ((x == 10 || (x == 13 || false)) = true → crlf T = true) := hide (fun h => crlf_hit T i (by omega) (by rw [← hx]; simpa [Bool.or_comm] using h))
      have H0 : Hid ((x == 10 || (x == 13 || false)) = false → crlf (T.take (i + 1)) = false) := hide (fun h => crlf_step T i (unhide hcr) 1 (fun j ha hb => by
          obtain rfl : j = i := (by omega)
          rw [← hx]; simpa [Bool.or_comm, and_comm] using h) (by omega))
      clear hNT hx
      go_wp2_with (go_at_call 38; refine (unhide CC).mono ?_; rintro e w5 ⟨q, rfl, hq, h5⟩; obtain rfl := h5.symm; cases q)
      · go_roundw
        case rel => exact ⟨i + 1, by go_num, by omega, hide (unhide H0 (unhide hq).symm), by first | rfl | trivial⟩
        case measure => simp [intOf]; omega
      · go_ret
        exact ⟨_, rfl, hide (by rw [unhide H1 (unhide hq).symm]; exact decide_eq_true (Int.natCast_nonneg i)), (unhide HG).2.1⟩
    · obtain rfl : i = n := by omega
      have g0 : decide ((i : Int) < (i : Int)) = false := decide_eq_false (by omega)
      go_wp2
      go_ret
      refine ⟨_, rfl, hide ?_, (unhide HG).2.1⟩
      have := unhide hcr
      rw [unhide HN, List.take_length] at this
      rw [this]
      rfl
theorem cta_any : CtaOk UOk := by
  intro w a c T hU hB hS hl hc
  have IX : Hid (Calls Tryd.prog 27 #[.slice a T.length c, .string ⟨#[13, 10]⟩] w fun e w' => ∃ r : Int, e = .returned (.int .i64 r) ∧ Hid (decide (0 ≤ r) = crlf T) ∧ Below w.heap.size w w') := hide (by
    rcases hB with rfl | ⟨b, off, rfl, hb, hcell⟩
    · exact idx_short w a c 0 [] rfl hU (.inl rfl) hS (by decide) (by decide) (Nat.zero_le _)
    · by_cases h1 : T.length = 1
      · match T, h1 with
        | [x], _ =>
          refine (idx_one w b off c x (hS 0 (by simp)) (hcell 0 (by simp))).mono ?_
          rintro e w' ⟨r, h1, h2, h3⟩
          exact ⟨r, h1, hide (by rw [unhide h2]; simp [crlf]), h3⟩
      · by_cases h8 : T.length ≤ 8
        · exact idx_short w _ c T.length T rfl hU (.inr ⟨b, off, rfl, hb, hcell⟩) hS h1 h8 hc
        · exact idx_long w b off c T.length T rfl hb hcell hS (by omega) (by omega))
  obtain ⟨n, hn⟩ : ∃ n, n = T.length := ⟨_, rfl⟩
  rw [← hn] at IX ⊢
  clear hn hl hB hc
  go_enter Tryd.func22, Tryd.ntmps22
  go_wp2_with (go_at_call 27; refine (unhide IX).mono ?_; rintro e w1 ⟨r, rfl, hr, k1⟩)
  go_ret
  exact ⟨by rw [← unhide hr]; rfl, k1⟩
end Go.Proofs.YtfgemcmiilbodaaDoor
