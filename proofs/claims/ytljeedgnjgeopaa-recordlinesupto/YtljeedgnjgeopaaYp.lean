/- record: the iterator over a log's records. -/
import Derived.Test.YtljeedgnjgeopaaYo
namespace Go.Proofs.Ytljeedgnjgeopaa
open Go.ChangeShapes Go.WideShapes Go.ChangeAt Go.RowKit Go.Shelf
set_option linter.unusedVariables false
set_option linter.unusedSimpArgs false
set_option maxRecDepth 100000
set_option maxHeartbeats 4000000
/-- what a round hands over -/
def RcE (es : List Larder.EntP) (q : Nat) (vs : Array Value) (W : World) : Prop := ∃ (e : Larder.EntP) (ga : Option Addr) (gn gc : Nat), es[q]? = some e ∧ vs = #[.agg #[.int .i64 (e.seq : Nat), .int .u64 (e.now : Nat), .slice ga gn gc], .int .i64 ((Larder.offR es (q + 1) : Nat) : Int)] ∧ gn = e.group.length ∧ AL W (.slice ga gn gc) e.group
/-- what a round keeps -/
def RcK (X : World → Nat → Prop) (W W' : World) : Prop := W.heap.size ≤ W'.heap.size ∧ ∀ k, k < W.heap.size → X W k → W'.heap[k]? = W.heap[k]? ∧ X W' k
/-- the entry ahead -/
def AhAt (X : World → Nat → Prop) (P : Nat) (es : List Larder.EntP) (q : Nat) (W : World) : Prop := X W P ∧ ((q = 0 ∧ W.heap[P]? = some (.cells #[.int .i64 0, .int .u64 0, .slice none 0 0] 41 (0, 0))) ∨ ∃ (p : Nat) (a : Larder.EntP) (ga : Option Addr) (gn gc : Nat), q = p + 1 ∧ es[p]? = some a ∧ W.heap[P]? = some (.cells #[.int .i64 (a.seq : Nat), .int .u64 (a.now : Nat), .slice ga gn gc] 41 (0, 0)))
theorem first_at (W : World) (b1 o1 m c o : Nat) (b : List Nat) (hm : m = b.length) (hmc : m ≤ c) (ho : o ≤ m) (h : Rst W W.heap.size (some ⟨b1, o1, none⟩) m c b) (hs : ∀ x ∈ b, x < 256) (hl : b.length ≤ 1099511627776) : Calls Try.prog 48 #[.slice (some ⟨b1, o1 + o, none⟩) (m - o) (c - o)] W (FrEnd W (b.drop o)) := by
  refine first_any W _ _ _ _ ?_ (fun x hx => hs x (List.mem_of_mem_drop hx)) (by rw [List.length_drop]; omega)
  rcases h with ⟨e, -⟩ | ⟨b2, o2, e, h1, h2, h3, h4⟩
  · cases e
  · cases e
    refine .inr ⟨b1, o1 + o, rfl, h1, by rw [List.length_drop]; omega, by omega, fun i hi => ?_⟩
    rw [getD_drop, Nat.add_assoc]
    exact h4 (o + i) (by omega)
theorem round_yield {n l P B q : Nat} {es : List Larder.EntP} {X : World → Nat → Prop} {J : Nat → World → Prop}
    (hJx : ∀ q W k i v, J q W → X W k → J q (W.setCell ⟨k, i, none⟩ v)) (hXx : ∀ W k k' i v, X W k → X W k' → X (W.setCell ⟨k', i, none⟩ v) k)
    (hY : ∀ q vs W, q < es.length → RcE es q vs W → J q W → YieldAt Fence.wide (n - 1) Try.prog l vs W fun e W' => e = .returned (.bool true) ∧ J (q + 1) W' ∧ RcK X W W')
    (W : World) (e : Larder.EntP) (ga : Option Addr) (gn gc : Nat) (u0 u1 u2 : Value) (he : es[q]? = some e) (hJ : J q W) (hgn : gn = e.group.length) (hA : AL W (.slice ga gn gc) e.group)
    (hB : W.heap[B]? = some (.cells #[.int .i64 (e.seq : Nat), .int .u64 (e.now : Nat), .slice ga gn gc] 41 (0, 0))) (hXB : X W B) (hP : W.heap[P]? = some (.cells #[u0, u1, u2] 41 (0, 0))) (hXP : X W P) :
    ∃ fn tmps assign body, (Instr.yield l #[.agg #[.int .i64 (e.seq : Nat), .int .u64 (e.now : Nat), .slice ga gn gc], .int .i64 ((Larder.offR es (q + 1) : Nat) : Int)]).run Try.prog W = .ok (.round l fn tmps assign body) W ∧ Hid (RoundIn Fence.wide (n - 1) Try.prog l fn tmps assign body W fun e' W6 => e' = .returned (.bool true) ∧
      W6.cell? ⟨B, 0, none⟩ = some (.int .i64 (e.seq : Nat)) ∧ W6.cell? ⟨B, 1, none⟩ = some (.int .u64 (e.now : Nat)) ∧ W6.cell? ⟨B, 2, none⟩ = some (.slice ga gn gc) ∧
      W6.cell? ⟨P, 0, none⟩ = some u0 ∧ W6.frozen? ⟨P, 0, none⟩ = false ∧ (W6.setCell ⟨P, 0, none⟩ (.int .i64 (e.seq : Nat))).cell? ⟨P, 1, none⟩ = some u1 ∧ (W6.setCell ⟨P, 0, none⟩ (.int .i64 (e.seq : Nat))).frozen? ⟨P, 1, none⟩ = false ∧ ((W6.setCell ⟨P, 0, none⟩ (.int .i64 (e.seq : Nat))).setCell ⟨P, 1, none⟩ (.int .u64 (e.now : Nat))).cell? ⟨P, 2, none⟩ = some u2 ∧ ((W6.setCell ⟨P, 0, none⟩ (.int .i64 (e.seq : Nat))).setCell ⟨P, 1, none⟩ (.int .u64 (e.now : Nat))).frozen? ⟨P, 2, none⟩ = false ∧
      Hid (J (q + 1) (((W6.setCell ⟨P, 0, none⟩ (.int .i64 (e.seq : Nat))).setCell ⟨P, 1, none⟩ (.int .u64 (e.now : Nat))).setCell ⟨P, 2, none⟩ (.slice ga gn gc)) ∧ AhAt X P es (q + 1) (((W6.setCell ⟨P, 0, none⟩ (.int .i64 (e.seq : Nat))).setCell ⟨P, 1, none⟩ (.int .u64 (e.now : Nat))).setCell ⟨P, 2, none⟩ (.slice ga gn gc)) ∧ P < (((W6.setCell ⟨P, 0, none⟩ (.int .i64 (e.seq : Nat))).setCell ⟨P, 1, none⟩ (.int .u64 (e.now : Nat))).setCell ⟨P, 2, none⟩ (.slice ga gn gc)).heap.size)) := by
  obtain ⟨fn, tmps, assign, body, hy, hR⟩ := hY q _ W (List.getElem?_eq_some_iff.1 he).1 ⟨e, ga, gn, gc, he, rfl, hgn, hA⟩ hJ
  refine ⟨fn, tmps, assign, body, hy, hide (hR.mono ?_)⟩
  rintro e' W6 ⟨rfl, j6, k6⟩
  obtain ⟨p1, p2⟩ := k6.2 B (blk_lt hB) hXB
  obtain ⟨p3, p4⟩ := k6.2 P (blk_lt hP) hXP
  have hB6 := p1.trans hB
  have hP6 := p3.trans hP
  obtain ⟨x1, x2, x3, x4, x5, x6, x7⟩ := box3 (.int .i64 (e.seq : Nat)) (.int .u64 (e.now : Nat)) (.slice ga gn gc) hP6
  have X1 := hXx W6 P P 0 (.int .i64 (e.seq : Nat)) p4 p4
  have X2 := hXx _ P P 1 (.int .u64 (e.now : Nat)) X1 X1
  have X3 := hXx _ P P 2 (.slice ga gn gc) X2 X2
  refine ⟨rfl, cell_blk hB6 0, cell_blk hB6 1, cell_blk hB6 2, x1, x2, x3, x4, x5, x6, hide ⟨hJx _ _ _ _ _ (hJx _ _ _ _ _ (hJx _ _ _ _ _ j6 p4) X1) X2, ⟨X3, .inr ⟨q, e, ga, gn, gc, rfl, he, unhide x7⟩⟩, blk_lt (unhide x7)⟩⟩
end Go.Proofs.Ytljeedgnjgeopaa
