/- A range over an iterator that hands over new memory. -/
import Derived.Test.YtljeedgnjgeopaaYm
import Derived.RangeFuncNested
import Derived.RangeFuncBound
import Derived.RangeFuncCalls
import Derived.RangeFuncLeaves
import Derived.Shelf.Abstract
import Derived.Shelf.RegionOpen
import Derived.OwnWalkIn
import Derived.TacticsInMore
import Derived.LoopNIn
import Derived.LoopIn
namespace Go.Proofs.Ytljeedgnjgeopaa
open Go.ChangeShapes Go.WideShapes Go.ChangeAt Go.RowKit Go.Shelf
set_option linter.unusedVariables false

/-- how a round ends -/
def roundPost (Kp : World → World → Prop) (I : World → Prop) (l D : Nat) (W : World) : Exit → Act → World → Prop
  | .normal, _, W' => I W' ∧ Kp W W' ∧ W'.heap[l]? = W.heap[l]? ∧ W'.heap[D]? = W.heap[D]?
  | .ret, _, _ => False
  | .exit _, _, _ => False
  | .goto _, _, _ => False
  | .panic _, _, _ => False
  | .outgrown, _, _ => False

theorem wpIn_range_rec {F : Fence} {n : Nat} {P : Program} {g : Operand} {ps : Array Tmp} {assign body : Code} {Q : Exit → Act → World → Prop} {a : Act} {w : World}
    (hro : F.round = none) (h1 : 1 ≤ n) {gf : Nat} {lb : Array Value} (hg : a.eval g = .func (.func gf) #[] lb) (hFg : F.fn gf) (eg : ∀ args w, (callFunc gf args).run P w = .ok (.enter gf args) w)
    (I : Nat → World → Prop) (Kp : World → World → Prop) (hKt : ∀ A B C, Kp A B → Kp B C → Kp A C) (hKb : ∀ A B, Below A.heap.size A B → Kp A B) (hKp : ∀ W o o', W.heap[w.heap.size + 1]? = some o → o.isCells = false → Kp W (W.putObj (w.heap.size + 1) o')) (N : Nat) (E : Nat → Array Value → World → Prop) (hps : ∀ q vs W, E q vs W → vs.size = ps.size)
    (hcall : ∀ (J : Nat → World → Prop) (W1 : World), (∃ o1 o2, W1 = (w.alloc o1).alloc o2) → J 0 W1 → (∀ q W W', J q W → Below W.heap.size W W' → J q W') → (∀ q W, J q W → I q W) → (∀ q W W', J q W → I q W' → W'.heap[w.heap.size + 1]? = W.heap[w.heap.size + 1]? → W'.heap[w.heap.size]? = W.heap[w.heap.size]? → J q W') →
      (∀ q vs W, q < N → E q vs W → J q W → YieldAt F (n - 1 - 1) P (w.heap.size + 1) vs W fun e W' => e = .returned (.bool true) ∧ J (q + 1) W' ∧ Kp W W') →
      CallsIn F (n - 1) P gf (#[.func (.yield (w.heap.size + 1)) #[] #[]] ++ lb) W1 fun e W' => (∃ v, e = .returned v) ∧ J N W')
    (h0 : ∀ o1 o2, I 0 ((w.alloc o1).alloc o2)) (hIb : ∀ q W W', I q W → Below W.heap.size W W' → I q W')
    (hIp : ∀ q W o o', W.heap[w.heap.size + 1]? = some o → o.isCells = false → I q W → I q (W.putObj (w.heap.size + 1) o'))
    (A : Nat → Array Value → Act → World → Prop)
    (hassign : ∀ (q : Nat) (vs : Array Value) (W : World) (K : Act → World → Prop), q < N → E q vs W → I q W → (∀ a1 W', Below W.heap.size W W' → A q vs a1 W' → K a1 W') →
      assign.wpIn (F.inRound (w.heap.size + 1)) (n - 1 - 1) P (Exit.then K (fun _ _ _ => False)) { tmps := (ps.zip vs).foldl (fun t (p, v) => t.setIfInBounds p v) a.tmps, defers := [] } W)
    (hAp : ∀ q vs a1 W o o', W.heap[w.heap.size + 1]? = some o → o.isCells = false → A q vs a1 W → A q vs a1 (W.putObj (w.heap.size + 1) o'))
    (hbody : ∀ (q : Nat) (vs : Array Value) (a1 : Act) (W : World), q < N → A q vs a1 W → w.heap.size + 1 < W.heap.size → (∃ o, W.heap[w.heap.size + 1]? = some o ∧ o.isCells = false) → body.wpIn (F.inRound (w.heap.size + 1)) (n - 1 - 1) P (roundPost Kp (I (q + 1)) (w.heap.size + 1) w.heap.size W) a1 W)
    (hdone : ∀ (W : World), I N W → W.heap[w.heap.size]? = some (.deferred (some [])) → w.heap.size < W.heap.size → Q .normal { a with defers := { target := .collected w.heap.size, args := #[] } :: a.defers } W) :
    (Code.rangeFunc g ps assign body).wpIn F n P Q a w := by
  refine wpIn_rangeFunc ?_
  intro fn hfn
  rw [hro]
  obtain ⟨rec, hrec⟩ : ∃ rec : LoopState → Option Code → Loop, rec = fun st pe => { state := st, pending := pe, fn, tmps := a.tmps, params := ps, assign, body, defers := w.heap.size } := ⟨_, rfl⟩
  obtain ⟨W1, hW1⟩ : ∃ W1, (w.alloc (.deferred (some []))).alloc (.loop (rec .ready none)) = W1 := ⟨_, rfl⟩
  have hL1 : W1.heap[w.heap.size + 1]? = some (.loop (rec .ready none)) := by
    rw [← hW1]; have := World.alloc_heap_new (w.alloc (.deferred (some []))) (.loop (rec .ready none)); rwa [World.size_alloc] at this
  have hK1 : W1.heap[w.heap.size]? = some (.deferred (some [])) := by
    rw [← hW1]; exact (Below.heap_alloc _ _ _ (by simp)).trans (World.alloc_heap_new w _)
  have hI1 : I 0 W1 := by rw [← hW1]; exact h0 _ _
  refine ⟨w.heap.size + 1, [{ target := .collected w.heap.size, args := #[] }], W1, { target := .fn (.func gf) lb, args := #[.func (.yield (w.heap.size + 1)) #[] #[]] }, W1, gf,
    #[.func (.yield (w.heap.size + 1)) #[] #[]] ++ lb, W1, ?_, ?_, ?_, ?_, fun _ => h1, ?_⟩
  · rw [← hW1, hrec]; exact run_enterLoop_outer _ _ _ _ _
  · simp only [resolve, hg]
    simp [go_sem]
  · intro f' hf'; simp [Target.leads] at hf'; subst hf'; exact hFg
  · simp [invoke, go_sem, eg]
  · refine (hcall (fun q W => I q W ∧ W.heap[w.heap.size + 1]? = some (.loop (rec .ready none)) ∧ W.heap[w.heap.size]? = some (.deferred (some []))) W1 ⟨_, _, hW1.symm⟩ ⟨hI1, hL1, hK1⟩
      (fun q W W' hJ hB => ⟨hIb q W W' hJ.1 hB, (hB.block _ (Array.getElem?_eq_some_iff.1 hJ.2.1).1).trans hJ.2.1, (hB.block _ (Array.getElem?_eq_some_iff.1 hJ.2.2).1).trans hJ.2.2⟩)
      (fun q W hJ => hJ.1) (fun q W W' hJ hI e1 e2 => ⟨hI, e1.trans hJ.2.1, e2.trans hJ.2.2⟩) ?_).mono ?_
    · rintro q vs W hq hE ⟨hi, hl, hk⟩
      have hy := run_yield (P := P) (args := vs) hl (by rw [hrec]; exact hps q vs W hE)
      rw [hrec] at hy
      refine ⟨fn, _, assign, body, hy, roundIn_of_wpIn hfn (hassign q vs W _ hq hE hi ?_)⟩
      intro a1 W' hB hA
      have hl0 := (hB.block _ (Array.getElem?_eq_some_iff.1 hl).1).trans hl
      have hk0 := (hB.block _ (Array.getElem?_eq_some_iff.1 hk).1).trans hk
      have hlt : w.heap.size + 1 < W'.heap.size := (Array.getElem?_eq_some_iff.1 hl0).1
      refine ⟨_, run_beginRound hl0 (by rw [hrec]), ?_⟩
      have hl2 : (W'.putObj (w.heap.size + 1) (.loop { rec .ready none with state := .busy })).heap[w.heap.size + 1]? = some (.loop { rec .ready none with state := .busy }) := World.putObj_heap_same hlt
      have hk2 : (W'.putObj (w.heap.size + 1) (.loop { rec .ready none with state := .busy })).heap[w.heap.size]? = some (.deferred (some [])) := (World.putObj_heap_other (by omega)).trans hk0
      refine wpIn_mono (hbody q vs a1 _ hq (hAp q vs a1 W' _ _ hl0 rfl hA) (by simpa using hlt) ⟨_, hl2, rfl⟩) ?_
      rintro e a3 W3 hp
      cases e with
      | normal =>
        obtain ⟨hi3, hk3, hp1, hp2⟩ := hp
        have hl3 := hp1.trans hl2
        have hr := run_endRound (P := P) none hl3
        rw [hrec] at hr
        refine ⟨_, _, hr, rfl, ⟨?_, ?_, ?_⟩, ?_⟩
        · exact hIp _ W3 _ _ hl3 rfl hi3
        · rw [hrec]; exact World.putObj_heap_same (Array.getElem?_eq_some_iff.1 hl3).1
        · exact (World.putObj_heap_other (by omega)).trans (hp2.trans hk2)
        · exact hKt _ _ _ (hKt _ _ _ (hKt _ _ _ (hKb _ _ hB) (hKp _ _ _ hl0 rfl)) hk3) (hKp _ _ _ hl3 rfl)
      | ret => exact hp.elim
      | exit id => exact hp.elim
      | goto t => exact hp.elim
      | panic ch => exact hp.elim
      | outgrown => exact hp.elim
    · rintro e W2 ⟨⟨v, rfl⟩, hi, hl, hk⟩
      refine ⟨none, _, by have := run_endLoop (P := P) hl (by rw [hrec]; simp); rw [hrec] at this; exact this, hdone _ (hIp N W2 _ _ hl rfl hi) ((World.putObj_heap_other (by omega)).trans hk) ?_⟩
      have := (Array.getElem?_eq_some_iff.1 hk).1
      simpa using this
end Go.Proofs.Ytljeedgnjgeopaa
