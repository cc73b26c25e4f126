/- Decode: replies, in plain words; a reply that owns its memory. -/
import Derived.Test.YtfgemcmiilbodaaDoorDcd
namespace Go.Proofs.YtfgemcmiilbodaaDoor
open Go.ChangeShapes Go.WideShapes Go.ChangeAt Go.RowKit
set_option linter.unusedVariables false
set_option linter.unusedSimpArgs false
set_option maxRecDepth 20000
set_option maxHeartbeats 4000000

def mkR {d : Nat} (k n : Int) (t : List Nat) (l : List (Tr d)) : Tr (d + 1) := (⟨k, n, t, l⟩ : Nd (Tr d))
/-- an array's number and what is in it; d: how deep the replies in it may be -/
def arrP {d : Nat} (f : List Nat → Larder8.St (Tr d)) (r : List Nat) : Larder8.St (Tr (d + 1)) :=
  match Larder8.numP (-1) (if d = 0 then -1 else 65536) r with
  | .short => .short
  | .wrong => .wrong
  | .ok n r' => if n = -1 then .ok (mkR 7 0 [] []) r' else (Larder8.listP f n.toNat r').map (fun l => (mkR 6 0 [] l))
/-- a reply of a depth below d; at the top d is 9 -/
def repP : (d : Nat) → List Nat → Larder8.St (Tr d)
  | 0, _ => .wrong
  | d + 1, [] => .short
  | d + 1, c :: r =>
    if c = 43 then (Larder8.lineP r).map (fun t => (mkR 1 0 t []))
    else if c = 45 then (Larder8.lineP r).map (fun t => (mkR 2 0 t []))
    else if c = 58 then (Larder8.numP (-9223372036854775808) 9223372036854775807 r).map (fun n => (mkR 3 n [] []))
    else if c = 36 then (Larder8.bulkP r).map (fun o => match o with | none => (mkR 5 0 [] []) | some t => (mkR 4 0 t []))
    else if c = 42 then arrP (repP d) r
    else .wrong
/-- a reply that lies in blocks of its own: those of S -/
def DrAt (w : World) : (d : Nat) → (Nat → Prop) → Tr d → Value → Value → Value → Value → Prop
  | 0, _, _, _, _, _, _ => False
  | d + 1, S, x, v0, v1, v2, v3 => v0 = .int .i64 x.nd.k ∧ v1 = .int .i64 x.nd.n ∧
      (OwnB w 0 v2 x.nd.t ∧ Small x.nd.t ∧ ∀ g, v2.ownBlock = some g → S g) ∧
      ∃ f : Nat → Value, Rws w 27 4 v3 x.nd.l.length f ∧ (∀ g, v3.ownBlock = some g → S g) ∧
      ∀ i y, x.nd.l[i]? = some y → DrAt w d (fun b => S b ∧ v3.ownBlock ≠ some b) y (f (i * 4)) (f (i * 4 + 1)) (f (i * 4 + 2)) (f (i * 4 + 3))
theorem DrAt.mono {w : World} : ∀ {d : Nat} {S S' : Nat → Prop} {x : Tr d} {v0 v1 v2 v3 : Value}, DrAt w d S x v0 v1 v2 v3 → (∀ b, S b → S' b) → DrAt w d S' x v0 v1 v2 v3
  | 0, _, _, _, _, _, _, _, h, _ => h
  | d + 1, S, S', x, v0, v1, v2, v3, ⟨h0, h1, ⟨h2, h3, h4⟩, f, h5, h6, h7⟩, hs =>
    ⟨h0, h1, ⟨h2, h3, fun g hg => hs g (h4 g hg)⟩, f, h5, fun g hg => hs g (h6 g hg), fun i y hi => (h7 i y hi).mono (fun b hb => ⟨hs b hb.1, hb.2⟩)⟩
theorem OwnB.same {w w' : World} {base : Nat} {v : Value} {l : List Nat} (h : OwnB w base v l) (hs : ∀ g, v.ownBlock = some g → w'.heap[g]? = w.heap[g]?) : OwnB w' base v l := by
  refine ⟨h.1, ?_⟩
  rcases h.2 with hn | ⟨g', cap, cur, rfl, hbb, hg', rest⟩
  · exact .inl hn
  · exact .inr ⟨g', cap, cur, rfl, hbb, (hs g' (by simp [Value.ownBlock])).trans hg', rest⟩
theorem DrAt.same {w w' : World} : ∀ {d : Nat} {S : Nat → Prop} {x : Tr d} {v0 v1 v2 v3 : Value}, DrAt w d S x v0 v1 v2 v3 → (∀ b, S b → b < w.heap.size → w'.heap[b]? = w.heap[b]?) → DrAt w' d S x v0 v1 v2 v3
  | 0, _, _, _, _, _, _, h, _ => h
  | d + 1, S, x, v0, v1, v2, v3, ⟨h0, h1, ⟨h2, h3, h4⟩, f, h5, h6, h7⟩, hs => by
    refine ⟨h0, h1, ⟨h2.same (fun g hg => hs g (h4 g hg) ?_), h3, h4⟩, f, h5.same (fun g hg => hs g (h6 g hg) ?_), h6, fun i y hi => (h7 i y hi).same (fun b hb hlt => hs b hb.1 hlt)⟩
    · rcases h2.2 with ⟨rfl, -⟩ | ⟨g', cap, cur, rfl, hbb, hg', rest⟩
      · simp [Value.ownBlock] at hg
      · simp [Value.ownBlock] at hg
        subst hg
        exact block_lt hg'
    · rcases h5 with ⟨rfl, -⟩ | ⟨g', cap, cur, rfl, hg', rest⟩
      · simp [Value.ownBlock] at hg
      · simp [Value.ownBlock] at hg
        subst hg
        exact block_lt hg'
end Go.Proofs.YtfgemcmiilbodaaDoor
