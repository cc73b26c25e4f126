/- Heard. -/
import Derived.Test.YtjmnddcombepaaaPcj
namespace Go.Proofs.Ytjmnddcombepaaa
open Go.ChangeShapes Go.WideShapes Go.ChangeAt Go.RowKit Go.Maps Go.Sort
set_option linter.unusedVariables false
set_option linter.unusedSimpArgs false
set_option maxRecDepth 100000
set_option maxHeartbeats 4000000

/-- a Hit: the connection, whether by a pattern, the name -/
abbrev Hit := Int × Bool × List UInt8
def hitC (h : Hit) : List Value := [.int .i64 h.1, .bool h.2.1, .string (bs h.2.2)]
def OwnH (w : World) (base : Nat) (v : Value) (l : List Hit) : Prop := w.ownsRow base 45 3 v l.length (l.flatMap hitC)
theorem OwnH.nil (w : World) (base : Nat) : OwnH w base (.slice none 0 0) [] := World.ownsRow_nil w base 45 3
theorem OwnH.ge {w : World} {base : Nat} {v : Value} {l : List Hit} (h : OwnH w base v l) : ∀ g, v.ownBlock = some g → base ≤ g ∧ g < w.heap.size := fun g hg => World.ownsRow.lt h g hg
theorem OwnH.below {w w' : World} {base : Nat} {v : Value} {l : List Hit} (h : OwnH w base v l) (hb : Below w.heap.size w w') : OwnH w' base v l := by
  cases hv : v.ownBlock with
  | none => exact World.ownsRow.kept h (grown_of hb) (.inl hv)
  | some g => exact World.ownsRow.kept h (grown_of hb) (.inr (by simp [hv]))
theorem OwnH.apart {w : World} {base base' : Nat} {v u : Value} {l : List Hit} {m : List (List UInt8)} (h : OwnH w base v l) (h' : OwnS w base' u m) : ∀ g, u.ownBlock = some g → v.ownBlock ≠ some g := by
  intro g h1 h2
  rcases h.2 with ⟨rfl, _⟩ | ⟨g1, cap, cur, rfl, _, hb, _⟩
  · simp [Value.ownBlock] at h2
  · rcases h'.2 with ⟨rfl, _⟩ | ⟨g2, cap2, cur2, rfl, _, hb2, _⟩
    · simp [Value.ownBlock] at h1
    · simp [Value.ownBlock] at h1 h2
      subst h1
      subst h2
      rw [hb] at hb2
      simp at hb2
theorem info45 : (Try.prog.info? 45).map (fun i => (i.zero, i.size, i.bytes)) = some (some (.agg #[.int .i64 0, .bool false, .string ⟨#[]⟩]), 3, 32) := by kernel_rfl
theorem cell_three_new (w : World) (a b c : Value) (t : TypeId) : ∀ j u, [a, b, c][j]? = some u → (w.alloc (.cells #[a, b, c] t)).cell? ((⟨w.heap.size, 0, none⟩ : Addr).add j) = some u := by
  intro j u hj
  have h := heap_alloc_new w (.cells #[a, b, c] t)
  match j, hj with
  | 0, hj => rw [show ((⟨w.heap.size, 0, none⟩ : Addr).add 0) = ⟨w.heap.size, 0, none⟩ from by simp [Addr.add], cell_blk h]; simpa using hj
  | 1, hj => rw [show ((⟨w.heap.size, 0, none⟩ : Addr).add 1) = ⟨w.heap.size, 1, none⟩ from by simp [Addr.add], cell_blk h]; simpa using hj
  | 2, hj => rw [show ((⟨w.heap.size, 0, none⟩ : Addr).add 2) = ⟨w.heap.size, 2, none⟩ from by simp [Addr.add], cell_blk h]; simpa using hj
  | j + 3, hj => simp at hj
/-- by which patterns a connection hears -/
def hearP (S : List Key) (c : Int) (M : List (List UInt8)) : List Hit := (M.filter (fun P => decide ((c, P, true) ∈ S))).map (fun P => (c, true, P))
/-- whether by the channel itself -/
def hearT (S : List Key) (T : List UInt8) (c : Int) : List Hit := if (c, T, false) ∈ S then [(c, false, T)] else []
/-- all that the first n connections hear -/
def hearN (S : List Key) (T : List UInt8) (M : List (List UInt8)) : Nat → List Hit
  | 0 => []
  | n + 1 => hearN S T M n ++ (hearT S T n ++ hearP S n M)
theorem hearP_snoc (S : List Key) (c : Int) (M : List (List UInt8)) (P : List UInt8) : hearP S c (M ++ [P]) = hearP S c M ++ (if (c, P, true) ∈ S then [(c, true, P)] else []) := by
  unfold hearP
  rw [List.filter_append, List.map_append]
  by_cases h : (c, P, true) ∈ S <;> simp [h]
theorem hearP_len (S : List Key) (c : Int) (M : List (List UInt8)) : (hearP S c M).length ≤ M.length := by
  unfold hearP
  rw [List.length_map]
  exact List.length_filter_le _ _
theorem hearT_len (S : List Key) (T : List UInt8) (c : Int) : (hearT S T c).length ≤ 1 := by
  unfold hearT
  split <;> simp
theorem hearN_len (S : List Key) (T : List UInt8) (M : List (List UInt8)) : ∀ n, (hearN S T M n).length ≤ n * (M.length + 1)
  | 0 => by simp [hearN]
  | n + 1 => by
    have h1 := hearN_len S T M n
    have h2 := hearT_len S T n
    have h3 := hearP_len S n M
    simp only [hearN, List.length_append]
    rw [Nat.succ_mul]
    omega
/-- Heard's loops -/
structure HeAt (w wr : World) (pv : Value) (M : List (List UInt8)) (v : Value) (l : List Hit) : Prop where
  bel : Below w.heap.size w wr
  pats : OwnS wr w.heap.size pv M
  hits : OwnH wr w.heap.size v l
theorem HeAt.below {w wr w' : World} {pv v : Value} {M : List (List UInt8)} {l : List Hit} (h : HeAt w wr pv M v l) (hb : Below wr.heap.size wr w') : HeAt w w' pv M v l :=
  ⟨h.bel.trans (hb.mono h.bel.size), h.pats.below hb, h.hits.below hb⟩
theorem HeAt.push {w wr w' : World} {pv v v' : Value} {M : List (List UInt8)} {l : List Hit} {x : Hit} {o : Obj} (h : HeAt w wr pv M v l) (hg : (wr.alloc o).grownBy w' v.ownBlock) (ho : w'.ownsRow w.heap.size 45 3 v' (l.length + 1) (l.flatMap hitC ++ hitC x)) : HeAt w w' pv M v' (l ++ [x]) := by
  have ha := h.below ((Below.refl _ _).alloc (Nat.le_refl _) o)
  refine ⟨ha.bel.grown hg ha.bel.size (fun k hk => (ha.hits.ge k hk).1), ha.pats.kept hg (fun g hg' => ha.hits.apart ha.pats g hg'), ?_⟩
  unfold OwnH
  simpa [List.flatMap_append] using ho
end Go.Proofs.Ytjmnddcombepaaa
