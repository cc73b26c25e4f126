/- Contracts of sameBytes and copyBytes. -/
import Derived.Test.YtjmnddcombepaaaBase
import Derived.Laws.AppendOwnNone
import Derived.Laws.OwnMore
namespace Go.Proofs.Ytjmnddcombepaaa
open Go.ChangeShapes Go.WideShapes Go.ChangeAt Go.RowKit
set_option linter.unusedVariables false

theorem conv_any (a : Option Addr) (cap : Nat) (w : World) (l : List Nat) (hB : Bytes w a l) :
    (convert 23 9 (.slice a l.length cap)).run Try.prog w = .ok (.string (strOfNums (l.map Int.ofNat))) w := by
  rcases hB with rfl | ⟨b, off, rfl, hb, hc⟩
  · cases a with
    | none => exact run_convert_bytes_nil w 23 5 Try.underlying23 Try.underlying5 0 cap 9 Try.underlying9
    | some x =>
      show (convert 23 9 (.slice (some x) 0 cap)).run Try.prog w = _
      rw [run_convert_bytes_string w 23 9 5 _ _ cap Try.underlying23 Try.underlying5 Try.underlying9, run_bytesToString w x 0 cap [] rfl]; rfl
  · refine run_convert_bytes_arg w 23 5 Try.underlying23 Try.underlying5 b off l.length cap (l.map Int.ofNat) (by simp) (fun i hi => ?_) 9 Try.underlying9
    rw [hc i hi]
    simp [List.getD_eq_getElem?_getD, hi]

theorem toList_mk1 (x : List UInt8) : (ByteArray.mk x.toArray).toList = x := by
  exact ByteArray.toList_mk x

theorem strs_eq (l l' : List Nat) (hs : Small l) (hs' : Small l') : ((strOfNums (l.map Int.ofNat)).toList == (strOfNums (l'.map Int.ofNat)).toList) = decide (l = l') := by
  have key : ∀ m m' : List Nat, (∀ c ∈ m, c < 256) → (∀ c ∈ m', c < 256) → ((m.map fun c => UInt8.ofNat c) = (m'.map fun c => UInt8.ofNat c) ↔ m = m') := by
    intro m
    induction m with
    | nil => intro m' _ _; cases m' <;> simp
    | cons c m ih =>
      intro m' h h'
      cases m' with
      | nil => simp
      | cons d m' =>
        simp only [List.map_cons, List.cons.injEq]
        rw [ih m' (fun x hx => h x (List.mem_cons_of_mem _ hx)) (fun x hx => h' x (List.mem_cons_of_mem _ hx))]
        have hc := h c (List.mem_cons_self ..)
        have hd := h' d (List.mem_cons_self ..)
        have : UInt8.ofNat c = UInt8.ofNat d ↔ c = d := by
          constructor
          · intro e
            have e2 := congrArg UInt8.toNat e
            simp only [UInt8.toNat_ofNat'] at e2
            omega
          · intro e; rw [e]
        rw [this]
  have sm : ∀ m : List Nat, Small m → ∀ c ∈ m, c < 256 := by
    intro m hm c hc
    obtain ⟨i, hi, rfl⟩ := List.mem_iff_getElem.1 hc
    have := hm i hi
    rwa [List.getD_eq_getElem?_getD, List.getElem?_eq_getElem hi] at this
  unfold strOfNums
  rw [toList_mk1, toList_mk1, List.map_map, List.map_map]
  have h := key l l' (sm l hs) (sm l' hs')
  rw [Bool.eq_iff_iff, beq_iff_eq, decide_eq_true_iff]
  exact h

theorem Try.info5 : (Try.prog.info? 5).map (fun i => (i.zero, i.size, i.bytes)) = some (some (.int .u8 0), 1, 1) := by kernel_rfl

theorem add_plain (b off j : Nat) : (⟨b, off, none⟩ : Addr).add j = ⟨b, off + j, none⟩ := by unfold Addr.add; split <;> simp_all

/-- bytes as cells -/
def cellsOf (l : List Nat) : List Value := l.map (fun c : Nat => Value.int .u8 (c : Int))
theorem cellsOf_length (l : List Nat) : (cellsOf l).length = l.length := by simp [cellsOf]
theorem cellsOf_one (l : List Nat) : ∀ u ∈ cellsOf l, u.oneCell' = true := by
  intro u hu
  obtain ⟨c, _, rfl⟩ := List.mem_map.1 hu
  rfl
theorem cellsOf_get (l : List Nat) (j : Nat) (u : Value) (h : (cellsOf l)[j]? = some u) : j < l.length ∧ u = .int .u8 (l.getD j 0 : Nat) := by
  unfold cellsOf at h
  rw [List.getElem?_map] at h
  rw [List.getD_eq_getElem?_getD]
  cases hg : l[j]? with
  | none => rw [hg] at h; simp at h
  | some c =>
    rw [hg] at h
    simp at h
    exact ⟨(List.getElem?_eq_some_iff.1 hg).1, by rw [← h]; rfl⟩
theorem cellsOf_at (l : List Nat) (j : Nat) (h : j < l.length) : (cellsOf l)[j]? = some (.int .u8 (l.getD j 0 : Nat)) := by
  unfold cellsOf
  rw [List.getElem?_map, List.getD_eq_getElem?_getD, List.getElem?_eq_getElem h]; rfl

/-- v owns the bytes l among the blocks from 'base' on -/
def OwnB (w : World) (base : Nat) (v : Value) (l : List Nat) : Prop := w.ownsRow base 5 1 v l.length (cellsOf l)

theorem OwnB.shape {w : World} {base : Nat} {v : Value} {l : List Nat} (h : OwnB w base v l) :
    ∃ a cap, v = .slice a l.length cap ∧ Bytes w a l ∧ (a = none → cap = 0) := by
  rcases h.2 with ⟨rfl, h0⟩ | ⟨g, cap, cur, rfl, hb, hg, hn, hm, hs, ht⟩
  · exact ⟨none, 0, by rw [h0], .inl (List.eq_nil_of_length_eq_zero h0), fun _ => rfl⟩
  · refine ⟨_, cap, rfl, .inr ⟨g, 0, rfl, (Array.getElem?_eq_some_iff.1 hg).1, fun i hi => ?_⟩, fun h => by cases h⟩
    rw [Nat.zero_add, h.cellAt i (by omega), cellsOf_at l i hi]

theorem OwnB.below {w w' : World} {base : Nat} {v : Value} {l : List Nat} (h : OwnB w base v l) (hb : Below w.heap.size w w') : OwnB w' base v l := by
  refine ⟨h.1, ?_⟩
  rcases h.2 with hn | ⟨g, cap, cur, rfl, hbb, hg, rest⟩
  · exact .inl hn
  · exact .inr ⟨g, cap, cur, rfl, hbb, by rw [hb.block g (Array.getElem?_eq_some_iff.1 hg).1]; exact hg, rest⟩

end Go.Proofs.Ytjmnddcombepaaa
