/- Decode: a reply is read, where arrays are. -/
import Derived.Test.YtecfgbjnjgjkoaaGreatDoorDcq
namespace Go.Proofs.YtecfgbjnjgjkoaaGreatDoor
open Go.ChangeShapes Go.WideShapes Go.ChangeAt Go.RowKit
set_option linter.unusedVariables false
set_option linter.unusedSimpArgs false
set_option maxRecDepth 20000
set_option maxHeartbeats 4000000

def RpEnd (w : World) (pd d : Nat) (P : Larder8.St (Tr d)) (e : Ending) (w' : World) : Prop := ∃ (k0 k1 : Int) (ta : Option Addr) (tn tc : Nat) (la : Option Addr) (ln lc : Nat), e = .returned (.tuple #[.agg #[.int .i64 k0, .int .i64 k1, .slice ta tn tc, .slice la ln lc], .int .i64 P.err]) ∧ Hid (DcK pd w w' ∧ ∀ x r, P = .ok x r → DrAt w' d (fun b => w.heap.size ≤ b) x (.int .i64 k0) (.int .i64 k1) (.slice ta tn tc) (.slice la ln lc) ∧ ∃ a' n' cp', DcAt w' pd a' n' cp' r)
/-- what a part has told, as a reply -/
def Told4 (w2 : World) (pd d : Nat) (P : Larder8.St (Tr d)) (k0 k1 : Int) (ta : Option Addr) (tn tc : Nat) (la : Option Addr) (ln lc : Nat) (w3 : World) : Prop := DcK pd w2 w3 ∧ ∀ x r, P = .ok x r → DrAt w3 d (fun b => w2.heap.size ≤ b) x (.int .i64 k0) (.int .i64 k1) (.slice ta tn tc) (.slice la ln lc) ∧ ∃ a' n' cp', DcAt w3 pd a' n' cp' r
theorem Told4.kept {w2 : World} {pd d : Nat} {P : Larder8.St (Tr d)} {k0 k1 : Int} {ta : Option Addr} {tn tc : Nat} {la : Option Addr} {ln lc : Nat} {w3 : World} (h : Told4 w2 pd d P k0 k1 ta tn tc la ln lc w3) : DcK pd w2 w3 := h.1
theorem rp_out {w w2 w3 : World} {pd d : Nat} {P : Larder8.St (Tr d)} {k0 k1 : Int} {ta : Option Addr} {tn tc : Nat} {la : Option Addr} {ln lc : Nat} (B2 : Bx w w2 pd) (h : Told4 w2 pd d P k0 k1 ta tn tc la ln lc w3) :
    RpEnd w pd d P (.returned (.tuple #[.agg #[.int .i64 k0, .int .i64 k1, .slice ta tn tc, .slice la ln lc], .int .i64 P.err])) ((((w3.setCell ⟨w.heap.size, 0, none⟩ (.int .i64 k0)).setCell ⟨w.heap.size, 1, none⟩ (.int .i64 k1)).setCell ⟨w.heap.size, 2, none⟩ (.slice ta tn tc)).setCell ⟨w.heap.size, 3, none⟩ (.slice la ln lc)) := by
  have B3 := B2.next h.1
  have h2 : w.heap.size < w2.heap.size := block_lt B2.box
  refine ⟨k0, k1, ta, tn, tc, la, ln, lc, rfl, hide ⟨DcK.boxed B3 _ _ _ _, fun x r e => ?_⟩⟩
  obtain ⟨h3, a', n', cp', h4⟩ := h.2 x r e
  refine ⟨(h3.same (fun b hb hlt => ?_)).mono (fun b hb => by omega), a', n', cp', h4.boxed (by have := B3.lt; omega) (B3.apart h4) _ _ _ _⟩
  rw [Bk.setCell_else _ _ _ _ _ (by omega), Bk.setCell_else _ _ _ _ _ (by omega), Bk.setCell_else _ _ _ _ _ (by omega), Bk.setCell_else _ _ _ _ _ (by omega)]
/-- a reply without a list -/
theorem DrAt.leaf {w : World} {d : Nat} {base : Nat} {k0 k1 : Int} {t : List Nat} {v : Value} (h : OwnB w base v t) (hs : Small t) : DrAt w (d + 1) (fun b => base ≤ b) (mkR k0 k1 t []) (.int .i64 k0) (.int .i64 k1) v (.slice none 0 0) :=
  ⟨rfl, rfl, ⟨h.mono (Nat.zero_le _), hs, fun g hg => h.ge g hg⟩, fun _ => undef, .inl ⟨rfl, rfl⟩, fun g hg => (by simp [Value.ownBlock] at hg), fun _ _ => False, fun _ _ _ h => h.elim, fun _ _ h => h.elim, fun i y hi => (by simp [Tr.nd, mkR] at hi)⟩
theorem small_nil : Small [] := fun i hi => (by simp at hi)
theorem map_err {α β : Type} (f : α → β) (P : Larder8.St α) : (P.map f).err = P.err := by cases P <;> rfl
theorem told_line {w2 w3 : World} {pd d : Nat} {K : Int} {T : List Nat} {ta : Option Addr} {tn tc : Nat} (hT : Small T) (h : DcK pd w2 w3 ∧ ∀ t r, Larder8.lineP T = .ok t r → OwnB w3 w2.heap.size (.slice ta tn tc) t ∧ ∃ a' n' cp', DcAt w3 pd a' n' cp' r) : Told4 w2 pd (d + 1) ((Larder8.lineP T).map (fun t => (mkR K 0 t []))) K 0 ta tn tc none 0 0 w3 := by
  refine ⟨h.1, fun x r e => ?_⟩
  cases hP : Larder8.lineP T with
  | short => rw [hP] at e; cases e
  | wrong => rw [hP] at e; cases e
  | ok t r0 =>
    rw [hP] at e
    cases e
    obtain ⟨o, q⟩ := h.2 _ _ hP
    refine ⟨DrAt.leaf o ?_, q⟩
    unfold Larder8.lineP at hP
    revert hP
    cases Larder8.endP (List.drop (Larder8.lineT T).length T) with
    | short => intro e; cases e
    | wrong => intro e; cases e
    | ok u r1 =>
      intro e
      cases e
      unfold Larder8.lineT
      intro i hi
      have hm : ∀ c ∈ List.takeWhile (fun c => !(c == 13 || c == 10)) (T.take 1024), c < 256 := fun c hc => by
        have h1 := List.mem_of_mem_take ((List.takeWhile_sublist _).subset hc)
        obtain ⟨j, hj, rfl⟩ := List.mem_iff_getElem.1 h1
        have := hT j hj
        rwa [List.getD_eq_getElem?_getD, List.getElem?_eq_getElem hj] at this
      rw [List.getD_eq_getElem?_getD, List.getElem?_eq_getElem hi]
      exact hm _ (List.getElem_mem hi)
theorem told_num {w2 w3 : World} {pd d : Nat} {v : Int} {P : Larder8.St Int} (h : DcK pd w2 w3 ∧ ∀ v' r, P = .ok v' r → v = v' ∧ ∃ a' n' cp', DcAt w3 pd a' n' cp' r) : Told4 w2 pd (d + 1) (P.map (fun n => (mkR 3 n [] []))) 3 v none 0 0 none 0 0 w3 := by
  refine ⟨h.1, fun x r e => ?_⟩
  cases P with
  | short => cases e
  | wrong => cases e
  | ok n r0 =>
    cases e
    obtain ⟨rfl, q⟩ := h.2 _ _ rfl
    exact ⟨DrAt.leaf (OwnB.nil _ _) small_nil, q⟩
theorem told_bulk {w2 w3 : World} {pd d : Nat} {k : Int} {ta : Option Addr} {tn tc : Nat} {P : Larder8.St (Option (List Nat))} (hS : ∀ t r, P = .ok (some t) r → Small t) (h : DcK pd w2 w3 ∧ ∀ o r, P = .ok o r → ((o = none → k = 5 ∧ ta = none ∧ tn = 0 ∧ tc = 0) ∧ (∀ t, o = some t → k = 4 ∧ OwnB w3 w2.heap.size (.slice ta tn tc) t)) ∧ ∃ a' n' cp', DcAt w3 pd a' n' cp' r) : Told4 w2 pd (d + 1) (P.map (fun o => match o with | none => (mkR 5 0 [] []) | some t => (mkR 4 0 t []))) k 0 ta tn tc none 0 0 w3 := by
  refine ⟨h.1, fun x r e => ?_⟩
  cases P with
  | short => cases e
  | wrong => cases e
  | ok o r0 =>
    cases e
    obtain ⟨⟨h1, h2⟩, q⟩ := h.2 _ _ rfl
    cases o with
    | none =>
      obtain ⟨rfl, rfl, rfl, rfl⟩ := h1 rfl
      exact ⟨DrAt.leaf (OwnB.nil _ _) small_nil, q⟩
    | some t =>
      obtain ⟨rfl, o⟩ := h2 t rfl
      exact ⟨DrAt.leaf o (hS t _ rfl), q⟩
end Go.Proofs.YtecfgbjnjgjkoaaGreatDoor
