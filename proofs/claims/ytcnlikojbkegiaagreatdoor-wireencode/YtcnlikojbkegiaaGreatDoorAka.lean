/- Ahead of asked: the document's Command of no arguments, both Commands at once, num, the Told's beginning. -/
import Derived.Test.YtcnlikojbkegiaaGreatDoorSpd
import Derived.Test.YtcnlikojbkegiaaGreatDoorHvy
import Derived.Test.YtcnlikojbkegiaaGreatDoorWrf
import Derived.Test.YtcnlikojbkegiaaGreatDoorTda
namespace Go.Proofs.YtcnlikojbkegiaaGreatDoor
open Go.ChangeShapes Go.WideShapes Go.ChangeAt Go.RowKit
set_option linter.unusedVariables false
set_option linter.unusedSimpArgs false
set_option maxRecDepth 20000
set_option maxHeartbeats 4000000

theorem num_any (w : World) (x : Int) : Calls Tryz.prog 7 #[.int .i64 x] w fun e w' => e = .returned (.int .i64 x) ∧ w' = w := by
  go_enter Tryz.func7, Tryz.ntmps7
  go_wp2
  go_ret
  exact ⟨rfl, rfl⟩
theorem rcommand_nil (w : World) (a : Option Addr) (c : Nat) : Calls Tryz.prog 22 #[.slice a 0 c] w fun e w' => e = .returned (.tuple #[.slice none 0 0, .int .i64 87]) ∧ w' = w := by
  go_enter Tryz.func22, Tryz.ntmps22
  go_wp2
  go_ret2
  exact ⟨rfl, rfl⟩
theorem Spd.below {w wr wr' : World} {gm n g9 : Nat} {fv : Value} {L : List (List Nat)} {G : Nat → Nat} (h : Spd w wr gm n g9 fv L G) (hb : Below wr.heap.size wr wr') : Spd w wr' gm n g9 fv L G :=
  ⟨h.bel.trans (hb.mono h.bel.size), h.gmb, h.m.below hb, h.full.below hb, fun k hk => ⟨(h.row k hk).1, (h.row k hk).2.below hb⟩, h.one, h.nine.below hb, h.nin⟩
theorem flat_len : ∀ (L : List (List Nat)) (m : Nat), (∀ T ∈ L, T.length ≤ m) → L.flatten.length ≤ L.length * m
  | [], m, _ => by simp
  | x :: L, m, h => by
    have h1 := h x (List.mem_cons_self ..)
    have h2 := flat_len L m (fun T hT => h T (List.mem_cons_of_mem _ hT))
    simp only [List.flatten_cons, List.length_append, List.length_cons, Nat.add_mul, Nat.one_mul]
    omega
theorem cmdL_len {L : List (List Nat)} (h : ¬ cmdBad L) : (cmdL L).length ≤ 600000 := by
  have h1 : L.length ≤ 128 := Classical.byContradiction (fun e => h (.inr (.inl (by omega))))
  have h2 : ∀ T ∈ L, T.length ≤ 4096 := fun T hT => Classical.byContradiction (fun e => h (.inr (.inr ⟨T, hT, by omega⟩)))
  have sp := spell_short (L.length : Nat) (by omega) (by omega)
  have h3 := flat_len (L.map textL) 4125 (fun T hT => by
    obtain ⟨x, hx, rfl⟩ := List.mem_map.1 hT
    exact textL_len x (h2 x hx))
  unfold cmdL numL
  simp only [List.length_append, List.length_map, List.length_cons, List.length_nil] at h3 ⊢
  have : L.length * 4125 ≤ 128 * 4125 := Nat.mul_le_mul_right _ h1
  omega
/-- what both sides answer of these arguments -/
def BothC (L : List (List Nat)) (l : List Nat) (E : Int) : Prop :=
  (∀ w b off cap, Tab w → ArgsAt w b off L → Calls Tryz.prog 21 #[.slice (some ⟨b, off, none⟩) L.length cap] w fun e w' => ∃ va vc, e = .returned (.tuple #[.slice va l.length vc, .int .i64 E]) ∧ Hid (Gro w w' w.heap.size (.slice va l.length vc) l.length l)) ∧
  (∀ w a cap, ArgsO w a L → Calls Tryz.prog 22 #[.slice a L.length cap] w fun e w' => ∃ va vc, e = .returned (.tuple #[.slice va l.length vc, .int .i64 E]) ∧ Hid (Bytes w' va l ∧ (∀ g off, 0 < l.length → va = some ⟨g, off, none⟩ → w.heap.size ≤ g) ∧ Below w.heap.size w w'))
theorem both_any (L : List (List Nat)) (hS : ∀ T ∈ L, Small T) : ∃ l E, l.length ≤ 600000 ∧ BothC L l E := by
  by_cases hb : cmdBad L
  · refine ⟨[], 87, by simp, fun w b off cap ht hA => (command_any w b off cap L ht hA).mono ?_, fun w a cap hA => ?_⟩
    · rintro e w' (⟨-, rfl, h⟩ | ⟨h, -⟩)
      · exact ⟨none, 0, rfl, hide ⟨h, h.size, .inl ⟨rfl, rfl⟩, fun g hg => by simp [Value.ownBlock] at hg, rfl⟩⟩
      · exact absurd hb h
    · rcases hA with rfl | ⟨b, off, rfl, hA⟩
      · refine (rcommand_nil w a cap).mono ?_
        rintro e w' ⟨rfl, h⟩
        obtain rfl := h.symm
        exact ⟨none, 0, rfl, hide ⟨.inl rfl, fun g off h => by simp at h, Below.refl _ _⟩⟩
      · refine (rcommand_any w b off cap L hA hS).mono ?_
        rintro e w' (⟨-, rfl, h⟩ | ⟨h, -⟩)
        · exact ⟨none, 0, rfl, hide ⟨.inl rfl, fun g off h => by simp at h, h⟩⟩
        · exact absurd hb h
  · refine ⟨cmdL L, 0, cmdL_len hb, fun w b off cap ht hA => (command_any w b off cap L ht hA).mono ?_, fun w a cap hA => ?_⟩
    · rintro e w' (⟨h, -⟩ | ⟨-, va, n, vc, rfl, h⟩)
      · exact absurd h hb
      · obtain rfl := (unhide h).len
        exact ⟨va, vc, rfl, h⟩
    · rcases hA with rfl | ⟨b, off, rfl, hA⟩
      · exact absurd (.inl rfl) hb
      · refine (rcommand_any w b off cap L hA hS).mono ?_
        rintro e w' (⟨h, -⟩ | ⟨-, va, n, vc, rfl, h⟩)
        · exact absurd h hb
        · obtain ⟨g, cap', cur, fz, h1, h2, h3, h4, h5, h6, h7, h8⟩ := (unhide h).row
          cases h1
          subst h7
          refine ⟨_, _, rfl, hide ⟨.inr ⟨g, 0, rfl, block_lt h2, fun i hi => ?_⟩, fun g' off' h0 e => ?_, (unhide h).bel⟩⟩
          · rw [Nat.zero_add, cell_of_row _ _ _ _ _ _ h2, h8 i hi]; rfl
          · cases e
            exact (unhide h).own g rfl
theorem Td.start {W : World} (pb : Nat) (h1 : W.heap[pb]? = some (.cells #[.slice none 0 0, .slice none 0 0, .int .i64 0, .slice none 0 0, .slice none 0 0, .int .i64 0, .slice none 0 0, .slice none 0 0, .int .i64 0, .slice none 0 0, .slice none 0 0, .int .i64 0, .slice none 0 0, .slice none 0 0, .int .i64 0, .slice none 0 0, .slice none 0 0, .int .i64 0, .slice none 0 0, .slice none 0 0, .int .i64 0, .slice none 0 0, .slice none 0 0, .int .i64 0, .slice none 0 0, .slice none 0 0, .int .i64 0, .slice none 0 0, .slice none 0 0, .int .i64 0, .int .i64 0, .int .i64 0, .int .i64 0] 48 (0, 0))) (h2 : W.heap[pb + 1]? = some (.cells #[.pointer (some ⟨pb, 0, none⟩), .int .i64 400000] 50 (0, 0))) : Td W W pb 0 400000 [] [] := by
  have half : ∀ (c : Nat) (te tl : TypeId) (mk : Nat → Nat → Value), Bk.Half c te tl mk W (fun _ => 0) 0 ⟨Bk.nilS, Bk.nilS, [], [], 0⟩ := fun c te tl mk => ⟨.inl ⟨rfl, rfl⟩, .inl ⟨rfl, rfl⟩, fun g hg => by simp [Bk.nilS, Value.ownBlock] at hg, fun g hg => by simp [Bk.nilS, Value.ownBlock] at hg, fun j hj => by simp at hj, fun j _ hj => by simp at hj, by simp⟩
  refine ⟨fun _ => 0, ⟨⟨Bk.nilS, Bk.nilS, [], [], 0⟩, ⟨Bk.nilS, Bk.nilS, [], [], 0⟩, 0, 0, 0⟩, Nat.le_refl _, ⟨⟨⟨fun i hi => ?_, fun i hi => ?_, block_lt h1⟩, half _ _ _ _, half _ _ _ _, fun g hg => absurd rfl hg, rfl, rfl, rfl, Nat.le_refl _, Nat.le_refl _, by decide, by decide, by decide⟩, h2, rfl, fun b hb => rfl, fun z hz => (by cases hz), List.Pairwise.nil, fun x hx => (by cases hx), Kept.refl _ _, by have := block_lt h1; omega⟩⟩
  · simp only [World.cell?, h1, Nat.zero_add]
    match i, hi with
    | 0, _ => rfl | 1, _ => rfl | 2, _ => rfl | 3, _ => rfl | 4, _ => rfl | 5, _ => rfl | 6, _ => rfl | 7, _ => rfl | 8, _ => rfl | 9, _ => rfl | 10, _ => rfl | 11, _ => rfl | 12, _ => rfl | 13, _ => rfl | 14, _ => rfl | 15, _ => rfl | 16, _ => rfl | 17, _ => rfl | 18, _ => rfl | 19, _ => rfl | 20, _ => rfl | 21, _ => rfl | 22, _ => rfl | 23, _ => rfl | 24, _ => rfl | 25, _ => rfl | 26, _ => rfl | 27, _ => rfl | 28, _ => rfl | 29, _ => rfl | 30, _ => rfl | 31, _ => rfl | 32, _ => rfl | k + 33, h => exact absurd h (by omega)
  · simp only [World.frozen?, h1]
    simp
theorem ArgsW.opt {w w' : World} {a : Option Addr} {L : List (List Nat)} (h : ArgsW w a L) (hb : Below w.heap.size w w') (hs : ∀ T ∈ L, T.length ≤ 268435456) : ArgsO w' a L := by
  rcases h with h | ⟨b, off, rfl, hlt, hc⟩
  · exact .inl h
  · refine ArgsO.below (.inr ⟨b, off, rfl, hlt, fun k T hT => ?_⟩) hb
    obtain ⟨x, c, h1, h2, h3⟩ := hc k T hT
    exact ⟨x, c, h1, h2, hs T (List.mem_of_getElem? hT)⟩
theorem ArgsW.low {w w' : World} {a : Option Addr} {L : List (List Nat)} (h : ArgsW w a L) (hb : Below w.heap.size w w') : LowO w' a L w.heap.size := by
  intro b off k T e hT
  rcases h with rfl | ⟨b', off', e', hlt, hc⟩
  · simp at hT
  · rw [e] at e'
    cases e'
    refine ⟨hlt, fun x c g o hx h0 hg => ?_⟩
    obtain ⟨x', c', h1, h2, h3⟩ := hc k T hT
    rw [hb.cell hlt, h1] at hx
    cases hx
    rcases h2 with rfl | ⟨b2, o2, e2, hl2, _⟩
    · simp at h0
    · rw [hg] at e2
      cases e2
      exact hl2
theorem Td.old {w0 w1 W : World} {pb t : Nat} {m : Int} {Z : List (Value × List Nat)} {X : List (Nat × Obj)} (h : Td w1 W pb t m Z X) (h01 : Below w0.heap.size w0 w1) (hp : w0.heap.size ≤ pb) : Below w0.heap.size w0 W := by
  have k := h.kept
  exact h01.trans ⟨k.os, k.tape, k.output, k.size, fun b hb => k.blk b (Nat.lt_of_lt_of_le hb h01.size) (by omega)⟩
end Go.Proofs.YtcnlikojbkegiaaGreatDoor
