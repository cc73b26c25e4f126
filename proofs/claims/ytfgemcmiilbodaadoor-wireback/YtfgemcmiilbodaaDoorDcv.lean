/- Decode: an array is read, if replies are: the walks. -/
import Derived.Test.YtfgemcmiilbodaaDoorDcu
namespace Go.Proofs.YtfgemcmiilbodaaDoor
open Go.ChangeShapes Go.WideShapes Go.ChangeAt Go.RowKit
set_option linter.unusedVariables false
set_option linter.unusedSimpArgs false
set_option maxRecDepth 20000
set_option maxHeartbeats 4000000

theorem arr_end {W : World} {g : Nat} {v0 v1 v2 v3 : Value} (er : Int) (tmps : Array Value) (hg : W.heap[g]? = some (.cells #[v0, v1, v2, v3] 27 (0, 0))) (h2 : tmps.getD 4 undef = .pointer (some ⟨g, 0, none⟩)) (h3 : tmps.getD 5 undef = .int .i64 er) :
    (results Tryd.f21 tmps).run Tryd.prog W = .ok (.tuple #[.agg #[v0, v1, v2, v3], .int .i64 er]) W := by
  refine results_box (p := 4) (q := 5) (ty := 27) rfl tmps _ g 27 _ (0, 0) _ h2 hg Tryd.underlying27 rfl (by kernel_rfl) _ h3

theorem arr_bad8 (w : World) (pd I d : Nat) (a : Option Addr) (n cp : Nat) (T : List Nat) (hI : ((I : Int) == 8) = true) (h : DcAt w pd a n cp T) (hl : n ≤ 140737488355328) (P : Larder8.St (Tr (d + 1))) (Q : Larder8.St Int) (hQ : Larder8.numP (-1) (-1) T = Q) (hPQ : (Q = .short ∧ P = .short) ∨ (Q = .wrong ∧ P = .wrong)) :
    Part w pd (d + 1) 21 #[.pointer (some ⟨pd, 0, none⟩), .int .i64 (I : Int)] P := by
  have CN := hide (dnum_any _ pd a n cp T (-1) (-1) (h.below ((Below.refl _ _).alloc (Nat.le_refl _) (.cells #[.int .i64 0, .int .i64 0, .slice none 0 0, .slice none 0 0] 27))) hl ⟨by omega, by omega⟩ ⟨by omega, by omega⟩)
  have HB := hide (Bx.new w pd (block_lt h.box))
  rw [hQ] at CN
  clear h hQ
  unfold Part
  unfold NumEnd at CN
  rcases hPQ with ⟨rfl, rfl⟩ | ⟨rfl, rfl⟩
  all_goals
    go_enter Tryd.func21, Tryd.ntmps21
    go_wp2_with (first
      | (go_at_call 19; with_reducible refine (unhide CN).mono ?_; rintro e w5 ⟨v, rfl, h5⟩; have B5 := hide ((unhide HB).next (unhide h5).1); have z0 := (unhide B5).cell 0 _ rfl; have z1 := (unhide B5).cell 1 _ rfl; have z2 := (unhide B5).cell 2 _ rfl; have z3 := (unhide B5).cell 3 _ rfl; have y0 := (unhide B5).froz 0; have y1 := (unhide B5).froz 1; have y2 := (unhide B5).froz 2; have y3 := (unhide B5).froz 3; simp only [Larder8.St.err]))
    refine bodyPost_ret (arr_end _ _ (store4 (unhide B5).box rfl _ _ _ _) rfl rfl) rfl ?_
    exact ⟨7, 0, none, 0, 0, none, 0, 0, rfl, hide ⟨DcK.boxed (unhide B5) _ _ _ _, fun x r e => (by cases e)⟩⟩
theorem arr_nil8 (w : World) (pd I d : Nat) (a : Option Addr) (n cp : Nat) (T r : List Nat) (hI : ((I : Int) == 8) = true) (h : DcAt w pd a n cp T) (hl : n ≤ 140737488355328) (hQ : Larder8.numP (-1) (-1) T = .ok (-1) r) :
    Part w pd (d + 1) 21 #[.pointer (some ⟨pd, 0, none⟩), .int .i64 (I : Int)] (.ok (mkR 7 0 [] []) r) := by
  have CN := hide (dnum_any _ pd a n cp T (-1) (-1) (h.below ((Below.refl _ _).alloc (Nat.le_refl _) (.cells #[.int .i64 0, .int .i64 0, .slice none 0 0, .slice none 0 0] 27))) hl ⟨by omega, by omega⟩ ⟨by omega, by omega⟩)
  have HB := hide (Bx.new w pd (block_lt h.box))
  rw [hQ] at CN
  clear h hQ
  unfold Part
  unfold NumEnd at CN
  go_enter Tryd.func21, Tryd.ntmps21
  go_wp2_with (first
    | (go_at_call 19; with_reducible refine (unhide CN).mono ?_; rintro e w5 ⟨v, rfl, h5⟩; obtain ⟨rfl, h7⟩ := (unhide h5).2 _ _ rfl; have B5 := hide ((unhide HB).next (unhide h5).1); have z0 := (unhide B5).cell 0 _ rfl; have z1 := (unhide B5).cell 1 _ rfl; have z2 := (unhide B5).cell 2 _ rfl; have z3 := (unhide B5).cell 3 _ rfl; have y0 := (unhide B5).froz 0; have y1 := (unhide B5).froz 1; have y2 := (unhide B5).froz 2; have y3 := (unhide B5).froz 3; simp only [Larder8.St.err]))
  refine bodyPost_ret (arr_end _ _ (store4 (unhide B5).box rfl _ _ _ _) rfl rfl) rfl ?_
  obtain ⟨a', n', cp', h8⟩ := h7
  refine ⟨7, 0, none, 0, 0, none, 0, 0, rfl, hide ⟨DcK.boxed (unhide B5) _ _ _ _, fun x r' e => ?_⟩⟩
  cases e
  exact ⟨DrAt.leaf (OwnB.nil _ _) small_nil, a', n', cp', h8.boxed (by have := (unhide B5).lt; omega) ((unhide B5).apart h8) _ _ _ _⟩

theorem arr_bad (w : World) (pd I d : Nat) (a : Option Addr) (n cp : Nat) (T : List Nat) (hI : ((I : Int) == 8) = false) (h : DcAt w pd a n cp T) (hl : n ≤ 140737488355328) (P : Larder8.St (Tr (d + 1))) (Q : Larder8.St Int) (hQ : Larder8.numP (-1) 65536 T = Q) (hPQ : (Q = .short ∧ P = .short) ∨ (Q = .wrong ∧ P = .wrong)) :
    Part w pd (d + 1) 21 #[.pointer (some ⟨pd, 0, none⟩), .int .i64 (I : Int)] P := by
  have CN := hide (dnum_any _ pd a n cp T (-1) 65536 (h.below ((Below.refl _ _).alloc (Nat.le_refl _) (.cells #[.int .i64 0, .int .i64 0, .slice none 0 0, .slice none 0 0] 27))) hl ⟨by omega, by omega⟩ ⟨by omega, by omega⟩)
  have HB := hide (Bx.new w pd (block_lt h.box))
  rw [hQ] at CN
  clear h hQ
  unfold Part
  unfold NumEnd at CN
  rcases hPQ with ⟨rfl, rfl⟩ | ⟨rfl, rfl⟩
  all_goals
    go_enter Tryd.func21, Tryd.ntmps21
    go_wp2_with (first
      | (go_at_call 19; with_reducible refine (unhide CN).mono ?_; rintro e w5 ⟨v, rfl, h5⟩; have B5 := hide ((unhide HB).next (unhide h5).1); have z0 := (unhide B5).cell 0 _ rfl; have z1 := (unhide B5).cell 1 _ rfl; have z2 := (unhide B5).cell 2 _ rfl; have z3 := (unhide B5).cell 3 _ rfl; have y0 := (unhide B5).froz 0; have y1 := (unhide B5).froz 1; have y2 := (unhide B5).froz 2; have y3 := (unhide B5).froz 3; simp only [Larder8.St.err]))
    refine bodyPost_ret (arr_end _ _ (store4 (unhide B5).box rfl _ _ _ _) rfl rfl) rfl ?_
    exact ⟨7, 0, none, 0, 0, none, 0, 0, rfl, hide ⟨DcK.boxed (unhide B5) _ _ _ _, fun x r e => (by cases e)⟩⟩
theorem arr_nil (w : World) (pd I d : Nat) (a : Option Addr) (n cp : Nat) (T r : List Nat) (hI : ((I : Int) == 8) = false) (h : DcAt w pd a n cp T) (hl : n ≤ 140737488355328) (hQ : Larder8.numP (-1) 65536 T = .ok (-1) r) :
    Part w pd (d + 1) 21 #[.pointer (some ⟨pd, 0, none⟩), .int .i64 (I : Int)] (.ok (mkR 7 0 [] []) r) := by
  have CN := hide (dnum_any _ pd a n cp T (-1) 65536 (h.below ((Below.refl _ _).alloc (Nat.le_refl _) (.cells #[.int .i64 0, .int .i64 0, .slice none 0 0, .slice none 0 0] 27))) hl ⟨by omega, by omega⟩ ⟨by omega, by omega⟩)
  have HB := hide (Bx.new w pd (block_lt h.box))
  rw [hQ] at CN
  clear h hQ
  unfold Part
  unfold NumEnd at CN
  go_enter Tryd.func21, Tryd.ntmps21
  go_wp2_with (first
    | (go_at_call 19; with_reducible refine (unhide CN).mono ?_; rintro e w5 ⟨v, rfl, h5⟩; obtain ⟨rfl, h7⟩ := (unhide h5).2 _ _ rfl; have B5 := hide ((unhide HB).next (unhide h5).1); have z0 := (unhide B5).cell 0 _ rfl; have z1 := (unhide B5).cell 1 _ rfl; have z2 := (unhide B5).cell 2 _ rfl; have z3 := (unhide B5).cell 3 _ rfl; have y0 := (unhide B5).froz 0; have y1 := (unhide B5).froz 1; have y2 := (unhide B5).froz 2; have y3 := (unhide B5).froz 3; simp only [Larder8.St.err]))
  refine bodyPost_ret (arr_end _ _ (store4 (unhide B5).box rfl _ _ _ _) rfl rfl) rfl ?_
  obtain ⟨a', n', cp', h8⟩ := h7
  refine ⟨7, 0, none, 0, 0, none, 0, 0, rfl, hide ⟨DcK.boxed (unhide B5) _ _ _ _, fun x r' e => ?_⟩⟩
  cases e
  exact ⟨DrAt.leaf (OwnB.nil _ _) small_nil, a', n', cp', h8.boxed (by have := (unhide B5).lt; omega) ((unhide B5).apart h8) _ _ _ _⟩

end Go.Proofs.YtfgemcmiilbodaaDoor
