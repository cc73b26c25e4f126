/- Decode: a text of any bytes is read. -/
import Derived.Test.YtfgemcmiilbodaaDoorDcb
namespace Go.Proofs.YtfgemcmiilbodaaDoor
open Go.ChangeShapes Go.WideShapes Go.ChangeAt Go.RowKit
set_option linter.unusedVariables false
set_option linter.unusedSimpArgs false
set_option maxRecDepth 20000
set_option maxHeartbeats 4000000
/-- the answer's box is given back -/
theorem bulk_end {W : World} {g : Nat} {v0 v1 v2 v3 : Value} (er : Int) (tmps : Array Value) (hg : W.heap[g]? = some (.cells #[v0, v1, v2, v3] 27 (0, 0))) (h2 : tmps.getD 2 undef = .pointer (some ⟨g, 0, none⟩)) (h3 : tmps.getD 3 undef = .int .i64 er) :
    (results Tryd.f20 tmps).run Tryd.prog W = .ok (.tuple #[.agg #[v0, v1, v2, v3], .int .i64 er]) W := by
  refine results_box (p := 2) (q := 3) (ty := 27) rfl tmps _ g 27 _ (0, 0) _ h2 hg Tryd.underlying27 rfl (by kernel_rfl) _ h3
theorem bulk_bad (w : World) (pd : Nat) (a : Option Addr) (n cp : Nat) (T : List Nat) (h : DcAt w pd a n cp T) (hl : n ≤ 140737488355328) (hP : (Larder8.numP (-1) 4096 T).err ≠ 0) :
    Calls Tryd.prog 20 #[.pointer (some ⟨pd, 0, none⟩)] w (BlkEnd w pd (Larder8.bulkP T)) := by
  have b0 := Bx.new w pd (block_lt h.box)
  have CN := hide (dnum_any _ pd a n cp T (-1) 4096 (h.below ((Below.refl _ _).alloc (Nat.le_refl _) (.cells #[.int .i64 0, .int .i64 0, .slice none 0 0, .slice none 0 0] 27))) hl ⟨by omega, by omega⟩ ⟨by omega, by omega⟩)
  have HB := hide b0
  have E : (Larder8.numP (-1) 4096 T).err = 86 ∧ Larder8.bulkP T = .short ∨ (Larder8.numP (-1) 4096 T).err = 85 ∧ Larder8.bulkP T = .wrong := by
    unfold Larder8.bulkP
    revert hP
    cases Larder8.numP (-1) 4096 T with
    | ok v r => intro h; exact absurd rfl h
    | short => intro _; exact .inl ⟨rfl, rfl⟩
    | wrong => intro _; exact .inr ⟨rfl, rfl⟩
  obtain ⟨P, hPP⟩ : ∃ P, P = Larder8.numP (-1) 4096 T := ⟨_, rfl⟩
  rw [← hPP] at CN E
  clear hP hPP b0
  rcases E with ⟨e1, e2⟩ | ⟨e1, e2⟩
  all_goals
    rw [e2]
    unfold NumEnd at CN
    rw [e1] at CN
    go_enter Tryd.func20, Tryd.ntmps20
    go_wp2_with (first
      | (go_at_call 19; with_reducible refine (unhide CN).mono ?_; rintro e w5 ⟨v, rfl, h5⟩; have B5 := hide ((unhide HB).next (unhide h5).1); have z0 := (unhide B5).cell 0 _ rfl; have z1 := (unhide B5).cell 1 _ rfl; have z2 := (unhide B5).cell 2 _ rfl; have z3 := (unhide B5).cell 3 _ rfl; have y0 := (unhide B5).froz 0; have y1 := (unhide B5).froz 1; have y2 := (unhide B5).froz 2; have y3 := (unhide B5).froz 3))
    refine bodyPost_ret (bulk_end _ _ (store4 (unhide B5).box rfl _ _ _ _) rfl rfl) rfl ?_
    exact ⟨5, none, 0, 0, rfl, hide ⟨DcK.boxed (unhide B5) _ _ _ _, fun o r e => (by cases e)⟩⟩
/-- the lack of a text -/
theorem bulk_lack (w : World) (pd : Nat) (a : Option Addr) (n cp : Nat) (T r : List Nat) (h : DcAt w pd a n cp T) (hl : n ≤ 140737488355328) (hP : Larder8.numP (-1) 4096 T = .ok (-1) r) :
    Calls Tryd.prog 20 #[.pointer (some ⟨pd, 0, none⟩)] w (BlkEnd w pd (Larder8.bulkP T)) := by
  have b0 := Bx.new w pd (block_lt h.box)
  have CN := hide (dnum_any _ pd a n cp T (-1) 4096 (h.below ((Below.refl _ _).alloc (Nat.le_refl _) (.cells #[.int .i64 0, .int .i64 0, .slice none 0 0, .slice none 0 0] 27))) hl ⟨by omega, by omega⟩ ⟨by omega, by omega⟩)
  have HB := hide b0
  have E : Larder8.bulkP T = .ok none r := by unfold Larder8.bulkP; rw [hP]; rfl
  rw [E]
  unfold NumEnd at CN
  rw [hP] at CN
  clear hP b0
  go_enter Tryd.func20, Tryd.ntmps20
  go_wp2_with (first
    | (go_at_call 19; with_reducible refine (unhide CN).mono ?_; rintro e w5 ⟨v, rfl, h5⟩; obtain ⟨rfl, h7⟩ := (unhide h5).2 _ _ rfl; have B5 := hide ((unhide HB).next (unhide h5).1); have z0 := (unhide B5).cell 0 _ rfl; have z1 := (unhide B5).cell 1 _ rfl; have z2 := (unhide B5).cell 2 _ rfl; have z3 := (unhide B5).cell 3 _ rfl; have y0 := (unhide B5).froz 0; have y1 := (unhide B5).froz 1; have y2 := (unhide B5).froz 2; have y3 := (unhide B5).froz 3; simp only [Larder8.St.err]))
  refine bodyPost_ret (bulk_end _ _ (store4 (unhide B5).box rfl _ _ _ _) rfl rfl) rfl ?_
  obtain ⟨a', n', cp', h8⟩ := h7
  refine ⟨5, none, 0, 0, rfl, hide ⟨DcK.boxed (unhide B5) _ _ _ _, fun o r' e => ?_⟩⟩
  cases e
  exact ⟨⟨fun _ => ⟨rfl, rfl, rfl, rfl⟩, fun t e => (by cases e)⟩, a', n', cp', h8.boxed (by have := (unhide B5).lt; omega) ((unhide B5).apart h8) _ _ _ _⟩
/-- there is not enough -/
theorem bulk_few (w : World) (pd : Nat) (a : Option Addr) (n cp : Nat) (T r : List Nat) (m : Nat) (h : DcAt w pd a n cp T) (hl : n ≤ 140737488355328) (hP : Larder8.numP (-1) 4096 T = .ok (m : Int) r) (hm : r.length < m) :
    Calls Tryd.prog 20 #[.pointer (some ⟨pd, 0, none⟩)] w (BlkEnd w pd (Larder8.bulkP T)) := by
  have b0 := Bx.new w pd (block_lt h.box)
  have CN := hide (dnum_any _ pd a n cp T (-1) 4096 (h.below ((Below.refl _ _).alloc (Nat.le_refl _) (.cells #[.int .i64 0, .int .i64 0, .slice none 0 0, .slice none 0 0] 27))) hl ⟨by omega, by omega⟩ ⟨by omega, by omega⟩)
  have HB := hide b0
  have hin := (Larder8.numP_in hP).2
  have E : Larder8.bulkP T = .short := by
    unfold Larder8.bulkP
    rw [hP]
    show (if (m : Int) = -1 then _ else if r.length < (m : Int).toNat then _ else _) = _
    rw [if_neg (by omega), if_pos (by simpa using hm)]
  have hm1 : ((m : Int) == -1) = false := by rw [beq_eq_false_iff_ne]; omega
  have hd : ∀ k : Nat, k = r.length → (k < m) = True := fun k hk => eq_true (by omega)
  rw [E]
  unfold NumEnd at CN
  rw [hP] at CN
  clear hP b0
  go_enter Tryd.func20, Tryd.ntmps20
  go_wp2_with (first
    | (go_at_call 19; with_reducible refine (unhide CN).mono ?_; rintro e w5 ⟨v, rfl, h5⟩; obtain ⟨rfl, a', n', cp', h8⟩ := (unhide h5).2 _ _ rfl; have B5 := hide ((unhide HB).next (unhide h5).1); have z0 := (unhide B5).cell 0 _ rfl; have z1 := (unhide B5).cell 1 _ rfl; have z2 := (unhide B5).cell 2 _ rfl; have z3 := (unhide B5).cell 3 _ rfl; have y0 := (unhide B5).froz 0; have y1 := (unhide B5).froz 1; have y2 := (unhide B5).froz 2; have y3 := (unhide B5).froz 3; have q0 : w5.cell? ⟨pd, 0, none⟩ = some (.slice a' n' cp') := h8.cell0; have q1 := hd n' h8.rst.len; clear h8; simp only [Larder8.St.err]))
  refine bodyPost_ret (bulk_end _ _ (store4 (unhide B5).box rfl _ _ _ _) rfl rfl) rfl ?_
  exact ⟨0, none, 0, 0, rfl, hide ⟨DcK.boxed (unhide B5) _ _ _ _, fun o r e => (by cases e)⟩⟩
theorem blk_out {w w5 w7 : World} {pd : Nat} {a6 : Option Addr} {n6 c6 : Nat} {t : List Nat} {P : Larder8.St Unit} (B5 : Bx w w5 pd) (B7 : Bx w w7 pd) (o7 : OwnB w7 w5.heap.size (.slice a6 n6 c6) t) (h7 : ∀ r, P = .ok () r → ∃ a' n' cp', DcAt w7 pd a' n' cp' r) :
    BlkEnd w pd (P.map (fun _ => some t)) (.returned (.tuple #[.agg #[.int .i64 4, .int .i64 0, .slice a6 n6 c6, .slice none 0 0], .int .i64 P.err])) ((((w7.setCell ⟨w.heap.size, 0, none⟩ (.int .i64 4)).setCell ⟨w.heap.size, 1, none⟩ (.int .i64 0)).setCell ⟨w.heap.size, 2, none⟩ (.slice a6 n6 c6)).setCell ⟨w.heap.size, 3, none⟩ (.slice none 0 0)) := by
  have h5 : w.heap.size < w5.heap.size := block_lt B5.box
  refine ⟨4, a6, n6, c6, by cases P <;> rfl, hide ⟨DcK.boxed B7 _ _ _ _, fun o r e => ?_⟩⟩
  cases P with
  | short => cases e
  | wrong => cases e
  | ok u r0 =>
    cases e
    obtain ⟨a', n', cp', h8⟩ := h7 _ rfl
    refine ⟨⟨fun e => (by cases e), fun t' e => ?_⟩, a', n', cp', h8.boxed (by have := B7.lt; omega) (B7.apart h8) _ _ _ _⟩
    cases e
    exact ⟨rfl, ((((o7.set h5).set h5).set h5).set h5).mono (Nat.le_of_lt h5)⟩
/-- a text -/
theorem bulk_full (w : World) (pd : Nat) (a : Option Addr) (n cp : Nat) (T r : List Nat) (m : Nat) (h : DcAt w pd a n cp T) (hl : n ≤ 140737488355328) (hP : Larder8.numP (-1) 4096 T = .ok (m : Int) r) (hm : m ≤ r.length) :
    Calls Tryd.prog 20 #[.pointer (some ⟨pd, 0, none⟩)] w (BlkEnd w pd (Larder8.bulkP T)) := by
  have b0 := Bx.new w pd (block_lt h.box)
  have CN := hide (dnum_any _ pd a n cp T (-1) 4096 (h.below ((Below.refl _ _).alloc (Nat.le_refl _) (.cells #[.int .i64 0, .int .i64 0, .slice none 0 0, .slice none 0 0] 27))) hl ⟨by omega, by omega⟩ ⟨by omega, by omega⟩)
  have HB := hide b0
  have hin := (Larder8.numP_in hP).2
  have E : Larder8.bulkP T = (Larder8.endP (r.drop m)).map (fun _ => some (r.take m)) := by
    unfold Larder8.bulkP
    rw [hP]
    show (if (m : Int) = -1 then _ else if r.length < (m : Int).toNat then _ else _) = _
    rw [if_neg (by omega), if_neg (by simpa using hm)]
    rfl
  have hm1 : ((m : Int) == -1) = false := by rw [beq_eq_false_iff_ne]; omega
  have hm0 : (0 : Int) ≤ (m : Int) := by omega
  rw [E]
  unfold NumEnd at CN
  rw [hP] at CN
  obtain ⟨P, hPP⟩ : ∃ P, P = Larder8.endP (r.drop m) := ⟨_, rfl⟩
  rw [← hPP]
  have HPP := hide hPP
  clear hP b0 E hPP
  go_enter Tryd.func20, Tryd.ntmps20
  go_wp2_with fail
  refine (unhide CN).mono ?_
  rintro e w5 ⟨v, rfl, h5⟩
  obtain ⟨rfl, a', n', cp', h8⟩ := (unhide h5).2 _ _ rfl
  have B5 := hide ((unhide HB).next (unhide h5).1)
  have q0 := h8.cell0
  have hlen := h8.rst.len
  have hle := h8.rst.le
  have g1 : (m : Int) ≤ (cp' : Int) := by omega
  have g2 : (m : Int) ≤ (n' : Int) := by omega
  have g3 : (n' < m) = False := eq_false (by omega)
  have hmin : (r.take m).length = m := by simp; omega
  have CL := clone_any a' cp' w5 (r.take m) (by omega) (Bytes.first h8.rst.bytes m)
  rw [hmin] at CL
  have HL := hide (CL.mono (R' := fun e w' => ∃ a6 n6 c6, e = .returned (.slice a6 n6 c6) ∧ Hid (OwnB w' w5.heap.size (.slice a6 n6 c6) (r.take m)) ∧ Hid (Below w5.heap.size w5 w')) (fun e w' k => by
    obtain ⟨v6, e6, o6, k6⟩ := k
    obtain ⟨a6, c6, e7, -⟩ := o6.shape
    subst e7
    exact ⟨a6, _, c6, e6, hide o6, hide k6⟩))
  obtain ⟨b, off, rfl, -⟩ := h8.so
  have H8 := hide h8
  have mm : m ≤ n' := by omega
  clear CL h8 CN h hlen hle hmin
  simp only [Larder8.St.err]
  by_cases hcp : cp' = m
  · subst hcp
    go_wp2_with (first
      | (go_at_call 28; with_reducible refine (unhide HL).mono ?_; rintro e w6 ⟨a6, n6, c6, rfl, o6, k6⟩; have H6 := hide ((unhide H8).below (unhide k6)); have q6 := (unhide H6).cell0; have f6 := (unhide H6).froz0; have HM := hide ((unhide H8).move (unhide k6) cp' (some ⟨b, off, none⟩) mm (.inr ⟨rfl, rfl⟩)); rw [Nat.sub_self] at HM; have CE := hide (end_any _ pd _ _ _ _ (unhide HM)); rw [← unhide HPP] at CE; have f7 := (unhide HM).froz0)
      | (go_at_call 29; with_reducible refine (unhide CE).mono ?_; rintro e w7 ⟨rfl, h7⟩; have B7 := hide ((((unhide B5).next (DcK.below (unhide k6))).next DcK.put).next (unhide h7).1); have z0 := (unhide B7).cell 0 _ rfl; have z1 := (unhide B7).cell 1 _ rfl; have z2 := (unhide B7).cell 2 _ rfl; have z3 := (unhide B7).cell 3 _ rfl; have y0 := (unhide B7).froz 0; have y1 := (unhide B7).froz 1; have y2 := (unhide B7).froz 2; have y3 := (unhide B7).froz 3))
    refine bodyPost_ret (bulk_end _ _ (store4 (unhide B7).box rfl _ _ _ _) rfl rfl) rfl ?_
    exact blk_out (unhide B5) (unhide B7) (((unhide o6).dck DcK.put (by have := (unhide B5).lt; have := block_lt (unhide B5).box; omega)).dck (unhide h7).1 (by have := (unhide B5).lt; have := block_lt (unhide B5).box; omega)) (unhide h7).2
  · have hne : (cp' = m) = False := eq_false hcp
    clear hcp
    go_wp2_with (first
      | (go_at_call 28; with_reducible refine (unhide HL).mono ?_; rintro e w6 ⟨a6, n6, c6, rfl, o6, k6⟩; have H6 := hide ((unhide H8).below (unhide k6)); have q6 := (unhide H6).cell0; have f6 := (unhide H6).froz0; have HM := hide ((unhide H8).move (unhide k6) m (some ⟨b, off + m, none⟩) mm (.inl rfl)); have CE := hide (end_any _ pd _ _ _ _ (unhide HM)); rw [← unhide HPP] at CE; have f7 := (unhide HM).froz0)
      | (go_at_call 29; with_reducible refine (unhide CE).mono ?_; rintro e w7 ⟨rfl, h7⟩; have B7 := hide ((((unhide B5).next (DcK.below (unhide k6))).next DcK.put).next (unhide h7).1); have z0 := (unhide B7).cell 0 _ rfl; have z1 := (unhide B7).cell 1 _ rfl; have z2 := (unhide B7).cell 2 _ rfl; have z3 := (unhide B7).cell 3 _ rfl; have y0 := (unhide B7).froz 0; have y1 := (unhide B7).froz 1; have y2 := (unhide B7).froz 2; have y3 := (unhide B7).froz 3))
    refine bodyPost_ret (bulk_end _ _ (store4 (unhide B7).box rfl _ _ _ _) rfl rfl) rfl ?_
    exact blk_out (unhide B5) (unhide B7) (((unhide o6).dck DcK.put (by have := (unhide B5).lt; have := block_lt (unhide B5).box; omega)).dck (unhide h7).1 (by have := (unhide B5).lt; have := block_lt (unhide B5).box; omega)) (unhide h7).2
/-- a text of any bytes -/
theorem dbulk_any (w : World) (pd : Nat) (a : Option Addr) (n cp : Nat) (T : List Nat) (h : DcAt w pd a n cp T) (hl : n ≤ 140737488355328) :
    Calls Tryd.prog 20 #[.pointer (some ⟨pd, 0, none⟩)] w (BlkEnd w pd (Larder8.bulkP T)) := by
  cases hP : Larder8.numP (-1) 4096 T with
  | short => exact bulk_bad w pd a n cp T h hl (by rw [hP]; exact fun e => by cases e)
  | wrong => exact bulk_bad w pd a n cp T h hl (by rw [hP]; exact fun e => by cases e)
  | ok v r =>
    have h1 := (Larder8.numP_in hP).1
    by_cases hv : v = -1
    · subst hv
      exact bulk_lack w pd a n cp T r h hl hP
    · obtain ⟨m, rfl⟩ : ∃ m : Nat, v = (m : Int) := ⟨v.toNat, by omega⟩
      by_cases hm : r.length < m
      · exact bulk_few w pd a n cp T r m h hl hP hm
      · exact bulk_full w pd a n cp T r m h hl hP (by omega)
end Go.Proofs.YtfgemcmiilbodaaDoor
