/- bytes.IndexAny with the two bytes of a line's end: the place. -/
import Derived.Test.YtecfgbjnjgjkoaaGreatDoorDcb
import Derived.Test.YtecfgbjnjgjkoaaGreatDoorCtd
namespace Go.Proofs.YtecfgbjnjgjkoaaGreatDoor
open Go.ChangeShapes Go.WideShapes Go.ChangeAt Go.RowKit
set_option linter.unusedVariables false
set_option linter.unusedSimpArgs false
set_option maxRecDepth 20000
set_option maxHeartbeats 4000000
/-- the answer's box is given back -/
theorem bulk_end {W : World} {g : Nat} {v0 v1 v2 v3 : Value} (er : Int) (tmps : Array Value) (hg : W.heap[g]? = some (.cells #[v0, v1, v2, v3] 31 (0, 0))) (h2 : tmps.getD 2 undef = .pointer (some ⟨g, 0, none⟩)) (h3 : tmps.getD 3 undef = .int .i64 er) :
    (results Tryz.f68 tmps).run Tryz.prog W = .ok (.tuple #[.agg #[v0, v1, v2, v3], .int .i64 er]) W := by
  refine results_box (p := 2) (q := 3) (ty := 31) rfl tmps _ g 31 _ (0, 0) _ h2 hg Tryz.underlying31 rfl (by kernel_rfl) _ h3
theorem bulk_bad (w : World) (pd : Nat) (a : Option Addr) (n cp : Nat) (T : List Nat) (h : DcAt w pd a n cp T) (hl : n ≤ 140737488355328) (hP : (Larder8.numP (-1) 4096 T).err ≠ 0) :
    Calls Tryz.prog 68 #[.pointer (some ⟨pd, 0, none⟩)] w (BlkEnd w pd (Larder8.bulkP T)) := by
  have b0 := Bx.new w pd (block_lt h.box)
  have CN := hide (dnum_any _ pd a n cp T (-1) 4096 (h.below ((Below.refl _ _).alloc (Nat.le_refl _) (.cells #[.int .i64 0, .int .i64 0, .slice none 0 0, .slice none 0 0] 31))) hl ⟨by omega, by omega⟩ ⟨by omega, by omega⟩)
  have HB := hide b0
  have E : (Larder8.numP (-1) 4096 T).err = 86 ∧ Larder8.bulkP T = .short ∨ (Larder8.numP (-1) 4096 T).err = 85 ∧ Larder8.bulkP T = .wrong := by
    unfold Larder8.bulkP
    revert hP
    cases Larder8.numP (-1) 4096 T with
    | ok v r => intro h; exact absurd rfl h
    | short => intro _; exact .inl ⟨rfl, rfl⟩
    | wrong => intro _; exact .inr ⟨rfl, rfl⟩
  obtain ⟨P, hPP⟩ : ∃ P, P = Larder8.numP (-1) 4096 T := ⟨_, rfl⟩
  rw [← hPP] at CN E
  clear hP hPP b0
  rcases E with ⟨e1, e2⟩ | ⟨e1, e2⟩
  all_goals
    rw [e2]
    unfold NumEnd at CN
    rw [e1] at CN
    go_enter Tryz.func68, Tryz.ntmps68
    go_wp2_with (first
      | (go_at_call 67; with_reducible refine (unhide CN).mono ?_; rintro e w5 ⟨v, rfl, h5⟩; have B5 := hide ((unhide HB).next (unhide h5).1); have z0 := (unhide B5).cell 0 _ rfl; have z1 := (unhide B5).cell 1 _ rfl; have z2 := (unhide B5).cell 2 _ rfl; have z3 := (unhide B5).cell 3 _ rfl; have y0 := (unhide B5).froz 0; have y1 := (unhide B5).froz 1; have y2 := (unhide B5).froz 2; have y3 := (unhide B5).froz 3))
    refine bodyPost_ret (bulk_end _ _ (store4 (unhide B5).box rfl _ _ _ _) rfl rfl) rfl ?_
    exact ⟨5, none, 0, 0, rfl, hide ⟨DcK.boxed (unhide B5) _ _ _ _, fun o r e => (by cases e)⟩⟩
/-- the lack of a text -/
theorem bulk_lack (w : World) (pd : Nat) (a : Option Addr) (n cp : Nat) (T r : List Nat) (h : DcAt w pd a n cp T) (hl : n ≤ 140737488355328) (hP : Larder8.numP (-1) 4096 T = .ok (-1) r) :
    Calls Tryz.prog 68 #[.pointer (some ⟨pd, 0, none⟩)] w (BlkEnd w pd (Larder8.bulkP T)) := by
  have b0 := Bx.new w pd (block_lt h.box)
  have CN := hide (dnum_any _ pd a n cp T (-1) 4096 (h.below ((Below.refl _ _).alloc (Nat.le_refl _) (.cells #[.int .i64 0, .int .i64 0, .slice none 0 0, .slice none 0 0] 31))) hl ⟨by omega, by omega⟩ ⟨by omega, by omega⟩)
  have HB := hide b0
  have E : Larder8.bulkP T = .ok none r := by unfold Larder8.bulkP; rw [hP]; rfl
  rw [E]
  unfold NumEnd at CN
  rw [hP] at CN
  clear hP b0
  go_enter Tryz.func68, Tryz.ntmps68
  go_wp2_with (first
    | (go_at_call 67; with_reducible refine (unhide CN).mono ?_; rintro e w5 ⟨v, rfl, h5⟩; obtain ⟨rfl, h7⟩ := (unhide h5).2 _ _ rfl; have B5 := hide ((unhide HB).next (unhide h5).1); have z0 := (unhide B5).cell 0 _ rfl; have z1 := (unhide B5).cell 1 _ rfl; have z2 := (unhide B5).cell 2 _ rfl; have z3 := (unhide B5).cell 3 _ rfl; have y0 := (unhide B5).froz 0; have y1 := (unhide B5).froz 1; have y2 := (unhide B5).froz 2; have y3 := (unhide B5).froz 3; simp only [Larder8.St.err]))
  refine bodyPost_ret (bulk_end _ _ (store4 (unhide B5).box rfl _ _ _ _) rfl rfl) rfl ?_
  obtain ⟨a', n', cp', h8⟩ := h7
  refine ⟨5, none, 0, 0, rfl, hide ⟨DcK.boxed (unhide B5) _ _ _ _, fun o r' e => ?_⟩⟩
  cases e
  exact ⟨⟨fun _ => ⟨rfl, rfl, rfl, rfl⟩, fun t e => (by cases e)⟩, a', n', cp', h8.boxed (by have := (unhide B5).lt; omega) ((unhide B5).apart h8) _ _ _ _⟩
/-- there is not enough -/
theorem bulk_few (w : World) (pd : Nat) (a : Option Addr) (n cp : Nat) (T r : List Nat) (m : Nat) (h : DcAt w pd a n cp T) (hl : n ≤ 140737488355328) (hP : Larder8.numP (-1) 4096 T = .ok (m : Int) r) (hm : r.length < m) :
    Calls Tryz.prog 68 #[.pointer (some ⟨pd, 0, none⟩)] w (BlkEnd w pd (Larder8.bulkP T)) := by
  have b0 := Bx.new w pd (block_lt h.box)
  have CN := hide (dnum_any _ pd a n cp T (-1) 4096 (h.below ((Below.refl _ _).alloc (Nat.le_refl _) (.cells #[.int .i64 0, .int .i64 0, .slice none 0 0, .slice none 0 0] 31))) hl ⟨by omega, by omega⟩ ⟨by omega, by omega⟩)
  have HB := hide b0
  have hin := (Larder8.numP_in hP).2
  have E : Larder8.bulkP T = .short := by
    unfold Larder8.bulkP
    rw [hP]
    show (if (m : Int) = -1 then _ else if r.length < (m : Int).toNat then _ else _) = _
    rw [if_neg (by omega), if_pos (by simpa using hm)]
  have hm1 : ((m : Int) == -1) = false := by rw [beq_eq_false_iff_ne]; omega
  have hd : ∀ k : Nat, k = r.length → (k < m) = True := fun k hk => eq_true (by omega)
  rw [E]
  unfold NumEnd at CN
  rw [hP] at CN
  clear hP b0
  go_enter Tryz.func68, Tryz.ntmps68
  go_wp2_with (first
    | (go_at_call 67; with_reducible refine (unhide CN).mono ?_; rintro e w5 ⟨v, rfl, h5⟩; obtain ⟨rfl, a', n', cp', h8⟩ := (unhide h5).2 _ _ rfl; have B5 := hide ((unhide HB).next (unhide h5).1); have z0 := (unhide B5).cell 0 _ rfl; have z1 := (unhide B5).cell 1 _ rfl; have z2 := (unhide B5).cell 2 _ rfl; have z3 := (unhide B5).cell 3 _ rfl; have y0 := (unhide B5).froz 0; have y1 := (unhide B5).froz 1; have y2 := (unhide B5).froz 2; have y3 := (unhide B5).froz 3; have q0 : w5.cell? ⟨pd, 0, none⟩ = some (.slice a' n' cp') := h8.cell0; have q1 := hd n' h8.rst.len; clear h8; simp only [Larder8.St.err]))
  refine bodyPost_ret (bulk_end _ _ (store4 (unhide B5).box rfl _ _ _ _) rfl rfl) rfl ?_
  exact ⟨0, none, 0, 0, rfl, hide ⟨DcK.boxed (unhide B5) _ _ _ _, fun o r e => (by cases e)⟩⟩
theorem blk_out {w w5 w7 : World} {pd : Nat} {a6 : Option Addr} {n6 c6 : Nat} {t : List Nat} {P : Larder8.St Unit} (B5 : Bx w w5 pd) (B7 : Bx w w7 pd) (o7 : OwnB w7 w5.heap.size (.slice a6 n6 c6) t) (h7 : ∀ r, P = .ok () r → ∃ a' n' cp', DcAt w7 pd a' n' cp' r) :
    BlkEnd w pd (P.map (fun _ => some t)) (.returned (.tuple #[.agg #[.int .i64 4, .int .i64 0, .slice a6 n6 c6, .slice none 0 0], .int .i64 P.err])) ((((w7.setCell ⟨w.heap.size, 0, none⟩ (.int .i64 4)).setCell ⟨w.heap.size, 1, none⟩ (.int .i64 0)).setCell ⟨w.heap.size, 2, none⟩ (.slice a6 n6 c6)).setCell ⟨w.heap.size, 3, none⟩ (.slice none 0 0)) := by
  have h5 : w.heap.size < w5.heap.size := block_lt B5.box
  refine ⟨4, a6, n6, c6, by cases P <;> rfl, hide ⟨DcK.boxed B7 _ _ _ _, fun o r e => ?_⟩⟩
  cases P with
  | short => cases e
  | wrong => cases e
  | ok u r0 =>
    cases e
    obtain ⟨a', n', cp', h8⟩ := h7 _ rfl
    refine ⟨⟨fun e => (by cases e), fun t' e => ?_⟩, a', n', cp', h8.boxed (by have := B7.lt; omega) (B7.apart h8) _ _ _ _⟩
    cases e
    exact ⟨rfl, ((((o7.set h5).set h5).set h5).set h5).mono (Nat.le_of_lt h5)⟩
/-- a text -/
theorem bulk_full (w : World) (pd : Nat) (a : Option Addr) (n cp : Nat) (T r : List Nat) (m : Nat) (h : DcAt w pd a n cp T) (hl : n ≤ 140737488355328) (hP : Larder8.numP (-1) 4096 T = .ok (m : Int) r) (hm : m ≤ r.length) :
    Calls Tryz.prog 68 #[.pointer (some ⟨pd, 0, none⟩)] w (BlkEnd w pd (Larder8.bulkP T)) := by
  have b0 := Bx.new w pd (block_lt h.box)
  have CN := hide (dnum_any _ pd a n cp T (-1) 4096 (h.below ((Below.refl _ _).alloc (Nat.le_refl _) (.cells #[.int .i64 0, .int .i64 0, .slice none 0 0, .slice none 0 0] 31))) hl ⟨by omega, by omega⟩ ⟨by omega, by omega⟩)
  have HB := hide b0
  have hin := (Larder8.numP_in hP).2
  have E : Larder8.bulkP T = (Larder8.endP (r.drop m)).map (fun _ => some (r.take m)) := by
    unfold Larder8.bulkP
    rw [hP]
    show (if (m : Int) = -1 then _ else if r.length < (m : Int).toNat then _ else _) = _
    rw [if_neg (by omega), if_neg (by simpa using hm)]
    rfl
  have hm1 : ((m : Int) == -1) = false := by rw [beq_eq_false_iff_ne]; omega
  have hm0 : (0 : Int) ≤ (m : Int) := by omega
  rw [E]
  unfold NumEnd at CN
  rw [hP] at CN
  obtain ⟨P, hPP⟩ : ∃ P, P = Larder8.endP (r.drop m) := ⟨_, rfl⟩
  rw [← hPP]
  have HPP := hide hPP
  clear hP b0 E hPP
  go_enter Tryz.func68, Tryz.ntmps68
  go_wp2_with fail
  refine (unhide CN).mono ?_
  rintro e w5 ⟨v, rfl, h5⟩
  obtain ⟨rfl, a', n', cp', h8⟩ := (unhide h5).2 _ _ rfl
  have B5 := hide ((unhide HB).next (unhide h5).1)
  have q0 := h8.cell0
  have hlen := h8.rst.len
  have hle := h8.rst.le
  have g1 : (m : Int) ≤ (cp' : Int) := by omega
  have g2 : (m : Int) ≤ (n' : Int) := by omega
  have g3 : (n' < m) = False := eq_false (by omega)
  have hmin : (r.take m).length = m := by simp; omega
  have CL := clone_any a' cp' w5 (r.take m) (by omega) (Bytes.first h8.rst.bytes m)
  rw [hmin] at CL
  have HL := hide (CL.mono (R' := fun e w' => ∃ a6 n6 c6, e = .returned (.slice a6 n6 c6) ∧ Hid (OwnB w' w5.heap.size (.slice a6 n6 c6) (r.take m)) ∧ Hid (Below w5.heap.size w5 w')) (fun e w' k => by
    obtain ⟨v6, e6, o6, k6⟩ := k
    obtain ⟨a6, c6, e7, -⟩ := o6.shape
    subst e7
    exact ⟨a6, _, c6, e6, hide o6, hide k6⟩))
  obtain ⟨b, off, rfl, -⟩ := h8.so
  have H8 := hide h8
  have mm : m ≤ n' := by omega
  clear CL h8 CN h hlen hle hmin
  simp only [Larder8.St.err]
  by_cases hcp : cp' = m
  · subst hcp
    go_wp2_with (first
      | (go_at_call 88; with_reducible refine (unhide HL).mono ?_; rintro e w6 ⟨a6, n6, c6, rfl, o6, k6⟩; have H6 := hide ((unhide H8).below (unhide k6)); have q6 := (unhide H6).cell0; have f6 := (unhide H6).froz0; have HM := hide ((unhide H8).move (unhide k6) cp' (some ⟨b, off, none⟩) mm (.inr ⟨rfl, rfl⟩)); rw [Nat.sub_self] at HM; have CE := hide (end_any _ pd _ _ _ _ (unhide HM)); rw [← unhide HPP] at CE; have f7 := (unhide HM).froz0)
      | (go_at_call 89; with_reducible refine (unhide CE).mono ?_; rintro e w7 ⟨rfl, h7⟩; have B7 := hide ((((unhide B5).next (DcK.below (unhide k6))).next DcK.put).next (unhide h7).1); have z0 := (unhide B7).cell 0 _ rfl; have z1 := (unhide B7).cell 1 _ rfl; have z2 := (unhide B7).cell 2 _ rfl; have z3 := (unhide B7).cell 3 _ rfl; have y0 := (unhide B7).froz 0; have y1 := (unhide B7).froz 1; have y2 := (unhide B7).froz 2; have y3 := (unhide B7).froz 3))
    refine bodyPost_ret (bulk_end _ _ (store4 (unhide B7).box rfl _ _ _ _) rfl rfl) rfl ?_
    exact blk_out (unhide B5) (unhide B7) (((unhide o6).dck DcK.put (by have := (unhide B5).lt; have := block_lt (unhide B5).box; omega)).dck (unhide h7).1 (by have := (unhide B5).lt; have := block_lt (unhide B5).box; omega)) (unhide h7).2
  · have hne : (cp' = m) = False := eq_false hcp
    clear hcp
    go_wp2_with (first
      | (go_at_call 88; with_reducible refine (unhide HL).mono ?_; rintro e w6 ⟨a6, n6, c6, rfl, o6, k6⟩; have H6 := hide ((unhide H8).below (unhide k6)); have q6 := (unhide H6).cell0; have f6 := (unhide H6).froz0; have HM := hide ((unhide H8).move (unhide k6) m (some ⟨b, off + m, none⟩) mm (.inl rfl)); have CE := hide (end_any _ pd _ _ _ _ (unhide HM)); rw [← unhide HPP] at CE; have f7 := (unhide HM).froz0)
      | (go_at_call 89; with_reducible refine (unhide CE).mono ?_; rintro e w7 ⟨rfl, h7⟩; have B7 := hide ((((unhide B5).next (DcK.below (unhide k6))).next DcK.put).next (unhide h7).1); have z0 := (unhide B7).cell 0 _ rfl; have z1 := (unhide B7).cell 1 _ rfl; have z2 := (unhide B7).cell 2 _ rfl; have z3 := (unhide B7).cell 3 _ rfl; have y0 := (unhide B7).froz 0; have y1 := (unhide B7).froz 1; have y2 := (unhide B7).froz 2; have y3 := (unhide B7).froz 3))
    refine bodyPost_ret (bulk_end _ _ (store4 (unhide B7).box rfl _ _ _ _) rfl rfl) rfl ?_
    exact blk_out (unhide B5) (unhide B7) (((unhide o6).dck DcK.put (by have := (unhide B5).lt; have := block_lt (unhide B5).box; omega)).dck (unhide h7).1 (by have := (unhide B5).lt; have := block_lt (unhide B5).box; omega)) (unhide h7).2
/-- a text of any bytes -/
theorem dbulk_any (w : World) (pd : Nat) (a : Option Addr) (n cp : Nat) (T : List Nat) (h : DcAt w pd a n cp T) (hl : n ≤ 140737488355328) :
    Calls Tryz.prog 68 #[.pointer (some ⟨pd, 0, none⟩)] w (BlkEnd w pd (Larder8.bulkP T)) := by
  cases hP : Larder8.numP (-1) 4096 T with
  | short => exact bulk_bad w pd a n cp T h hl (by rw [hP]; exact fun e => by cases e)
  | wrong => exact bulk_bad w pd a n cp T h hl (by rw [hP]; exact fun e => by cases e)
  | ok v r =>
    have h1 := (Larder8.numP_in hP).1
    by_cases hv : v = -1
    · subst hv
      exact bulk_lack w pd a n cp T r h hl hP
    · obtain ⟨m, rfl⟩ : ∃ m : Nat, v = (m : Int) := ⟨v.toNat, by omega⟩
      by_cases hm : r.length < m
      · exact bulk_few w pd a n cp T r m h hl hP hm
      · exact bulk_full w pd a n cp T r m h hl hP (by omega)
end Go.Proofs.YtecfgbjnjgjkoaaGreatDoor
namespace Go.Proofs.YtecfgbjnjgjkoaaGreatDoor
open Go.ChangeShapes Go.WideShapes Go.ChangeAt Go.RowKit
set_option linter.unusedVariables false
set_option linter.unusedSimpArgs false
set_option maxRecDepth 100000
set_option maxHeartbeats 4000000

/-- where the first CR or LF stands -/
def EolAt (T : List Nat) (r : Int) : Prop := (crlf T = false ∧ r = -1) ∨ ∃ i : Nat, r = (i : Int) ∧ i < T.length ∧ crlf (T.take i) = false ∧ (T.getD i 0 == 13 || T.getD i 0 == 10) = true
theorem EolAt.no {T : List Nat} (h : crlf T = false) : EolAt T (-1) := .inl ⟨h, rfl⟩
theorem EolAt.hit (T : List Nat) (i : Nat) (hi : i < T.length) (h0 : crlf (T.take i) = false) (h : (T.getD i 0 == 13 || T.getD i 0 == 10) = true) : EolAt T (i : Nat) := .inr ⟨i, rfl, hi, h0, h⟩
theorem EolAt.one1 {x : Nat} (h : (x == 13 || x == 10) = true) : EolAt [x] 0 := .inr ⟨0, rfl, by simp, rfl, h⟩
theorem EolAt.one0 {x : Nat} (h : (x == 13 || x == 10) = false) : EolAt [x] (-1) := .inl ⟨by simp only [crlf, List.any_cons, List.any_nil, h]; rfl, rfl⟩
theorem idx_oneV (w : World) (b off c x : Nat) (hx : x < 256) (h0 : w.cell? ⟨b, off, none⟩ = some (.int .u8 (x : Nat))) :
    Calls Tryz.prog 57 #[.slice (some ⟨b, off, none⟩) 1 c, .string ⟨#[13, 10]⟩] w fun e w' => ∃ r : Int, e = .returned (.int .i64 r) ∧ Hid (EolAt [x] r) ∧ Below w.heap.size w w' := by
  obtain ⟨r, hr, hr2⟩ := eol_ib x hx
  rcases Nat.lt_or_ge x 128 with hlt | hge
  · have f1 : decide ((x : Int) ≥ 128) = false := decide_eq_false (by omega)
    have f2 : decide ((128 : Int) ≤ (x : Int)) = false := decide_eq_false (by omega)
    have f3 : decide (128 ≤ x) = false := decide_eq_false (by omega)
    have HR := hide hr2
    by_cases q : 0 ≤ r
    · have g1 : decide (0 ≤ r) = true := decide_eq_true q
      have g2 : decide (r ≥ 0) = true := decide_eq_true q
      have HQ : Hid ((x == 13 || x == 10) = true) := hide (by rw [← hr2, g1])
      clear hr2
      go_enter Tryz.func57, Tryz.ntmps57
      go_wp2
      rw [run_callFunc_extern Tryz.func77 (by kernel_rfl) (by kernel_rfl) (by kernel_rfl) (e := Extern.BytealgIndexByte.indexByte) (by kernel_rfl), hr]
      simp only [Result.andThen]
      rw [Oper.upon_value]
      go_wp2
      all_goals go_ret
      all_goals exact ⟨_, rfl, hide (EolAt.one1 (unhide HQ)), Below.refl _ _⟩
    · have g1 : decide (0 ≤ r) = false := decide_eq_false q
      have g2 : decide (r ≥ 0) = false := decide_eq_false q
      have HQ : Hid ((x == 13 || x == 10) = false) := hide (by rw [← hr2, g1])
      clear hr2
      go_enter Tryz.func57, Tryz.ntmps57
      go_wp2
      rw [run_callFunc_extern Tryz.func77 (by kernel_rfl) (by kernel_rfl) (by kernel_rfl) (e := Extern.BytealgIndexByte.indexByte) (by kernel_rfl), hr]
      simp only [Result.andThen]
      rw [Oper.upon_value]
      go_wp2
      all_goals go_ret
      all_goals exact ⟨_, rfl, hide (EolAt.one0 (unhide HQ)), Below.refl _ _⟩
  · have f1 : decide ((x : Int) ≥ 128) = true := decide_eq_true (by omega)
    have f2 : decide ((128 : Int) ≤ (x : Int)) = true := decide_eq_true (by omega)
    have f3 : decide (128 ≤ x) = true := decide_eq_true (by omega)
    have HX : Hid ((x == 13 || x == 10) = false) := hide (by
      rw [Bool.or_eq_false_iff]; constructor <;> (rw [beq_eq_false_iff_ne]; omega))
    clear hr hr2
    go_enter Tryz.func57, Tryz.ntmps57
    go_wp2
    go_loopw [5] (fun rv w' => ∃ pos : Nat, w' = w.iter ⟨#[13, 10]⟩ pos ∧ pos ≤ 2) (fun _ w' => 2 - w'.iterPos w.heap.size)
    case atStart => exact ⟨0, rfl, by omega⟩
    case round =>
      obtain ⟨pos, rfl, hp⟩ := hrel
      rcases Nat.lt_or_ge pos 2 with h2 | h2
      · have hnx := fun ty => eol_next w pos ty h2
        have hne : (((if pos = 0 then 13 else 10 : Nat) : Int) == 65533) = false := by split <;> decide
        generalize ((if pos = 0 then 13 else 10 : Nat) : Int) = q at *
        go_wp2
        all_goals go_roundw
        all_goals first | exact ⟨pos + 1, rfl, by omega⟩ | (simp; omega)
      · have hnx : ∀ ty, (Instr.next (.pointer (some ⟨w.heap.size, 0, none⟩)) true ty).run Tryz.prog (w.iter ⟨#[13, 10]⟩ pos) = _ := fun ty => run_next_end w ⟨#[13, 10]⟩ pos ty (by show ¬ pos < 2; omega)
        go_wp2
        all_goals go_ret
        all_goals exact ⟨_, rfl, hide (EolAt.one0 (unhide HX)), (Below.refl _ _).alloc (Nat.le_refl _) _⟩
theorem idx_shortV (w : World) (a : Option Addr) (c n : Nat) (T : List Nat) (hn : n = T.length) (hU : UOk w) (hB : Bytes w a T) (hS : Small T) (h1 : n ≠ 1) (h8 : n ≤ 8) (hc : n ≤ c) :
    Calls Tryz.prog 57 #[.slice a n c, .string ⟨#[13, 10]⟩] w fun e w' => ∃ r : Int, e = .returned (.int .i64 r) ∧ Hid (EolAt T r) ∧ Below w.heap.size w w' := by
  have f1 : ((n : Int) == 1) = false := by rw [beq_eq_false_iff_ne]; omega
  have f1b : (n == 1) = false := by rw [beq_eq_false_iff_ne]; omega
  have SH : Hid (∀ W : World, Calls Tryz.prog 79 #[.int .i64 (n : Nat)] W fun e w' => e = .returned (.bool false) ∧ w' = W) := hide (fun W => should_no n h8 W)
  have HU := hide hU
  have HB := hide hB
  have HS := hide hS
  have HN := hide hn
  clear hU hB hS hn
  go_enter Tryz.func57, Tryz.ntmps57
  go_wp2_with (go_at_call 79; refine (unhide SH _).mono ?_; rintro e w1 ⟨rfl, hw1⟩; obtain rfl := hw1.symm)
  go_loopw [11, 12] (fun wv iv wr => ∃ (i k : Nat), wv = .int .i64 (k : Nat) ∧ iv = .int .i64 (i : Nat) ∧ i ≤ n ∧ Hid (crlf (T.take i) = false) ∧ Hid (Below w.heap.size w wr)) (fun _ iv _ => n - (intOf iv).toNat)
  case atStart => exact ⟨0, 0, rfl, rfl, Nat.zero_le _, hide (by simp [crlf]), hide (Below.refl _ _)⟩
  case round =>
    obtain ⟨i, k, rfl, rfl, hi, hcr, p⟩ := hrel
    rcases Nat.lt_or_ge i n with hlt | hge
    rotate_left
    · obtain rfl : i = n := by omega
      have g0 : decide ((i : Int) < (i : Int)) = false := decide_eq_false (by omega)
      go_wp2
      go_ret
      refine ⟨_, rfl, hide ?_, unhide p⟩
      have := unhide hcr
      rw [unhide HN, List.take_length] at this
      exact EolAt.no this
    have g0 : decide ((i : Int) < (n : Int)) = true := decide_eq_true (by omega)
    have y1 : (0 : Int) ≤ (i : Int) := by omega
    have y2 : (i : Int) < (n : Int) := by omega
    have y3 : (i : Int) ≤ (n : Int) := by omega
    have y4 : (n : Int) ≤ (c : Int) := by omega
    have hNT := unhide HN
    obtain ⟨b, off, rfl, hb, hcell⟩ : ∃ b off, a = some ⟨b, off, none⟩ ∧ b < w.heap.size ∧ ∀ i, i < T.length → w.cell? ⟨b, off + i, none⟩ = some (.int .u8 (T.getD i 0 : Nat)) := by
      rcases unhide HB with h | h
      · rw [h] at hNT; simp at hNT; omega
      · exact h
    obtain ⟨x, hx⟩ : ∃ x, x = T.getD i 0 := ⟨_, rfl⟩
    have hx8 : x < 256 := by rw [hx]; exact unhide HS i (by omega)
    have c1 : wr.cell? ⟨b, off + i, none⟩ = some (.int .u8 (x : Nat)) := by rw [(unhide p).cell hb, hcell i (by omega), hx]
    rcases Nat.lt_or_ge x 128 with hlo | hhi
    · have g1 : decide ((x : Int) < 128) = true := decide_eq_true (by omega)
      have g1b : decide (x < 128) = true := decide_eq_true hlo
      obtain ⟨r, hr, hr2⟩ := eol_ib x hx8
      by_cases q : 0 ≤ r
      · have g2 : decide (0 ≤ r) = true := decide_eq_true q
        have g3 : decide (r ≥ 0) = true := decide_eq_true q
        have HQ : Hid (EolAt T (i : Nat)) := hide (EolAt.hit T i (by omega) (unhide hcr) (by rw [← hx, ← hr2, g2]))
        clear hr2 hcell hx hNT
        go_wp2
        rw [run_callFunc_extern Tryz.func77 (by kernel_rfl) (by kernel_rfl) (by kernel_rfl) (e := Extern.BytealgIndexByte.indexByte) (by kernel_rfl), hr]
        simp only [Result.andThen]
        rw [Oper.upon_value]
        go_wp2
        all_goals go_ret
        all_goals exact ⟨_, rfl, HQ, unhide p⟩
      · have g2 : decide (0 ≤ r) = false := decide_eq_false q
        have g3 : decide (r ≥ 0) = false := decide_eq_false q
        have HQ : Hid (crlf (T.take (i + 1)) = false) := hide (crlf_step T i (unhide hcr) 1 (fun j ha hb => by
          obtain rfl : j = i := (by omega)
          rw [← hx, ← hr2, g2]) (by omega))
        clear hr2 hcell hx hNT
        go_wp2
        rw [run_callFunc_extern Tryz.func77 (by kernel_rfl) (by kernel_rfl) (by kernel_rfl) (e := Extern.BytealgIndexByte.indexByte) (by kernel_rfl), hr]
        simp only [Result.andThen]
        rw [Oper.upon_value]
        go_wp2
        all_goals go_roundw
        case rel => exact ⟨i + 1, 1, rfl, by go_num, by omega, HQ, p⟩
        case measure => simp [intOf]; omega
    · have g1 : decide ((x : Int) < 128) = false := decide_eq_false (by omega)
      have g1b : decide (x < 128) = false := decide_eq_false (by omega)
      obtain ⟨U1, ⟨M, hM⟩, U3⟩ := UOk.below w wr (unhide HU) (unhide p)
      obtain ⟨R, K, r1, r2, r3, r4, r5, r6, r7, r8⟩ := dec_high T i b off (c - i) wr U1 (fun j hj => by rw [(unhide p).cell hb, hcell j hj]) (by omega) (unhide HS) (by rw [← hx]; exact hhi)
      have HQ : Hid (crlf (T.take (i + K)) = false) := hide (crlf_step T i (unhide hcr) K (fun j ha hb => by
        have := r6 j ha hb
        rw [Bool.or_eq_false_iff]; constructor <;> (rw [beq_eq_false_iff_ne]; omega)) r5)
      have CD : Hid (Calls Tryz.prog 82 #[.slice (some ⟨b, off + i, none⟩) (n - i) (c - i)] wr fun e w' => e = .returned (.tuple #[.int .i32 (R : Nat), .int .i64 (K : Nat)]) ∧ Hid (Below w.heap.size w w') ∧ w'.cell? ⟨0, 0, none⟩ = some (.int .i64 M)) := hide ((r8 (n - i) (by omega)).mono (fun e w' ⟨h1, h2⟩ => ⟨h1, hide ((unhide p).trans (h2.mono (unhide p).size)), by rw [h2.cell (p := ⟨0, 0, none⟩) (by show 0 < _; omega)]; exact hM⟩))
      have hiK : i + K ≤ n := by omega
      -- the look at the two bytes, one by one
      have hr13 : ((R : Int) == 13) = false := by rw [beq_eq_false_iff_ne]; omega
      have hr10 : ((R : Int) == 10) = false := by rw [beq_eq_false_iff_ne]; omega
      clear hcell hx r8 hM U1 hNT r5 r6
      by_cases hR : R = 65533
      · subst hR
        clear r7 hr13 hr10
        go_wp2_with (go_at_call 82; refine (unhide CD).mono ?_; rintro e w5 ⟨rfl, k5, m5⟩)
        go_loopw [15] (fun _ w' => ∃ pos : Nat, w' = w5.iter ⟨#[13, 10]⟩ pos ∧ pos ≤ 2) (fun _ w' => 2 - w'.iterPos w5.heap.size)
        case atStart => exact ⟨0, rfl, by omega⟩
        case round =>
          obtain ⟨pos, rfl, hp⟩ := hrel
          rcases Nat.lt_or_ge pos 2 with h2 | h2
          · have hnx := fun ty => eol_next w5 pos ty h2
            have hne : ((65533 : Int) == ((if pos = 0 then 13 else 10 : Nat) : Int)) = false := by split <;> (rw [beq_eq_false_iff_ne]; omega)
            generalize ((if pos = 0 then 13 else 10 : Nat) : Int) = q at *
            go_wp2
            all_goals go_roundw
            all_goals first | exact ⟨pos + 1, rfl, by omega⟩ | (simp; omega)
          · have hnx : ∀ ty, (Instr.next (.pointer (some ⟨w5.heap.size, 0, none⟩)) true ty).run Tryz.prog (w5.iter ⟨#[13, 10]⟩ pos) = _ := fun ty => run_next_end w5 ⟨#[13, 10]⟩ pos ty (by show ¬ pos < 2; omega)
            have P5 : Hid (Below w.heap.size w (w5.iter ⟨#[13, 10]⟩ pos)) := hide ((unhide k5).alloc (unhide k5).size _)
            go_wp2
            go_roundw
            case rel => exact ⟨i + K, K, rfl, by go_num, by omega, HQ, P5⟩
            case measure => simp [intOf]; omega
      · obtain ⟨hEs, hK2⟩ := r7 hR
        obtain ⟨eh, he1, he2⟩ := encode_head R r1
        have hne1 : ((R : Int) == 65533) = false := by rw [beq_eq_false_iff_ne]; omega
        have hne2 : (R == 65533) = false := by rw [beq_eq_false_iff_ne]; omega
        have hne3 : ((R : Int) != 65533) = true := by rw [bne, hne1]; rfl
        obtain ⟨E, hE⟩ : ∃ E, E = Utf8.encode (R : Nat) := ⟨_, rfl⟩
        have hconv : ∀ W, (convert 21 9 (.int .i32 (R : Nat))).run Tryz.prog W = .ok (.string E) W := fun W => by rw [hE]; exact run_convert_int_string W 21 9 .i32 (R : Nat) (by rw [Tryz.underlying21]; rfl) Tryz.underlying9
        rw [← hE] at hEs he1
        have q1 : (([13, 10] : List UInt8) == E.toList) = false := by
          rw [beq_eq_false_iff_ne]
          intro h
          rw [Lib.toList_data] at h
          rw [← h] at he1
          cases he1
          exact absurd he2 (by decide)
        clear hE he1 he2
        by_cases hk2 : K = 2
        · subst hk2
          go_wp2_with (go_at_call 82; refine (unhide CD).mono ?_; rintro e w5 ⟨rfl, k5, m5⟩)
          all_goals go_roundw
          all_goals first | exact ⟨i + 2, 2, rfl, by go_num, by omega, HQ, k5⟩ | (simp [intOf]; omega)
        · have hk3 : ((2 : Int) == (K : Int)) = false := by rw [beq_eq_false_iff_ne]; omega
          have hk4 : (2 == K) = false := by rw [beq_eq_false_iff_ne]; omega
          by_cases hMK : (K : Int) ≤ M
          · have m1 : decide (M ≥ (K : Int)) = true := decide_eq_true hMK
            have m2 : decide ((K : Int) ≤ M) = true := decide_eq_true hMK
            go_wp2_with (go_at_call 82; refine (unhide CD).mono ?_; rintro e w5 ⟨rfl, k5, m5⟩)
            rw [run_callFunc_extern Tryz.func83 (by kernel_rfl) (by kernel_rfl) (by kernel_rfl) (e := Extern.BytealgIndex.index) (by kernel_rfl), eol_is E w5 M m5 (by omega) (by omega)]
            simp only [Result.andThen]
            rw [Oper.upon_value]
            go_wp2
            all_goals go_roundw
            all_goals first | exact ⟨i + K, K, rfl, by go_num, by omega, HQ, k5⟩ | (simp [intOf]; omega)
          · have m1 : decide (M ≥ (K : Int)) = false := decide_eq_false hMK
            have m2 : decide ((K : Int) ≤ M) = false := decide_eq_false hMK
            go_wp2_with (go_at_call 82; refine (unhide CD).mono ?_; rintro e w5 ⟨rfl, k5, m5⟩)
            go_loopw [15] (fun _ w' => ∃ pos : Nat, w' = w5.iter ⟨#[13, 10]⟩ pos ∧ pos ≤ 2) (fun _ w' => 2 - w'.iterPos w5.heap.size)
            case atStart => exact ⟨0, rfl, by omega⟩
            case round =>
              obtain ⟨pos, rfl, hp⟩ := hrel
              rcases Nat.lt_or_ge pos 2 with h2 | h2
              · have hnx := fun ty => eol_next w5 pos ty h2
                have hne : ((R : Int) == ((if pos = 0 then 13 else 10 : Nat) : Int)) = false := by
                  split
                  · exact hr13
                  · exact hr10
                generalize ((if pos = 0 then 13 else 10 : Nat) : Int) = q at *
                go_wp2
                all_goals go_roundw
                all_goals first | exact ⟨pos + 1, rfl, by omega⟩ | (simp; omega)
              · have hnx : ∀ ty, (Instr.next (.pointer (some ⟨w5.heap.size, 0, none⟩)) true ty).run Tryz.prog (w5.iter ⟨#[13, 10]⟩ pos) = _ := fun ty => run_next_end w5 ⟨#[13, 10]⟩ pos ty (by show ¬ pos < 2; omega)
                have P5 : Hid (Below w.heap.size w (w5.iter ⟨#[13, 10]⟩ pos)) := hide ((unhide k5).alloc (unhide k5).size _)
                go_wp2
                go_roundw
                case rel => exact ⟨i + K, K, rfl, by go_num, by omega, HQ, P5⟩
                case measure => simp [intOf]; omega
theorem idx_longV (w : World) (b off c n : Nat) (T : List Nat) (hn : n = T.length) (hb : b < w.heap.size) (hB : ∀ j, j < T.length → w.cell? ⟨b, off + j, none⟩ = some (.int .u8 (T.getD j 0 : Nat))) (hS : Small T) (h8 : 8 < n) (hc : n ≤ 1073741824) :
    Calls Tryz.prog 57 #[.slice (some ⟨b, off, none⟩) n c, .string ⟨#[13, 10]⟩] w fun e w' => ∃ r : Int, e = .returned (.int .i64 r) ∧ Hid (EolAt T r) ∧ Below w.heap.size w w' := by
  have f1 : ((n : Int) == 1) = false := by rw [beq_eq_false_iff_ne]; omega
  have f1b : (n == 1) = false := by rw [beq_eq_false_iff_ne]; omega
  have SH : Hid (∀ W : World, Calls Tryz.prog 79 #[.int .i64 (n : Nat)] W fun e w' => e = .returned (.bool true) ∧ w' = W) := hide (fun W => should_yes n h8 W)
  have CM : Hid (Calls Tryz.prog 80 #[.string ⟨#[13, 10]⟩] w fun e w' => ∃ C, e = .returned (.tuple #[.agg C, .bool true]) ∧ Hid (Below w.heap.size w w' ∧ IsA C (fun c => c == 10 || (c == 13 || false)))) := hide (make_set w)
  have HB := hide hB
  have HS := hide hS
  have HN := hide hn
  clear hB hS hn
  go_enter Tryz.func57, Tryz.ntmps57
  go_wp2_with (first
    | (go_at_call 79; refine (unhide SH _).mono ?_; rintro e w1 ⟨rfl, hw1⟩; obtain rfl := hw1.symm)
    | (go_at_call 80; refine (unhide CM).mono ?_; rintro e w2 ⟨C, rfl, k2⟩)
    | (refine wpList_alloc123 rfl rfl w2.heap.size rfl ?_; intro w3 k3)
    | (refine wpList_store123 rfl _ _ rfl rfl w2.heap.size C rfl rfl zs (unhide k3).1 (unhide k2).2.size zs_size (unhide k2).2.one ?_; intro w4 k4))
  have HG : Hid (w4.heap[w2.heap.size]? = some (.cells C 123 (0, 0)) ∧ Below w.heap.size w w4 ∧ IsA C (fun c => c == 10 || (c == 13 || false))) := hide ⟨(unhide k4).1, ((unhide k2).1.trans ((unhide k3).2.2.mono (unhide k2).1.size)).trans ⟨(unhide k4).2.os, (unhide k4).2.tape, (unhide k4).2.output, (unhide k4).2.size, fun b hb => (unhide k4).2.blk b (by have := (unhide k2).1.size; have := (unhide k3).2.1; omega) (by have := (unhide k2).1.size; omega)⟩, (unhide k2).2⟩
  clear k2 k3 k4
  go_loopw [62] (fun iv wr => ∃ i : Nat, iv = .int .i64 (i : Nat) ∧ i ≤ n ∧ Hid (crlf (T.take i) = false) ∧ wr = w4) (fun iv _ => n - (intOf iv).toNat)
  case atStart => exact ⟨0, rfl, Nat.zero_le _, hide (by simp [crlf]), rfl⟩
  case round =>
    obtain ⟨i, rfl, hi, hcr, rfl⟩ := hrel
    rcases Nat.lt_or_ge i n with hlt | hge
    · have g0 : decide ((i : Int) < (n : Int)) = true := decide_eq_true (by omega)
      have y1 : (0 : Int) ≤ (i : Int) := by omega
      have y2 : (i : Int) < (n : Int) := by omega
      have hNT := unhide HN
      obtain ⟨x, hx⟩ : ∃ x, x = T.getD i 0 := ⟨_, rfl⟩
      have hx8 : x < 256 := by rw [hx]; exact unhide HS i (by omega)
      have c1 : wr.cell? ⟨b, off + i, none⟩ = some (.int .u8 (x : Nat)) := by rw [(unhide HG).2.1.cell hb, unhide HB i (by omega), hx]
      have CC : Hid (Calls Tryz.prog 81 #[.pointer (some ⟨w2.heap.size, 0, none⟩), .int .u8 (x : Nat)] wr fun e w' => ∃ q, e = .returned (.bool q) ∧ Hid (q = (x == 10 || (x == 13 || false))) ∧ w' = wr) := hide ((contains_any wr w2.heap.size x C _ hx8 (unhide HG).1 (unhide HG).2.2).mono (fun e w' ⟨h1, h2⟩ => ⟨_, h1, hide rfl, h2⟩))
      have H1 : Hid ((x == 10 || (x == 13 || false)) = true → EolAt T (i : Nat)) := hide (fun h => EolAt.hit T i (by omega) (unhide hcr) (by rw [← hx]; simpa [Bool.or_comm] using h))
      have H0 : Hid ((x == 10 || (x == 13 || false)) = false → crlf (T.take (i + 1)) = false) := hide (fun h => crlf_step T i (unhide hcr) 1 (fun j ha hb => by
          obtain rfl : j = i := (by omega)
          rw [← hx]; simpa [Bool.or_comm, and_comm] using h) (by omega))
      clear hNT hx
      go_wp2_with (go_at_call 81; refine (unhide CC).mono ?_; rintro e w5 ⟨q, rfl, hq, h5⟩; obtain rfl := h5.symm; cases q)
      · go_roundw
        case rel => exact ⟨i + 1, by go_num, by omega, hide (unhide H0 (unhide hq).symm), by first | rfl | trivial⟩
        case measure => simp [intOf]; omega
      · go_ret
        exact ⟨_, rfl, hide (unhide H1 (unhide hq).symm), (unhide HG).2.1⟩
    · obtain rfl : i = n := by omega
      have g0 : decide ((i : Int) < (i : Int)) = false := decide_eq_false (by omega)
      go_wp2
      go_ret
      refine ⟨_, rfl, hide ?_, (unhide HG).2.1⟩
      have := unhide hcr
      rw [unhide HN, List.take_length] at this
      exact EolAt.no this
theorem indexeol_any (w : World) (a : Option Addr) (c n : Nat) (T : List Nat) (hn : n = T.length) (hU : UOk w) (hB : Bytes w a T) (hS : Small T) (hc : n ≤ c) (hl : n ≤ 1073741824) :
    Calls Tryz.prog 57 #[.slice a n c, .string ⟨#[13, 10]⟩] w fun e w' => ∃ r : Int, e = .returned (.int .i64 r) ∧ Hid (EolAt T r) ∧ Below w.heap.size w w' := by
  subst hn
  rcases hB with rfl | ⟨b, off, rfl, hb, hcell⟩
  · exact idx_shortV w a c 0 [] rfl hU (.inl rfl) hS (by decide) (by decide) (Nat.zero_le _)
  · by_cases h1 : T.length = 1
    · match T, h1 with
      | [x], _ => exact idx_oneV w b off c x (hS 0 (by simp)) (hcell 0 (by simp))
    · by_cases h8 : T.length ≤ 8
      · exact idx_shortV w _ c T.length T rfl hU (.inr ⟨b, off, rfl, hb, hcell⟩) hS h1 h8 hc
      · exact idx_longV w b off c T.length T rfl hb hcell hS (by omega) (by omega)
theorem line_all (T : List Nat) (h : crlf T = false) : T.takeWhile (fun c => !(c == 13 || c == 10)) = T := by
  induction T with
  | nil => rfl
  | cons c r ih =>
    unfold crlf at h
    rw [List.any_cons, Bool.or_eq_false_iff] at h
    rw [List.takeWhile_cons, h.1]
    show c :: _ = _
    rw [ih h.2]
/-- the line's text, by the place -/
theorem EolAt.no_line {b : List Nat} (h : EolAt (b.take 1024) (-1)) : Larder8.lineT b = b.take 1024 := by
  rcases h with ⟨h, -⟩ | ⟨i, e, -⟩
  · exact line_all _ h
  · omega
theorem line_row (T : List Nat) : ∀ i : Nat, i < T.length → crlf (T.take i) = false → (T.getD i 0 == 13 || T.getD i 0 == 10) = true → T.takeWhile (fun c => !(c == 13 || c == 10)) = T.take i := by
  induction T with
  | nil => intro i hi; simp at hi
  | cons c r ih =>
    intro i hi h0 h
    cases i with
    | zero =>
      have h' : (c == 13 || c == 10) = true := by simpa using h
      rw [List.takeWhile_cons, h']
      rfl
    | succ k =>
      unfold crlf at h0
      rw [List.take_succ_cons, List.any_cons, Bool.or_eq_false_iff] at h0
      rw [List.takeWhile_cons, h0.1, List.take_succ_cons]
      show c :: _ = _
      rw [ih k (by simpa using hi) h0.2 (by simpa using h)]
theorem EolAt.at_line {b : List Nat} {i : Nat} (h : EolAt (b.take 1024) (i : Nat)) : i < (b.take 1024).length ∧ Larder8.lineT b = (b.take 1024).take i := by
  rcases h with ⟨h, e⟩ | ⟨k, e, h1, h2, h3⟩
  · omega
  · obtain rfl : i = k := by omega
    exact ⟨h1, line_row _ i h1 h2 h3⟩
end Go.Proofs.YtecfgbjnjgjkoaaGreatDoor
