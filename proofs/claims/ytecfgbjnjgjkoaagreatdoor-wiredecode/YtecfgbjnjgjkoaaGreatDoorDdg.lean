/- The document's item: a text of any bytes that is there. -/
import Derived.Test.YtecfgbjnjgjkoaaGreatDoorDde
namespace Go.Proofs.YtecfgbjnjgjkoaaGreatDoor
open Go.ChangeShapes Go.WideShapes Go.ChangeAt Go.RowKit
set_option linter.unusedVariables false
set_option linter.unusedSimpArgs false
set_option maxRecDepth 20000
set_option maxHeartbeats 8000000

theorem StD.no {α : Type} {P : Larder8.St α} {st : Int} (h : StD P st) (hP : ∀ y r, P ≠ .ok y r) : (st != 0) = true := by
  rw [bne_iff_ne]
  cases P with
  | ok y r => exact absurd rfl (hP y r)
  | short => intro e; rw [e] at h; have h' : (0 : Int) = 1 := h; omega
  | wrong => intro e; rw [e] at h; have h' : (0 : Int) = 2 ∨ (0 : Int) = 3 := h; omega
theorem rnum_no {w : World} {a : Option Addr} {n cp : Nat} {T : List Nat} {lo up : Int} (h : Rst w a n cp T) (hs : Small T) (hl : n ≤ 1073741824) (hP : ∀ y r, Larder8.numP lo up T ≠ .ok y r) :
    Calls Tryz.prog 71 #[.slice a n cp, .int .i64 lo, .int .i64 up] w fun e w' => ∃ v m st : Int, e = .returned (.tuple #[.int .i64 v, .int .i64 m, .int .i64 st]) ∧ (st != 0) = true ∧ Hid (StD (Larder8.numP lo up T) st) ∧ Hid (Below w.heap.size w w') :=
  (rnumber_any w a n cp T lo up h.len h.bytes hs h.le hl).mono (fun e w' ⟨v, m, st, h1, h2⟩ => ⟨v, m, st, h1, (unhide h2).1.1.no hP, hide (unhide h2).1.1, hide (unhide h2).2⟩)
theorem rnum_ok {w : World} {a : Option Addr} {n cp : Nat} {T : List Nat} {lo up y : Int} {r : List Nat} (h : Rst w a n cp T) (hs : Small T) (hl : n ≤ 1073741824) (q : Nat) (hP : Larder8.numP lo up T = .ok y r) (hq : n = q + r.length) :
    Calls Tryz.prog 71 #[.slice a n cp, .int .i64 lo, .int .i64 up] w fun e w' => e = .returned (.tuple #[.int .i64 y, .int .i64 (q : Nat), .int .i64 0]) ∧ Hid (Below w.heap.size w w') :=
  (rnumber_any w a n cp T lo up h.len h.bytes hs h.le hl).mono (fun e w' ⟨v, m, st, h1, h2⟩ => by
    obtain ⟨⟨h3, h4⟩, h5⟩ := unhide h2
    obtain ⟨rfl, h6⟩ := h4 y r hP
    rw [hP] at h3
    have h3' : st = 0 := h3
    refine ⟨?_, hide h5⟩
    rw [h1, h3', h6, show ((n : Int) - (r.length : Int)) = (q : Int) by omega])
theorem bulk_cnt {r r' : List Nat} {k : Nat} (h : Larder8.numP (-1) 4096 r = .ok (k : Int) r') : Larder8.bulkP r = (cntP k r').map (fun _ => some (r'.take k)) := by
  unfold Larder8.bulkP cntP
  rw [h]
  simp only
  rw [if_neg (by omega), Int.toNat_natCast]
  split
  · rfl
  · rfl
theorem Gro.toB {w W : World} {base n : Nat} {v : Value} {l : List Nat} (h : Gro w W base v n l) : OwnB W base v l := h.ownB
theorem item_bulk_no (w : World) (a : Option Addr) (n cp d : Nat) (r : List Nat) (I : Int) (h : Rst w a n cp (36 :: r)) (hs : Small r) (hl : n ≤ 1073741824) (hP : ∀ y r', Larder8.numP (-1) 4096 r ≠ .ok y r') :
    Calls Tryz.prog 53 #[.slice a n cp, .int .i64 I] w (ItEnd w (d + 1) n ((Larder8.bulkP r).map (fun o => match o with | none => (mkR 5 0 [] []) | some t => (mkR 4 0 t [])))) := by
  have hlen := h.len
  have hle := h.le
  have htop := h.top
  simp only [List.length_cons] at hlen
  obtain ⟨b, off, rfl, hbl, hcell⟩ := h.at (show 0 < n by omega)
  have k1 : Below w.heap.size w (w.alloc (.cells #[.int .i64 0, .int .i64 0, .slice none 0 0, .slice none 0 0] 31)) := (Below.refl _ _).alloc (Nat.le_refl _) _
  have h1 := h.below k1
  have d1 : (w.alloc (.cells #[.int .i64 0, .int .i64 0, .slice none 0 0, .slice none 0 0] 31)).cell? ⟨b, off, none⟩ = some (.int .u8 36) := by
    rw [k1.cell (show b < _ from hbl)]
    exact hcell 0 (by omega)
  have q0 : (0 : Int) < (n : Int) := by omega
  have q1 : (1 : Int) ≤ (n : Int) := by omega
  have q2 : (1 : Int) ≤ (cp : Int) := by omega
  have q4 : ((n : Int) == 0) = false := by rw [beq_eq_false_iff_ne]; omega
  have B0 := hide (Ix.new w)
  have HR : Hid (∀ a', (a' = some ⟨b, off + 1, none⟩ ∨ cp = 1 ∧ a' = some ⟨b, off, none⟩) → Rst (w.alloc (.cells #[.int .i64 0, .int .i64 0, .slice none 0 0, .slice none 0 0] 31)) a' (n - 1) (cp - 1) r) := hide (fun a' ha => by
    rcases ha with e | ⟨e1, e2⟩
    · rw [e]; exact h1.drop 1 (by omega)
    · rw [e2]; have := h1.brim 1 e1; exact this)
  have HN := hide hlen
  have HE : Hid (∀ st, StD (Larder8.numP (-1) 4096 r) st → StD ((Larder8.bulkP r).map (fun o => match o with | none => (mkR 5 0 [] [] : Tr (d + 1)) | some t => (mkR 4 0 t []))) st ∧ ∀ x r', ((Larder8.bulkP r).map (fun o => match o with | none => (mkR 5 0 [] [] : Tr (d + 1)) | some t => (mkR 4 0 t []))) = .ok x r' → False) := hide (fun st h => by
    unfold Larder8.bulkP
    cases hq : Larder8.numP (-1) 4096 r with
    | ok y r' => exact absurd hq (hP y r')
    | short => rw [hq] at h; exact ⟨h, fun x r' e => by cases e⟩
    | wrong => rw [hq] at h; exact ⟨h, fun x r' e => by cases e⟩)
  by_cases hcp : cp = 1
  · obtain rfl := hcp
    have H2 := hide (unhide HR (some ⟨b, off, none⟩) (.inr ⟨rfl, rfl⟩))
    rw [Nat.sub_self] at H2
    have CP := hide (rnum_no (unhide H2) hs (by omega) hP)
    clear h h1 hcell k1 hlen hle htop HR H2 hP
    go_enter Tryz.func53, Tryz.ntmps53
    go_wp2_with (first
      | (go_at_call 71; with_reducible refine (unhide CP).mono ?_; rintro e w3 ⟨v, m, st, rfl, hst, hS, h3⟩; have B3 := hide ((unhide B0).next (unhide h3)); have z0 := (unhide B3).cell 0 _ rfl; have y0 := (unhide B3).froz 0; have z1 := (unhide B3).cell 1 _ rfl; have y1 := (unhide B3).froz 1; have z2 := (unhide B3).cell 2 _ rfl; have y2 := (unhide B3).froz 2; have z3 := (unhide B3).cell 3 _ rfl; have y3 := (unhide B3).froz 3))
    refine bodyPost_ret (item_end _ _ _ (store4 (unhide B3).box rfl _ _ _ _) rfl rfl rfl) rfl ?_
    exact ⟨5, 0, none, 0, 0, none, 0, 0, _, st, rfl, hide ⟨(unhide HE st (unhide hS)).1, (unhide B3).boxed _ _ _ _, fun x r' e => ((unhide HE st (unhide hS)).2 x r' e).elim⟩⟩
  · have hne : (cp = 1) = False := eq_false hcp
    clear hcp
    have H2 := hide (unhide HR (some ⟨b, off + 1, none⟩) (.inl rfl))
    have CP := hide (rnum_no (unhide H2) hs (by omega) hP)
    clear h h1 hcell k1 hlen hle htop HR H2 hP
    go_enter Tryz.func53, Tryz.ntmps53
    go_wp2_with (first
      | (go_at_call 71; with_reducible refine (unhide CP).mono ?_; rintro e w3 ⟨v, m, st, rfl, hst, hS, h3⟩; have B3 := hide ((unhide B0).next (unhide h3)); have z0 := (unhide B3).cell 0 _ rfl; have y0 := (unhide B3).froz 0; have z1 := (unhide B3).cell 1 _ rfl; have y1 := (unhide B3).froz 1; have z2 := (unhide B3).cell 2 _ rfl; have y2 := (unhide B3).froz 2; have z3 := (unhide B3).cell 3 _ rfl; have y3 := (unhide B3).froz 3))
    refine bodyPost_ret (item_end _ _ _ (store4 (unhide B3).box rfl _ _ _ _) rfl rfl rfl) rfl ?_
    exact ⟨5, 0, none, 0, 0, none, 0, 0, _, st, rfl, hide ⟨(unhide HE st (unhide hS)).1, (unhide B3).boxed _ _ _ _, fun x r' e => ((unhide HE st (unhide hS)).2 x r' e).elim⟩⟩
theorem item_bulk_lack (w : World) (a : Option Addr) (n cp d : Nat) (r : List Nat) (I : Int) (h : Rst w a n cp (36 :: r)) (hs : Small r) (hl : n ≤ 1073741824) (r' : List Nat) (hP : Larder8.numP (-1) 4096 r = .ok (-1) r') :
    Calls Tryz.prog 53 #[.slice a n cp, .int .i64 I] w (ItEnd w (d + 1) n ((Larder8.bulkP r).map (fun o => match o with | none => (mkR 5 0 [] []) | some t => (mkR 4 0 t [])))) := by
  have hlen := h.len
  have hle := h.le
  have htop := h.top
  simp only [List.length_cons] at hlen
  obtain ⟨b, off, rfl, hbl, hcell⟩ := h.at (show 0 < n by omega)
  have k1 : Below w.heap.size w (w.alloc (.cells #[.int .i64 0, .int .i64 0, .slice none 0 0, .slice none 0 0] 31)) := (Below.refl _ _).alloc (Nat.le_refl _) _
  have h1 := h.below k1
  have d1 : (w.alloc (.cells #[.int .i64 0, .int .i64 0, .slice none 0 0, .slice none 0 0] 31)).cell? ⟨b, off, none⟩ = some (.int .u8 36) := by
    rw [k1.cell (show b < _ from hbl)]
    exact hcell 0 (by omega)
  have q0 : (0 : Int) < (n : Int) := by omega
  have q1 : (1 : Int) ≤ (n : Int) := by omega
  have q2 : (1 : Int) ≤ (cp : Int) := by omega
  have q4 : ((n : Int) == 0) = false := by rw [beq_eq_false_iff_ne]; omega
  have B0 := hide (Ix.new w)
  have HR : Hid (∀ a', (a' = some ⟨b, off + 1, none⟩ ∨ cp = 1 ∧ a' = some ⟨b, off, none⟩) → Rst (w.alloc (.cells #[.int .i64 0, .int .i64 0, .slice none 0 0, .slice none 0 0] 31)) a' (n - 1) (cp - 1) r) := hide (fun a' ha => by
    rcases ha with e | ⟨e1, e2⟩
    · rw [e]; exact h1.drop 1 (by omega)
    · rw [e2]; have := h1.brim 1 e1; exact this)
  have HN := hide hlen
  have hlt := congrArg List.length (Larder8.numP_text hP).1
  simp only [List.length_append, List.length_cons, List.length_nil] at hlt
  obtain ⟨q, hq⟩ : ∃ q, n - 1 = q + r'.length := ⟨n - 1 - r'.length, by omega⟩
  have HQ := hide hq
  have E : ((Larder8.bulkP r).map (fun o => match o with | none => (mkR 5 0 [] [] : Tr (d + 1)) | some t => (mkR 4 0 t []))) = .ok (mkR 5 0 [] []) r' := by unfold Larder8.bulkP; rw [hP]; rfl
  rw [E]
  have hq9 : q ≤ 1073741824 := by omega
  by_cases hcp : cp = 1
  · obtain rfl := hcp
    have H2 := hide (unhide HR (some ⟨b, off, none⟩) (.inr ⟨rfl, rfl⟩))
    rw [Nat.sub_self] at H2
    have CP := hide (rnum_ok (unhide H2) hs (by omega) q hP hq)
    clear h h1 hcell k1 hlen hle htop HR H2 hP hq hlt E
    go_enter Tryz.func53, Tryz.ntmps53
    go_wp2_with (first
      | (go_at_call 71; with_reducible refine (unhide CP).mono ?_; rintro e w3 ⟨rfl, h3⟩; have B3 := hide ((unhide B0).next (unhide h3)); have z0 := (unhide B3).cell 0 _ rfl; have y0 := (unhide B3).froz 0; have z1 := (unhide B3).cell 1 _ rfl; have y1 := (unhide B3).froz 1; have z2 := (unhide B3).cell 2 _ rfl; have y2 := (unhide B3).froz 2; have z3 := (unhide B3).cell 3 _ rfl; have y3 := (unhide B3).froz 3))
    refine bodyPost_ret (item_end _ _ _ (store4 (unhide B3).box rfl _ _ _ _) rfl rfl rfl) rfl ?_
    refine ⟨5, 0, none, 0, 0, none, 0, 0, _, 0, rfl, hide ⟨rfl, (unhide B3).boxed _ _ _ _, fun x r' e => ?_⟩⟩
    cases e
    have hT := unhide HN
    have hQ := unhide HQ
    exact ⟨by omega, DrAt.leaf (OwnB.nil _ _) small_nil⟩
  · have hne : (cp = 1) = False := eq_false hcp
    clear hcp
    have H2 := hide (unhide HR (some ⟨b, off + 1, none⟩) (.inl rfl))
    have CP := hide (rnum_ok (unhide H2) hs (by omega) q hP hq)
    clear h h1 hcell k1 hlen hle htop HR H2 hP hq hlt E
    go_enter Tryz.func53, Tryz.ntmps53
    go_wp2_with (first
      | (go_at_call 71; with_reducible refine (unhide CP).mono ?_; rintro e w3 ⟨rfl, h3⟩; have B3 := hide ((unhide B0).next (unhide h3)); have z0 := (unhide B3).cell 0 _ rfl; have y0 := (unhide B3).froz 0; have z1 := (unhide B3).cell 1 _ rfl; have y1 := (unhide B3).froz 1; have z2 := (unhide B3).cell 2 _ rfl; have y2 := (unhide B3).froz 2; have z3 := (unhide B3).cell 3 _ rfl; have y3 := (unhide B3).froz 3))
    refine bodyPost_ret (item_end _ _ _ (store4 (unhide B3).box rfl _ _ _ _) rfl rfl rfl) rfl ?_
    refine ⟨5, 0, none, 0, 0, none, 0, 0, _, 0, rfl, hide ⟨rfl, (unhide B3).boxed _ _ _ _, fun x r' e => ?_⟩⟩
    cases e
    have hT := unhide HN
    have hQ := unhide HQ
    exact ⟨by omega, DrAt.leaf (OwnB.nil _ _) small_nil⟩
end Go.Proofs.YtecfgbjnjgjkoaaGreatDoor
namespace Go.Proofs.YtecfgbjnjgjkoaaGreatDoor
open Go.ChangeShapes Go.WideShapes Go.ChangeAt Go.RowKit
set_option linter.unusedVariables false
set_option linter.unusedSimpArgs false
set_option maxRecDepth 20000
set_option maxHeartbeats 8000000

theorem rcnt_no {w : World} {a : Option Addr} {n cp : Nat} {T : List Nat} {k : Nat} (h : Rst w a n cp T) (hl : n ≤ 1073741824) (hk : k ≤ 4096) (hP : ∀ y r, cntP k T ≠ .ok y r) :
    Calls Tryz.prog 72 #[.slice a n cp, .int .i64 (k : Nat)] w fun e w' => ∃ m st : Int, e = .returned (.tuple #[.int .i64 m, .int .i64 st]) ∧ (st != 0) = true ∧ Hid (StD (cntP k T) st) ∧ w = w' :=
  (rcontent_any w a n cp T k h.len h.bytes hl (by omega)).mono (fun e w' ⟨m, st, h1, h2⟩ => ⟨m, st, h1, (unhide h2).1.no hP, hide (unhide h2).1, (unhide h2).2.2⟩)
theorem rcnt_ok {w : World} {a : Option Addr} {n cp : Nat} {T : List Nat} {k : Nat} {r : List Nat} (h : Rst w a n cp T) (hl : n ≤ 1073741824) (hk : k ≤ 4096) (hP : cntP k T = .ok () r) :
    Calls Tryz.prog 72 #[.slice a n cp, .int .i64 (k : Nat)] w fun e w' => e = .returned (.tuple #[.int .i64 ((k : Int) + 2), .int .i64 0]) ∧ w = w' :=
  (rcontent_any w a n cp T k h.len h.bytes hl (by omega)).mono (fun e w' ⟨m, st, h1, h2⟩ => by
    obtain ⟨h3, h4, h5⟩ := unhide h2
    obtain ⟨rfl, -⟩ := h4 r hP
    rw [hP] at h3
    have h3' : st = 0 := h3
    exact ⟨by rw [h1, h3'], h5⟩)
theorem cnt_len {T r : List Nat} {k : Nat} (h : cntP k T = .ok () r) : T.length = k + 2 + r.length ∧ r = T.drop (k + 2) := by
  unfold cntP at h
  split at h
  · cases h
  · rename_i hk
    have e := Larder8.endP_ok h
    have h1 := congrArg List.length e
    simp only [List.length_drop, List.length_cons] at h1
    refine ⟨by omega, ?_⟩
    have h2 : T.drop (k + 2) = (T.drop k).drop 2 := by rw [List.drop_drop]
    rw [h2, e]
    rfl
theorem item_bulk_some (w : World) (a : Option Addr) (n cp d : Nat) (r : List Nat) (I : Int) (h : Rst w a n cp (36 :: r)) (hs : Small r) (hl : n ≤ 1073741824) (r' : List Nat) (k : Nat) (hP : Larder8.numP (-1) 4096 r = .ok (k : Int) r') :
    Calls Tryz.prog 53 #[.slice a n cp, .int .i64 I] w (ItEnd w (d + 1) n ((Larder8.bulkP r).map (fun o => match o with | none => (mkR 5 0 [] []) | some t => (mkR 4 0 t [])))) := by
  have hlen := h.len
  have hle := h.le
  have htop := h.top
  simp only [List.length_cons] at hlen
  obtain ⟨b, off, rfl, hbl, hcell⟩ := h.at (show 0 < n by omega)
  have k1 : Below w.heap.size w (w.alloc (.cells #[.int .i64 0, .int .i64 0, .slice none 0 0, .slice none 0 0] 31)) := (Below.refl _ _).alloc (Nat.le_refl _) _
  have h1 := h.below k1
  have d1 : (w.alloc (.cells #[.int .i64 0, .int .i64 0, .slice none 0 0, .slice none 0 0] 31)).cell? ⟨b, off, none⟩ = some (.int .u8 36) := by
    rw [k1.cell (show b < _ from hbl)]
    exact hcell 0 (by omega)
  have q0 : (0 : Int) < (n : Int) := by omega
  have q1 : (1 : Int) ≤ (n : Int) := by omega
  have q2 : (1 : Int) ≤ (cp : Int) := by omega
  have q4 : ((n : Int) == 0) = false := by rw [beq_eq_false_iff_ne]; omega
  have B0 := hide (Ix.new w)
  have HR : Hid (∀ a', (a' = some ⟨b, off + 1, none⟩ ∨ cp = 1 ∧ a' = some ⟨b, off, none⟩) → Rst (w.alloc (.cells #[.int .i64 0, .int .i64 0, .slice none 0 0, .slice none 0 0] 31)) a' (n - 1) (cp - 1) r) := hide (fun a' ha => by
    rcases ha with e | ⟨e1, e2⟩
    · rw [e]; exact h1.drop 1 (by omega)
    · rw [e2]; have := h1.brim 1 e1; exact this)
  have HN := hide hlen
  have hin := Larder8.numP_in hP
  have htx := (Larder8.numP_text hP).1
  have hlt := congrArg List.length htx
  simp only [List.length_append, List.length_cons, List.length_nil] at hlt
  obtain ⟨q, hq⟩ : ∃ q, n - 1 = q + r'.length := ⟨n - 1 - r'.length, by omega⟩
  obtain ⟨q1', hq1⟩ : ∃ q1, q1 = 1 + q := ⟨_, rfl⟩
  have hdr : (36 :: r).drop q1' = r' := by
    rw [hq1, Nat.add_comm, List.drop_succ_cons, ← htx]
    have hpl : (Larder.spellI (k : Int) ++ [13, 10]).length = q := by rw [List.length_append]; simp; omega
    rw [← hpl, List.drop_left]
  have hk9 : k ≤ 4096 := by omega
  have hcp : cp ≠ 1 := by omega
  have hne : (cp = 1) = False := eq_false hcp
  have H2 := hide (unhide HR (some ⟨b, off + 1, none⟩) (.inl rfl))
  have CP := hide (rnum_ok (unhide H2) hs (by omega) q hP hq)
  have HE := hide (bulk_cnt hP)
  have hr's : Small r' := by
    have := (show Small (36 :: r) from fun i hi => by
      cases i with
      | zero => simp
      | succ i => simpa using hs i (by simpa using hi)).drop q1'
    rw [hdr] at this
    exact this
  have H3 : Hid (∀ W a', Below w.heap.size w W → (a' = some ⟨b, off + q1', none⟩ ∨ cp = q1' ∧ a' = some ⟨b, off, none⟩) → Rst W a' (n - q1') (cp - q1') r') := hide (fun W a' hW ha => by
    have hb := h.below hW
    rcases ha with e | ⟨e1, e2⟩
    · rw [e, ← hdr]; exact hb.drop q1' (by omega)
    · rw [e2, ← hdr]; exact hb.brim q1' e1)
  have s1 : (1 : Int) + (q : Int) = (q1' : Int) := by omega
  have s2 : (q1' : Int) ≤ (n : Int) := by omega
  have s3 : (q1' : Int) ≤ (cp : Int) := by omega
  have s4 : (0 : Int) ≤ (q1' : Int) := by omega
  have s5 : decide ((k : Int) < 0) = false := decide_eq_false (by omega)
  have HQ : Hid (n = q1' + r'.length ∧ n - q1' = r'.length) := hide ⟨by omega, by omega⟩
  have s6 : n - q1' ≤ 1073741824 := by omega
  have HLE := hide hle
  clear h h1 hcell k1 hlen hle htop HR H2 hP hq hlt htx hdr hq1 hcp hin hs
  cases hc : cntP k r' with
  | ok u r2 =>
    cases u
    obtain ⟨hc1, hc2⟩ := cnt_len hc
    have hcq : cp ≠ q1' := by have := unhide HQ; have := unhide HLE; omega
    have hnq : (cp = q1') = False := eq_false hcq
    obtain ⟨hk1, hhk⟩ : ∃ hk1 : Nat, hk1 = q1' + k := ⟨_, rfl⟩
    have s7 : (q1' : Int) + (k : Int) = (hk1 : Int) := by omega
    have s8 : hk1 - q1' = k := by omega
    have s9 : (q1' : Int) ≤ (hk1 : Int) := by omega
    have s10 : (hk1 : Int) ≤ (cp : Int) := by have := unhide HQ; have := unhide HLE; omega
    have s11 : (hk1 : Int) ≤ (n : Int) := by have := unhide HQ; omega
    have CC : Hid (∀ W, Below w.heap.size w W → Calls Tryz.prog 72 #[.slice (some ⟨b, off + q1', none⟩) (n - q1') (cp - q1'), .int .i64 (k : Nat)] W fun e w' => e = .returned (.tuple #[.int .i64 ((k : Int) + 2), .int .i64 0]) ∧ W = w') := hide (fun W hW => rcnt_ok (unhide H3 W _ hW (.inl rfl)) s6 hk9 hc)
    have CO : Hid (∀ W, Ix w W → Calls Tryz.prog 60 #[.slice (some ⟨b, off + q1', none⟩) k (cp - q1')] W fun e w' => ∃ va vc, e = .returned (.slice va k vc) ∧ Hid (Ix w w') ∧ Hid (OwnB w' (w.heap.size + 1) (.slice va k vc) (r'.take k))) := hide (fun W hW => by
      have hk' : (r'.take k).length = k := by rw [List.length_take]; omega
      have h := copyR_any (cap := cp - q1') (r'.take k) (by omega) ((unhide H3 W _ hW.k (.inl rfl)).bytes.first k)
      rw [hk'] at h
      exact h.mono (fun e w' ⟨h1, h2⟩ => ⟨_, _, h1, hide (hW.next (unhide h2).bel), hide ((unhide h2).ownB.mono (by have := block_lt hW.box; omega))⟩))
    have E : Hid (((Larder8.bulkP r).map (fun o => match o with | none => (mkR 5 0 [] [] : Tr (d + 1)) | some t => (mkR 4 0 t []))) = .ok (mkR 4 0 (r'.take k) []) r2) := hide (by rw [unhide HE, hc]; rfl)
    clear H3 hc hhk
    go_enter Tryz.func53, Tryz.ntmps53
    go_wp2_with (first
      | (go_at_call 71; with_reducible refine (unhide CP).mono ?_; rintro e w3 ⟨rfl, h3⟩; have B2 := hide ((unhide B0).next (unhide h3)))
      | (go_at_call 72; with_reducible refine (unhide CC _ (unhide B2).k).mono ?_; rintro e w4 ⟨rfl, h4⟩; subst h4)
      | (go_at_call 60; with_reducible refine (unhide CO _ (unhide B2)).mono ?_; rintro e w5 ⟨va, vc, rfl, B3, h5⟩; have z0 := (unhide B3).cell 0 _ rfl; have y0 := (unhide B3).froz 0; have z1 := (unhide B3).cell 1 _ rfl; have y1 := (unhide B3).froz 1; have z2 := (unhide B3).cell 2 _ rfl; have y2 := (unhide B3).froz 2; have z3 := (unhide B3).cell 3 _ rfl; have y3 := (unhide B3).froz 3))
    refine bodyPost_ret (item_end _ _ _ (store4 (unhide B3).box rfl _ _ _ _) rfl rfl rfl) rfl ?_
    refine ⟨4, 0, va, k, vc, none, 0, 0, _, 0, rfl, hide ⟨by rw [unhide E]; rfl, (unhide B3).boxed _ _ _ _, fun x r3 e => ?_⟩⟩
    rw [unhide E] at e
    cases e
    have hQ := unhide HQ
    exact ⟨by omega, DrAt.leaf ((unhide B3).own (unhide h5) _ _ _ _) (hr's.take k)⟩
  | short =>
    have CC : Hid (∀ W a', Below w.heap.size w W → (a' = some ⟨b, off + q1', none⟩ ∨ cp = q1' ∧ a' = some ⟨b, off, none⟩) → Calls Tryz.prog 72 #[.slice a' (n - q1') (cp - q1'), .int .i64 (k : Nat)] W fun e w' => ∃ m st : Int, e = .returned (.tuple #[.int .i64 m, .int .i64 st]) ∧ (st != 0) = true ∧ Hid (StD (cntP k r') st) ∧ W = w') := hide (fun W a' hW ha => rcnt_no (unhide H3 W a' hW ha) s6 hk9 (fun y r e => by rw [hc] at e; cases e))
    have ES : Hid (∀ st, StD (cntP k r') st → StD ((Larder8.bulkP r).map (fun o => match o with | none => (mkR 5 0 [] [] : Tr (d + 1)) | some t => (mkR 4 0 t []))) st ∧ ∀ x r3, ((Larder8.bulkP r).map (fun o => match o with | none => (mkR 5 0 [] [] : Tr (d + 1)) | some t => (mkR 4 0 t []))) = .ok x r3 → False) := hide (fun st h => by
      rw [unhide HE, hc]
      rw [hc] at h
      exact ⟨h, fun x r3 e => by cases e⟩)
    clear H3 hc
    by_cases hcq : cp = q1'
    · have CCb : Hid (∀ W, Below w.heap.size w W → Calls Tryz.prog 72 #[.slice (some ⟨b, off, none⟩) (n - q1') 0, .int .i64 (k : Nat)] W fun e w' => ∃ m st : Int, e = .returned (.tuple #[.int .i64 m, .int .i64 st]) ∧ (st != 0) = true ∧ Hid (StD (cntP k r') st) ∧ W = w') := hide (fun W hW => by
        have := unhide CC W _ hW (.inr ⟨hcq, rfl⟩)
        rw [hcq, Nat.sub_self] at this
        exact this)
      have hcq' : (cp = q1') = True := eq_true hcq
      have hcs : cp - q1' = 0 := by omega
      clear CC hcq
      go_enter Tryz.func53, Tryz.ntmps53
      go_wp2_with (first
        | (go_at_call 71; with_reducible refine (unhide CP).mono ?_; rintro e w3 ⟨rfl, h3⟩; have B3 := hide ((unhide B0).next (unhide h3)); have z0 := (unhide B3).cell 0 _ rfl; have y0 := (unhide B3).froz 0; have z1 := (unhide B3).cell 1 _ rfl; have y1 := (unhide B3).froz 1; have z2 := (unhide B3).cell 2 _ rfl; have y2 := (unhide B3).froz 2; have z3 := (unhide B3).cell 3 _ rfl; have y3 := (unhide B3).froz 3)
        | (go_at_call 72; with_reducible refine (unhide CCb _ (unhide B3).k).mono ?_; rintro e w4 ⟨m, st, rfl, hst, hS, h4⟩; subst h4))
      refine bodyPost_ret (item_end _ _ _ (store4 (unhide B3).box rfl _ _ _ _) rfl rfl rfl) rfl ?_
      exact ⟨0, 0, none, 0, 0, none, 0, 0, 0, st, rfl, hide ⟨(unhide ES st (unhide hS)).1, (unhide B3).boxed _ _ _ _, fun x r3 e => ((unhide ES st (unhide hS)).2 x r3 e).elim⟩⟩
    · have hnq : (cp = q1') = False := eq_false hcq
      have CCb : Hid (∀ W, Below w.heap.size w W → Calls Tryz.prog 72 #[.slice (some ⟨b, off + q1', none⟩) (n - q1') (cp - q1'), .int .i64 (k : Nat)] W fun e w' => ∃ m st : Int, e = .returned (.tuple #[.int .i64 m, .int .i64 st]) ∧ (st != 0) = true ∧ Hid (StD (cntP k r') st) ∧ W = w') := hide (fun W hW => unhide CC W _ hW (.inl rfl))
      clear CC hcq
      go_enter Tryz.func53, Tryz.ntmps53
      go_wp2_with (first
        | (go_at_call 71; with_reducible refine (unhide CP).mono ?_; rintro e w3 ⟨rfl, h3⟩; have B3 := hide ((unhide B0).next (unhide h3)); have z0 := (unhide B3).cell 0 _ rfl; have y0 := (unhide B3).froz 0; have z1 := (unhide B3).cell 1 _ rfl; have y1 := (unhide B3).froz 1; have z2 := (unhide B3).cell 2 _ rfl; have y2 := (unhide B3).froz 2; have z3 := (unhide B3).cell 3 _ rfl; have y3 := (unhide B3).froz 3)
        | (go_at_call 72; with_reducible refine (unhide CCb _ (unhide B3).k).mono ?_; rintro e w4 ⟨m, st, rfl, hst, hS, h4⟩; subst h4))
      refine bodyPost_ret (item_end _ _ _ (store4 (unhide B3).box rfl _ _ _ _) rfl rfl rfl) rfl ?_
      exact ⟨0, 0, none, 0, 0, none, 0, 0, 0, st, rfl, hide ⟨(unhide ES st (unhide hS)).1, (unhide B3).boxed _ _ _ _, fun x r3 e => ((unhide ES st (unhide hS)).2 x r3 e).elim⟩⟩
  | wrong =>
    have CC : Hid (∀ W a', Below w.heap.size w W → (a' = some ⟨b, off + q1', none⟩ ∨ cp = q1' ∧ a' = some ⟨b, off, none⟩) → Calls Tryz.prog 72 #[.slice a' (n - q1') (cp - q1'), .int .i64 (k : Nat)] W fun e w' => ∃ m st : Int, e = .returned (.tuple #[.int .i64 m, .int .i64 st]) ∧ (st != 0) = true ∧ Hid (StD (cntP k r') st) ∧ W = w') := hide (fun W a' hW ha => rcnt_no (unhide H3 W a' hW ha) s6 hk9 (fun y r e => by rw [hc] at e; cases e))
    have ES : Hid (∀ st, StD (cntP k r') st → StD ((Larder8.bulkP r).map (fun o => match o with | none => (mkR 5 0 [] [] : Tr (d + 1)) | some t => (mkR 4 0 t []))) st ∧ ∀ x r3, ((Larder8.bulkP r).map (fun o => match o with | none => (mkR 5 0 [] [] : Tr (d + 1)) | some t => (mkR 4 0 t []))) = .ok x r3 → False) := hide (fun st h => by
      rw [unhide HE, hc]
      rw [hc] at h
      exact ⟨h, fun x r3 e => by cases e⟩)
    clear H3 hc
    by_cases hcq : cp = q1'
    · have CCb : Hid (∀ W, Below w.heap.size w W → Calls Tryz.prog 72 #[.slice (some ⟨b, off, none⟩) (n - q1') 0, .int .i64 (k : Nat)] W fun e w' => ∃ m st : Int, e = .returned (.tuple #[.int .i64 m, .int .i64 st]) ∧ (st != 0) = true ∧ Hid (StD (cntP k r') st) ∧ W = w') := hide (fun W hW => by
        have := unhide CC W _ hW (.inr ⟨hcq, rfl⟩)
        rw [hcq, Nat.sub_self] at this
        exact this)
      have hcq' : (cp = q1') = True := eq_true hcq
      have hcs : cp - q1' = 0 := by omega
      clear CC hcq
      go_enter Tryz.func53, Tryz.ntmps53
      go_wp2_with (first
        | (go_at_call 71; with_reducible refine (unhide CP).mono ?_; rintro e w3 ⟨rfl, h3⟩; have B3 := hide ((unhide B0).next (unhide h3)); have z0 := (unhide B3).cell 0 _ rfl; have y0 := (unhide B3).froz 0; have z1 := (unhide B3).cell 1 _ rfl; have y1 := (unhide B3).froz 1; have z2 := (unhide B3).cell 2 _ rfl; have y2 := (unhide B3).froz 2; have z3 := (unhide B3).cell 3 _ rfl; have y3 := (unhide B3).froz 3)
        | (go_at_call 72; with_reducible refine (unhide CCb _ (unhide B3).k).mono ?_; rintro e w4 ⟨m, st, rfl, hst, hS, h4⟩; subst h4))
      refine bodyPost_ret (item_end _ _ _ (store4 (unhide B3).box rfl _ _ _ _) rfl rfl rfl) rfl ?_
      exact ⟨0, 0, none, 0, 0, none, 0, 0, 0, st, rfl, hide ⟨(unhide ES st (unhide hS)).1, (unhide B3).boxed _ _ _ _, fun x r3 e => ((unhide ES st (unhide hS)).2 x r3 e).elim⟩⟩
    · have hnq : (cp = q1') = False := eq_false hcq
      have CCb : Hid (∀ W, Below w.heap.size w W → Calls Tryz.prog 72 #[.slice (some ⟨b, off + q1', none⟩) (n - q1') (cp - q1'), .int .i64 (k : Nat)] W fun e w' => ∃ m st : Int, e = .returned (.tuple #[.int .i64 m, .int .i64 st]) ∧ (st != 0) = true ∧ Hid (StD (cntP k r') st) ∧ W = w') := hide (fun W hW => unhide CC W _ hW (.inl rfl))
      clear CC hcq
      go_enter Tryz.func53, Tryz.ntmps53
      go_wp2_with (first
        | (go_at_call 71; with_reducible refine (unhide CP).mono ?_; rintro e w3 ⟨rfl, h3⟩; have B3 := hide ((unhide B0).next (unhide h3)); have z0 := (unhide B3).cell 0 _ rfl; have y0 := (unhide B3).froz 0; have z1 := (unhide B3).cell 1 _ rfl; have y1 := (unhide B3).froz 1; have z2 := (unhide B3).cell 2 _ rfl; have y2 := (unhide B3).froz 2; have z3 := (unhide B3).cell 3 _ rfl; have y3 := (unhide B3).froz 3)
        | (go_at_call 72; with_reducible refine (unhide CCb _ (unhide B3).k).mono ?_; rintro e w4 ⟨m, st, rfl, hst, hS, h4⟩; subst h4))
      refine bodyPost_ret (item_end _ _ _ (store4 (unhide B3).box rfl _ _ _ _) rfl rfl rfl) rfl ?_
      exact ⟨0, 0, none, 0, 0, none, 0, 0, 0, st, rfl, hide ⟨(unhide ES st (unhide hS)).1, (unhide B3).boxed _ _ _ _, fun x r3 e => ((unhide ES st (unhide hS)).2 x r3 e).elim⟩⟩
end Go.Proofs.YtecfgbjnjgjkoaaGreatDoor
