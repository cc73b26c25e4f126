/- Decode: a reply is read, where arrays are. -/
import Derived.Test.YtecfgbjnjgjkoaaGreatDoorDcr
namespace Go.Proofs.YtecfgbjnjgjkoaaGreatDoor
open Go.ChangeShapes Go.WideShapes Go.ChangeAt Go.RowKit
set_option linter.unusedVariables false
set_option linter.unusedSimpArgs false
set_option maxRecDepth 20000
set_option maxHeartbeats 4000000

theorem numP_small {lo hi : Int} {T : List Nat} {v : Int} {r : List Nat} (hT : Small T) (h : Larder8.numP lo hi T = .ok v r) : Small r := by
  unfold Larder8.numP at h
  split at h
  · split at h <;> cases h
  · rename_i i hi
    split at h
    · cases h
    · revert h
      cases hE : Larder8.endP (T.drop i) with
      | short => intro h; cases h
      | wrong => intro h; cases h
      | ok u r' =>
        intro h
        cases h
        have := hT.drop i
        rw [Larder8.endP_ok hE] at this
        exact this.drop 2
theorem bulk_small {T t r : List Nat} (hT : Small T) (h : Larder8.bulkP T = .ok (some t) r) : Small t := by
  unfold Larder8.bulkP at h
  split at h
  · cases h
  · cases h
  · rename_i n r' hn
    split at h
    · cases h
    · split at h
      · cases h
      · revert h
        cases Larder8.endP (r'.drop n.toNat) with
        | short => intro h; cases h
        | wrong => intro h; cases h
        | ok u r2 => intro h; cases h; exact (numP_small hT hn).take _
theorem reply_end {W : World} {g : Nat} {v0 v1 v2 v3 : Value} (er : Int) (tmps : Array Value) (hg : W.heap[g]? = some (.cells #[v0, v1, v2, v3] 31 (0, 0))) (h2 : tmps.getD 4 undef = .pointer (some ⟨g, 0, none⟩)) (h3 : tmps.getD 5 undef = .int .i64 er) :
    (results Tryz.f52 tmps).run Tryz.prog W = .ok (.tuple #[.agg #[v0, v1, v2, v3], .int .i64 er]) W := by
  refine results_box (p := 4) (q := 5) (ty := 31) rfl tmps _ g 31 _ (0, 0) _ h2 hg Tryz.underlying31 rfl (by kernel_rfl) _ h3
/-- a part is read: its call's contract, as a reply's -/
def Part (w2 : World) (pd d f : Nat) (args : Array Value) (P : Larder8.St (Tr d)) : Prop := Calls Tryz.prog f args w2 fun e w3 => ∃ (k0 k1 : Int) (ta : Option Addr) (tn tc : Nat) (la : Option Addr) (ln lc : Nat), e = .returned (.tuple #[.agg #[.int .i64 k0, .int .i64 k1, .slice ta tn tc, .slice la ln lc], .int .i64 P.err]) ∧ Hid (Told4 w2 pd d P k0 k1 ta tn tc la ln lc w3)
theorem part_line {w2 : World} {pd d : Nat} {a : Option Addr} {n cp : Nat} {T : List Nat} (K : Int) (h : DcAt w2 pd a n cp T) (hU : UOk w2) (hp : 2 < pd) : Part w2 pd (d + 1) 66 #[.pointer (some ⟨pd, 0, none⟩), .int .i64 K] ((Larder8.lineP T).map (fun t => (mkR K 0 t []))) := by
  refine (dline_any w2 pd a n cp T K h hU hp).mono ?_
  rintro e w3 ⟨ta, tn, tc, rfl, h3⟩
  exact ⟨K, 0, ta, tn, tc, none, 0, 0, by rw [map_err], hide (told_line h.sm (unhide h3))⟩
theorem part_bulk {w2 : World} {pd d : Nat} {a : Option Addr} {n cp : Nat} {T : List Nat} (h : DcAt w2 pd a n cp T) (hl : n ≤ 140737488355328) : Part w2 pd (d + 1) 68 #[.pointer (some ⟨pd, 0, none⟩)] ((Larder8.bulkP T).map (fun o => match o with | none => (mkR 5 0 [] []) | some t => (mkR 4 0 t []))) := by
  refine (dbulk_any w2 pd a n cp T h hl).mono ?_
  rintro e w3 ⟨k, ta, tn, tc, rfl, h3⟩
  exact ⟨k, 0, ta, tn, tc, none, 0, 0, by rw [map_err], hide (told_bulk (fun t r e => bulk_small h.sm e) (unhide h3))⟩
theorem reply_status (w : World) (pd : Nat) (a : Option Addr) (n cp : Nat) (r : List Nat) (d : Nat) (h : DcAt w pd a n cp (43 :: r)) (hU : UOk w) (hp : 2 < pd) (hl : n ≤ 140737488355328) :
    Calls Tryz.prog 52 #[.pointer (some ⟨pd, 0, none⟩), .int .i64 ((8 - d : Nat) : Int)] w (RpEnd w pd (d + 1) ((Larder8.lineP r).map (fun t => (mkR 1 0 t [])))) := by
  obtain ⟨b, off, rfl, hbp⟩ := h.so
  have hb0 := Bx.new w pd (block_lt h.box)
  have k1 : Below w.heap.size w (w.alloc (.cells #[.int .i64 0, .int .i64 0, .slice none 0 0, .slice none 0 0] 31)) := (Below.refl _ _).alloc (Nat.le_refl _) _
  have h1 := h.below k1
  have u1 := UOk.below _ _ hU k1
  have c1 := h1.cell0
  have f1 := h1.froz0
  have hlen := h.rst.len
  have hle := h.rst.le
  simp only [List.length_cons] at hlen
  have q0 : (0 : Int) < (n : Int) := by omega
  have q1 : (1 : Int) ≤ (n : Int) := by omega
  have q2 : (1 : Int) ≤ (cp : Int) := by omega
  have q3 : (n == 0) = false := by rw [beq_eq_false_iff_ne]; omega
  have q4 : ((n : Int) == 0) = false := by rw [beq_eq_false_iff_ne]; omega
  have d1 : (w.alloc (.cells #[.int .i64 0, .int .i64 0, .slice none 0 0, .slice none 0 0] 31)).cell? ⟨b, off, none⟩ = some (.int .u8 43) := by
    obtain ⟨b2, off2, e, -, hc⟩ := h1.rst.at (show 0 < n by omega)
    cases e
    exact hc 0 (by omega)
  have HM : Hid (∀ a', (a' = some ⟨b, off + 1, none⟩ ∨ cp = 1 ∧ a' = some ⟨b, off, none⟩) → DcAt ((w.alloc (.cells #[.int .i64 0, .int .i64 0, .slice none 0 0, .slice none 0 0] 31)).setCell ⟨pd, 0, none⟩ (.slice a' (n - 1) (cp - 1))) pd a' (n - 1) (cp - 1) r) := hide (fun a' ha => h1.move (Below.refl _ _) 1 a' (by omega) ha)
  have HU : Hid (∀ v, UOk ((w.alloc (.cells #[.int .i64 0, .int .i64 0, .slice none 0 0, .slice none 0 0] 31)).setCell ⟨pd, 0, none⟩ v)) := hide (fun v => u1.dck DcK.put hp)
  have HB : Hid (∀ v, Bx w ((w.alloc (.cells #[.int .i64 0, .int .i64 0, .slice none 0 0, .slice none 0 0] 31)).setCell ⟨pd, 0, none⟩ v) pd) := hide (fun v => hb0.next DcK.put)
  have hl1 : n - 1 ≤ 140737488355328 := by omega
  clear h h1 u1 hU hb0 k1 hlen hle hl
  by_cases hcp : cp = 1
  · obtain rfl := hcp
    have H2 := hide (unhide HM (some ⟨b, off, none⟩) (.inr ⟨rfl, rfl⟩))
    rw [Nat.sub_self] at H2
    have U2 := hide (unhide HU (.slice (some ⟨b, off, none⟩) (n - 1) 0))
    have B2 := hide (unhide HB (.slice (some ⟨b, off, none⟩) (n - 1) 0))
    have CP := hide (part_line (d := d) 1 (unhide H2) (unhide U2) hp)
    obtain ⟨P, hPP⟩ : ∃ P : Larder8.St (Tr (d + 1)), P = (Larder8.lineP r).map (fun t => (mkR 1 0 t [])) := ⟨_, rfl⟩
    rw [← hPP] at CP ⊢
    clear hPP
    unfold Part at CP
    go_enter Tryz.func52, Tryz.ntmps52
    go_wp2_with (first
      | (go_at_call 66; with_reducible refine (unhide CP).mono ?_; rintro e w3 ⟨k0, k1, ta, tn, tc, la, ln, lc, rfl, h3⟩; have B3 := hide ((unhide B2).next (unhide h3).kept); have z0 := (unhide B3).cell 0 _ rfl; have y0 := (unhide B3).froz 0; have z1 := (unhide B3).cell 1 _ rfl; have y1 := (unhide B3).froz 1; have z2 := (unhide B3).cell 2 _ rfl; have y2 := (unhide B3).froz 2; have z3 := (unhide B3).cell 3 _ rfl; have y3 := (unhide B3).froz 3))
    refine bodyPost_ret (reply_end _ _ (store4 (unhide B3).box rfl _ _ _ _) rfl rfl) rfl ?_
    exact rp_out (unhide B2) (unhide h3)
  · have hne : (cp = 1) = False := eq_false hcp
    clear hcp
    have H2 := hide (unhide HM (some ⟨b, off + 1, none⟩) (.inl rfl))
    have U2 := hide (unhide HU (.slice (some ⟨b, off + 1, none⟩) (n - 1) (cp - 1)))
    have B2 := hide (unhide HB (.slice (some ⟨b, off + 1, none⟩) (n - 1) (cp - 1)))
    have CP := hide (part_line (d := d) 1 (unhide H2) (unhide U2) hp)
    obtain ⟨P, hPP⟩ : ∃ P : Larder8.St (Tr (d + 1)), P = (Larder8.lineP r).map (fun t => (mkR 1 0 t [])) := ⟨_, rfl⟩
    rw [← hPP] at CP ⊢
    clear hPP
    unfold Part at CP
    go_enter Tryz.func52, Tryz.ntmps52
    go_wp2_with (first
      | (go_at_call 66; with_reducible refine (unhide CP).mono ?_; rintro e w3 ⟨k0, k1, ta, tn, tc, la, ln, lc, rfl, h3⟩; have B3 := hide ((unhide B2).next (unhide h3).kept); have z0 := (unhide B3).cell 0 _ rfl; have y0 := (unhide B3).froz 0; have z1 := (unhide B3).cell 1 _ rfl; have y1 := (unhide B3).froz 1; have z2 := (unhide B3).cell 2 _ rfl; have y2 := (unhide B3).froz 2; have z3 := (unhide B3).cell 3 _ rfl; have y3 := (unhide B3).froz 3))
    refine bodyPost_ret (reply_end _ _ (store4 (unhide B3).box rfl _ _ _ _) rfl rfl) rfl ?_
    exact rp_out (unhide B2) (unhide h3)
theorem reply_error (w : World) (pd : Nat) (a : Option Addr) (n cp : Nat) (r : List Nat) (d : Nat) (h : DcAt w pd a n cp (45 :: r)) (hU : UOk w) (hp : 2 < pd) (hl : n ≤ 140737488355328) :
    Calls Tryz.prog 52 #[.pointer (some ⟨pd, 0, none⟩), .int .i64 ((8 - d : Nat) : Int)] w (RpEnd w pd (d + 1) ((Larder8.lineP r).map (fun t => (mkR 2 0 t [])))) := by
  obtain ⟨b, off, rfl, hbp⟩ := h.so
  have hb0 := Bx.new w pd (block_lt h.box)
  have k1 : Below w.heap.size w (w.alloc (.cells #[.int .i64 0, .int .i64 0, .slice none 0 0, .slice none 0 0] 31)) := (Below.refl _ _).alloc (Nat.le_refl _) _
  have h1 := h.below k1
  have u1 := UOk.below _ _ hU k1
  have c1 := h1.cell0
  have f1 := h1.froz0
  have hlen := h.rst.len
  have hle := h.rst.le
  simp only [List.length_cons] at hlen
  have q0 : (0 : Int) < (n : Int) := by omega
  have q1 : (1 : Int) ≤ (n : Int) := by omega
  have q2 : (1 : Int) ≤ (cp : Int) := by omega
  have q3 : (n == 0) = false := by rw [beq_eq_false_iff_ne]; omega
  have q4 : ((n : Int) == 0) = false := by rw [beq_eq_false_iff_ne]; omega
  have d1 : (w.alloc (.cells #[.int .i64 0, .int .i64 0, .slice none 0 0, .slice none 0 0] 31)).cell? ⟨b, off, none⟩ = some (.int .u8 45) := by
    obtain ⟨b2, off2, e, -, hc⟩ := h1.rst.at (show 0 < n by omega)
    cases e
    exact hc 0 (by omega)
  have HM : Hid (∀ a', (a' = some ⟨b, off + 1, none⟩ ∨ cp = 1 ∧ a' = some ⟨b, off, none⟩) → DcAt ((w.alloc (.cells #[.int .i64 0, .int .i64 0, .slice none 0 0, .slice none 0 0] 31)).setCell ⟨pd, 0, none⟩ (.slice a' (n - 1) (cp - 1))) pd a' (n - 1) (cp - 1) r) := hide (fun a' ha => h1.move (Below.refl _ _) 1 a' (by omega) ha)
  have HU : Hid (∀ v, UOk ((w.alloc (.cells #[.int .i64 0, .int .i64 0, .slice none 0 0, .slice none 0 0] 31)).setCell ⟨pd, 0, none⟩ v)) := hide (fun v => u1.dck DcK.put hp)
  have HB : Hid (∀ v, Bx w ((w.alloc (.cells #[.int .i64 0, .int .i64 0, .slice none 0 0, .slice none 0 0] 31)).setCell ⟨pd, 0, none⟩ v) pd) := hide (fun v => hb0.next DcK.put)
  have hl1 : n - 1 ≤ 140737488355328 := by omega
  clear h h1 u1 hU hb0 k1 hlen hle hl
  by_cases hcp : cp = 1
  · obtain rfl := hcp
    have H2 := hide (unhide HM (some ⟨b, off, none⟩) (.inr ⟨rfl, rfl⟩))
    rw [Nat.sub_self] at H2
    have U2 := hide (unhide HU (.slice (some ⟨b, off, none⟩) (n - 1) 0))
    have B2 := hide (unhide HB (.slice (some ⟨b, off, none⟩) (n - 1) 0))
    have CP := hide (part_line (d := d) 2 (unhide H2) (unhide U2) hp)
    obtain ⟨P, hPP⟩ : ∃ P : Larder8.St (Tr (d + 1)), P = (Larder8.lineP r).map (fun t => (mkR 2 0 t [])) := ⟨_, rfl⟩
    rw [← hPP] at CP ⊢
    clear hPP
    unfold Part at CP
    go_enter Tryz.func52, Tryz.ntmps52
    go_wp2_with (first
      | (go_at_call 66; with_reducible refine (unhide CP).mono ?_; rintro e w3 ⟨k0, k1, ta, tn, tc, la, ln, lc, rfl, h3⟩; have B3 := hide ((unhide B2).next (unhide h3).kept); have z0 := (unhide B3).cell 0 _ rfl; have y0 := (unhide B3).froz 0; have z1 := (unhide B3).cell 1 _ rfl; have y1 := (unhide B3).froz 1; have z2 := (unhide B3).cell 2 _ rfl; have y2 := (unhide B3).froz 2; have z3 := (unhide B3).cell 3 _ rfl; have y3 := (unhide B3).froz 3))
    refine bodyPost_ret (reply_end _ _ (store4 (unhide B3).box rfl _ _ _ _) rfl rfl) rfl ?_
    exact rp_out (unhide B2) (unhide h3)
  · have hne : (cp = 1) = False := eq_false hcp
    clear hcp
    have H2 := hide (unhide HM (some ⟨b, off + 1, none⟩) (.inl rfl))
    have U2 := hide (unhide HU (.slice (some ⟨b, off + 1, none⟩) (n - 1) (cp - 1)))
    have B2 := hide (unhide HB (.slice (some ⟨b, off + 1, none⟩) (n - 1) (cp - 1)))
    have CP := hide (part_line (d := d) 2 (unhide H2) (unhide U2) hp)
    obtain ⟨P, hPP⟩ : ∃ P : Larder8.St (Tr (d + 1)), P = (Larder8.lineP r).map (fun t => (mkR 2 0 t [])) := ⟨_, rfl⟩
    rw [← hPP] at CP ⊢
    clear hPP
    unfold Part at CP
    go_enter Tryz.func52, Tryz.ntmps52
    go_wp2_with (first
      | (go_at_call 66; with_reducible refine (unhide CP).mono ?_; rintro e w3 ⟨k0, k1, ta, tn, tc, la, ln, lc, rfl, h3⟩; have B3 := hide ((unhide B2).next (unhide h3).kept); have z0 := (unhide B3).cell 0 _ rfl; have y0 := (unhide B3).froz 0; have z1 := (unhide B3).cell 1 _ rfl; have y1 := (unhide B3).froz 1; have z2 := (unhide B3).cell 2 _ rfl; have y2 := (unhide B3).froz 2; have z3 := (unhide B3).cell 3 _ rfl; have y3 := (unhide B3).froz 3))
    refine bodyPost_ret (reply_end _ _ (store4 (unhide B3).box rfl _ _ _ _) rfl rfl) rfl ?_
    exact rp_out (unhide B2) (unhide h3)
theorem reply_num (w : World) (pd : Nat) (a : Option Addr) (n cp : Nat) (r : List Nat) (d : Nat) (h : DcAt w pd a n cp (58 :: r)) (hU : UOk w) (hp : 2 < pd) (hl : n ≤ 140737488355328) :
    Calls Tryz.prog 52 #[.pointer (some ⟨pd, 0, none⟩), .int .i64 ((8 - d : Nat) : Int)] w (RpEnd w pd (d + 1) ((Larder8.numP (-9223372036854775808) 9223372036854775807 r).map (fun n => (mkR 3 n [] [])))) := by
  obtain ⟨b, off, rfl, hbp⟩ := h.so
  have hb0 := Bx.new w pd (block_lt h.box)
  have k1 : Below w.heap.size w (w.alloc (.cells #[.int .i64 0, .int .i64 0, .slice none 0 0, .slice none 0 0] 31)) := (Below.refl _ _).alloc (Nat.le_refl _) _
  have h1 := h.below k1
  have u1 := UOk.below _ _ hU k1
  have c1 := h1.cell0
  have f1 := h1.froz0
  have hlen := h.rst.len
  have hle := h.rst.le
  simp only [List.length_cons] at hlen
  have q0 : (0 : Int) < (n : Int) := by omega
  have q1 : (1 : Int) ≤ (n : Int) := by omega
  have q2 : (1 : Int) ≤ (cp : Int) := by omega
  have q3 : (n == 0) = false := by rw [beq_eq_false_iff_ne]; omega
  have q4 : ((n : Int) == 0) = false := by rw [beq_eq_false_iff_ne]; omega
  have d1 : (w.alloc (.cells #[.int .i64 0, .int .i64 0, .slice none 0 0, .slice none 0 0] 31)).cell? ⟨b, off, none⟩ = some (.int .u8 58) := by
    obtain ⟨b2, off2, e, -, hc⟩ := h1.rst.at (show 0 < n by omega)
    cases e
    exact hc 0 (by omega)
  have HM : Hid (∀ a', (a' = some ⟨b, off + 1, none⟩ ∨ cp = 1 ∧ a' = some ⟨b, off, none⟩) → DcAt ((w.alloc (.cells #[.int .i64 0, .int .i64 0, .slice none 0 0, .slice none 0 0] 31)).setCell ⟨pd, 0, none⟩ (.slice a' (n - 1) (cp - 1))) pd a' (n - 1) (cp - 1) r) := hide (fun a' ha => h1.move (Below.refl _ _) 1 a' (by omega) ha)
  have HU : Hid (∀ v, UOk ((w.alloc (.cells #[.int .i64 0, .int .i64 0, .slice none 0 0, .slice none 0 0] 31)).setCell ⟨pd, 0, none⟩ v)) := hide (fun v => u1.dck DcK.put hp)
  have HB : Hid (∀ v, Bx w ((w.alloc (.cells #[.int .i64 0, .int .i64 0, .slice none 0 0, .slice none 0 0] 31)).setCell ⟨pd, 0, none⟩ v) pd) := hide (fun v => hb0.next DcK.put)
  have hl1 : n - 1 ≤ 140737488355328 := by omega
  clear h h1 u1 hU hb0 k1 hlen hle hl
  by_cases hcp : cp = 1
  · obtain rfl := hcp
    have H2 := hide (unhide HM (some ⟨b, off, none⟩) (.inr ⟨rfl, rfl⟩))
    rw [Nat.sub_self] at H2
    have U2 := hide (unhide HU (.slice (some ⟨b, off, none⟩) (n - 1) 0))
    have B2 := hide (unhide HB (.slice (some ⟨b, off, none⟩) (n - 1) 0))
    have CP := hide (dnum_any _ pd _ _ _ _ (-9223372036854775808) 9223372036854775807 (unhide H2) hl1 ⟨by omega, by omega⟩ ⟨by omega, by omega⟩)
    obtain ⟨P, hPP⟩ : ∃ P, P = Larder8.numP (-9223372036854775808) 9223372036854775807 r := ⟨_, rfl⟩
    rw [← hPP] at CP ⊢
    clear hPP
    unfold NumEnd at CP
    go_enter Tryz.func52, Tryz.ntmps52
    go_wp2_with (first
      | (go_at_call 67; with_reducible refine (unhide CP).mono ?_; rintro e w3 ⟨v, rfl, h3⟩; have B3 := hide ((unhide B2).next (unhide h3).1); have z0 := (unhide B3).cell 0 _ rfl; have y0 := (unhide B3).froz 0; have z1 := (unhide B3).cell 1 _ rfl; have y1 := (unhide B3).froz 1; have z2 := (unhide B3).cell 2 _ rfl; have y2 := (unhide B3).froz 2; have z3 := (unhide B3).cell 3 _ rfl; have y3 := (unhide B3).froz 3))
    refine bodyPost_ret (reply_end _ _ (store4 (unhide B3).box rfl _ _ _ _) rfl rfl) rfl ?_
    have := rp_out (unhide B2) (told_num (d := d) (unhide h3))
    rw [map_err] at this
    exact this
  · have hne : (cp = 1) = False := eq_false hcp
    clear hcp
    have H2 := hide (unhide HM (some ⟨b, off + 1, none⟩) (.inl rfl))
    have U2 := hide (unhide HU (.slice (some ⟨b, off + 1, none⟩) (n - 1) (cp - 1)))
    have B2 := hide (unhide HB (.slice (some ⟨b, off + 1, none⟩) (n - 1) (cp - 1)))
    have CP := hide (dnum_any _ pd _ _ _ _ (-9223372036854775808) 9223372036854775807 (unhide H2) hl1 ⟨by omega, by omega⟩ ⟨by omega, by omega⟩)
    obtain ⟨P, hPP⟩ : ∃ P, P = Larder8.numP (-9223372036854775808) 9223372036854775807 r := ⟨_, rfl⟩
    rw [← hPP] at CP ⊢
    clear hPP
    unfold NumEnd at CP
    go_enter Tryz.func52, Tryz.ntmps52
    go_wp2_with (first
      | (go_at_call 67; with_reducible refine (unhide CP).mono ?_; rintro e w3 ⟨v, rfl, h3⟩; have B3 := hide ((unhide B2).next (unhide h3).1); have z0 := (unhide B3).cell 0 _ rfl; have y0 := (unhide B3).froz 0; have z1 := (unhide B3).cell 1 _ rfl; have y1 := (unhide B3).froz 1; have z2 := (unhide B3).cell 2 _ rfl; have y2 := (unhide B3).froz 2; have z3 := (unhide B3).cell 3 _ rfl; have y3 := (unhide B3).froz 3))
    refine bodyPost_ret (reply_end _ _ (store4 (unhide B3).box rfl _ _ _ _) rfl rfl) rfl ?_
    have := rp_out (unhide B2) (told_num (d := d) (unhide h3))
    rw [map_err] at this
    exact this
theorem reply_bulk (w : World) (pd : Nat) (a : Option Addr) (n cp : Nat) (r : List Nat) (d : Nat) (h : DcAt w pd a n cp (36 :: r)) (hU : UOk w) (hp : 2 < pd) (hl : n ≤ 140737488355328) :
    Calls Tryz.prog 52 #[.pointer (some ⟨pd, 0, none⟩), .int .i64 ((8 - d : Nat) : Int)] w (RpEnd w pd (d + 1) ((Larder8.bulkP r).map (fun o => match o with | none => (mkR 5 0 [] []) | some t => (mkR 4 0 t [])))) := by
  obtain ⟨b, off, rfl, hbp⟩ := h.so
  have hb0 := Bx.new w pd (block_lt h.box)
  have k1 : Below w.heap.size w (w.alloc (.cells #[.int .i64 0, .int .i64 0, .slice none 0 0, .slice none 0 0] 31)) := (Below.refl _ _).alloc (Nat.le_refl _) _
  have h1 := h.below k1
  have u1 := UOk.below _ _ hU k1
  have c1 := h1.cell0
  have f1 := h1.froz0
  have hlen := h.rst.len
  have hle := h.rst.le
  simp only [List.length_cons] at hlen
  have q0 : (0 : Int) < (n : Int) := by omega
  have q1 : (1 : Int) ≤ (n : Int) := by omega
  have q2 : (1 : Int) ≤ (cp : Int) := by omega
  have q3 : (n == 0) = false := by rw [beq_eq_false_iff_ne]; omega
  have q4 : ((n : Int) == 0) = false := by rw [beq_eq_false_iff_ne]; omega
  have d1 : (w.alloc (.cells #[.int .i64 0, .int .i64 0, .slice none 0 0, .slice none 0 0] 31)).cell? ⟨b, off, none⟩ = some (.int .u8 36) := by
    obtain ⟨b2, off2, e, -, hc⟩ := h1.rst.at (show 0 < n by omega)
    cases e
    exact hc 0 (by omega)
  have HM : Hid (∀ a', (a' = some ⟨b, off + 1, none⟩ ∨ cp = 1 ∧ a' = some ⟨b, off, none⟩) → DcAt ((w.alloc (.cells #[.int .i64 0, .int .i64 0, .slice none 0 0, .slice none 0 0] 31)).setCell ⟨pd, 0, none⟩ (.slice a' (n - 1) (cp - 1))) pd a' (n - 1) (cp - 1) r) := hide (fun a' ha => h1.move (Below.refl _ _) 1 a' (by omega) ha)
  have HU : Hid (∀ v, UOk ((w.alloc (.cells #[.int .i64 0, .int .i64 0, .slice none 0 0, .slice none 0 0] 31)).setCell ⟨pd, 0, none⟩ v)) := hide (fun v => u1.dck DcK.put hp)
  have HB : Hid (∀ v, Bx w ((w.alloc (.cells #[.int .i64 0, .int .i64 0, .slice none 0 0, .slice none 0 0] 31)).setCell ⟨pd, 0, none⟩ v) pd) := hide (fun v => hb0.next DcK.put)
  have hl1 : n - 1 ≤ 140737488355328 := by omega
  clear h h1 u1 hU hb0 k1 hlen hle hl
  by_cases hcp : cp = 1
  · obtain rfl := hcp
    have H2 := hide (unhide HM (some ⟨b, off, none⟩) (.inr ⟨rfl, rfl⟩))
    rw [Nat.sub_self] at H2
    have U2 := hide (unhide HU (.slice (some ⟨b, off, none⟩) (n - 1) 0))
    have B2 := hide (unhide HB (.slice (some ⟨b, off, none⟩) (n - 1) 0))
    have CP := hide (part_bulk (d := d) (unhide H2) hl1)
    obtain ⟨P, hPP⟩ : ∃ P : Larder8.St (Tr (d + 1)), P = (Larder8.bulkP r).map (fun o => match o with | none => (mkR 5 0 [] []) | some t => (mkR 4 0 t [])) := ⟨_, rfl⟩
    rw [← hPP] at CP ⊢
    clear hPP
    unfold Part at CP
    go_enter Tryz.func52, Tryz.ntmps52
    go_wp2_with (first
      | (go_at_call 68; with_reducible refine (unhide CP).mono ?_; rintro e w3 ⟨k0, k1, ta, tn, tc, la, ln, lc, rfl, h3⟩; have B3 := hide ((unhide B2).next (unhide h3).kept); have z0 := (unhide B3).cell 0 _ rfl; have y0 := (unhide B3).froz 0; have z1 := (unhide B3).cell 1 _ rfl; have y1 := (unhide B3).froz 1; have z2 := (unhide B3).cell 2 _ rfl; have y2 := (unhide B3).froz 2; have z3 := (unhide B3).cell 3 _ rfl; have y3 := (unhide B3).froz 3))
    refine bodyPost_ret (reply_end _ _ (store4 (unhide B3).box rfl _ _ _ _) rfl rfl) rfl ?_
    exact rp_out (unhide B2) (unhide h3)
  · have hne : (cp = 1) = False := eq_false hcp
    clear hcp
    have H2 := hide (unhide HM (some ⟨b, off + 1, none⟩) (.inl rfl))
    have U2 := hide (unhide HU (.slice (some ⟨b, off + 1, none⟩) (n - 1) (cp - 1)))
    have B2 := hide (unhide HB (.slice (some ⟨b, off + 1, none⟩) (n - 1) (cp - 1)))
    have CP := hide (part_bulk (d := d) (unhide H2) hl1)
    obtain ⟨P, hPP⟩ : ∃ P : Larder8.St (Tr (d + 1)), P = (Larder8.bulkP r).map (fun o => match o with | none => (mkR 5 0 [] []) | some t => (mkR 4 0 t [])) := ⟨_, rfl⟩
    rw [← hPP] at CP ⊢
    clear hPP
    unfold Part at CP
    go_enter Tryz.func52, Tryz.ntmps52
    go_wp2_with (first
      | (go_at_call 68; with_reducible refine (unhide CP).mono ?_; rintro e w3 ⟨k0, k1, ta, tn, tc, la, ln, lc, rfl, h3⟩; have B3 := hide ((unhide B2).next (unhide h3).kept); have z0 := (unhide B3).cell 0 _ rfl; have y0 := (unhide B3).froz 0; have z1 := (unhide B3).cell 1 _ rfl; have y1 := (unhide B3).froz 1; have z2 := (unhide B3).cell 2 _ rfl; have y2 := (unhide B3).froz 2; have z3 := (unhide B3).cell 3 _ rfl; have y3 := (unhide B3).froz 3))
    refine bodyPost_ret (reply_end _ _ (store4 (unhide B3).box rfl _ _ _ _) rfl rfl) rfl ?_
    exact rp_out (unhide B2) (unhide h3)
theorem reply_array (w : World) (pd : Nat) (a : Option Addr) (n cp : Nat) (r : List Nat) (d : Nat) (h : DcAt w pd a n cp (42 :: r)) (hU : UOk w) (hp : 2 < pd) (hl : n ≤ 140737488355328) (AR : ∀ (W : World) (a : Option Addr) (n cp : Nat) (R : List Nat), DcAt W pd a n cp R → UOk W → n ≤ 140737488355328 → Part W pd (d + 1) 69 #[.pointer (some ⟨pd, 0, none⟩), .int .i64 ((8 - d : Nat) : Int)] (arrP (repP d) R)) :
    Calls Tryz.prog 52 #[.pointer (some ⟨pd, 0, none⟩), .int .i64 ((8 - d : Nat) : Int)] w (RpEnd w pd (d + 1) (arrP (repP d) r)) := by
  obtain ⟨b, off, rfl, hbp⟩ := h.so
  have hb0 := Bx.new w pd (block_lt h.box)
  have k1 : Below w.heap.size w (w.alloc (.cells #[.int .i64 0, .int .i64 0, .slice none 0 0, .slice none 0 0] 31)) := (Below.refl _ _).alloc (Nat.le_refl _) _
  have h1 := h.below k1
  have u1 := UOk.below _ _ hU k1
  have c1 := h1.cell0
  have f1 := h1.froz0
  have hlen := h.rst.len
  have hle := h.rst.le
  simp only [List.length_cons] at hlen
  have q0 : (0 : Int) < (n : Int) := by omega
  have q1 : (1 : Int) ≤ (n : Int) := by omega
  have q2 : (1 : Int) ≤ (cp : Int) := by omega
  have q3 : (n == 0) = false := by rw [beq_eq_false_iff_ne]; omega
  have q4 : ((n : Int) == 0) = false := by rw [beq_eq_false_iff_ne]; omega
  have d1 : (w.alloc (.cells #[.int .i64 0, .int .i64 0, .slice none 0 0, .slice none 0 0] 31)).cell? ⟨b, off, none⟩ = some (.int .u8 42) := by
    obtain ⟨b2, off2, e, -, hc⟩ := h1.rst.at (show 0 < n by omega)
    cases e
    exact hc 0 (by omega)
  have HM : Hid (∀ a', (a' = some ⟨b, off + 1, none⟩ ∨ cp = 1 ∧ a' = some ⟨b, off, none⟩) → DcAt ((w.alloc (.cells #[.int .i64 0, .int .i64 0, .slice none 0 0, .slice none 0 0] 31)).setCell ⟨pd, 0, none⟩ (.slice a' (n - 1) (cp - 1))) pd a' (n - 1) (cp - 1) r) := hide (fun a' ha => h1.move (Below.refl _ _) 1 a' (by omega) ha)
  have HU : Hid (∀ v, UOk ((w.alloc (.cells #[.int .i64 0, .int .i64 0, .slice none 0 0, .slice none 0 0] 31)).setCell ⟨pd, 0, none⟩ v)) := hide (fun v => u1.dck DcK.put hp)
  have HB : Hid (∀ v, Bx w ((w.alloc (.cells #[.int .i64 0, .int .i64 0, .slice none 0 0, .slice none 0 0] 31)).setCell ⟨pd, 0, none⟩ v) pd) := hide (fun v => hb0.next DcK.put)
  have hl1 : n - 1 ≤ 140737488355328 := by omega
  clear h h1 u1 hU hb0 k1 hlen hle hl
  by_cases hcp : cp = 1
  · obtain rfl := hcp
    have H2 := hide (unhide HM (some ⟨b, off, none⟩) (.inr ⟨rfl, rfl⟩))
    rw [Nat.sub_self] at H2
    have U2 := hide (unhide HU (.slice (some ⟨b, off, none⟩) (n - 1) 0))
    have B2 := hide (unhide HB (.slice (some ⟨b, off, none⟩) (n - 1) 0))
    have CP := hide (AR _ _ _ _ _ (unhide H2) (unhide U2) hl1)
    obtain ⟨P, hPP⟩ : ∃ P : Larder8.St (Tr (d + 1)), P = arrP (repP d) r := ⟨_, rfl⟩
    rw [← hPP] at CP ⊢
    clear hPP
    unfold Part at CP
    go_enter Tryz.func52, Tryz.ntmps52
    go_wp2_with (first
      | (go_at_call 69; with_reducible refine (unhide CP).mono ?_; rintro e w3 ⟨k0, k1, ta, tn, tc, la, ln, lc, rfl, h3⟩; have B3 := hide ((unhide B2).next (unhide h3).kept); have z0 := (unhide B3).cell 0 _ rfl; have y0 := (unhide B3).froz 0; have z1 := (unhide B3).cell 1 _ rfl; have y1 := (unhide B3).froz 1; have z2 := (unhide B3).cell 2 _ rfl; have y2 := (unhide B3).froz 2; have z3 := (unhide B3).cell 3 _ rfl; have y3 := (unhide B3).froz 3))
    refine bodyPost_ret (reply_end _ _ (store4 (unhide B3).box rfl _ _ _ _) rfl rfl) rfl ?_
    exact rp_out (unhide B2) (unhide h3)
  · have hne : (cp = 1) = False := eq_false hcp
    clear hcp
    have H2 := hide (unhide HM (some ⟨b, off + 1, none⟩) (.inl rfl))
    have U2 := hide (unhide HU (.slice (some ⟨b, off + 1, none⟩) (n - 1) (cp - 1)))
    have B2 := hide (unhide HB (.slice (some ⟨b, off + 1, none⟩) (n - 1) (cp - 1)))
    have CP := hide (AR _ _ _ _ _ (unhide H2) (unhide U2) hl1)
    obtain ⟨P, hPP⟩ : ∃ P : Larder8.St (Tr (d + 1)), P = arrP (repP d) r := ⟨_, rfl⟩
    rw [← hPP] at CP ⊢
    clear hPP
    unfold Part at CP
    go_enter Tryz.func52, Tryz.ntmps52
    go_wp2_with (first
      | (go_at_call 69; with_reducible refine (unhide CP).mono ?_; rintro e w3 ⟨k0, k1, ta, tn, tc, la, ln, lc, rfl, h3⟩; have B3 := hide ((unhide B2).next (unhide h3).kept); have z0 := (unhide B3).cell 0 _ rfl; have y0 := (unhide B3).froz 0; have z1 := (unhide B3).cell 1 _ rfl; have y1 := (unhide B3).froz 1; have z2 := (unhide B3).cell 2 _ rfl; have y2 := (unhide B3).froz 2; have z3 := (unhide B3).cell 3 _ rfl; have y3 := (unhide B3).froz 3))
    refine bodyPost_ret (reply_end _ _ (store4 (unhide B3).box rfl _ _ _ _) rfl rfl) rfl ?_
    exact rp_out (unhide B2) (unhide h3)
theorem reply_other (w : World) (pd : Nat) (a : Option Addr) (n cp c : Nat) (r : List Nat) (d : Nat) (h : DcAt w pd a n cp (c :: r)) (hU : UOk w) (hp : 2 < pd) (hl : n ≤ 140737488355328) (m43 : c ≠ 43) (m45 : c ≠ 45) (m58 : c ≠ 58) (m36 : c ≠ 36) (m42 : c ≠ 42):
    Calls Tryz.prog 52 #[.pointer (some ⟨pd, 0, none⟩), .int .i64 ((8 - d : Nat) : Int)] w (RpEnd w pd (d + 1) (.wrong)) := by
  obtain ⟨b, off, rfl, hbp⟩ := h.so
  have hb0 := Bx.new w pd (block_lt h.box)
  have k1 : Below w.heap.size w (w.alloc (.cells #[.int .i64 0, .int .i64 0, .slice none 0 0, .slice none 0 0] 31)) := (Below.refl _ _).alloc (Nat.le_refl _) _
  have h1 := h.below k1
  have u1 := UOk.below _ _ hU k1
  have c1 := h1.cell0
  have f1 := h1.froz0
  have hlen := h.rst.len
  have hle := h.rst.le
  simp only [List.length_cons] at hlen
  have q0 : (0 : Int) < (n : Int) := by omega
  have q1 : (1 : Int) ≤ (n : Int) := by omega
  have q2 : (1 : Int) ≤ (cp : Int) := by omega
  have q3 : (n == 0) = false := by rw [beq_eq_false_iff_ne]; omega
  have q4 : ((n : Int) == 0) = false := by rw [beq_eq_false_iff_ne]; omega
  have d1 : (w.alloc (.cells #[.int .i64 0, .int .i64 0, .slice none 0 0, .slice none 0 0] 31)).cell? ⟨b, off, none⟩ = some (.int .u8 (c : Nat)) := by
    obtain ⟨b2, off2, e, -, hc⟩ := h1.rst.at (show 0 < n by omega)
    cases e
    exact hc 0 (by omega)
  have hc8 : c < 256 := by have := h.sm 0 (by simp); simpa using this
  have HM : Hid (∀ a', (a' = some ⟨b, off + 1, none⟩ ∨ cp = 1 ∧ a' = some ⟨b, off, none⟩) → DcAt ((w.alloc (.cells #[.int .i64 0, .int .i64 0, .slice none 0 0, .slice none 0 0] 31)).setCell ⟨pd, 0, none⟩ (.slice a' (n - 1) (cp - 1))) pd a' (n - 1) (cp - 1) r) := hide (fun a' ha => h1.move (Below.refl _ _) 1 a' (by omega) ha)
  have HU : Hid (∀ v, UOk ((w.alloc (.cells #[.int .i64 0, .int .i64 0, .slice none 0 0, .slice none 0 0] 31)).setCell ⟨pd, 0, none⟩ v)) := hide (fun v => u1.dck DcK.put hp)
  have HB : Hid (∀ v, Bx w ((w.alloc (.cells #[.int .i64 0, .int .i64 0, .slice none 0 0, .slice none 0 0] 31)).setCell ⟨pd, 0, none⟩ v) pd) := hide (fun v => hb0.next DcK.put)
  have hl1 : n - 1 ≤ 140737488355328 := by omega
  have e43 : ((c : Int) == 43) = false := by rw [beq_eq_false_iff_ne]; omega
  have e45 : ((c : Int) == 45) = false := by rw [beq_eq_false_iff_ne]; omega
  have e58 : ((c : Int) == 58) = false := by rw [beq_eq_false_iff_ne]; omega
  have e36 : ((c : Int) == 36) = false := by rw [beq_eq_false_iff_ne]; omega
  have e42 : ((c : Int) == 42) = false := by rw [beq_eq_false_iff_ne]; omega
  clear h h1 u1 hU hb0 k1 hlen hle hl m43 m45 m58 m36 m42
  by_cases hcp : cp = 1
  · obtain rfl := hcp
    have H2 := hide (unhide HM (some ⟨b, off, none⟩) (.inr ⟨rfl, rfl⟩))
    rw [Nat.sub_self] at H2
    have U2 := hide (unhide HU (.slice (some ⟨b, off, none⟩) (n - 1) 0))
    have B2 := hide (unhide HB (.slice (some ⟨b, off, none⟩) (n - 1) 0))
    have B3 := B2
    have z0 := (unhide B3).cell 0 _ rfl; have y0 := (unhide B3).froz 0; have z1 := (unhide B3).cell 1 _ rfl; have y1 := (unhide B3).froz 1; have z2 := (unhide B3).cell 2 _ rfl; have y2 := (unhide B3).froz 2; have z3 := (unhide B3).cell 3 _ rfl; have y3 := (unhide B3).froz 3
    go_enter Tryz.func52, Tryz.ntmps52
    go_wp2_with fail
    refine bodyPost_ret (reply_end _ _ (store4 (unhide B3).box rfl _ _ _ _) rfl rfl) rfl ?_
    exact rp_out (P := .wrong) (unhide B2) ⟨DcK.refl _ _, fun x r e => (by cases e)⟩
  · have hne : (cp = 1) = False := eq_false hcp
    clear hcp
    have H2 := hide (unhide HM (some ⟨b, off + 1, none⟩) (.inl rfl))
    have U2 := hide (unhide HU (.slice (some ⟨b, off + 1, none⟩) (n - 1) (cp - 1)))
    have B2 := hide (unhide HB (.slice (some ⟨b, off + 1, none⟩) (n - 1) (cp - 1)))
    have B3 := B2
    have z0 := (unhide B3).cell 0 _ rfl; have y0 := (unhide B3).froz 0; have z1 := (unhide B3).cell 1 _ rfl; have y1 := (unhide B3).froz 1; have z2 := (unhide B3).cell 2 _ rfl; have y2 := (unhide B3).froz 2; have z3 := (unhide B3).cell 3 _ rfl; have y3 := (unhide B3).froz 3
    go_enter Tryz.func52, Tryz.ntmps52
    go_wp2_with fail
    refine bodyPost_ret (reply_end _ _ (store4 (unhide B3).box rfl _ _ _ _) rfl rfl) rfl ?_
    exact rp_out (P := .wrong) (unhide B2) ⟨DcK.refl _ _, fun x r e => (by cases e)⟩
end Go.Proofs.YtecfgbjnjgjkoaaGreatDoor
