/- EqReply of two replies that hold the same. -/
import Derived.Test.YtecfgbjnjgjkoaaGreatDoorDdi
import Derived.Deep.RegionHeld3
namespace Go.Proofs.YtecfgbjnjgjkoaaGreatDoor
open Go.ChangeShapes Go.WideShapes Go.ChangeAt Go.RowKit
set_option linter.unusedVariables false
set_option linter.unusedSimpArgs false
set_option maxRecDepth 20000
set_option maxHeartbeats 8000000

theorem Ix.dr {w W : World} {d : Nat} {S : Nat → Prop} {x : Tr d} {u0 u1 u2 u3 : Value} (h : DrAt W d S x u0 u1 u2 u3) (hS : ∀ b, S b → w.heap.size < b) (v0 v1 v2 v3 : Value) : DrAt ((((W.setCell ⟨w.heap.size, 0, none⟩ v0).setCell ⟨w.heap.size, 1, none⟩ v1).setCell ⟨w.heap.size, 2, none⟩ v2).setCell ⟨w.heap.size, 3, none⟩ v3) d (fun b => w.heap.size ≤ b) x u0 u1 u2 u3 :=
  (h.same (fun b hb _ => by
    have := hS b hb
    rw [Bk.setCell_else _ _ _ _ _ (by omega), Bk.setCell_else _ _ _ _ _ (by omega), Bk.setCell_else _ _ _ _ _ (by omega), Bk.setCell_else _ _ _ _ _ (by omega)])).mono (fun b hb => Nat.le_of_lt (hS b hb))
theorem item_arr (w : World) (a : Option Addr) (n cp d : Nat) (r : List Nat) (I : Int) (h : Rst w a n cp (42 :: r)) (hl : n ≤ 1073741824) (P : Larder8.St (Tr (d + 1)))
    (CL : ∀ W, Below w.heap.size w W → Calls Tryz.prog 73 #[.slice a n cp, .int .i64 I] W (ItEnd W (d + 1) n P)) :
    Calls Tryz.prog 53 #[.slice a n cp, .int .i64 I] w (ItEnd w (d + 1) n P) := by
  have hlen := h.len
  have hle := h.le
  have htop := h.top
  simp only [List.length_cons] at hlen
  obtain ⟨b, off, rfl, hbl, hcell⟩ := h.at (show 0 < n by omega)
  have k1 : Below w.heap.size w (w.alloc (.cells #[.int .i64 0, .int .i64 0, .slice none 0 0, .slice none 0 0] 31)) := (Below.refl _ _).alloc (Nat.le_refl _) _
  have h1 := h.below k1
  have d1 : (w.alloc (.cells #[.int .i64 0, .int .i64 0, .slice none 0 0, .slice none 0 0] 31)).cell? ⟨b, off, none⟩ = some (.int .u8 42) := by
    rw [k1.cell (show b < _ from hbl)]
    exact hcell 0 (by omega)
  have q0 : (0 : Int) < (n : Int) := by omega
  have q1 : (1 : Int) ≤ (n : Int) := by omega
  have q2 : (1 : Int) ≤ (cp : Int) := by omega
  have q4 : ((n : Int) == 0) = false := by rw [beq_eq_false_iff_ne]; omega
  have B0 := hide (Ix.new w)
  have HR : Hid (∀ a', (a' = some ⟨b, off + 1, none⟩ ∨ cp = 1 ∧ a' = some ⟨b, off, none⟩) → Rst (w.alloc (.cells #[.int .i64 0, .int .i64 0, .slice none 0 0, .slice none 0 0] 31)) a' (n - 1) (cp - 1) r) := hide (fun a' ha => by
    rcases ha with e | ⟨e1, e2⟩
    · rw [e]; exact h1.drop 1 (by omega)
    · rw [e2]; have := h1.brim 1 e1; exact this)
  have HN := hide hlen
  have CP := hide (CL _ k1)
  unfold ItEnd at CP
  clear h h1 hcell k1 hlen hle htop HR CL
  go_enter Tryz.func53, Tryz.ntmps53
  go_wp2_with (first
    | (go_at_call 73; with_reducible refine (unhide CP).mono ?_; rintro e w3 ⟨k0, k1, ta, tn, tc, la, ln, lc, m, st, rfl, h3⟩; have B3 := hide (((unhide B0).next (unhide h3).2.1).next ((Below.refl _ _).alloc (Nat.le_refl _) (.cells #[.int .i64 k0, .int .i64 k1, .slice ta tn tc, .slice la ln lc] 31))); have z0 := (unhide B3).cell 0 _ rfl; have y0 := (unhide B3).froz 0; have z1 := (unhide B3).cell 1 _ rfl; have y1 := (unhide B3).froz 1; have z2 := (unhide B3).cell 2 _ rfl; have y2 := (unhide B3).froz 2; have z3 := (unhide B3).cell 3 _ rfl; have y3 := (unhide B3).froz 3))
  refine bodyPost_ret (item_end _ _ _ (store4 (unhide B3).box rfl _ _ _ _) rfl rfl rfl) rfl ?_
  refine ⟨k0, k1, ta, tn, tc, la, ln, lc, m, st, rfl, hide ⟨(unhide h3).1, (unhide B3).boxed _ _ _ _, fun x r' e => ?_⟩⟩
  obtain ⟨h4, h5⟩ := (unhide h3).2.2 x r' e
  exact ⟨h4, Ix.dr (h5.same (w' := w3.alloc (.cells #[.int .i64 k0, .int .i64 k1, .slice ta tn tc, .slice la ln lc] 31)) (fun b _ hb => heap_alloc_old _ _ hb)) (fun b hb => by simp at hb; omega) _ _ _ _⟩
theorem lst_ok (d : Nat) (hd : d ≤ 8) (IH : d ≠ 0 → ItOk d (((8 - d : Nat) : Int) + 1)) (W : World) (a : Option Addr) (n cp : Nat) (r : List Nat) (h : Rst W a n cp (42 :: r)) (hs : Small r) (hl : n ≤ 1073741824) :
    Calls Tryz.prog 73 #[.slice a n cp, .int .i64 ((8 - d : Nat) : Int)] W (ItEnd W (d + 1) n (arrP (repP d) r)) := by
  by_cases h0 : d = 0
  · subst h0
    have hI : (((8 - 0 : Nat) : Int) == 8) = true := by decide
    unfold arrP
    rw [if_pos rfl]
    cases hn : Larder8.numP (-1) (-1) r with
    | short => exact list_no8 W a n cp (8 - 0) 0 r h hs hl hI .short (.inl ⟨hn, rfl⟩)
    | wrong => exact list_no8 W a n cp (8 - 0) 0 r h hs hl hI .wrong (.inr ⟨hn, rfl⟩)
    | ok v r' =>
      have hv := Larder8.numP_in hn
      obtain rfl : v = -1 := by omega
      simp only
      rw [if_pos trivial]
      exact list_nil8 W a n cp (8 - 0) 0 r h hs hl hI r' hn
  · have hI : (((8 - d : Nat) : Int) == 8) = false := by rw [beq_eq_false_iff_ne]; omega
    unfold arrP
    rw [if_neg h0]
    cases hn : Larder8.numP (-1) 65536 r with
    | short => exact list_no W a n cp (8 - d) d r h hs hl hI .short (.inl ⟨hn, rfl⟩)
    | wrong => exact list_no W a n cp (8 - d) d r h hs hl hI .wrong (.inr ⟨hn, rfl⟩)
    | ok v r' =>
      have hv := Larder8.numP_in hn
      simp only
      by_cases h1 : v = -1
      · subst h1
        rw [if_pos rfl]
        exact list_nil W a n cp (8 - d) d r h hs hl hI r' hn
      · rw [if_neg h1]
        obtain ⟨m, rfl⟩ : ∃ m : Nat, v = (m : Int) := ⟨v.toNat, by omega⟩
        rw [Int.toNat_natCast]
        exact list_some W a n cp (8 - d) d r h hs hl (by omega) h0 (IH h0) r' m hn
theorem it_of (d : Nat) (hd : d ≤ 8) (IH : d ≠ 0 → ItOk d (((8 - d : Nat) : Int) + 1)) : ItOk (d + 1) ((8 - d : Nat) : Int) := by
  intro W a n cp T h hs hl
  cases T with
  | nil =>
    have hn := h.len
    simp only [List.length_nil] at hn
    subst hn
    exact item_none W a cp d _
  | cons c r =>
    have hr : Small r := fun i hi => by have := hs (i + 1) (by simpa using hi); simpa using this
    unfold repP
    by_cases m43 : c = 43
    · subst m43; rw [if_pos rfl]; exact item_status W a n cp d r _ h hr hl
    rw [if_neg m43]
    by_cases m45 : c = 45
    · subst m45; rw [if_pos rfl]; exact item_error W a n cp d r _ h hr hl
    rw [if_neg m45]
    by_cases m58 : c = 58
    · subst m58; rw [if_pos rfl]; exact item_num W a n cp d r _ h hr hl
    rw [if_neg m58]
    by_cases m36 : c = 36
    · subst m36
      rw [if_pos rfl]
      cases hn : Larder8.numP (-1) 4096 r with
      | short => exact item_bulk_no W a n cp d r _ h hr hl (fun y r' e => by rw [hn] at e; cases e)
      | wrong => exact item_bulk_no W a n cp d r _ h hr hl (fun y r' e => by rw [hn] at e; cases e)
      | ok v r' =>
        have hv := Larder8.numP_in hn
        by_cases h1 : v = -1
        · subst h1
          exact item_bulk_lack W a n cp d r _ h hr hl r' hn
        · obtain ⟨k, rfl⟩ : ∃ k : Nat, v = (k : Int) := ⟨v.toNat, by omega⟩
          exact item_bulk_some W a n cp d r _ h hr hl r' k hn
    rw [if_neg m36]
    by_cases m42 : c = 42
    · subst m42
      rw [if_pos rfl]
      exact item_arr W a n cp d r _ h hl _ (fun V hV => lst_ok d hd IH V a n cp r (h.below hV) hr hl)
    rw [if_neg m42]
    exact item_other W a n cp c d r _ h hl m43 m45 m58 m36 m42
theorem it_all : ∀ d, d ≤ 8 → ItOk (d + 1) ((8 - d : Nat) : Int)
  | 0, hd => it_of 0 hd (fun e => absurd rfl e)
  | d + 1, hd => it_of (d + 1) hd (fun _ => by
      have ih := it_all d (by omega)
      have e : ((8 - (d + 1) : Nat) : Int) + 1 = ((8 - d : Nat) : Int) := by omega
      rw [e]
      exact ih)
theorem rdec_end {W : World} {g : Nat} {v0 v1 v2 v3 : Value} (N st : Int) (tmps : Array Value) (hg : W.heap[g]? = some (.cells #[v0, v1, v2, v3] 31 (0, 0))) (h2 : tmps.getD 2 undef = .pointer (some ⟨g, 0, none⟩)) (h3 : tmps.getD 3 undef = .int .i64 N) (h4 : tmps.getD 4 undef = .int .i64 st) :
    (results Tryz.f29 tmps).run Tryz.prog W = .ok (.tuple #[.agg #[v0, v1, v2, v3], .int .i64 N, .int .i64 st]) W := by
  refine results_box3 (p := 2) (q := 3) (s := 4) (ty := 31) rfl tmps _ g 31 _ (0, 0) _ h2 hg Tryz.underlying31 rfl (by kernel_rfl) _ _ h3 h4
/-- what Decode of the document answers -/
def RdEnd (w : World) (n : Nat) (P : Larder8.St (Tr 9)) (e : Ending) (w' : World) : Prop := ∃ (k0 k1 : Int) (ta : Option Addr) (tn tc : Nat) (la : Option Addr) (ln lc : Nat) (m : Int), e = .returned (.tuple #[.agg #[.int .i64 k0, .int .i64 k1, .slice ta tn tc, .slice la ln lc], .int .i64 m, .int .i64 P.err]) ∧ Hid (Below w.heap.size w w' ∧ (∀ x r, P = .ok x r → m = (n : Int) - (r.length : Int) ∧ DrAt w' 9 (fun b => w.heap.size ≤ b) x (.int .i64 k0) (.int .i64 k1) (.slice ta tn tc) (.slice la ln lc)) ∧ ((∀ x r, P ≠ .ok x r) → m = 0 ∧ k0 = 0 ∧ k1 = 0 ∧ ta = none ∧ tn = 0 ∧ la = none ∧ ln = 0))
theorem st_ok {α : Type} {x : α} {r : List Nat} {st : Int} (h : StD (.ok x r) st) : st = 0 := h
theorem st_short {α : Type} {st : Int} (h : StD (.short : Larder8.St α) st) : st = 1 := h
theorem st_wrong {α : Type} {st : Int} (h : StD (.wrong : Larder8.St α) st) : (st == 0) = false ∧ (st == 1) = false := by
  have h' : st = 2 ∨ st = 3 := h
  constructor <;> (rw [beq_eq_false_iff_ne]; omega)
theorem rdecode_any (w : World) (a : Option Addr) (n cp : Nat) (T : List Nat) (h : Rst w a n cp T) (hs : Small T) (hl : n ≤ 1073741824) :
    Calls Tryz.prog 29 #[.slice a n cp] w (RdEnd w n (repP 9 T)) := by
  have B0 := hide (Ix.new w)
  have HI := it_all 8 (Nat.le_refl _)
  rw [show ((8 - 8 : Nat) : Int) = 0 from rfl] at HI
  have CP := hide (HI _ a n cp T (h.below (unhide B0).k) hs hl)
  unfold ItEnd at CP
  clear HI h hs
  cases hP : repP 9 T with
  | ok x r =>
    rw [hP] at CP
    clear hP
    go_enter Tryz.func29, Tryz.ntmps29
    go_wp2_with (first
      | (go_at_call 53; with_reducible refine (unhide CP).mono ?_; rintro e w3 ⟨k0, k1, ta, tn, tc, la, ln, lc, m, st, rfl, h3⟩; obtain rfl := st_ok (unhide h3).1; have B3 := hide (((unhide B0).next (unhide h3).2.1).next ((Below.refl _ _).alloc (Nat.le_refl _) (.cells #[.int .i64 k0, .int .i64 k1, .slice ta tn tc, .slice la ln lc] 31))); have z0 := (unhide B3).cell 0 _ rfl; have y0 := (unhide B3).froz 0; have z1 := (unhide B3).cell 1 _ rfl; have y1 := (unhide B3).froz 1; have z2 := (unhide B3).cell 2 _ rfl; have y2 := (unhide B3).froz 2; have z3 := (unhide B3).cell 3 _ rfl; have y3 := (unhide B3).froz 3))
    refine bodyPost_ret (rdec_end _ _ _ (store4 (unhide B3).box rfl _ _ _ _) rfl rfl rfl) rfl ?_
    refine ⟨k0, k1, ta, tn, tc, la, ln, lc, m, rfl, hide ⟨(unhide B3).boxed _ _ _ _, fun x' r' e => ?_, fun e => absurd rfl (e x r)⟩⟩
    obtain ⟨h4, h5⟩ := (unhide h3).2.2 x' r' e
    exact ⟨h4, Ix.dr (h5.same (w' := w3.alloc (.cells #[.int .i64 k0, .int .i64 k1, .slice ta tn tc, .slice la ln lc] 31)) (fun b _ hb => heap_alloc_old _ _ hb)) (fun b hb => by simp at hb; omega) _ _ _ _⟩
  | short =>
    rw [hP] at CP
    clear hP
    go_enter Tryz.func29, Tryz.ntmps29
    go_wp2_with (first
      | (go_at_call 53; with_reducible refine (unhide CP).mono ?_; rintro e w3 ⟨k0, k1, ta, tn, tc, la, ln, lc, m, st, rfl, h3⟩; obtain rfl := st_short (unhide h3).1; have B3 := hide (((unhide B0).next (unhide h3).2.1).next ((Below.refl _ _).alloc (Nat.le_refl _) (.cells #[.int .i64 k0, .int .i64 k1, .slice ta tn tc, .slice la ln lc] 31))); have z0 := (unhide B3).cell 0 _ rfl; have y0 := (unhide B3).froz 0; have z1 := (unhide B3).cell 1 _ rfl; have y1 := (unhide B3).froz 1; have z2 := (unhide B3).cell 2 _ rfl; have y2 := (unhide B3).froz 2; have z3 := (unhide B3).cell 3 _ rfl; have y3 := (unhide B3).froz 3))
    refine bodyPost_ret (rdec_end _ _ _ (store4 (unhide B3).box rfl _ _ _ _) rfl rfl rfl) rfl ?_
    exact ⟨0, 0, none, 0, 0, none, 0, 0, 0, rfl, hide ⟨(unhide B3).boxed _ _ _ _, fun x r e => (by cases e), fun _ => ⟨rfl, rfl, rfl, rfl, rfl, rfl, rfl⟩⟩⟩
  | wrong =>
    rw [hP] at CP
    clear hP
    go_enter Tryz.func29, Tryz.ntmps29
    go_wp2_with (first
      | (go_at_call 53; with_reducible refine (unhide CP).mono ?_; rintro e w3 ⟨k0, k1, ta, tn, tc, la, ln, lc, m, st, rfl, h3⟩; obtain ⟨st0, st1⟩ := st_wrong (unhide h3).1; have B3 := hide (((unhide B0).next (unhide h3).2.1).next ((Below.refl _ _).alloc (Nat.le_refl _) (.cells #[.int .i64 k0, .int .i64 k1, .slice ta tn tc, .slice la ln lc] 31))); have z0 := (unhide B3).cell 0 _ rfl; have y0 := (unhide B3).froz 0; have z1 := (unhide B3).cell 1 _ rfl; have y1 := (unhide B3).froz 1; have z2 := (unhide B3).cell 2 _ rfl; have y2 := (unhide B3).froz 2; have z3 := (unhide B3).cell 3 _ rfl; have y3 := (unhide B3).froz 3))
    refine bodyPost_ret (rdec_end _ _ _ (store4 (unhide B3).box rfl _ _ _ _) rfl rfl rfl) rfl ?_
    exact ⟨0, 0, none, 0, 0, none, 0, 0, 0, rfl, hide ⟨(unhide B3).boxed _ _ _ _, fun x r e => (by cases e), fun _ => ⟨rfl, rfl, rfl, rfl, rfl, rfl, rfl⟩⟩⟩
end Go.Proofs.YtecfgbjnjgjkoaaGreatDoor
namespace Go.Proofs.YtecfgbjnjgjkoaaGreatDoor
open Go.ChangeShapes Go.WideShapes Go.ChangeAt Go.RowKit
set_option linter.unusedVariables false
set_option linter.unusedSimpArgs false
set_option maxRecDepth 100000
set_option maxHeartbeats 8000000

/-- two boxes beside all that was there -/
structure Ex2 (w V : World) (C1 C2 : Array Value) : Prop where
  bel : Below w.heap.size w V
  b1 : V.heap[w.heap.size]? = some (.cells C1 31 (0, 0))
  b2 : V.heap[w.heap.size + 1]? = some (.cells C2 31 (0, 0))
theorem Ex2.new (w : World) (C1 C2 : Array Value) : Ex2 w ((w.alloc (.cells C1 31)).alloc (.cells C2 31)) C1 C2 :=
  ⟨((Below.refl _ _).alloc (Nat.le_refl _) _).alloc (by simp) _, (heap_alloc_old _ _ (by simp)).trans (heap_alloc_new _ _), by
    have := heap_alloc_new (w.alloc (.cells C1 31)) (.cells C2 31)
    rw [World.size_alloc] at this
    exact this⟩
theorem Ex2.next {w V V' : World} {C1 C2 : Array Value} (h : Ex2 w V C1 C2) (hb : Below V.heap.size V V') : Ex2 w V' C1 C2 :=
  ⟨h.bel.trans (hb.mono h.bel.size), (hb.block _ (block_lt h.b1)).trans h.b1, (hb.block _ (block_lt h.b2)).trans h.b2⟩
theorem Ex2.drew {w V : World} {C1 C2 : Array Value} (h : Ex2 w V C1 C2) : Ex2 w V.drew C1 C2 := h.next ⟨rfl, rfl, rfl, Nat.le_refl _, fun _ _ => rfl⟩
theorem Ex2.c1 {w V : World} {C1 C2 : Array Value} (h : Ex2 w V C1 C2) (j : Nat) (v : Value) (hv : C1[j]? = some v) : V.cell? ⟨w.heap.size, j, none⟩ = some v := by rw [cell_of_row _ _ _ _ _ _ h.b1]; exact hv
theorem Ex2.c2 {w V : World} {C1 C2 : Array Value} (h : Ex2 w V C1 C2) (j : Nat) (v : Value) (hv : C2[j]? = some v) : V.cell? ⟨w.heap.size + 1, j, none⟩ = some v := by rw [cell_of_row _ _ _ _ _ _ h.b2]; exact hv
theorem eqr_walk (w : World) (k0 k1 : Int) (ta tb la lb : Option Addr) (tn tc td ln lc ld : Nat) (htn : tn ≤ 140737488351232) (hln : ln ≤ 140737488351232)
    (CC : Hid (∀ W, Below w.heap.size w W → Calls Tryz.prog 38 #[.slice ta tn tc, .slice tb tn td] W fun e w' => e = .returned (.int .i64 0) ∧ Hid (Below W.heap.size W w')))
    (CE : Hid (∀ i, i < ln → ∃ b off b' off' u0 u1 u2 u3 v0 v1 v2 v3, la = some ⟨b, off, none⟩ ∧ lb = some ⟨b', off', none⟩ ∧ (∀ W, Below w.heap.size w W → (W.cell? ⟨b, off + i * 4, none⟩ = some u0 ∧ W.cell? ⟨b, off + i * 4 + 1, none⟩ = some u1 ∧ W.cell? ⟨b, off + i * 4 + 2, none⟩ = some u2 ∧ W.cell? ⟨b, off + i * 4 + 3, none⟩ = some u3) ∧ (W.cell? ⟨b', off' + i * 4, none⟩ = some v0 ∧ W.cell? ⟨b', off' + i * 4 + 1, none⟩ = some v1 ∧ W.cell? ⟨b', off' + i * 4 + 2, none⟩ = some v2 ∧ W.cell? ⟨b', off' + i * 4 + 3, none⟩ = some v3)) ∧ ∀ W, Below w.heap.size w W → Calls Tryz.prog 30 #[.agg #[u0, u1, u2, u3], .agg #[v0, v1, v2, v3]] W fun e w' => e = .returned (.bool true) ∧ Hid (Below W.heap.size W w'))) :
    Calls Tryz.prog 30 #[.agg #[.int .i64 k0, .int .i64 k1, .slice ta tn tc, .slice la ln lc], .agg #[.int .i64 k0, .int .i64 k1, .slice tb tn td, .slice lb ln ld]] w fun e w' => e = .returned (.bool true) ∧ Hid (Below w.heap.size w w') := by
  have E0 := hide (Ex2.new w #[.int .i64 k0, .int .i64 k1, .slice ta tn tc, .slice la ln lc] #[.int .i64 k0, .int .i64 k1, .slice tb tn td, .slice lb ln ld])
  go_enter Tryz.func30, Tryz.ntmps30
  go_wp2_with (first
    | (go_at_call 38; with_reducible refine (unhide CC _ (unhide E0).bel).mono ?_; rintro e w3 ⟨rfl, h3⟩; have E3 := hide ((unhide E0).next (unhide h3)); have a3 := (unhide E3).c1 3 _ rfl; have b3 := (unhide E3).c2 3 _ rfl))
  go_loopw [5] (fun iv wr => ∃ i : Nat, iv = .int .i64 (i : Nat) ∧ i ≤ ln ∧ Hid (Ex2 w wr #[.int .i64 k0, .int .i64 k1, .slice ta tn tc, .slice la ln lc] #[.int .i64 k0, .int .i64 k1, .slice tb tn td, .slice lb ln ld])) (fun iv _ => ln - (intOf iv).toNat)
  case atStart => exact ⟨0, rfl, Nat.zero_le _, E3⟩
  case round =>
    obtain ⟨i, rfl, hi, HE⟩ := hrel
    rename World => wr
    have a4 := (unhide HE).c1 3 _ rfl
    have b4 := (unhide HE).c2 3 _ rfl
    by_cases hlt : i < ln
    · have f1 : decide ((i : Int) < (ln : Int)) = true := decide_eq_true (by omega)
      have g1 : (0 : Int) ≤ (i : Int) := by omega
      have g2 : (i : Int) < (ln : Int) := by omega
      obtain ⟨b, off, b', off', u0, u1, u2, u3, v0, v1, v2, v3, rfl, rfl, hc, hcall⟩ := unhide CE i hlt
      obtain ⟨⟨p0, p1, p2, p3⟩, q0, q1, q2, q3⟩ := hc wr (unhide HE).bel
      have CM : Hid (Calls Tryz.prog 30 #[.agg #[u0, u1, u2, u3], .agg #[v0, v1, v2, v3]] wr.drew fun e w' => e = .returned (.bool true) ∧ Hid (Ex2 w w' #[.int .i64 k0, .int .i64 k1, .slice ta tn tc, .slice (some ⟨b, off, none⟩) ln lc] #[.int .i64 k0, .int .i64 k1, .slice tb tn td, .slice (some ⟨b', off', none⟩) ln ld]) ∧ (w'.cell? ⟨w.heap.size, 3, none⟩ = some (.slice (some ⟨b, off, none⟩) ln lc) ∧ w'.cell? ⟨b, off + i * 4, none⟩ = some u0 ∧ w'.cell? ⟨b, off + i * 4 + 1, none⟩ = some u1 ∧ w'.cell? ⟨b, off + i * 4 + 2, none⟩ = some u2 ∧ w'.cell? ⟨b, off + i * 4 + 3, none⟩ = some u3 ∧ w'.cell? ⟨w.heap.size + 1, 3, none⟩ = some (.slice (some ⟨b', off', none⟩) ln ld) ∧ w'.cell? ⟨b', off' + i * 4, none⟩ = some v0 ∧ w'.cell? ⟨b', off' + i * 4 + 1, none⟩ = some v1 ∧ w'.cell? ⟨b', off' + i * 4 + 2, none⟩ = some v2 ∧ w'.cell? ⟨b', off' + i * 4 + 3, none⟩ = some v3)) := hide ((hcall wr.drew (unhide HE).drew.bel).mono (fun e w' ⟨h1, h2⟩ => by
        have hE := (unhide HE).drew.next (unhide h2)
        obtain ⟨⟨r0, r1, r2, r3⟩, s0, s1, s2, s3⟩ := hc w' hE.bel
        exact ⟨h1, hide hE, hE.c1 3 _ rfl, r0, r1, r2, r3, hE.c2 3 _ rfl, s0, s1, s2, s3⟩))
      clear hc hcall CC CE E0
      go_wp2_with fail
      go_region_held3 (fun w' => w'.cell? ⟨w.heap.size, 3, none⟩ = some (.slice (some ⟨b, off, none⟩) ln lc) ∧ w'.cell? ⟨b, off + i * 4, none⟩ = some u0 ∧ w'.cell? ⟨b, off + i * 4 + 1, none⟩ = some u1 ∧ w'.cell? ⟨b, off + i * 4 + 2, none⟩ = some u2 ∧ w'.cell? ⟨b, off + i * 4 + 3, none⟩ = some u3 ∧ w'.cell? ⟨w.heap.size + 1, 3, none⟩ = some (.slice (some ⟨b', off', none⟩) ln ld) ∧ w'.cell? ⟨b', off' + i * 4, none⟩ = some v0 ∧ w'.cell? ⟨b', off' + i * 4 + 1, none⟩ = some v1 ∧ w'.cell? ⟨b', off' + i * 4 + 2, none⟩ = some v2 ∧ w'.cell? ⟨b', off' + i * 4 + 3, none⟩ = some v3) (first | exact s7 | go_keep) (first
        | (go_at_call 30; with_reducible refine (unhide CM).mono ?_; rintro e w7 ⟨rfl, k7, s7⟩))
      all_goals go_wp2
      all_goals go_roundw
      all_goals first | exact ⟨i + 1, rfl, by omega, k7⟩ | exact ⟨i + 1, by go_num, by omega, k7⟩ | (simp [intOf]; omega)
    · obtain rfl : i = ln := by omega
      have f1 : decide ((i : Int) < (i : Int)) = false := decide_eq_false (by omega)
      go_wp2
      go_ret
      exact ⟨rfl, hide (unhide HE).bel⟩
/-- EqReply of two replies that are one tree -/
theorem eqr_any : ∀ (d : Nat) (x : Tr d) (w0 w : World) (u0 u1 u2 u3 v0 v1 v2 v3 : Value), RpAt w0 d x u0 u1 u2 u3 → RpAt w0 d x v0 v1 v2 v3 → Below w0.heap.size w0 w → Calls Tryz.prog 30 #[.agg #[u0, u1, u2, u3], .agg #[v0, v1, v2, v3]] w fun e w' => e = .returned (.bool true) ∧ Hid (Below w.heap.size w w')
  | 0, _, _, _, _, _, _, _, _, _, _, _, h, _, _ => absurd h id
  | d + 1, x, w0, w, u0, u1, u2, u3, v0, v1, v2, v3, hu, hv, hb => by
    obtain ⟨⟨rfl, -⟩, ⟨rfl, -⟩, ⟨ta, tc, rfl, hB, hS, htn, htc⟩, la, lc, rfl, hln, hat⟩ := hu
    obtain ⟨⟨rfl, -⟩, ⟨rfl, -⟩, ⟨tb, td, rfl, hB', -, -, -⟩, lb, ld, rfl, -, hat'⟩ := hv
    refine eqr_walk w _ _ ta tb la lb _ tc td _ lc ld htn hln (hide (fun W hW => ?_)) (hide (fun i hi => ?_))
    · have h := cmp_any (c1 := tc) (c2 := td) (by omega) (by omega) (hB.below (hb.trans (hW.mono hb.size))) (hB'.below (hb.trans (hW.mono hb.size)))
      rw [Larder.cmpL_self] at h
      exact h.mono (fun e w' k => ⟨k.1, hide k.2.below⟩)
    · rcases hat with e | ⟨b, off, rfl, hlt, hc⟩
      · rw [e] at hi; simp at hi
      rcases hat' with e | ⟨b', off', rfl, hlt', hc'⟩
      · rw [e] at hi; simp at hi
      obtain ⟨y, hy⟩ : ∃ y, x.nd.l[i]? = some y := ⟨_, List.getElem?_eq_getElem hi⟩
      obtain ⟨a0, a1, a2, a3, p0, p1, p2, p3, hr⟩ := hc i y hy
      obtain ⟨c0, c1, c2, c3, q0, q1, q2, q3, hr'⟩ := hc' i y hy
      refine ⟨b, off, b', off', a0, a1, a2, a3, c0, c1, c2, c3, rfl, rfl, fun W hW => ?_, fun W hW => eqr_any d y w0 W a0 a1 a2 a3 c0 c1 c2 c3 hr hr' (hb.trans (hW.mono hb.size))⟩
      have hW0 := hb.trans (hW.mono hb.size)
      exact ⟨⟨by rw [hW0.cell (show b < _ from hlt)]; exact p0, by rw [hW0.cell (show b < _ from hlt)]; exact p1, by rw [hW0.cell (show b < _ from hlt)]; exact p2, by rw [hW0.cell (show b < _ from hlt)]; exact p3⟩, by rw [hW0.cell (show b' < _ from hlt')]; exact q0, by rw [hW0.cell (show b' < _ from hlt')]; exact q1, by rw [hW0.cell (show b' < _ from hlt')]; exact q2, by rw [hW0.cell (show b' < _ from hlt')]; exact q3⟩
end Go.Proofs.YtecfgbjnjgjkoaaGreatDoor
