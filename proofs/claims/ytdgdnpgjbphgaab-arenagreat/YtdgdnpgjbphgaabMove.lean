/- Moved and Take. -/
import Derived.Test.YtdgdnpgjbphgaabSetBytes
namespace Go.Proofs.Ytdgdnpgjbphgaab
open Go.ChangeShapes Go.WideShapes Go.ChangeAt Go.RowKit
set_option linter.unusedVariables false
set_option maxRecDepth 100000
set_option maxHeartbeats 2000000

theorem But.over {B C : List Nat} {w w' : World} (h : But B w w') (hs : ∀ x ∈ B, x ∈ C) : But C w w' := ⟨h.os, h.tape, h.output, h.size, fun j hj hn => h.block j hj (fun hm => hn (hs j hm))⟩
/-- what Moved answers: the place, whether the object was moved, the error -/
def movedRes (ws : List Nat) (hs : List Bool) (used : Nat) (at' : Int) : Nat × Bool × Nat :=
  if 1 ≤ at' ∧ at' < used ∧ hs.getD at'.toNat false = true then
    (if 9223372036854775808 ≤ ws.getD at'.toNat 0 then (ws.getD at'.toNat 0 - 9223372036854775808, true, 0) else (0, false, 0))
  else (0, false, 23)

theorem low_bits (x : Nat) (hx : x < 18446744073709551616) (hm : 9223372036854775808 ≤ x) : bits BinOp.andNot IntKind.u64 (x : Int) 9223372036854775808 = ((x - 9223372036854775808 : Nat) : Int) := by
  have h := u64_andNot_nat x 9223372036854775808 hx (by decide)
  have e : bits BinOp.andNot IntKind.u64 (x : Int) 9223372036854775808 = ((x &&& (18446744073709551615 - 9223372036854775808) : Nat) : Int) := h
  rw [e]
  have e2 : (18446744073709551615 - 9223372036854775808 : Nat) = 2 ^ 63 - 1 := by decide
  rw [e2, Nat.and_two_pow_sub_one_eq_mod]
  have : x % 2 ^ 63 = x - 9223372036854775808 := by omega
  rw [this]

theorem movedcall_any {p bw bh : Nat} {ws : List Nat} {hs : List Bool} {used : Nat} (at' : Int) (w : World) (h : Ar w p bw bh ws hs used) :
    Calls Try.prog 27 #[.pointer (some ⟨p, 0, none⟩), .int .i64 at'] w fun e w' => e = .returned (.tuple #[.int .i64 ((movedRes ws hs used at').1 : Nat), .bool (movedRes ws hs used at').2.1, .int .i64 ((movedRes ws hs used at').2.2 : Nat)]) ∧ w' = w := by
  unfold movedRes
  by_cases hb : 1 ≤ at' ∧ at' < used ∧ hs.getD at'.toNat false = true
  · rw [if_pos hb]
    obtain ⟨k, rfl⟩ := Int.eq_ofNat_of_zero_le (show (0 : Int) ≤ at' by omega)
    have HB := hide (begins_yes k w h hb)
    rw [Int.toNat_natCast] at hb ⊢
    have hlt : k < ws.length := by have := h.u2; omega
    have hk := h.ww k hlt
    have c0 := h.c0
    have hx := h.small k hlt
    have hz := h.sz
    obtain ⟨x, hxe⟩ : ∃ x, x = ws.getD k 0 := ⟨_, rfl⟩
    rw [← hxe] at hk hx ⊢
    have HM := hide (moved_any x hx w)
    by_cases hm : 9223372036854775808 ≤ x
    · rw [if_pos hm]
      rw [decide_eq_true hm] at HM
      have HLB := hide (low_bits x hx hm)
      have hsub : wrap64 ((x - 9223372036854775808 : Nat) : Int) = ((x - 9223372036854775808 : Nat) : Int) := by unfold wrap64; omega
      have HSB := hide hsub
      clear h hb hxe hsub
      go_enter Try.func27, Try.ntmps27
      go_wp2_with fail
      refine (unhide HB).mono ?_
      rintro e w' ⟨rfl, hw'⟩
      obtain rfl := hw'.symm
      go_wp2_with fail
      refine (unhide HM).mono ?_
      rintro e w' ⟨rfl, hw'⟩
      obtain rfl := hw'.symm
      go_wp2
      rw [unhide HLB, unhide HSB]
      go_ret3
      exact ⟨rfl, rfl⟩
    · rw [if_neg hm]
      rw [decide_eq_false hm] at HM
      clear h hb hxe
      go_enter Try.func27, Try.ntmps27
      go_wp2_with fail
      refine (unhide HB).mono ?_
      rintro e w' ⟨rfl, hw'⟩
      obtain rfl := hw'.symm
      go_wp2_with fail
      refine (unhide HM).mono ?_
      rintro e w' ⟨rfl, hw'⟩
      obtain rfl := hw'.symm
      go_wp2
      go_ret3
      exact ⟨rfl, rfl⟩
  · rw [if_neg hb]
    have HB := hide (begins_no at' w h hb)
    clear h hb
    go_enter Try.func27, Try.ntmps27
    go_wp2_with fail
    refine (unhide HB).mono ?_
    rintro e w' ⟨rfl, hw'⟩
    obtain rfl := hw'.symm
    go_wp2
    go_ret3
    exact ⟨rfl, rfl⟩

theorem or_top (u : Nat) (hu : u < 9223372036854775808) : bits BinOp.or IntKind.u64 9223372036854775808 (u : Int) = ((9223372036854775808 + u : Nat) : Int) := by
  have h := u64_or_nat 9223372036854775808 u (by decide) (by omega)
  have e : bits BinOp.or IntKind.u64 9223372036854775808 (u : Int) = ((9223372036854775808 ||| u : Nat) : Int) := h
  rw [e]
  have : 9223372036854775808 ||| u = 9223372036854775808 + u := nat_join 63 _ _ (by decide) hu
  rw [this]
/-- nothing is taken: no object there, or it was taken before -/
theorem take_not {ps bs hb : Nat} {ws : List Nat} {hs : List Bool} {us : Nat} (dst : Value) (at' : Int) (w : World) (h : Ar w ps bs hb ws hs us) (hm : (movedRes ws hs us at').2.1 = true ∨ (movedRes ws hs us at').2.2 ≠ 0) :
    Calls Try.prog 36 #[dst, .pointer (some ⟨ps, 0, none⟩), .int .i64 at'] w fun e w' => e = .returned (.tuple #[.int .i64 ((movedRes ws hs us at').1 : Nat), .int .i64 ((movedRes ws hs us at').2.2 : Nat)]) ∧ w' = w := by
  have HM := hide (movedcall_any at' w h)
  generalize (movedRes ws hs us at').1 = to at *
  generalize (movedRes ws hs us at').2.1 = mv at *
  generalize (movedRes ws hs us at').2.2 = f at *
  clear h
  by_cases hf : f = 0
  · subst hf
    have hmv : mv = true := by rcases hm with h | h; exact h; exact absurd rfl h
    subst hmv
    clear hm
    go_enter Try.func36, Try.ntmps36
    go_wp2_with fail
    refine (unhide HM).mono ?_
    rintro e w' ⟨rfl, hw'⟩
    obtain rfl := hw'.symm
    go_wp2
    go_ret2
    exact ⟨rfl, rfl⟩
  · have e1 : ((f : Int) == 0) = false := by rw [beq_eq_false_iff_ne]; omega
    clear hm
    go_enter Try.func36, Try.ntmps36
    go_wp2_with fail
    refine (unhide HM).mono ?_
    rintro e w' ⟨rfl, hw'⟩
    obtain rfl := hw'.symm
    go_wp2
    go_ret2
    exact ⟨rfl, rfl⟩
/-- an object that was not taken yet -/
theorem movedRes_not {ws : List Nat} {hs : List Bool} {us k kd r s : Nat} (h : objRes ws hs us k = (kd, r, s, 0)) : movedRes ws hs us k = (0, false, 0) ∧ 1 ≤ k ∧ k < us ∧ hs.getD k false = true ∧ ws.getD k 0 < 9223372036854775808 := by
  unfold objRes at h
  unfold movedRes
  by_cases hb : 1 ≤ (k : Int) ∧ (k : Int) < us ∧ hs.getD (k : Int).toNat false = true
  · rw [if_pos hb] at h ⊢
    by_cases hm : 9223372036854775808 ≤ ws.getD (k : Int).toNat 0
    · rw [if_pos hm] at h; cases h
    · rw [if_neg hm]
      rw [Int.toNat_natCast] at hb hm
      exact ⟨rfl, by omega, by omega, hb.2.2, by omega⟩
  · rw [if_neg hb] at h; cases h

theorem take_full {p bw bh : Nat} {wd : List Nat} {hd : List Bool} {ud : Nat} {ps bs hb : Nat} {ws : List Nat} {hs : List Bool} {us : Nat} (k kd r s : Nat) (w : World) (hd0 : Ar w p bw bh wd hd ud) (h : Ar w ps bs hb ws hs us) (hh : Heads ws hs us) (ho : objRes ws hs us k = (kd, r, s, 0)) (hn : wd.length < ud + (1 + r + s)) :
    Calls Try.prog 36 #[.pointer (some ⟨p, 0, none⟩), .pointer (some ⟨ps, 0, none⟩), .int .i64 k] w fun e w' => e = .returned (.tuple #[.int .i64 0, .int .i64 22]) ∧ Below w.heap.size w w' := by
  have HM := hide (movedcall_any k w h)
  obtain ⟨hmr, hk1, hk2, hk3, hk4⟩ := movedRes_not ho
  rw [hmr] at HM
  have HF := hide (fields_yes k w h hh (by rw [ho]))
  rw [ho] at HF
  have hu := h.u2
  have hz := h.sz
  have HGR : Hid (∀ w', Below w.heap.size w w' → r + s ≤ 1048576 → Calls Try.prog 19 #[.pointer (some ⟨p, 0, none⟩), .int .i64 (1 + ((r + s : Nat) : Int))] w' fun e w'' => e = .returned (.tuple #[.int .i64 0, .slice none 0 0, .int .i64 22]) ∧ Below w'.heap.size w' w'') := hide (fun w' hb hrs => by
    have h1 := grow_full (1 + r + s) w' (hd0.below hb) (by omega) (by omega)
    rw [show ((1 + r + s : Nat) : Int) = 1 + ((r + s : Nat) : Int) from by omega] at h1
    exact h1)
  clear h hh ho hmr hd0
  dsimp only at HM HF
  go_enter Try.func36, Try.ntmps36
  go_wp2_with fail
  refine (unhide HM).mono ?_
  rintro e w' ⟨rfl, hw'⟩
  obtain rfl := hw'.symm
  go_wp2_with fail
  refine (unhide HF).mono ?_
  rintro e w1 ⟨⟨off, rfl, hoff⟩, hb1, hfit⟩
  have HC := hide (unhide HGR w1 hb1 (by omega))
  have hrs : r + s ≤ 1048576 := by omega
  clear hoff
  generalize r + s = m at *
  go_wp2_with fail
  refine (unhide HC).mono ?_
  rintro e w2 ⟨rfl, hb2⟩
  have HB := hide (hb1.trans (hb2.mono hb1.size))
  clear hb1 hb2
  go_wp2
  go_ret2
  exact ⟨rfl, unhide HB⟩

theorem take_full_self {ps bs hb : Nat} {ws : List Nat} {hs : List Bool} {us : Nat} (k kd r s : Nat) (w : World) (h : Ar w ps bs hb ws hs us) (hh : Heads ws hs us) (ho : objRes ws hs us k = (kd, r, s, 0)) (hn : ws.length < us + (1 + r + s)) :
    Calls Try.prog 36 #[.pointer (some ⟨ps, 0, none⟩), .pointer (some ⟨ps, 0, none⟩), .int .i64 k] w fun e w' => e = .returned (.tuple #[.int .i64 0, .int .i64 22]) ∧ Below w.heap.size w w' := by
  have HM := hide (movedcall_any k w h)
  obtain ⟨hmr, hk1, hk2, hk3, hk4⟩ := movedRes_not ho
  rw [hmr] at HM
  have HF := hide (fields_yes k w h hh (by rw [ho]))
  rw [ho] at HF
  have hu := h.u2
  have hz := h.sz
  have HGR : Hid (∀ w', Below w.heap.size w w' → r + s ≤ 1048576 → Calls Try.prog 19 #[.pointer (some ⟨ps, 0, none⟩), .int .i64 (1 + ((r + s : Nat) : Int))] w' fun e w'' => e = .returned (.tuple #[.int .i64 0, .slice none 0 0, .int .i64 22]) ∧ Below w'.heap.size w' w'') := hide (fun w' hb hrs => by
    have h1 := grow_full (1 + r + s) w' (h.below hb) (by omega) (by omega)
    rw [show ((1 + r + s : Nat) : Int) = 1 + ((r + s : Nat) : Int) from by omega] at h1
    exact h1)
  clear h hh ho hmr
  dsimp only at HM HF
  go_enter Try.func36, Try.ntmps36
  go_wp2_with fail
  refine (unhide HM).mono ?_
  rintro e w' ⟨rfl, hw'⟩
  obtain rfl := hw'.symm
  go_wp2_with fail
  refine (unhide HF).mono ?_
  rintro e w1 ⟨⟨off, rfl, hoff⟩, hb1, hfit⟩
  have HC := hide (unhide HGR w1 hb1 (by omega))
  have hrs : r + s ≤ 1048576 := by omega
  clear hoff
  generalize r + s = m at *
  go_wp2_with fail
  refine (unhide HC).mono ?_
  rintro e w2 ⟨rfl, hb2⟩
  have HB := hide (hb1.trans (hb2.mono hb1.size))
  clear hb1 hb2
  go_wp2
  go_ret2
  exact ⟨rfl, unhide HB⟩

theorem take_yes {p bw bh : Nat} {wd : List Nat} {hd : List Bool} {ud : Nat} {ps bs hb : Nat} {ws : List Nat} {hs : List Bool} {us : Nat} (k kd r s : Nat) (w : World) (hd0 : Ar w p bw bh wd hd ud) (h : Ar w ps bs hb ws hs us) (hh : Heads ws hs us) (h1 : ps ∉ [p, bh, bw]) (h2 : bs ∉ [p, bh, bw]) (h3 : hb ∉ [p, bh, bw]) (ho : objRes ws hs us k = (kd, r, s, 0)) (hn : ud + (1 + r + s) ≤ wd.length) :
    Calls Try.prog 36 #[.pointer (some ⟨p, 0, none⟩), .pointer (some ⟨ps, 0, none⟩), .int .i64 k] w fun e w' => e = .returned (.tuple #[.int .i64 ud, .int .i64 0]) ∧ Ar w' p bw bh (patch wd ud (runL ws k (1 + r + s))) (mark hd ud (1 + r + s)) (ud + (1 + r + s)) ∧ Ar w' ps bs hb (ws.set k (9223372036854775808 + ud)) hs us ∧ But [p, bh, bw, bs] w w' := by
  have HM := hide (movedcall_any k w h)
  obtain ⟨hmr, hk1, hk2, hk3, hk4⟩ := movedRes_not ho
  rw [hmr] at HM
  have HF := hide (fields_yes k w h hh (by rw [ho]))
  rw [ho] at HF
  have hu := h.u2
  have hz := h.sz
  have hzd := hd0.sz
  obtain ⟨n, hnn⟩ : ∃ n, n = 1 + r + s := ⟨_, rfl⟩
  have HGR : Hid (∀ w', Below w.heap.size w w' → Calls Try.prog 19 #[.pointer (some ⟨p, 0, none⟩), .int .i64 (1 + ((r + s : Nat) : Int))] w' fun e w'' => e = .returned (.tuple #[.int .i64 ud, .slice (some ⟨bw, ud, none⟩) n n, .int .i64 0]) ∧ Ar w'' p bw bh wd (mark hd ud n) (ud + n) ∧ But [p, bh] w' w'') := hide (fun w' hb => by
    have h1 := grow_yes n w' (hd0.below hb) (by omega) (by omega)
    rw [show ((n : Nat) : Int) = 1 + ((r + s : Nat) : Int) from by omega] at h1
    exact h1)
  have HH := hide h
  have hn1 : 1 ≤ n := by omega
  have hrs : ((r + s : Nat) : Int) = (n : Int) - 1 := by omega
  have hkn : k + 1 + r + s ≤ us → k + n ≤ us := by omega
  have hne := h.ne1
  rw [← hnn] at hn ⊢
  have HNN := hide hnn
  clear h hh ho hmr hd0 hnn
  dsimp only at HM HF
  have hms : ∃ m, m = r + s := ⟨_, rfl⟩
  obtain ⟨m, hm⟩ := hms
  rw [← hm] at HF HGR hrs
  have hmn : m = n - 1 := by omega
  have HMN := hide hmn
  clear hmn hm
  go_enter Try.func36, Try.ntmps36
  go_wp2_with fail
  refine (unhide HM).mono ?_
  rintro e w' ⟨rfl, hw'⟩
  obtain rfl := hw'.symm
  go_wp2_with fail
  refine (unhide HF).mono ?_
  rintro e w1 ⟨⟨off, rfl, hoff⟩, hb1, hfit⟩
  have HC := hide (unhide HGR w1 hb1)
  have hfit2 := hkn hfit
  have hn20 : n ≤ 1048576 := by omega
  have hm20 : m ≤ 1048576 := by have := unhide HMN; omega
  have HRS := hide hrs
  clear hoff hkn hrs
  go_wp2_with fail
  refine (unhide HC).mono ?_
  rintro e w2 ⟨rfl, hA2, hB2⟩
  have hS2 := ((unhide HH).below hb1).but hB2 (fun h => h1 (by simp at h ⊢; omega)) (fun h => h2 (by simp at h ⊢; omega)) (fun h => h3 (by simp at h ⊢; omega))
  have hul : ud + n ≤ wd.length := hn
  have HSP : Hid (Calls Try.prog 59 #[.pointer (some ⟨ps, 0, none⟩), .int .i64 k, .int .i64 (1 + (m : Int))] w2 fun e w' => (∃ off, e = .returned (.slice (some ⟨bs, off, none⟩) n n) ∧ (0 < n → off = k)) ∧ w' = w2) := hide (by
    have h1 := span_any k n w2 hS2 (by omega)
    rw [show (1 + (m : Int)) = (n : Int) from by have := unhide HRS; omega]
    exact h1)
  have hc : (Builtin.copy_ #[62, 62] 3 #[.slice (some ⟨bw, ud, none⟩) n n, .slice (some ⟨bs, k, none⟩) n n]).run Try.prog w2 = .ok (goInt n) (w2.setCells bw ud (wcells (runL ws k n))) := by
    have h1 := run_copy_cells (P := Try.prog) w2 62 62 3 24 bw ud n n ⟨bs, k, none⟩ n n (wcells (runL ws k n)) Try.underlying62 size36 (by rw [wcells_length, runL_length]; show _ = min _ _; omega)
      (fun j v hv => by
        have hj : j < n := by have := (List.getElem?_eq_some_iff.1 hv).1; rwa [wcells_length, runL_length] at this
        rw [wcells_at _ j (by rw [runL_length]; exact hj), runL_at _ _ _ _ hj] at hv
        rw [add_plain, ← hv]
        exact hS2.ww _ (by omega))
      (fun j hj => by rw [wcells_length, runL_length] at hj; rw [hA2.ww _ (by omega)]; rfl) (fun j hj => by rw [wcells_length, runL_length] at hj; exact hA2.wf _ (by omega)) (wcells_one _)
    rw [wcells_length, runL_length] at h1
    exact h1
  have hsm : ∀ i, i < (runL ws k n).length → (runL ws k n).getD i 0 < 18446744073709551616 := fun i hi => by
    rw [runL_length] at hi
    rw [runL_at _ _ _ _ hi]
    exact hS2.small _ (by omega)
  have hA3 := hA2.puts ud (runL ws k n) (by rw [runL_length]; omega) hsm
  have hb3 : But [bw] w2 (w2.setCells bw ud (wcells (runL ws k n))) := But.sets bw (by simp) _ _ _ (But.refl _ _)
  obtain ⟨w3, hw3⟩ : ∃ w3, w3 = w2.setCells bw ud (wcells (runL ws k n)) := ⟨_, rfl⟩
  rw [← hw3] at hc hA3 hb3
  have hS3 := hS2.but hb3 (fun h => h1 (by simp at h ⊢; omega)) (fun h => h2 (by simp at h ⊢; omega)) (fun h => h3 (by simp at h ⊢; omega))
  have c0 := hS3.c0
  have ck := hS3.ww k (by omega)
  have cf := hS3.wf k (by omega)
  have HBU := hide ((But.of_below (B := [p, bh, bw, bs]) hb1).trans ((hB2.over (by simp)).trans (hb3.over (by simp))))
  have HOT := hide (or_top ud (by omega))
  have HS3 := hide hS3
  have HA3 := hide hA3
  generalize ws.getD k 0 = old at *
  have ew : IntKind.u64.wrap (ud : Int) = (ud : Int) := by rw [IntKind.wrap_u64]; omega
  have hkl : k < ws.length := by omega
  have z0 : (0 : Int) ≤ (k : Int) := by omega
  have z1 : (k : Int) < (ws.length : Int) := by omega
  clear hA2 hB2 hA3 hS3 hS2 hb1 hb3 hsm hw3 HGR HC HF HM HH
  go_wp2_with fail
  refine (unhide HSP).mono ?_
  rintro e w' ⟨⟨off2, rfl, hoff2⟩, hw'⟩
  obtain rfl := hw'.symm
  have ho2 := hoff2 (by omega)
  subst ho2
  clear hoff2
  go_wp2
  rw [unhide HOT]
  have hb4 : But [bs] w3 (w3.setCell ⟨bs, off2, none⟩ (.int .u64 ((9223372036854775808 + ud : Nat) : Int))) := (But.refl _ _).set ⟨bs, off2, none⟩ (by simp) _
  have hS4 := (unhide HS3).put off2 (9223372036854775808 + ud) hkl (by omega)
  have hA4 := (unhide HA3).but hb4 (fun h => h2 (by simp at h ⊢; omega)) (fun h => h2 (by simp at h ⊢; omega)) (fun h => h2 (by simp at h ⊢; omega))
  have hB4 := (unhide HBU).trans (hb4.over (by simp))
  go_ret2
  exact ⟨rfl, hA4, hS4, hB4⟩

theorem take_self {ps bs hb : Nat} {ws : List Nat} {hs : List Bool} {us : Nat} (k kd r s : Nat) (w : World) (h : Ar w ps bs hb ws hs us) (hh : Heads ws hs us) (ho : objRes ws hs us k = (kd, r, s, 0)) (hn : us + (1 + r + s) ≤ ws.length) :
    Calls Try.prog 36 #[.pointer (some ⟨ps, 0, none⟩), .pointer (some ⟨ps, 0, none⟩), .int .i64 k] w fun e w' => e = .returned (.tuple #[.int .i64 us, .int .i64 0]) ∧ Ar w' ps bs hb ((patch ws us (runL ws k (1 + r + s))).set k (9223372036854775808 + us)) (mark hs us (1 + r + s)) (us + (1 + r + s)) ∧ But [ps, hb, bs] w w' := by
  have HM := hide (movedcall_any k w h)
  obtain ⟨hmr, hk1, hk2, hk3, hk4⟩ := movedRes_not ho
  rw [hmr] at HM
  have HF := hide (fields_yes k w h hh (by rw [ho]))
  rw [ho] at HF
  have hu := h.u2
  have hz := h.sz
  have hzd := h.sz
  obtain ⟨n, hnn⟩ : ∃ n, n = 1 + r + s := ⟨_, rfl⟩
  have HGR : Hid (∀ w', Below w.heap.size w w' → Calls Try.prog 19 #[.pointer (some ⟨ps, 0, none⟩), .int .i64 (1 + ((r + s : Nat) : Int))] w' fun e w'' => e = .returned (.tuple #[.int .i64 us, .slice (some ⟨bs, us, none⟩) n n, .int .i64 0]) ∧ Ar w'' ps bs hb ws (mark hs us n) (us + n) ∧ But [ps, hb] w' w'') := hide (fun w' hb => by
    have h1 := grow_yes n w' (h.below hb) (by omega) (by omega)
    rw [show ((n : Nat) : Int) = 1 + ((r + s : Nat) : Int) from by omega] at h1
    exact h1)
  have HH := hide h
  have hn1 : 1 ≤ n := by omega
  have hrs : ((r + s : Nat) : Int) = (n : Int) - 1 := by omega
  have hkn : k + 1 + r + s ≤ us → k + n ≤ us := by omega
  have hne := h.ne1
  rw [← hnn] at hn ⊢
  have HNN := hide hnn
  clear h hh ho hmr hnn
  dsimp only at HM HF
  have hms : ∃ m, m = r + s := ⟨_, rfl⟩
  obtain ⟨m, hm⟩ := hms
  rw [← hm] at HF HGR hrs
  have hmn : m = n - 1 := by omega
  have HMN := hide hmn
  clear hmn hm
  go_enter Try.func36, Try.ntmps36
  go_wp2_with fail
  refine (unhide HM).mono ?_
  rintro e w' ⟨rfl, hw'⟩
  obtain rfl := hw'.symm
  go_wp2_with fail
  refine (unhide HF).mono ?_
  rintro e w1 ⟨⟨off, rfl, hoff⟩, hb1, hfit⟩
  have HC := hide (unhide HGR w1 hb1)
  have hfit2 := hkn hfit
  have hn20 : n ≤ 1048576 := by omega
  have hm20 : m ≤ 1048576 := by have := unhide HMN; omega
  have HRS := hide hrs
  clear hoff hkn hrs
  go_wp2_with fail
  refine (unhide HC).mono ?_
  rintro e w2 ⟨rfl, hA2, hB2⟩
  have hul : us + n ≤ ws.length := hn
  have HSP : Hid (Calls Try.prog 59 #[.pointer (some ⟨ps, 0, none⟩), .int .i64 k, .int .i64 (1 + (m : Int))] w2 fun e w' => (∃ off, e = .returned (.slice (some ⟨bs, off, none⟩) n n) ∧ (0 < n → off = k)) ∧ w' = w2) := hide (by
    have h1 := span_any k n w2 hA2 (by omega)
    rw [show (1 + (m : Int)) = (n : Int) from by have := unhide HRS; omega]
    exact h1)
  have hc : (Builtin.copy_ #[62, 62] 3 #[.slice (some ⟨bs, us, none⟩) n n, .slice (some ⟨bs, k, none⟩) n n]).run Try.prog w2 = .ok (goInt n) (w2.setCells bs us (wcells (runL ws k n))) := by
    have h1 := run_copy_cells (P := Try.prog) w2 62 62 3 24 bs us n n ⟨bs, k, none⟩ n n (wcells (runL ws k n)) Try.underlying62 size36 (by rw [wcells_length, runL_length]; show _ = min _ _; omega)
      (fun j v hv => by
        have hj : j < n := by have := (List.getElem?_eq_some_iff.1 hv).1; rwa [wcells_length, runL_length] at this
        rw [wcells_at _ j (by rw [runL_length]; exact hj), runL_at _ _ _ _ hj] at hv
        rw [add_plain, ← hv]
        exact hA2.ww _ (by omega))
      (fun j hj => by rw [wcells_length, runL_length] at hj; rw [hA2.ww _ (by omega)]; rfl) (fun j hj => by rw [wcells_length, runL_length] at hj; exact hA2.wf _ (by omega)) (wcells_one _)
    rw [wcells_length, runL_length] at h1
    exact h1
  have hsm : ∀ i, i < (runL ws k n).length → (runL ws k n).getD i 0 < 18446744073709551616 := fun i hi => by
    rw [runL_length] at hi
    rw [runL_at _ _ _ _ hi]
    exact hA2.small _ (by omega)
  have hA3 := hA2.puts us (runL ws k n) (by rw [runL_length]; omega) hsm
  have hb3 : But [bs] w2 (w2.setCells bs us (wcells (runL ws k n))) := But.sets bs (by simp) _ _ _ (But.refl _ _)
  obtain ⟨w3, hw3⟩ : ∃ w3, w3 = w2.setCells bs us (wcells (runL ws k n)) := ⟨_, rfl⟩
  rw [← hw3] at hc hA3 hb3
  have c0 := hA3.c0
  have ck := hA3.ww k (by rw [patch_length]; omega)
  have cf := hA3.wf k (by rw [patch_length]; omega)
  have hS3 := hA3
  rw [patch_length] at c0
  have HBU := hide ((But.of_below (B := [ps, hb, bs]) hb1).trans ((hB2.over (by simp)).trans (hb3.over (by simp))))
  have HOT := hide (or_top us (by omega))
  have HS3 := hide hS3
  have HA3 := hide hA3
  generalize (patch ws us (runL ws k n)).getD k 0 = old at *
  have ew : IntKind.u64.wrap (us : Int) = (us : Int) := by rw [IntKind.wrap_u64]; omega
  have hkl : k < ws.length := by omega
  have z0 : (0 : Int) ≤ (k : Int) := by omega
  have z1 : (k : Int) < (ws.length : Int) := by omega
  clear hA2 hB2 hA3 hS3 hb1 hb3 hsm hw3 HGR HC HF HM HH
  go_wp2_with fail
  refine (unhide HSP).mono ?_
  rintro e w' ⟨⟨off2, rfl, hoff2⟩, hw'⟩
  obtain rfl := hw'.symm
  have ho2 := hoff2 (by omega)
  subst ho2
  clear hoff2
  go_wp2
  rw [unhide HOT]
  have hb4 : But [bs] w3 (w3.setCell ⟨bs, off2, none⟩ (.int .u64 ((9223372036854775808 + us : Nat) : Int))) := (But.refl _ _).set ⟨bs, off2, none⟩ (by simp) _
  have hA4 := (unhide HA3).put off2 (9223372036854775808 + us) (by rw [patch_length]; exact hkl) (by omega)
  have hB4 := (unhide HBU).trans (hb4.over (by simp))
  go_ret2
  exact ⟨rfl, hA4, hB4⟩
end Go.Proofs.Ytdgdnpgjbphgaab
