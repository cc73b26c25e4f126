/- Orders: byTurn, byTime. -/
import Derived.Test.YtfebiemfmiahhabKi
namespace Go.Proofs.Ytfebiemfmiahhab
open Go.ChangeShapes Go.WideShapes Go.ChangeAt Go.RowKit Go.Maps Go.Sort
set_option linter.unusedVariables false
set_option linter.unusedSimpArgs false
set_option maxRecDepth 100000
set_option maxHeartbeats 8000000
theorem lookE_of {E : List En} (hn : (E.map (·.x.conn)).Nodup) {e : En} (he : e ∈ E) : lookE E (e.x.conn : Nat) = some e := by
  cases h : lookE E (e.x.conn : Nat) with
  | none => exact absurd rfl (lookE_none h e he)
  | some e' =>
    obtain ⟨h1, h2⟩ := lookE_mem h
    rw [inj_of_nodup hn h1 he (by omega)]
/-- who comes next -/
def nextE (E : List En) (x : Pl) (k : Int) : Option En := (E.filter (fun e => decide (x ∈ e.x.places))).find? (fun e => decide (e.x.kind = k))
theorem next_any (O : Nat → Prop) (w : World) (p bw bl T : Nat) (E : List En) (x : Pl) (k : Int) (h : WAt O w p bw bl T E) (hx : POk x) :
    Calls Try.prog 12 #[.pointer (some ⟨p, 0, none⟩), .agg #[.int .i64 x.1, .string (bs x.2)], .int .i64 k] w fun e w' => e = .returned (.tuple #[.int .i64 (((nextE E x k).map (·.x.conn)).getD 0 : Nat), .bool (nextE E x k).isSome]) ∧ Hid (Below w.heap.size w w') := by
  obtain ⟨w0, hw0⟩ : ∃ w0, w.alloc (.cells #[.int .i64 x.1, .string (bs x.2)] 46) = w0 := ⟨_, rfl⟩
  have hb0 : Below w.heap.size w w0 := by rw [← hw0]; exact (Below.refl _ _).alloc (Nat.le_refl _) _
  have hbd : Below w.heap.size w w0.drew := hb0.drew
  have hd := h.below hbd
  obtain ⟨-, c1, c2⟩ := hd.c0
  have c2' : w0.cell? ⟨p, 2, none⟩ = some (.map (some bl)) := c2
  have b0 : w0.cell? ⟨w.heap.size, 0, none⟩ = some (.int .i64 x.1) := by rw [← hw0]; exact cell_blk (heap_alloc_new _ _) 0
  have b1 : w0.cell? ⟨w.heap.size, 1, none⟩ = some (.string (bs x.2)) := by rw [← hw0]; exact cell_blk (heap_alloc_new _ _) 1
  obtain ⟨F, hF⟩ : ∃ F, E.filter (fun e => decide (x ∈ e.x.places)) = F := ⟨_, rfl⟩
  have hcn : conns E x = F.map (·.x.conn) := by unfold conns; rw [hF]
  have hFE : ∀ e ∈ F, e ∈ E := fun e he => by rw [← hF] at he; exact (List.mem_filter.1 he).1
  have hF8 : F.length ≤ 8 := by rw [← hF]; exact Nat.le_trans (List.length_filter_le _ _) (few8 h.nd h.ok)
  have hlook : ∀ e ∈ F, (Instr.lookup 63 (.map (some bw)) (.int .i64 (e.x.conn : Nat)) false).run Try.prog w0.drew = .ok (enV e) w0.drew := fun e he => by
    have hr := hd.mw.look (t := 63) (e := 73) Try.underlying63 (zero68 _) (x := ((e.x.conn : Nat) : Int)) (WalkArith.wf_i64 (by have := (h.ok e (hFE e he)).conn; omega))
    rw [lookE_of h.nd (hFE e he)] at hr
    exact hr
  have HB := hide hbd
  unfold nextE
  rw [hF]
  rcases hd.ln.look hx with ⟨hL, hr⟩ | ⟨hL, v, g, hr, -, hgl, hln, -⟩
  · rw [hcn] at hL
    obtain rfl : F = [] := by simpa using hL
    clear h hb0 hbd hd hlook hcn hFE hF hL c2
    go_enter Try.func12, Try.ntmps12
    go_wp2_with fail
    go_region
    go_wp2_with fail
    go_loopw [17] (fun iv wr => iv = .int .i64 0 ∧ Hid (wr = w0.drew)) (fun iv _ => 0)
    case atStart => exact ⟨rfl, hide rfl⟩
    case round =>
      obtain ⟨rfl, hwr⟩ := hrel
      obtain rfl := (unhide hwr).symm
      go_wp2_with fail
      go_ret2
      exact ⟨rfl, HB⟩
  · rw [hcn] at hln
    obtain ⟨cap, cur, rfl, hcur, hle, -, -, hcells⟩ := hln.ex
    rw [List.length_map] at hr
    have hcl : ∀ i e, F[i]? = some e → w0.drew.cell? ⟨g, i, none⟩ = some (.int .i64 (e.x.conn : Nat)) := fun i e he => by
      rw [cell_blk hcur]
      exact hcells i _ (by rw [List.getElem?_map, he]; rfl)
    obtain ⟨n, hn⟩ : ∃ n, n = F.length := ⟨_, rfl⟩
    rw [← hn] at hr hF8
    have HN := hide hn
    have HCL := hide hcl
    have HLK := hide hlook
    have hf := field2
    clear h hb0 hbd hd hcn hFE hF hL c2 hln hcur hle hcells hn hcl hlook hgl
    go_enter Try.func12, Try.ntmps12
    go_wp2_with fail
    go_region
    go_wp2_with fail
    go_loopw [17] (fun iv wr => ∃ i : Nat, iv = .int .i64 ((i : Nat) : Int) ∧ i ≤ n ∧ Hid (wr = w0.drew ∧ ∀ e ∈ F.take i, e.x.kind ≠ k)) (fun iv _ => n - (intOf iv).toNat)
    case atStart => exact ⟨0, rfl, Nat.zero_le _, hide ⟨rfl, by simp⟩⟩
    case round =>
      obtain ⟨i, rfl, hi, HC⟩ := hrel
      obtain ⟨hwr, hno⟩ := unhide HC
      obtain rfl := hwr.symm
      have HNO := hide hno
      clear hno HC
      by_cases hin : i < n
      · have f1 : decide ((i : Int) < (n : Int)) = true := decide_eq_true (by omega)
        have g1 : (0 : Int) ≤ (i : Int) := by omega
        have g2 : (i : Int) < (n : Int) := by omega
        obtain ⟨e, he⟩ : ∃ e, F[i]? = some e := ⟨_, List.getElem?_eq_getElem (by have := unhide HN; omega)⟩
        have d0 := unhide HCL i e he
        have d0' : w0.cell? ⟨g, i, none⟩ = some (.int .i64 (e.x.conn : Nat)) := d0
        have r1 := unhide HLK e (List.mem_of_getElem? he)
        unfold enV at r1
        have HE := hide he
        clear he
        by_cases hk : e.x.kind = k
        · have HFI : Hid (F.find? (fun e => decide (e.x.kind = k)) = some e) := hide (by
            rw [List.find?_eq_some_iff_append]
            refine ⟨by simp [hk], F.take i, F.drop (i + 1), ?_, fun a ha => by simpa using unhide HNO a ha⟩
            obtain ⟨h1, h2⟩ := List.getElem?_eq_some_iff.1 (unhide HE)
            rw [← h2, ← List.drop_eq_getElem_cons h1, List.take_append_drop])
          have f2 : (e.x.kind == k) = true := by simp [hk]
          have f3 : decide (e.x.kind = k) = true := decide_eq_true hk
          clear hk
          go_wp2_with fail
          go_ret2
          exact ⟨by rw [unhide HFI]; rfl, HB⟩
        · have f2 : (e.x.kind == k) = false := by simp [hk]
          have f3 : decide (e.x.kind = k) = false := decide_eq_false hk
          have HN2 : Hid (∀ a ∈ F.take (i + 1), a.x.kind ≠ k) := hide (fun a ha => by
            rw [List.take_add_one, unhide HE] at ha
            rcases List.mem_append.1 ha with ha | ha
            · exact unhide HNO a ha
            · simp at ha
              rw [ha]
              exact hk)
          clear hk
          go_wp2_with fail
          all_goals go_roundw
          case rel => exact ⟨i + 1, by go_num, by omega, hide ⟨trivial, unhide HN2⟩⟩
          case measure => simp [intOf]; omega
      · obtain rfl : i = n := by omega
        have f1 : decide ((i : Int) < (i : Int)) = false := decide_eq_false (by omega)
        have HFI : Hid (F.find? (fun e => decide (e.x.kind = k)) = none) := hide (by
          rw [List.find?_eq_none]
          intro a ha
          have h1 := unhide HNO
          rw [List.take_of_length_le (by have := unhide HN; omega)] at h1
          simpa using h1 a ha)
        go_wp2_with fail
        go_ret2
        exact ⟨by rw [unhide HFI]; rfl, HB⟩
end Go.Proofs.Ytfebiemfmiahhab
namespace Go.Proofs.Ytfebiemfmiahhab
open Go.ChangeShapes Go.WideShapes Go.ChangeAt Go.RowKit Go.Maps
set_option linter.unusedVariables false
set_option linter.unusedSimpArgs false
set_option maxRecDepth 100000
set_option maxHeartbeats 8000000
/-- a waiter's cells -/
abbrev W5 := Int × Int × Int × Option Addr × Nat × Nat × Int
def enc5 (x : W5) : List Value := [.int .i64 x.1, .int .u64 x.2.1, .int .i64 x.2.2.1, .slice x.2.2.2.1 x.2.2.2.2.1 x.2.2.2.2.2.1, .int .u64 x.2.2.2.2.2.2]
def w5 (e : En) : W5 := ((e.x.conn : Nat), (e.turn : Nat), e.x.kind, some ⟨e.g, 0, none⟩, e.x.places.length, e.x.places.length, (e.x.till : Nat))
theorem enV_enc (e : En) : enV e = .agg (enc5 (w5 e)).toArray := rfl
def cmpZ (a b : Int) : Int := if a < b then -1 else if b < a then 1 else 0
def cfTurn (x y : W5) : Int := cmpZ x.2.1 y.2.1
def cfTime (x y : W5) : Int := if cmpZ x.2.2.2.2.2.2 y.2.2.2.2.2.2 ≠ 0 then cmpZ x.2.2.2.2.2.2 y.2.2.2.2.2.2 else cfTurn x y
/-- only new blocks, only draws -/
def Gw (w w' : World) : Prop := ∃ q os, w' = Sort.grow (w.drewN q) os
theorem Gw.refl (w : World) : Gw w w := ⟨0, #[], by simp [Sort.grow, World.drewN]⟩
theorem Gw.alloc {w w' : World} (h : Gw w w') (o : Obj) : Gw w (w'.alloc o) := by
  obtain ⟨q, os, rfl⟩ := h
  exact ⟨q, _, by rw [Sort.alloc_eq_grow, Sort.grow_grow]⟩
theorem Gw.drew {w w' : World} (h : Gw w w') : Gw w w'.drew := by
  obtain ⟨q, os, rfl⟩ := h
  exact ⟨q + 1, os, rfl⟩
theorem Gw.trans {w w' w'' : World} (h : Gw w w') (k : Gw w' w'') : Gw w w'' := by
  obtain ⟨q, os, rfl⟩ := h
  obtain ⟨q', os', rfl⟩ := k
  refine ⟨q + q', os ++ os', ?_⟩
  simp [Sort.grow, World.drewN, Nat.add_assoc]
theorem Gw.below {w w' : World} (h : Gw w w') : Below w.heap.size w w' := by
  obtain ⟨q, os, rfl⟩ := h
  refine ⟨rfl, rfl, rfl, by simp [Sort.grow, World.drewN], fun i hi => ?_⟩
  simp [Sort.grow, World.drewN, Array.getElem?_append_left hi]
theorem nan_any (w : World) (a : Int) : Calls Try.prog 62 #[.int .u64 a] w fun e w' => e = .returned (.bool false) ∧ w' = w := by
  have f : (a != a) = false := by simp
  go_enter Try.func62, Try.ntmps62
  go_wp2
  go_ret
  exact ⟨rfl, rfl⟩
theorem cmp_any (w : World) (a b : Int) : Calls Try.prog 55 #[.int .u64 a, .int .u64 b] w fun e w' => e = .returned (.int .i64 (cmpZ a b)) ∧ w' = w := by
  have CN : Hid (∀ x, Calls Try.prog 62 #[.int .u64 x] w fun e w' => e = .returned (.bool false) ∧ w' = w) := hide (fun x => nan_any w x)
  unfold cmpZ
  by_cases h1 : a < b
  · rw [if_pos h1]
    have f1 : decide (a < b) = true := decide_eq_true h1
    go_enter Try.func55, Try.ntmps55
    go_wp2_with (first | (go_at_call 62; with_reducible refine (unhide CN _).mono ?_; rintro e w1 ⟨rfl, h⟩; obtain rfl := h.symm))
    go_ret
    exact ⟨rfl, rfl⟩
  · rw [if_neg h1]
    have f1 : decide (a < b) = false := decide_eq_false h1
    by_cases h2 : b < a
    · rw [if_pos h2]
      have f2 : decide (b < a) = true := decide_eq_true h2
      have f3 : decide (a > b) = true := decide_eq_true h2
      go_enter Try.func55, Try.ntmps55
      go_wp2_with (first | (go_at_call 62; with_reducible refine (unhide CN _).mono ?_; rintro e w1 ⟨rfl, h⟩; obtain rfl := h.symm))
      go_ret
      exact ⟨rfl, rfl⟩
    · rw [if_neg h2]
      have f2 : decide (b < a) = false := decide_eq_false h2
      have f3 : decide (a > b) = false := decide_eq_false h2
      go_enter Try.func55, Try.ntmps55
      go_wp2_with (first | (go_at_call 62; with_reducible refine (unhide CN _).mono ?_; rintro e w1 ⟨rfl, h⟩; obtain rfl := h.symm))
      go_ret
      exact ⟨rfl, rfl⟩
theorem byTurn_any (w : World) (x y : W5) : Calls Try.prog 45 #[.agg (enc5 x).toArray, .agg (enc5 y).toArray] w fun e w' => e = .returned (.int .i64 (cfTurn x y)) ∧ Gw w w' := by
  obtain ⟨a1, a2, a3, a4, a5, a6, a7⟩ := x
  obtain ⟨b1, b2, b3, b4, b5, b6, b7⟩ := y
  have CC : Hid (∀ W, Calls Try.prog 55 #[.int .u64 a2, .int .u64 b2] W fun e w' => e = .returned (.int .i64 (cmpZ a2 b2)) ∧ w' = W) := hide (fun W => cmp_any W a2 b2)
  have HG := hide (((Gw.refl w).alloc (.cells #[.int .i64 a1, .int .u64 a2, .int .i64 a3, .slice a4 a5 a6, .int .u64 a7] 73)).alloc (.cells #[.int .i64 b1, .int .u64 b2, .int .i64 b3, .slice b4 b5 b6, .int .u64 b7] 73))
  change Calls Try.prog 45 #[.agg #[.int .i64 a1, .int .u64 a2, .int .i64 a3, .slice a4 a5 a6, .int .u64 a7], .agg #[.int .i64 b1, .int .u64 b2, .int .i64 b3, .slice b4 b5 b6, .int .u64 b7]] w fun e w' => e = .returned (.int .i64 (cmpZ a2 b2)) ∧ Gw w w'
  generalize cmpZ a2 b2 = r at *
  go_enter Try.func45, Try.ntmps45
  go_wp2_with (first | (go_at_call 55; with_reducible refine (unhide CC _).mono ?_; rintro e w1 ⟨rfl, h⟩; obtain rfl := h.symm))
  go_ret
  exact ⟨rfl, unhide HG⟩
theorem or_any (w : World) (g : Nat) (a b : Int) (h : w.heap[g]? = some (.cells #[.int .i64 a, .int .i64 b] 3 (0, 0))) : Calls Try.prog 54 #[.slice (some ⟨g, 0, none⟩) 2 2] w fun e w' => e = .returned (.int .i64 (if a ≠ 0 then a else b)) ∧ w' = w := by
  have c0 : w.cell? ⟨g, 0, none⟩ = some (.int .i64 a) := cell_blk h 0
  have c1 : w.cell? ⟨g, 1, none⟩ = some (.int .i64 b) := cell_blk h 1
  by_cases h0 : a = 0
  · rw [if_neg (by simp [h0])]
    subst h0
    by_cases h1 : b = 0
    · subst h1
      go_enter Try.func54, Try.ntmps54
      go_wp2_with fail
      go_loopw [8] (fun iv wr => ∃ i : Nat, iv = .int .i64 ((i : Nat) : Int) ∧ i ≤ 2 ∧ Hid (wr = w)) (fun iv _ => 2 - (intOf iv).toNat)
      case atStart => exact ⟨0, rfl, by omega, hide rfl⟩
      case round =>
        obtain ⟨i, rfl, hi, hw⟩ := hrel
        obtain rfl := (unhide hw).symm
        rcases (show i = 0 ∨ i = 1 ∨ i = 2 by omega) with rfl | rfl | rfl
        · go_wp2_with fail
          all_goals go_roundw
          case rel => exact ⟨1, by go_num, by omega, hide trivial⟩
          case measure => simp [intOf]
        · go_wp2_with fail
          all_goals go_roundw
          case rel => exact ⟨2, by go_num, by omega, hide trivial⟩
          case measure => simp [intOf]
        · go_wp2_with fail
          go_ret
          exact ⟨rfl, rfl⟩
    · have f1 : (b != 0) = true := by simp [h1]
      go_enter Try.func54, Try.ntmps54
      go_wp2_with fail
      go_loopw [8] (fun iv wr => ∃ i : Nat, iv = .int .i64 ((i : Nat) : Int) ∧ i ≤ 1 ∧ Hid (wr = w)) (fun iv _ => 2 - (intOf iv).toNat)
      case atStart => exact ⟨0, rfl, by omega, hide rfl⟩
      case round =>
        obtain ⟨i, rfl, hi, hw⟩ := hrel
        obtain rfl := (unhide hw).symm
        rcases (show i = 0 ∨ i = 1 by omega) with rfl | rfl
        · go_wp2_with fail
          all_goals go_roundw
          case rel => exact ⟨1, by go_num, by omega, hide trivial⟩
          case measure => simp [intOf]
        · go_wp2_with fail
          go_ret
          exact ⟨rfl, rfl⟩
  · rw [if_pos h0]
    have f1 : (a != 0) = true := by simp [h0]
    go_enter Try.func54, Try.ntmps54
    go_wp2_with fail
    go_loopw [8] (fun iv wr => iv = .int .i64 0 ∧ Hid (wr = w)) (fun iv _ => 0)
    case atStart => exact ⟨rfl, hide rfl⟩
    case round =>
      obtain ⟨rfl, hw⟩ := hrel
      obtain rfl := (unhide hw).symm
      go_wp2_with fail
      go_ret
      exact ⟨rfl, rfl⟩
end Go.Proofs.Ytfebiemfmiahhab
