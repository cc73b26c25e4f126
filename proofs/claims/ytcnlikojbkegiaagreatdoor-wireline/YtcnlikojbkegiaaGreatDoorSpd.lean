/- sames. -/
import Derived.Test.YtcnlikojbkegiaaGreatDoorWrb
import Derived.Deep.RegionHeld3
import Derived.Test.YtcnlikojbkegiaaGreatDoorSpc
namespace Go.Proofs.YtcnlikojbkegiaaGreatDoor
open Go.ChangeShapes Go.WideShapes Go.ChangeAt Go.RowKit
set_option linter.unusedVariables false
set_option linter.unusedSimpArgs false
set_option maxRecDepth 20000
set_option maxHeartbeats 4000000

theorem Still.bytes {w w' : World} {a : Option Addr} {l : List Nat} (h : Still w w') (hB : Bytes w a l) : Bytes w' a l := hB.below h.below
theorem eqlists_any (w : World) (b1 o1 c1 b2 o2 c2 : Nat) (L : List (List Nat)) (h1 : ArgsAt w b1 o1 L) (h2 : ArgsAt w b2 o2 L) (hl : L.length ≤ 1073741824) :
    Calls Tryz.prog 18 #[.slice (some ⟨b1, o1, none⟩) L.length c1, .slice (some ⟨b2, o2, none⟩) L.length c2] w fun e w' => e = .returned (.bool true) ∧ Still w w' := by
  obtain ⟨m, hm⟩ : ∃ m, m = L.length := ⟨_, rfl⟩
  have HM := hide hm
  have H1 := hide h1
  have H2 := hide h2
  rw [← hm] at hl ⊢
  clear hm h1 h2
  go_enter Tryz.func18, Tryz.ntmps18
  go_wp2
  go_loopw [5] (fun iv wr => ∃ i : Nat, iv = .int .i64 (i : Nat) ∧ i ≤ m ∧ Hid (Still w wr)) (fun iv _ => m - (intOf iv).toNat)
  case atStart => exact ⟨0, rfl, Nat.zero_le _, hide (Still.refl _)⟩
  case round =>
    obtain ⟨i, rfl, hi, p⟩ := hrel
    rcases Nat.lt_or_ge i m with hlt | hge
    · have f1 : decide ((i : Int) < (m : Int)) = true := decide_eq_true (by omega)
      have g1 : (0 : Int) ≤ (i : Int) := by omega
      have g2 : (i : Int) < (m : Int) := by omega
      obtain ⟨T, hT⟩ : ∃ T, L[i]? = some T := ⟨_, List.getElem?_eq_getElem (by have := unhide HM; omega)⟩
      obtain ⟨a, c, x1, x2, x3⟩ := (unhide H1).2 i T hT
      obtain ⟨a', c', y1, y2, y3⟩ := (unhide H2).2 i T hT
      have CC : Hid (∀ W, Hid (Still w W) → Calls Tryz.prog 38 #[.slice a T.length c, .slice a' T.length c'] W fun e w' => e = .returned (.int .i64 0) ∧ Hid (Still w w') ∧ w'.cell? ⟨b1, o1 + i, none⟩ = some (.slice a T.length c) ∧ w'.cell? ⟨b2, o2 + i, none⟩ = some (.slice a' T.length c')) := hide (fun W hW => by
        refine (cmp_any (c1 := c) (c2 := c') (by omega) (by omega) ((unhide hW).bytes x2) ((unhide hW).bytes y2)).mono ?_
        rintro e w' ⟨rfl, h⟩
        have q := (unhide hW).trans h
        exact ⟨by rw [Larder.cmpL_self], hide q, (q.cell _).trans x1, (q.cell _).trans y1⟩)
      have z1 : wr.cell? ⟨b1, o1 + i, none⟩ = some (.slice a T.length c) := ((unhide p).cell _).trans x1
      have z2 : wr.cell? ⟨b2, o2 + i, none⟩ = some (.slice a' T.length c') := ((unhide p).cell _).trans y1
      have pd : Hid (Still w wr.drew) := hide ((unhide p).trans ⟨rfl, rfl, rfl, rfl⟩)
      clear hT x1 x2 x3 y1 y2 y3
      go_wp2_with fail
      go_region_held3 (fun w' => w'.cell? ⟨b1, o1 + i, none⟩ = some (.slice a T.length c) ∧ w'.cell? ⟨b2, o2 + i, none⟩ = some (.slice a' T.length c')) (go_keep) (first
        | (go_at_call 38; refine (unhide CC _ (by assumption)).mono ?_; rintro e w6 ⟨rfl, k6, s6⟩))
      all_goals go_wp2
      all_goals go_roundw
      all_goals first | exact ⟨i + 1, by go_num, by omega, k6⟩ | (simp [intOf]; omega)
    · obtain rfl : i = m := by omega
      have f1 : decide ((i : Int) < (i : Int)) = false := decide_eq_false (by omega)
      go_wp2
      go_ret
      exact ⟨rfl, unhide p⟩
end Go.Proofs.YtcnlikojbkegiaaGreatDoor
namespace Go.Proofs.YtcnlikojbkegiaaGreatDoor
open Go.ChangeShapes Go.WideShapes Go.ChangeAt Go.RowKit
set_option linter.unusedVariables false
set_option linter.unusedSimpArgs false
set_option maxRecDepth 20000
set_option maxHeartbeats 4000000

theorem eqlists_nil (w : World) (p1 p2 : Option Addr) (c1 c2 : Nat) : Calls Tryz.prog 18 #[.slice p1 0 c1, .slice p2 0 c2] w fun e w' => e = .returned (.bool true) ∧ Still w w' := by
  go_enter Tryz.func18, Tryz.ntmps18
  go_wp2
  go_loopw [5] (fun iv wr => iv = .int .i64 0 ∧ wr = w) (fun iv _ => 0)
  case atStart => exact ⟨rfl, rfl⟩
  case round =>
    obtain ⟨rfl, rfl⟩ := hrel
    go_wp2
    go_ret
    exact ⟨rfl, Still.refl _⟩
theorem eqlists_opt (w : World) (p1 p2 : Option Addr) (n c1 c2 : Nat) (L : List (List Nat)) (hn : n = L.length) (h1 : ArgsO w p1 L) (h2 : ArgsO w p2 L) (hl : n ≤ 1073741824) :
    Calls Tryz.prog 18 #[.slice p1 n c1, .slice p2 n c2] w fun e w' => e = .returned (.bool true) ∧ Still w w' := by
  subst hn
  rcases h1 with rfl | ⟨b1, o1, rfl, h1⟩
  · exact eqlists_nil w p1 p2 c1 c2
  · rcases h2 with rfl | ⟨b2, o2, rfl, h2⟩
    · exact eqlists_nil w _ p2 c1 c2
    · exact eqlists_any w b1 o1 c1 b2 o2 c2 L h1 h2 hl
/-- where the arguments' bytes lie -/
def LowO (w : World) (a : Option Addr) (L : List (List Nat)) (B : Nat) : Prop := ∀ b off k T, a = some ⟨b, off, none⟩ → L[k]? = some T → b < B ∧ ∀ x c g o, w.cell? ⟨b, off + k, none⟩ = some (.slice x T.length c) → 0 < T.length → x = some ⟨g, o, none⟩ → g < B
theorem Kept.mono {S S' : Nat → Prop} {w w' : World} (h : Kept S w w') (hS : ∀ b, S b → S' b) : Kept S' w w' := ⟨h.os, h.tape, h.output, h.size, fun b hb hn => h.blk b hb (fun hs => hn (hS b hs))⟩
theorem Kept1.kept {g : Nat} {w w' : World} (h : Kept1 g w w') : Kept (fun b => b = g) w w' := ⟨h.os, h.tape, h.output, by rw [h.size]; exact Nat.le_refl _, fun b _ hb => h.blk b hb⟩
theorem Kept.cell {S : Nat → Prop} {w w' : World} (h : Kept S w w') {b o : Nat} (hb : b < w.heap.size) (hS : ¬ S b) : w'.cell? ⟨b, o, none⟩ = w.cell? ⟨b, o, none⟩ := by
  unfold World.cell?
  rw [h.blk b hb hS]
theorem Kept.rws {S : Nat → Prop} {w w' : World} {t : TypeId} {s n : Nat} {v : Value} {f : Nat → Value} (h : Kept S w w') (hr : Rws w t s v n f) (hS : ∀ g, v.ownBlock = some g → ¬ S g) : Rws w' t s v n f := hr.same (fun g hg => h.blk g (hr.lt g hg) (hS g hg))
/-- the lists in m are the arguments -/
theorem Spd.args {w wr : World} {gm n g9 : Nat} {fv : Value} {L : List (List Nat)} {G : Nat → Nat} (h : Spd w wr gm n g9 fv L G) (hn : n = L.length) (hs : ∀ T ∈ L, T.length ≤ 268435456) : ArgsAt wr gm 0 L := by
  obtain ⟨g', mc, f1, f2, f3, f4⟩ := h.m.at (by omega)
  cases f1
  refine ⟨f3, fun k T hT => ?_⟩
  have hk := (List.getElem?_eq_some_iff.1 hT).1
  have hTD : L.getD k [] = T := by rw [List.getD_eq_getElem?_getD, hT]; rfl
  have htn : tn L k = T.length := by unfold tn; rw [hTD]
  have hm := f4 k (by omega)
  rw [if_pos (by omega : k < n)] at hm
  refine ⟨some ⟨G k, 0, none⟩, tn L k + 3, by rw [Nat.zero_add, hm, ← htn], ?_, hs T (List.mem_of_getElem? hT)⟩
  obtain ⟨g2, c2, e1, e2, e3, e4⟩ := (h.row k (by omega)).2.at (by omega)
  cases e1
  refine .inr ⟨G k, 0, rfl, e3, fun i hi => ?_⟩
  rw [Nat.zero_add, e4 i (by omega), hTD]
  unfold byV
  rw [List.getD_eq_getElem?_getD, List.getD_eq_getElem?_getD, List.getElem?_append_left hi]
theorem sames_any (w0 w : World) (a : Option Addr) (c gm n g9 : Nat) (fv : Value) (L : List (List Nat)) (G : Nat → Nat) (hn : n = L.length) (h : Spd w0 w gm n g9 fv L G) (hA : ArgsO w a L) (hB : LowO w a L w0.heap.size) (hS : ∀ T ∈ L, Small T) (hs : ∀ T ∈ L, T.length ≤ 268435456) (hl : n ≤ 268435456) :
    Calls Tryz.prog 23 #[.slice (some ⟨gm, 0, none⟩) (n + 1) (n + 1), fv, .slice a n c] w fun e w' => e = .returned (.bool true) ∧ Hid (Kept (fun b => ∃ k, k < n ∧ b = G k) w w') := by
  have HE : Hid (Calls Tryz.prog 18 #[.slice (some ⟨gm, 0, none⟩) n (n + 1), .slice a n c] w fun e w' => e = .returned (.bool true) ∧ Hid (Kept (fun _ => False) w w')) := hide ((eqlists_opt w _ a n (n + 1) c L hn (.inr ⟨gm, 0, rfl, h.args hn hs⟩) hA (by omega)).mono (fun e w' ⟨h1, h2⟩ => ⟨h1, hide (Kept.below h2.below)⟩))
  obtain ⟨fa, fc, rfl⟩ := h.full.shape
  have M9 : ∀ w', Hid (Kept (fun _ => False) w w') → w'.cell? ⟨gm, n, none⟩ = some (.slice (some ⟨g9, 0, none⟩) 1 1) := fun w' h' => by
    obtain ⟨g', mc, f1, f2, f3, f4⟩ := h.m.at (by omega)
    cases f1
    rw [(unhide h').cell f3 id, f4 n (by omega), if_neg (by omega)]
  have H9 : Hid (∀ w', Hid (Kept (fun _ => False) w w') → Calls Tryz.prog 12 #[.slice (some ⟨g9, 0, none⟩) 1 1, .slice (some ⟨w'.heap.size, 0, none⟩) 1 1] (w'.alloc (.cells #[.int .u8 9] 5)) fun e w2 => e = .returned (.bool true) ∧ Hid (Kept (fun b => ∃ k, k < 0 ∧ b = G k) w w2)) := hide (fun w' h' => by
    have b1 : Below w'.heap.size w' (w'.alloc (.cells #[.int .u8 9] 5)) := (Below.refl _ _).alloc (Nat.le_refl _) _
    have bw : Below w.heap.size w (w'.alloc (.cells #[.int .u8 9] 5)) := ⟨(unhide h').os, (unhide h').tape, (unhide h').output, Nat.le_trans (unhide h').size b1.size, fun b hb => (b1.block b (Nat.lt_of_lt_of_le hb (unhide h').size)).trans ((unhide h').blk b hb id)⟩
    refine (eq_any (la := [9]) (lb := [9]) (by decide) (by decide) (h.nine.below bw) (made_bytes w' [9])).mono ?_
    rintro e w2 ⟨rfl, k⟩
    exact ⟨by simp, hide ((Kept.below bw).trans (Kept.below k.below))⟩)
  have HH := hide h
  have HB := hide hB
  have HA := hide hA
  have HSs := hide hS
  have Hss := hide hs
  have HN := hide hn
  clear h hB hA hS hs hn
  have r1 : (n : Int) ≤ (n : Int) + 1 := by omega
  have r2 : (0 : Int) ≤ (n : Int) := by omega
  have r3 : (n : Int) < (n : Int) + 1 := by omega
  go_enter Tryz.func23, Tryz.ntmps23
  go_upto_region 2 with (first
    | (go_at_call 18; refine (unhide HE).mono ?_; rintro e w1 ⟨rfl, k1⟩; have m9 := M9 _ k1)
    | (go_at_call 12; refine (unhide H9 _ k1).mono ?_; rintro e w2 ⟨rfl, k2⟩))
  clear k1 m9 M9 HE H9
  go_wp2_with fail
  go_loopw [7, 8] (fun ov iv wr => ov = .bool true ∧ ∃ i : Nat, iv = .int .i64 (i : Nat) ∧ i ≤ n ∧ Hid (Kept (fun b => ∃ k, k < i ∧ b = G k) w wr)) (fun _ iv _ => n - (intOf iv).toNat)
  case atStart => exact ⟨rfl, 0, rfl, Nat.zero_le _, k2⟩
  case round =>
    obtain ⟨rfl, i, rfl, hi, p⟩ := hrel
    rcases Nat.lt_or_ge i n with hlt | hge
    · have f1 : decide ((i : Int) < (n : Int)) = true := decide_eq_true (by omega)
      have g1 : (0 : Int) ≤ (i : Int) := by omega
      have g2 : (i : Int) < (n : Int) := by omega
      obtain ⟨b, off, rfl, hAt⟩ : ∃ b off, a = some ⟨b, off, none⟩ ∧ ArgsAt w b off L := by
        rcases unhide HA with h | h
        · rw [h] at HN; have := unhide HN; simp at this; omega
        · exact h
      have hNL := unhide HN
      obtain ⟨T, hT⟩ : ∃ T, L[i]? = some T := ⟨_, List.getElem?_eq_getElem (by omega)⟩
      obtain ⟨a', c', x1, x2, x3⟩ := hAt.2 i T hT
      obtain ⟨z1, z2⟩ := unhide HB b off i T rfl hT
      have hTD : L.getD i [] = T := by rw [List.getD_eq_getElem?_getD, hT]; rfl
      have htn : tn L i = T.length := by unfold tn; rw [hTD]
      have hw0 := (unhide HH).bel.size
      have ng : ∀ b, b < w0.heap.size → ¬ ∃ k, k < i ∧ b = G k := fun b hb ⟨k, hk, e⟩ => by
        have := ((unhide HH).row k (by omega)).1
        omega
      obtain ⟨gf, fc', e1, e2, e3, e4⟩ := (unhide HH).full.at (by omega)
      cases e1
      obtain ⟨t, ht⟩ : ∃ t, t = T.length := ⟨_, rfl⟩
      have CE : ∀ m W, m ≤ n → Kept (fun b => ∃ k, k < m ∧ b = G k) w W → W.cell? ⟨gf, i, none⟩ = some (.slice (some ⟨G i, 0, none⟩) (t + 3) (t + 3)) ∧ W.cell? ⟨b, off + i, none⟩ = some (.slice a' t c') := fun m W hm hW => by
        constructor
        · rw [hW.cell e3 (fun ⟨k, hk, e⟩ => (((unhide HH).row k (by omega)).2.apart (unhide HH).full (by decide) (G k) rfl) (by rw [← e]; rfl)), e4 i (by omega)]
          show some (fuV L G i) = _
          unfold fuV
          rw [htn, ht]
        · rw [hW.cell (by omega) (fun ⟨k, hk, e⟩ => by have := ((unhide HH).row k (by omega)).1; omega), x1, ht]
      have c12 := CE i wr hi (unhide p)
      have CS : Hid (∀ W, Hid (Kept (fun b => ∃ k, k < i ∧ b = G k) w W) → Calls Tryz.prog 17 #[.slice (some ⟨G i, 0, none⟩) (t + 3) (t + 3), .slice a' t c'] W fun e w' => e = .returned (.bool true) ∧ Hid (Kept (fun b => ∃ k, k < i + 1 ∧ b = G k) w w') ∧ w'.cell? ⟨gf, i, none⟩ = some (.slice (some ⟨G i, 0, none⟩) (t + 3) (t + 3)) ∧ w'.cell? ⟨b, off + i, none⟩ = some (.slice a' t c')) := hide (fun W hW => by
        have hrow := (unhide hW).rws ((unhide HH).row i (by omega)).2 (fun g hg ⟨k, hk, e⟩ => by
          simp [Value.ownBlock] at hg
          have := (unhide HH).one i k (by omega) (by omega) (by omega)
          omega)
        rw [hTD] at hrow
        unfold fuV at hrow
        rw [htn, ← ht] at hrow
        have fin : ∀ {w'}, Kept1 (G i) W w' → Kept (fun b => ∃ k, k < i + 1 ∧ b = G k) w w' := fun k1 => ((unhide hW).mono (fun b ⟨k, hk, e⟩ => ⟨k, by omega, e⟩)).trans (k1.kept.mono (fun b e => ⟨i, by omega, e⟩))
        rcases x2 with rfl | ⟨bb, oo, rfl, y1, y2⟩
        · subst ht
          refine (same_any' (G i) 0 0 c' a' [] 0 W rfl hrow (fun h => by omega) (fun h => by omega) (fun h => by omega) (fun k hk => by omega) (fun i hi => by simp at hi) (by omega)).mono ?_
          rintro e w' ⟨rfl, k1⟩
          exact ⟨rfl, hide (fin k1), CE (i + 1) w' (by omega) (fin k1)⟩
        · have hbb : 0 < t → bb < w0.heap.size := fun h => z2 _ _ bb oo x1 (by omega) rfl
          refine (same_any' (G i) bb oo c' (some ⟨bb, oo, none⟩) T t W ht hrow (fun _ => rfl) (fun h => Nat.lt_of_lt_of_le y1 (unhide hW).size) (fun h => ?_) (fun k hk => ?_) (unhide HSs T (List.mem_of_getElem? hT)) (by have := unhide Hss T (List.mem_of_getElem? hT); omega)).mono ?_
          · have := hbb h
            have := ((unhide HH).row i (by omega)).1
            omega
          · rw [(unhide hW).cell y1 (ng bb (hbb (by omega))), y2 k (by omega)]
            rfl
          · rintro e w' ⟨rfl, k1⟩
            exact ⟨rfl, hide (fin k1), CE (i + 1) w' (by omega) (fin k1)⟩)
      have pd : Hid (Kept (fun b => ∃ k, k < i ∧ b = G k) w wr.drew) := hide ((unhide p).trans (Kept.below (Below.refl _ _).drew))
      clear hAt x1 x2 x3 hT hTD htn ht z1 z2 ng e2 e3 e4 hNL hw0 CE
      go_wp2_with fail
      go_region_held3 (fun w' => w'.cell? ⟨gf, i, none⟩ = some (.slice (some ⟨G i, 0, none⟩) (t + 3) (t + 3)) ∧ w'.cell? ⟨b, off + i, none⟩ = some (.slice a' t c')) (go_keep) (first
        | (go_at_call 17; refine (unhide CS _ (by assumption)).mono ?_; rintro e w6 ⟨rfl, k6, s6⟩))
      all_goals go_wp2
      all_goals go_roundw
      all_goals first | exact ⟨rfl, i + 1, by go_num, by omega, k6⟩ | (simp [intOf]; omega)
    · obtain rfl : i = n := by omega
      have f1 : decide ((i : Int) < (i : Int)) = false := decide_eq_false (by omega)
      go_wp2
      go_ret
      exact ⟨rfl, p⟩
end Go.Proofs.YtcnlikojbkegiaaGreatDoor
