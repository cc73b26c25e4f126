/- Ahead of asked: the document's Command of no arguments, both Commands at once, num, the Told's beginning. -/
import Derived.Test.YtecfgbjnjgjkoaaGreatDoorWrb
import Derived.Deep.RegionHeld3
import Derived.Test.YtecfgbjnjgjkoaaGreatDoorHvy
import Derived.Test.YtecfgbjnjgjkoaaGreatDoorWrf
import Derived.Test.YtecfgbjnjgjkoaaGreatDoorTda
namespace Go.Proofs.YtecfgbjnjgjkoaaGreatDoor
open Go.ChangeShapes Go.WideShapes Go.ChangeAt Go.RowKit
set_option linter.unusedVariables false
set_option linter.unusedSimpArgs false
set_option maxRecDepth 20000
set_option maxHeartbeats 4000000

theorem Tryz.info25s : (Tryz.prog.info? 25).map (fun i => (i.zero, i.size, i.bytes)) = some (some (.slice none 0 0), 1, 24) := by kernel_rfl
theorem Spm.cells {w wr : World} {gm n : Nat} {fv : Value} {L : List (List Nat)} {i : Nat} {G : Nat → Nat} (h : Spm w wr gm n fv L i G) (hi : i < n) : ∃ gf fc, fv = .slice (some ⟨gf, 0, none⟩) (i + 1) fc ∧ wr.cell? ⟨gf, i, none⟩ = some (fuV L G i) ∧ (∃ u, wr.cell? ⟨gm, i, none⟩ = some u) ∧ wr.frozen? ⟨gm, i, none⟩ = false := by
  obtain ⟨gf, fc, e1, e2, e3, e4⟩ := h.full.at (by omega)
  obtain ⟨g', mc, f1, f2, f3, f4⟩ := h.m.at (by omega)
  cases f1
  refine ⟨gf, fc, e1, e4 i (by omega), ⟨_, f4 i (by omega)⟩, ?_⟩
  rcases h.m with ⟨e, _⟩ | ⟨g, cap, cur, e, hg, _⟩
  · cases e
  · cases e
    simp only [World.frozen?, hg]
    simp
theorem Spr.last {w wr : World} {gm n : Nat} {fv : Value} {L : List (List Nat)} {G : Nat → Nat} (h : Spr w wr gm n fv L n G) (o : Obj) : (∃ u, (wr.alloc o).cell? ⟨gm, n, none⟩ = some u) ∧ (wr.alloc o).frozen? ⟨gm, n, none⟩ = false := by
  have h1 := h.below ((Below.refl _ _).alloc (Nat.le_refl _) o)
  obtain ⟨g', mc, f1, f2, f3, f4⟩ := h1.m.at (by omega)
  cases f1
  refine ⟨⟨_, f4 n (by omega)⟩, ?_⟩
  rcases h1.m with ⟨e, _⟩ | ⟨g, cap, cur, e, hg, _⟩
  · cases e
  · cases e
    simp only [World.frozen?, hg]
    simp
theorem spares_any (a : Option Addr) (c : Nat) (L : List (List Nat)) (w : World) (hA : ArgsO w a L) (hl : L.length ≤ 268435456) :
    Calls Tryz.prog 20 #[.slice a L.length c] w fun e w' => ∃ gm g9 fv G, e = .returned (.tuple #[.slice (some ⟨gm, 0, none⟩) (L.length + 1) (L.length + 1), fv]) ∧ Hid (Spd w w' gm L.length g9 fv L G) := by
  obtain ⟨n, hn⟩ : ∃ n, n = L.length := ⟨_, rfl⟩
  rw [← hn] at hl ⊢
  have HN := hide hn
  have HA := hide hA
  clear hA hn
  obtain ⟨i25, hi25, hz25, hs25, hb25⟩ := info_partsS Tryz.info25s
  have m1 := fun w' => run_make_row' (P := Tryz.prog) 36 25 (.slice none 0 0) 24 Tryz.underlying36 Tryz.info25s rfl .i64 .i64 (n + 1) (by omega) (by omega) w'
  rw [show ((n + 1 : Nat) : Int) = (n : Int) + 1 by omega] at m1
  have ST := hide (Spr.start w n L (by simp only [maxLen]; omega))
  go_enter Tryz.func20, Tryz.ntmps20
  go_wp2
  go_loopw [5, 6] (fun fv iv wr => ∃ (i : Nat) (G : Nat → Nat), iv = .int .i64 (i : Nat) ∧ i ≤ n ∧ Hid (Spr w wr w.heap.size n fv L i G)) (fun _ iv _ => n - (intOf iv).toNat)
  case atStart => exact ⟨0, _, rfl, Nat.zero_le _, ST⟩
  case round =>
    obtain ⟨i, G, rfl, hi, p⟩ := hrel
    obtain ⟨fa, fc, rfl⟩ := (unhide p).full.shape
    clear ST
    rcases Nat.lt_or_ge i n with hlt | hge
    · have f1 : decide ((i : Int) < (n : Int)) = true := decide_eq_true (by omega)
      have g1 : (0 : Int) ≤ (i : Int) := by omega
      have g2 : (i : Int) < (n : Int) := by omega
      have g3 : (i : Int) < (n : Int) + 1 := by omega
      have g4 : (i : Int) < (i : Int) + 1 := by omega
      obtain ⟨b, off, rfl, hAt⟩ : ∃ b off, a = some ⟨b, off, none⟩ ∧ ArgsAt w b off L := by
        rcases unhide HA with h | h
        · rw [h] at HN; have := unhide HN; simp at this; omega
        · exact h
      obtain ⟨T, hT⟩ : ∃ T, L[i]? = some T := ⟨_, List.getElem?_eq_getElem (by have := unhide HN; omega)⟩
      obtain ⟨a', c', x1, x2, x3⟩ := hAt.2 i T hT
      have hTD : L.getD i [] = T := by rw [List.getD_eq_getElem?_getD, hT]; rfl
      have htn : tn L i = T.length := by unfold tn; rw [hTD]
      obtain ⟨t, ht⟩ : ∃ t, t = T.length := ⟨_, rfl⟩
      have c1 : wr.cell? ⟨b, off + i, none⟩ = some (.slice a' t c') := by rw [(unhide p).bel.cell hAt.1, x1, ht]
      have CS : Hid (Calls Tryz.prog 14 #[.slice a' t c'] wr fun e w' => e = .returned (.slice (some ⟨wr.heap.size, 0, none⟩) (t + 3) (t + 3)) ∧ Hid (Rws w' 5 1 (.slice (some ⟨wr.heap.size, 0, none⟩) (t + 3) (t + 3)) (t + 3) (byV (L.getD i [] ++ [7, 7, 7])) ∧ Below wr.heap.size wr w')) := hide (by
        rw [ht, hTD]
        rcases x2 with rfl | ⟨bb, oo, rfl, y1, y2⟩
        · exact spare_any a' c' [] wr (.inl rfl) (by simp)
        · exact spare_any (some ⟨bb, oo, none⟩) c' T wr (.inr ⟨bb, oo, rfl, Nat.lt_of_lt_of_le y1 (unhide p).bel.size, fun k hk => by rw [(unhide p).bel.cell y1]; exact y2 k hk⟩) (by omega))
      have MID : Hid (∀ w1 v' w3, Hid (Rws w1 5 1 (.slice (some ⟨wr.heap.size, 0, none⟩) (t + 3) (t + 3)) (t + 3) (byV (L.getD i [] ++ [7, 7, 7])) ∧ Below wr.heap.size wr w1) → Rws w3 25 1 v' (i + 1) (fun k => if k < i * 1 then fuV L G k else [Value.slice (some ⟨wr.heap.size, 0, none⟩) (t + 3) (t + 3)].getD (k - i * 1) undef) → Gr 25 (i * 1) 1 (w1.alloc (.cells #[.slice (some ⟨wr.heap.size, 0, none⟩) (t + 3) (t + 3)] 25)) w3 (.slice fa i fc) v' → ∃ G', Hid (Spm w w3 w.heap.size n v' L i G') ∧ tn L i = t) := hide (fun w1 v' w3 h1 h3 hG => ⟨_, hide ((unhide p).mid (by rw [htn, ← ht]; exact unhide h1) (by rw [htn, ← ht]; exact h3) (by rw [htn, ← ht]; exact hG)), by rw [htn, ht]⟩)
      have FU : Hid (∀ w1, Hid (Rws w1 5 1 (.slice (some ⟨wr.heap.size, 0, none⟩) (t + 3) (t + 3)) (t + 3) (byV (L.getD i [] ++ [7, 7, 7])) ∧ Below wr.heap.size wr w1) → Rws (w1.alloc (.cells #[.slice (some ⟨wr.heap.size, 0, none⟩) (t + 3) (t + 3)] 25)) 25 1 (.slice fa i fc) i (fun k => fuV L G k)) := hide (fun w1 h1 => ((unhide p).full.below (unhide h1).2).below ((Below.refl _ _).alloc (Nat.le_refl _) _))
      have CE : Hid (∀ w3 v' G', Hid (Spm w w3 w.heap.size n v' L i G') → w3.cell? ⟨b, off + i, none⟩ = some (.slice a' t c')) := hide (fun w3 v' G' h => by rw [(unhide h).bel.cell hAt.1, x1, ht])
      have ht2 : t ≤ 268435456 := by omega
      clear hAt x1 x2 x3 hT hTD htn ht
      go_upto_region 7 with (first
        | (go_at_call 14; refine (unhide CS).mono ?_; rintro e w1 ⟨rfl, k1⟩)
        | (at_builtin; refine append_rws rfl _ _ 36 rfl 25 i25 _ 1 24 Tryz.underlying36 hi25 hz25 hs25 hb25 rfl 25 (.slice fa i fc) i (fun k => fuV L G k) rfl (unhide FU w1 k1) (.inl rfl) w1.heap.size 1 rfl [.slice (some ⟨wr.heap.size, 0, none⟩) (t + 3) (t + 3)] (by decide) rfl (made_cells w1 _ 25) (fun x hx => by simp at hx; subst hx; rfl) (by omega) (by omega) ?_; intro v' w3 h3 hG; obtain ⟨G', k3, ke⟩ := unhide MID w1 v' w3 k1 h3 hG; clear h3 hG))
      obtain ⟨gf, fc', rfl, d1, ⟨u, d2⟩, d3⟩ := (unhide k3).cells hlt
      have d4 := unhide CE _ _ _ k3
      have PUT := hide ((unhide k3).put hlt)
      rw [show fuV L G' i = .slice (some ⟨G' i, 0, none⟩) (t + 3) (t + 3) by unfold fuV; rw [ke]] at d1
      rw [show inV L G' i = .slice (some ⟨G' i, 0, none⟩) t (t + 3) by unfold inV; rw [ke]] at PUT
      clear CS MID FU CE p k1
      have r1 : (t : Int) ≤ (t : Int) + 3 := by omega
      have r2 : (0 : Int) ≤ (t : Int) := by omega
      go_region
      all_goals go_wp2
      all_goals go_roundw
      all_goals first | exact ⟨i + 1, _, by go_num, by omega, PUT⟩ | (simp [intOf]; omega)
    · obtain rfl : i = n := by omega
      have f1 : decide ((i : Int) < (i : Int)) = false := decide_eq_false (by omega)
      have g1 : (0 : Int) ≤ (i : Int) := by omega
      have g3 : (i : Int) < (i : Int) + 1 := by omega
      obtain ⟨⟨u, d1⟩, d2⟩ := (unhide p).last (.cells #[.int .u8 9] 5)
      have DN := hide (unhide p).done
      clear p
      go_wp2
      all_goals go_ret2
      all_goals exact ⟨_, _, _, _, rfl, DN⟩
end Go.Proofs.YtecfgbjnjgjkoaaGreatDoor
namespace Go.Proofs.YtecfgbjnjgjkoaaGreatDoor
open Go.ChangeShapes Go.WideShapes Go.ChangeAt Go.RowKit
set_option linter.unusedVariables false
set_option linter.unusedSimpArgs false
set_option maxRecDepth 20000
set_option maxHeartbeats 4000000

theorem Still.bytes {w w' : World} {a : Option Addr} {l : List Nat} (h : Still w w') (hB : Bytes w a l) : Bytes w' a l := hB.below h.below
theorem eqlists_any (w : World) (b1 o1 c1 b2 o2 c2 : Nat) (L : List (List Nat)) (h1 : ArgsAt w b1 o1 L) (h2 : ArgsAt w b2 o2 L) (hl : L.length ≤ 1073741824) :
    Calls Tryz.prog 18 #[.slice (some ⟨b1, o1, none⟩) L.length c1, .slice (some ⟨b2, o2, none⟩) L.length c2] w fun e w' => e = .returned (.bool true) ∧ Still w w' := by
  obtain ⟨m, hm⟩ : ∃ m, m = L.length := ⟨_, rfl⟩
  have HM := hide hm
  have H1 := hide h1
  have H2 := hide h2
  rw [← hm] at hl ⊢
  clear hm h1 h2
  go_enter Tryz.func18, Tryz.ntmps18
  go_wp2
  go_loopw [5] (fun iv wr => ∃ i : Nat, iv = .int .i64 (i : Nat) ∧ i ≤ m ∧ Hid (Still w wr)) (fun iv _ => m - (intOf iv).toNat)
  case atStart => exact ⟨0, rfl, Nat.zero_le _, hide (Still.refl _)⟩
  case round =>
    obtain ⟨i, rfl, hi, p⟩ := hrel
    rcases Nat.lt_or_ge i m with hlt | hge
    · have f1 : decide ((i : Int) < (m : Int)) = true := decide_eq_true (by omega)
      have g1 : (0 : Int) ≤ (i : Int) := by omega
      have g2 : (i : Int) < (m : Int) := by omega
      obtain ⟨T, hT⟩ : ∃ T, L[i]? = some T := ⟨_, List.getElem?_eq_getElem (by have := unhide HM; omega)⟩
      obtain ⟨a, c, x1, x2, x3⟩ := (unhide H1).2 i T hT
      obtain ⟨a', c', y1, y2, y3⟩ := (unhide H2).2 i T hT
      have CC : Hid (∀ W, Hid (Still w W) → Calls Tryz.prog 38 #[.slice a T.length c, .slice a' T.length c'] W fun e w' => e = .returned (.int .i64 0) ∧ Hid (Still w w') ∧ w'.cell? ⟨b1, o1 + i, none⟩ = some (.slice a T.length c) ∧ w'.cell? ⟨b2, o2 + i, none⟩ = some (.slice a' T.length c')) := hide (fun W hW => by
        refine (cmp_any (c1 := c) (c2 := c') (by omega) (by omega) ((unhide hW).bytes x2) ((unhide hW).bytes y2)).mono ?_
        rintro e w' ⟨rfl, h⟩
        have q := (unhide hW).trans h
        exact ⟨by rw [Larder.cmpL_self], hide q, (q.cell _).trans x1, (q.cell _).trans y1⟩)
      have z1 : wr.cell? ⟨b1, o1 + i, none⟩ = some (.slice a T.length c) := ((unhide p).cell _).trans x1
      have z2 : wr.cell? ⟨b2, o2 + i, none⟩ = some (.slice a' T.length c') := ((unhide p).cell _).trans y1
      have pd : Hid (Still w wr.drew) := hide ((unhide p).trans ⟨rfl, rfl, rfl, rfl⟩)
      clear hT x1 x2 x3 y1 y2 y3
      go_wp2_with fail
      go_region_held3 (fun w' => w'.cell? ⟨b1, o1 + i, none⟩ = some (.slice a T.length c) ∧ w'.cell? ⟨b2, o2 + i, none⟩ = some (.slice a' T.length c')) (go_keep) (first
        | (go_at_call 38; refine (unhide CC _ (by assumption)).mono ?_; rintro e w6 ⟨rfl, k6, s6⟩))
      all_goals go_wp2
      all_goals go_roundw
      all_goals first | exact ⟨i + 1, by go_num, by omega, k6⟩ | (simp [intOf]; omega)
    · obtain rfl : i = m := by omega
      have f1 : decide ((i : Int) < (i : Int)) = false := decide_eq_false (by omega)
      go_wp2
      go_ret
      exact ⟨rfl, unhide p⟩
end Go.Proofs.YtecfgbjnjgjkoaaGreatDoor
namespace Go.Proofs.YtecfgbjnjgjkoaaGreatDoor
open Go.ChangeShapes Go.WideShapes Go.ChangeAt Go.RowKit
set_option linter.unusedVariables false
set_option linter.unusedSimpArgs false
set_option maxRecDepth 20000
set_option maxHeartbeats 4000000

theorem eqlists_nil (w : World) (p1 p2 : Option Addr) (c1 c2 : Nat) : Calls Tryz.prog 18 #[.slice p1 0 c1, .slice p2 0 c2] w fun e w' => e = .returned (.bool true) ∧ Still w w' := by
  go_enter Tryz.func18, Tryz.ntmps18
  go_wp2
  go_loopw [5] (fun iv wr => iv = .int .i64 0 ∧ wr = w) (fun iv _ => 0)
  case atStart => exact ⟨rfl, rfl⟩
  case round =>
    obtain ⟨rfl, rfl⟩ := hrel
    go_wp2
    go_ret
    exact ⟨rfl, Still.refl _⟩
theorem eqlists_opt (w : World) (p1 p2 : Option Addr) (n c1 c2 : Nat) (L : List (List Nat)) (hn : n = L.length) (h1 : ArgsO w p1 L) (h2 : ArgsO w p2 L) (hl : n ≤ 1073741824) :
    Calls Tryz.prog 18 #[.slice p1 n c1, .slice p2 n c2] w fun e w' => e = .returned (.bool true) ∧ Still w w' := by
  subst hn
  rcases h1 with rfl | ⟨b1, o1, rfl, h1⟩
  · exact eqlists_nil w p1 p2 c1 c2
  · rcases h2 with rfl | ⟨b2, o2, rfl, h2⟩
    · exact eqlists_nil w _ p2 c1 c2
    · exact eqlists_any w b1 o1 c1 b2 o2 c2 L h1 h2 hl
/-- where the arguments' bytes lie -/
def LowO (w : World) (a : Option Addr) (L : List (List Nat)) (B : Nat) : Prop := ∀ b off k T, a = some ⟨b, off, none⟩ → L[k]? = some T → b < B ∧ ∀ x c g o, w.cell? ⟨b, off + k, none⟩ = some (.slice x T.length c) → 0 < T.length → x = some ⟨g, o, none⟩ → g < B
theorem Kept.mono {S S' : Nat → Prop} {w w' : World} (h : Kept S w w') (hS : ∀ b, S b → S' b) : Kept S' w w' := ⟨h.os, h.tape, h.output, h.size, fun b hb hn => h.blk b hb (fun hs => hn (hS b hs))⟩
theorem Kept1.kept {g : Nat} {w w' : World} (h : Kept1 g w w') : Kept (fun b => b = g) w w' := ⟨h.os, h.tape, h.output, by rw [h.size]; exact Nat.le_refl _, fun b _ hb => h.blk b hb⟩
theorem Kept.cell {S : Nat → Prop} {w w' : World} (h : Kept S w w') {b o : Nat} (hb : b < w.heap.size) (hS : ¬ S b) : w'.cell? ⟨b, o, none⟩ = w.cell? ⟨b, o, none⟩ := by
  unfold World.cell?
  rw [h.blk b hb hS]
theorem Kept.rws {S : Nat → Prop} {w w' : World} {t : TypeId} {s n : Nat} {v : Value} {f : Nat → Value} (h : Kept S w w') (hr : Rws w t s v n f) (hS : ∀ g, v.ownBlock = some g → ¬ S g) : Rws w' t s v n f := hr.same (fun g hg => h.blk g (hr.lt g hg) (hS g hg))
/-- the lists in m are the arguments -/
theorem Spd.args {w wr : World} {gm n g9 : Nat} {fv : Value} {L : List (List Nat)} {G : Nat → Nat} (h : Spd w wr gm n g9 fv L G) (hn : n = L.length) (hs : ∀ T ∈ L, T.length ≤ 268435456) : ArgsAt wr gm 0 L := by
  obtain ⟨g', mc, f1, f2, f3, f4⟩ := h.m.at (by omega)
  cases f1
  refine ⟨f3, fun k T hT => ?_⟩
  have hk := (List.getElem?_eq_some_iff.1 hT).1
  have hTD : L.getD k [] = T := by rw [List.getD_eq_getElem?_getD, hT]; rfl
  have htn : tn L k = T.length := by unfold tn; rw [hTD]
  have hm := f4 k (by omega)
  rw [if_pos (by omega : k < n)] at hm
  refine ⟨some ⟨G k, 0, none⟩, tn L k + 3, by rw [Nat.zero_add, hm, ← htn], ?_, hs T (List.mem_of_getElem? hT)⟩
  obtain ⟨g2, c2, e1, e2, e3, e4⟩ := (h.row k (by omega)).2.at (by omega)
  cases e1
  refine .inr ⟨G k, 0, rfl, e3, fun i hi => ?_⟩
  rw [Nat.zero_add, e4 i (by omega), hTD]
  unfold byV
  rw [List.getD_eq_getElem?_getD, List.getD_eq_getElem?_getD, List.getElem?_append_left hi]
theorem sames_any (w0 w : World) (a : Option Addr) (c gm n g9 : Nat) (fv : Value) (L : List (List Nat)) (G : Nat → Nat) (hn : n = L.length) (h : Spd w0 w gm n g9 fv L G) (hA : ArgsO w a L) (hB : LowO w a L w0.heap.size) (hS : ∀ T ∈ L, Small T) (hs : ∀ T ∈ L, T.length ≤ 268435456) (hl : n ≤ 268435456) :
    Calls Tryz.prog 23 #[.slice (some ⟨gm, 0, none⟩) (n + 1) (n + 1), fv, .slice a n c] w fun e w' => e = .returned (.bool true) ∧ Hid (Kept (fun b => ∃ k, k < n ∧ b = G k) w w') := by
  have HE : Hid (Calls Tryz.prog 18 #[.slice (some ⟨gm, 0, none⟩) n (n + 1), .slice a n c] w fun e w' => e = .returned (.bool true) ∧ Hid (Kept (fun _ => False) w w')) := hide ((eqlists_opt w _ a n (n + 1) c L hn (.inr ⟨gm, 0, rfl, h.args hn hs⟩) hA (by omega)).mono (fun e w' ⟨h1, h2⟩ => ⟨h1, hide (Kept.below h2.below)⟩))
  obtain ⟨fa, fc, rfl⟩ := h.full.shape
  have M9 : ∀ w', Hid (Kept (fun _ => False) w w') → w'.cell? ⟨gm, n, none⟩ = some (.slice (some ⟨g9, 0, none⟩) 1 1) := fun w' h' => by
    obtain ⟨g', mc, f1, f2, f3, f4⟩ := h.m.at (by omega)
    cases f1
    rw [(unhide h').cell f3 id, f4 n (by omega), if_neg (by omega)]
  have H9 : Hid (∀ w', Hid (Kept (fun _ => False) w w') → Calls Tryz.prog 12 #[.slice (some ⟨g9, 0, none⟩) 1 1, .slice (some ⟨w'.heap.size, 0, none⟩) 1 1] (w'.alloc (.cells #[.int .u8 9] 5)) fun e w2 => e = .returned (.bool true) ∧ Hid (Kept (fun b => ∃ k, k < 0 ∧ b = G k) w w2)) := hide (fun w' h' => by
    have b1 : Below w'.heap.size w' (w'.alloc (.cells #[.int .u8 9] 5)) := (Below.refl _ _).alloc (Nat.le_refl _) _
    have bw : Below w.heap.size w (w'.alloc (.cells #[.int .u8 9] 5)) := ⟨(unhide h').os, (unhide h').tape, (unhide h').output, Nat.le_trans (unhide h').size b1.size, fun b hb => (b1.block b (Nat.lt_of_lt_of_le hb (unhide h').size)).trans ((unhide h').blk b hb id)⟩
    refine (eq_any (la := [9]) (lb := [9]) (by decide) (by decide) (h.nine.below bw) (made_bytes w' [9])).mono ?_
    rintro e w2 ⟨rfl, k⟩
    exact ⟨by simp, hide ((Kept.below bw).trans (Kept.below k.below))⟩)
  have HH := hide h
  have HB := hide hB
  have HA := hide hA
  have HSs := hide hS
  have Hss := hide hs
  have HN := hide hn
  clear h hB hA hS hs hn
  have r1 : (n : Int) ≤ (n : Int) + 1 := by omega
  have r2 : (0 : Int) ≤ (n : Int) := by omega
  have r3 : (n : Int) < (n : Int) + 1 := by omega
  go_enter Tryz.func23, Tryz.ntmps23
  go_upto_region 2 with (first
    | (go_at_call 18; refine (unhide HE).mono ?_; rintro e w1 ⟨rfl, k1⟩; have m9 := M9 _ k1)
    | (go_at_call 12; refine (unhide H9 _ k1).mono ?_; rintro e w2 ⟨rfl, k2⟩))
  clear k1 m9 M9 HE H9
  go_wp2_with fail
  go_loopw [7, 8] (fun ov iv wr => ov = .bool true ∧ ∃ i : Nat, iv = .int .i64 (i : Nat) ∧ i ≤ n ∧ Hid (Kept (fun b => ∃ k, k < i ∧ b = G k) w wr)) (fun _ iv _ => n - (intOf iv).toNat)
  case atStart => exact ⟨rfl, 0, rfl, Nat.zero_le _, k2⟩
  case round =>
    obtain ⟨rfl, i, rfl, hi, p⟩ := hrel
    rcases Nat.lt_or_ge i n with hlt | hge
    · have f1 : decide ((i : Int) < (n : Int)) = true := decide_eq_true (by omega)
      have g1 : (0 : Int) ≤ (i : Int) := by omega
      have g2 : (i : Int) < (n : Int) := by omega
      obtain ⟨b, off, rfl, hAt⟩ : ∃ b off, a = some ⟨b, off, none⟩ ∧ ArgsAt w b off L := by
        rcases unhide HA with h | h
        · rw [h] at HN; have := unhide HN; simp at this; omega
        · exact h
      have hNL := unhide HN
      obtain ⟨T, hT⟩ : ∃ T, L[i]? = some T := ⟨_, List.getElem?_eq_getElem (by omega)⟩
      obtain ⟨a', c', x1, x2, x3⟩ := hAt.2 i T hT
      obtain ⟨z1, z2⟩ := unhide HB b off i T rfl hT
      have hTD : L.getD i [] = T := by rw [List.getD_eq_getElem?_getD, hT]; rfl
      have htn : tn L i = T.length := by unfold tn; rw [hTD]
      have hw0 := (unhide HH).bel.size
      have ng : ∀ b, b < w0.heap.size → ¬ ∃ k, k < i ∧ b = G k := fun b hb ⟨k, hk, e⟩ => by
        have := ((unhide HH).row k (by omega)).1
        omega
      obtain ⟨gf, fc', e1, e2, e3, e4⟩ := (unhide HH).full.at (by omega)
      cases e1
      obtain ⟨t, ht⟩ : ∃ t, t = T.length := ⟨_, rfl⟩
      have CE : ∀ m W, m ≤ n → Kept (fun b => ∃ k, k < m ∧ b = G k) w W → W.cell? ⟨gf, i, none⟩ = some (.slice (some ⟨G i, 0, none⟩) (t + 3) (t + 3)) ∧ W.cell? ⟨b, off + i, none⟩ = some (.slice a' t c') := fun m W hm hW => by
        constructor
        · rw [hW.cell e3 (fun ⟨k, hk, e⟩ => (((unhide HH).row k (by omega)).2.apart (unhide HH).full (by decide) (G k) rfl) (by rw [← e]; rfl)), e4 i (by omega)]
          show some (fuV L G i) = _
          unfold fuV
          rw [htn, ht]
        · rw [hW.cell (by omega) (fun ⟨k, hk, e⟩ => by have := ((unhide HH).row k (by omega)).1; omega), x1, ht]
      have c12 := CE i wr hi (unhide p)
      have CS : Hid (∀ W, Hid (Kept (fun b => ∃ k, k < i ∧ b = G k) w W) → Calls Tryz.prog 17 #[.slice (some ⟨G i, 0, none⟩) (t + 3) (t + 3), .slice a' t c'] W fun e w' => e = .returned (.bool true) ∧ Hid (Kept (fun b => ∃ k, k < i + 1 ∧ b = G k) w w') ∧ w'.cell? ⟨gf, i, none⟩ = some (.slice (some ⟨G i, 0, none⟩) (t + 3) (t + 3)) ∧ w'.cell? ⟨b, off + i, none⟩ = some (.slice a' t c')) := hide (fun W hW => by
        have hrow := (unhide hW).rws ((unhide HH).row i (by omega)).2 (fun g hg ⟨k, hk, e⟩ => by
          simp [Value.ownBlock] at hg
          have := (unhide HH).one i k (by omega) (by omega) (by omega)
          omega)
        rw [hTD] at hrow
        unfold fuV at hrow
        rw [htn, ← ht] at hrow
        have fin : ∀ {w'}, Kept1 (G i) W w' → Kept (fun b => ∃ k, k < i + 1 ∧ b = G k) w w' := fun k1 => ((unhide hW).mono (fun b ⟨k, hk, e⟩ => ⟨k, by omega, e⟩)).trans (k1.kept.mono (fun b e => ⟨i, by omega, e⟩))
        rcases x2 with rfl | ⟨bb, oo, rfl, y1, y2⟩
        · subst ht
          refine (same_any' (G i) 0 0 c' a' [] 0 W rfl hrow (fun h => by omega) (fun h => by omega) (fun h => by omega) (fun k hk => by omega) (fun i hi => by simp at hi) (by omega)).mono ?_
          rintro e w' ⟨rfl, k1⟩
          exact ⟨rfl, hide (fin k1), CE (i + 1) w' (by omega) (fin k1)⟩
        · have hbb : 0 < t → bb < w0.heap.size := fun h => z2 _ _ bb oo x1 (by omega) rfl
          refine (same_any' (G i) bb oo c' (some ⟨bb, oo, none⟩) T t W ht hrow (fun _ => rfl) (fun h => Nat.lt_of_lt_of_le y1 (unhide hW).size) (fun h => ?_) (fun k hk => ?_) (unhide HSs T (List.mem_of_getElem? hT)) (by have := unhide Hss T (List.mem_of_getElem? hT); omega)).mono ?_
          · have := hbb h
            have := ((unhide HH).row i (by omega)).1
            omega
          · rw [(unhide hW).cell y1 (ng bb (hbb (by omega))), y2 k (by omega)]
            rfl
          · rintro e w' ⟨rfl, k1⟩
            exact ⟨rfl, hide (fin k1), CE (i + 1) w' (by omega) (fin k1)⟩)
      have pd : Hid (Kept (fun b => ∃ k, k < i ∧ b = G k) w wr.drew) := hide ((unhide p).trans (Kept.below (Below.refl _ _).drew))
      clear hAt x1 x2 x3 hT hTD htn ht z1 z2 ng e2 e3 e4 hNL hw0 CE
      go_wp2_with fail
      go_region_held3 (fun w' => w'.cell? ⟨gf, i, none⟩ = some (.slice (some ⟨G i, 0, none⟩) (t + 3) (t + 3)) ∧ w'.cell? ⟨b, off + i, none⟩ = some (.slice a' t c')) (go_keep) (first
        | (go_at_call 17; refine (unhide CS _ (by assumption)).mono ?_; rintro e w6 ⟨rfl, k6, s6⟩))
      all_goals go_wp2
      all_goals go_roundw
      all_goals first | exact ⟨rfl, i + 1, by go_num, by omega, k6⟩ | (simp [intOf]; omega)
    · obtain rfl : i = n := by omega
      have f1 : decide ((i : Int) < (i : Int)) = false := decide_eq_false (by omega)
      go_wp2
      go_ret
      exact ⟨rfl, p⟩
end Go.Proofs.YtecfgbjnjgjkoaaGreatDoor
namespace Go.Proofs.YtecfgbjnjgjkoaaGreatDoor
open Go.ChangeShapes Go.WideShapes Go.ChangeAt Go.RowKit
set_option linter.unusedVariables false
set_option linter.unusedSimpArgs false
set_option maxRecDepth 20000
set_option maxHeartbeats 4000000

theorem num_any (w : World) (x : Int) : Calls Tryz.prog 7 #[.int .i64 x] w fun e w' => e = .returned (.int .i64 x) ∧ w' = w := by
  go_enter Tryz.func7, Tryz.ntmps7
  go_wp2
  go_ret
  exact ⟨rfl, rfl⟩
theorem rcommand_nil (w : World) (a : Option Addr) (c : Nat) : Calls Tryz.prog 22 #[.slice a 0 c] w fun e w' => e = .returned (.tuple #[.slice none 0 0, .int .i64 87]) ∧ w' = w := by
  go_enter Tryz.func22, Tryz.ntmps22
  go_wp2
  go_ret2
  exact ⟨rfl, rfl⟩
theorem Spd.below {w wr wr' : World} {gm n g9 : Nat} {fv : Value} {L : List (List Nat)} {G : Nat → Nat} (h : Spd w wr gm n g9 fv L G) (hb : Below wr.heap.size wr wr') : Spd w wr' gm n g9 fv L G :=
  ⟨h.bel.trans (hb.mono h.bel.size), h.gmb, h.m.below hb, h.full.below hb, fun k hk => ⟨(h.row k hk).1, (h.row k hk).2.below hb⟩, h.one, h.nine.below hb, h.nin⟩
theorem flat_len : ∀ (L : List (List Nat)) (m : Nat), (∀ T ∈ L, T.length ≤ m) → L.flatten.length ≤ L.length * m
  | [], m, _ => by simp
  | x :: L, m, h => by
    have h1 := h x (List.mem_cons_self ..)
    have h2 := flat_len L m (fun T hT => h T (List.mem_cons_of_mem _ hT))
    simp only [List.flatten_cons, List.length_append, List.length_cons, Nat.add_mul, Nat.one_mul]
    omega
theorem cmdL_len {L : List (List Nat)} (h : ¬ cmdBad L) : (cmdL L).length ≤ 600000 := by
  have h1 : L.length ≤ 128 := Classical.byContradiction (fun e => h (.inr (.inl (by omega))))
  have h2 : ∀ T ∈ L, T.length ≤ 4096 := fun T hT => Classical.byContradiction (fun e => h (.inr (.inr ⟨T, hT, by omega⟩)))
  have sp := spell_short (L.length : Nat) (by omega) (by omega)
  have h3 := flat_len (L.map textL) 4125 (fun T hT => by
    obtain ⟨x, hx, rfl⟩ := List.mem_map.1 hT
    exact textL_len x (h2 x hx))
  unfold cmdL numL
  simp only [List.length_append, List.length_map, List.length_cons, List.length_nil] at h3 ⊢
  have : L.length * 4125 ≤ 128 * 4125 := Nat.mul_le_mul_right _ h1
  omega
/-- what both sides answer of these arguments -/
def BothC (L : List (List Nat)) (l : List Nat) (E : Int) : Prop :=
  (∀ w b off cap, Tab w → ArgsAt w b off L → Calls Tryz.prog 21 #[.slice (some ⟨b, off, none⟩) L.length cap] w fun e w' => ∃ va vc, e = .returned (.tuple #[.slice va l.length vc, .int .i64 E]) ∧ Hid (Gro w w' w.heap.size (.slice va l.length vc) l.length l)) ∧
  (∀ w a cap, ArgsO w a L → Calls Tryz.prog 22 #[.slice a L.length cap] w fun e w' => ∃ va vc, e = .returned (.tuple #[.slice va l.length vc, .int .i64 E]) ∧ Hid (Bytes w' va l ∧ (∀ g off, 0 < l.length → va = some ⟨g, off, none⟩ → w.heap.size ≤ g) ∧ Below w.heap.size w w'))
theorem both_any (L : List (List Nat)) (hS : ∀ T ∈ L, Small T) : ∃ l E, l.length ≤ 600000 ∧ BothC L l E := by
  by_cases hb : cmdBad L
  · refine ⟨[], 87, by simp, fun w b off cap ht hA => (command_any w b off cap L ht hA).mono ?_, fun w a cap hA => ?_⟩
    · rintro e w' (⟨-, rfl, h⟩ | ⟨h, -⟩)
      · exact ⟨none, 0, rfl, hide ⟨h, h.size, .inl ⟨rfl, rfl⟩, fun g hg => by simp [Value.ownBlock] at hg, rfl⟩⟩
      · exact absurd hb h
    · rcases hA with rfl | ⟨b, off, rfl, hA⟩
      · refine (rcommand_nil w a cap).mono ?_
        rintro e w' ⟨rfl, h⟩
        obtain rfl := h.symm
        exact ⟨none, 0, rfl, hide ⟨.inl rfl, fun g off h => by simp at h, Below.refl _ _⟩⟩
      · refine (rcommand_any w b off cap L hA hS).mono ?_
        rintro e w' (⟨-, rfl, h⟩ | ⟨h, -⟩)
        · exact ⟨none, 0, rfl, hide ⟨.inl rfl, fun g off h => by simp at h, h⟩⟩
        · exact absurd hb h
  · refine ⟨cmdL L, 0, cmdL_len hb, fun w b off cap ht hA => (command_any w b off cap L ht hA).mono ?_, fun w a cap hA => ?_⟩
    · rintro e w' (⟨h, -⟩ | ⟨-, va, n, vc, rfl, h⟩)
      · exact absurd h hb
      · obtain rfl := (unhide h).len
        exact ⟨va, vc, rfl, h⟩
    · rcases hA with rfl | ⟨b, off, rfl, hA⟩
      · exact absurd (.inl rfl) hb
      · refine (rcommand_any w b off cap L hA hS).mono ?_
        rintro e w' (⟨h, -⟩ | ⟨-, va, n, vc, rfl, h⟩)
        · exact absurd h hb
        · obtain ⟨g, cap', cur, fz, h1, h2, h3, h4, h5, h6, h7, h8⟩ := (unhide h).row
          cases h1
          subst h7
          refine ⟨_, _, rfl, hide ⟨.inr ⟨g, 0, rfl, block_lt h2, fun i hi => ?_⟩, fun g' off' h0 e => ?_, (unhide h).bel⟩⟩
          · rw [Nat.zero_add, cell_of_row _ _ _ _ _ _ h2, h8 i hi]; rfl
          · cases e
            exact (unhide h).own g rfl
theorem Td.start {W : World} (pb : Nat) (h1 : W.heap[pb]? = some (.cells #[.slice none 0 0, .slice none 0 0, .int .i64 0, .slice none 0 0, .slice none 0 0, .int .i64 0, .slice none 0 0, .slice none 0 0, .int .i64 0, .slice none 0 0, .slice none 0 0, .int .i64 0, .slice none 0 0, .slice none 0 0, .int .i64 0, .slice none 0 0, .slice none 0 0, .int .i64 0, .slice none 0 0, .slice none 0 0, .int .i64 0, .slice none 0 0, .slice none 0 0, .int .i64 0, .slice none 0 0, .slice none 0 0, .int .i64 0, .slice none 0 0, .slice none 0 0, .int .i64 0, .int .i64 0, .int .i64 0, .int .i64 0] 48 (0, 0))) (h2 : W.heap[pb + 1]? = some (.cells #[.pointer (some ⟨pb, 0, none⟩), .int .i64 400000] 50 (0, 0))) : Td W W pb 0 400000 [] [] := by
  have half : ∀ (c : Nat) (te tl : TypeId) (mk : Nat → Nat → Value), Bk.Half c te tl mk W (fun _ => 0) 0 ⟨Bk.nilS, Bk.nilS, [], [], 0⟩ := fun c te tl mk => ⟨.inl ⟨rfl, rfl⟩, .inl ⟨rfl, rfl⟩, fun g hg => by simp [Bk.nilS, Value.ownBlock] at hg, fun g hg => by simp [Bk.nilS, Value.ownBlock] at hg, fun j hj => by simp at hj, fun j _ hj => by simp at hj, by simp⟩
  refine ⟨fun _ => 0, ⟨⟨Bk.nilS, Bk.nilS, [], [], 0⟩, ⟨Bk.nilS, Bk.nilS, [], [], 0⟩, 0, 0, 0⟩, Nat.le_refl _, ⟨⟨⟨fun i hi => ?_, fun i hi => ?_, block_lt h1⟩, half _ _ _ _, half _ _ _ _, fun g hg => absurd rfl hg, rfl, rfl, rfl, Nat.le_refl _, Nat.le_refl _, by decide, by decide, by decide⟩, h2, rfl, fun b hb => rfl, fun z hz => (by cases hz), List.Pairwise.nil, fun x hx => (by cases hx), Kept.refl _ _, by have := block_lt h1; omega⟩⟩
  · simp only [World.cell?, h1, Nat.zero_add]
    match i, hi with
    | 0, _ => rfl | 1, _ => rfl | 2, _ => rfl | 3, _ => rfl | 4, _ => rfl | 5, _ => rfl | 6, _ => rfl | 7, _ => rfl | 8, _ => rfl | 9, _ => rfl | 10, _ => rfl | 11, _ => rfl | 12, _ => rfl | 13, _ => rfl | 14, _ => rfl | 15, _ => rfl | 16, _ => rfl | 17, _ => rfl | 18, _ => rfl | 19, _ => rfl | 20, _ => rfl | 21, _ => rfl | 22, _ => rfl | 23, _ => rfl | 24, _ => rfl | 25, _ => rfl | 26, _ => rfl | 27, _ => rfl | 28, _ => rfl | 29, _ => rfl | 30, _ => rfl | 31, _ => rfl | 32, _ => rfl | k + 33, h => exact absurd h (by omega)
  · simp only [World.frozen?, h1]
    simp
theorem ArgsW.opt {w w' : World} {a : Option Addr} {L : List (List Nat)} (h : ArgsW w a L) (hb : Below w.heap.size w w') (hs : ∀ T ∈ L, T.length ≤ 268435456) : ArgsO w' a L := by
  rcases h with h | ⟨b, off, rfl, hlt, hc⟩
  · exact .inl h
  · refine ArgsO.below (.inr ⟨b, off, rfl, hlt, fun k T hT => ?_⟩) hb
    obtain ⟨x, c, h1, h2, h3⟩ := hc k T hT
    exact ⟨x, c, h1, h2, hs T (List.mem_of_getElem? hT)⟩
theorem ArgsW.low {w w' : World} {a : Option Addr} {L : List (List Nat)} (h : ArgsW w a L) (hb : Below w.heap.size w w') : LowO w' a L w.heap.size := by
  intro b off k T e hT
  rcases h with rfl | ⟨b', off', e', hlt, hc⟩
  · simp at hT
  · rw [e] at e'
    cases e'
    refine ⟨hlt, fun x c g o hx h0 hg => ?_⟩
    obtain ⟨x', c', h1, h2, h3⟩ := hc k T hT
    rw [hb.cell hlt, h1] at hx
    cases hx
    rcases h2 with rfl | ⟨b2, o2, e2, hl2, _⟩
    · simp at h0
    · rw [hg] at e2
      cases e2
      exact hl2
theorem Td.old {w0 w1 W : World} {pb t : Nat} {m : Int} {Z : List (Value × List Nat)} {X : List (Nat × Obj)} (h : Td w1 W pb t m Z X) (h01 : Below w0.heap.size w0 w1) (hp : w0.heap.size ≤ pb) : Below w0.heap.size w0 W := by
  have k := h.kept
  exact h01.trans ⟨k.os, k.tape, k.output, k.size, fun b hb => k.blk b (Nat.lt_of_lt_of_le hb h01.size) (by omega)⟩
end Go.Proofs.YtecfgbjnjgjkoaaGreatDoor
