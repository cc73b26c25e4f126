/- spares: the walk. -/
import Derived.Test.YtcnlikojbkegiaaGreatDoorSpb
namespace Go.Proofs.YtcnlikojbkegiaaGreatDoor
open Go.ChangeShapes Go.WideShapes Go.ChangeAt Go.RowKit
set_option linter.unusedVariables false
set_option linter.unusedSimpArgs false
set_option maxRecDepth 20000
set_option maxHeartbeats 4000000

theorem Tryz.info25s : (Tryz.prog.info? 25).map (fun i => (i.zero, i.size, i.bytes)) = some (some (.slice none 0 0), 1, 24) := by kernel_rfl
theorem Spm.cells {w wr : World} {gm n : Nat} {fv : Value} {L : List (List Nat)} {i : Nat} {G : Nat → Nat} (h : Spm w wr gm n fv L i G) (hi : i < n) : ∃ gf fc, fv = .slice (some ⟨gf, 0, none⟩) (i + 1) fc ∧ wr.cell? ⟨gf, i, none⟩ = some (fuV L G i) ∧ (∃ u, wr.cell? ⟨gm, i, none⟩ = some u) ∧ wr.frozen? ⟨gm, i, none⟩ = false := by
  obtain ⟨gf, fc, e1, e2, e3, e4⟩ := h.full.at (by omega)
  obtain ⟨g', mc, f1, f2, f3, f4⟩ := h.m.at (by omega)
  cases f1
  refine ⟨gf, fc, e1, e4 i (by omega), ⟨_, f4 i (by omega)⟩, ?_⟩
  rcases h.m with ⟨e, _⟩ | ⟨g, cap, cur, e, hg, _⟩
  · cases e
  · cases e
    simp only [World.frozen?, hg]
    simp
theorem Spr.last {w wr : World} {gm n : Nat} {fv : Value} {L : List (List Nat)} {G : Nat → Nat} (h : Spr w wr gm n fv L n G) (o : Obj) : (∃ u, (wr.alloc o).cell? ⟨gm, n, none⟩ = some u) ∧ (wr.alloc o).frozen? ⟨gm, n, none⟩ = false := by
  have h1 := h.below ((Below.refl _ _).alloc (Nat.le_refl _) o)
  obtain ⟨g', mc, f1, f2, f3, f4⟩ := h1.m.at (by omega)
  cases f1
  refine ⟨⟨_, f4 n (by omega)⟩, ?_⟩
  rcases h1.m with ⟨e, _⟩ | ⟨g, cap, cur, e, hg, _⟩
  · cases e
  · cases e
    simp only [World.frozen?, hg]
    simp
theorem spares_any (a : Option Addr) (c : Nat) (L : List (List Nat)) (w : World) (hA : ArgsO w a L) (hl : L.length ≤ 268435456) :
    Calls Tryz.prog 20 #[.slice a L.length c] w fun e w' => ∃ gm g9 fv G, e = .returned (.tuple #[.slice (some ⟨gm, 0, none⟩) (L.length + 1) (L.length + 1), fv]) ∧ Hid (Spd w w' gm L.length g9 fv L G) := by
  obtain ⟨n, hn⟩ : ∃ n, n = L.length := ⟨_, rfl⟩
  rw [← hn] at hl ⊢
  have HN := hide hn
  have HA := hide hA
  clear hA hn
  obtain ⟨i25, hi25, hz25, hs25, hb25⟩ := info_partsS Tryz.info25s
  have m1 := fun w' => run_make_row' (P := Tryz.prog) 36 25 (.slice none 0 0) 24 Tryz.underlying36 Tryz.info25s rfl .i64 .i64 (n + 1) (by omega) (by omega) w'
  rw [show ((n + 1 : Nat) : Int) = (n : Int) + 1 by omega] at m1
  have ST := hide (Spr.start w n L (by simp only [maxLen]; omega))
  go_enter Tryz.func20, Tryz.ntmps20
  go_wp2
  go_loopw [5, 6] (fun fv iv wr => ∃ (i : Nat) (G : Nat → Nat), iv = .int .i64 (i : Nat) ∧ i ≤ n ∧ Hid (Spr w wr w.heap.size n fv L i G)) (fun _ iv _ => n - (intOf iv).toNat)
  case atStart => exact ⟨0, _, rfl, Nat.zero_le _, ST⟩
  case round =>
    obtain ⟨i, G, rfl, hi, p⟩ := hrel
    obtain ⟨fa, fc, rfl⟩ := (unhide p).full.shape
    clear ST
    rcases Nat.lt_or_ge i n with hlt | hge
    · have f1 : decide ((i : Int) < (n : Int)) = true := decide_eq_true (by omega)
      have g1 : (0 : Int) ≤ (i : Int) := by omega
      have g2 : (i : Int) < (n : Int) := by omega
      have g3 : (i : Int) < (n : Int) + 1 := by omega
      have g4 : (i : Int) < (i : Int) + 1 := by omega
      obtain ⟨b, off, rfl, hAt⟩ : ∃ b off, a = some ⟨b, off, none⟩ ∧ ArgsAt w b off L := by
        rcases unhide HA with h | h
        · rw [h] at HN; have := unhide HN; simp at this; omega
        · exact h
      obtain ⟨T, hT⟩ : ∃ T, L[i]? = some T := ⟨_, List.getElem?_eq_getElem (by have := unhide HN; omega)⟩
      obtain ⟨a', c', x1, x2, x3⟩ := hAt.2 i T hT
      have hTD : L.getD i [] = T := by rw [List.getD_eq_getElem?_getD, hT]; rfl
      have htn : tn L i = T.length := by unfold tn; rw [hTD]
      obtain ⟨t, ht⟩ : ∃ t, t = T.length := ⟨_, rfl⟩
      have c1 : wr.cell? ⟨b, off + i, none⟩ = some (.slice a' t c') := by rw [(unhide p).bel.cell hAt.1, x1, ht]
      have CS : Hid (Calls Tryz.prog 14 #[.slice a' t c'] wr fun e w' => e = .returned (.slice (some ⟨wr.heap.size, 0, none⟩) (t + 3) (t + 3)) ∧ Hid (Rws w' 5 1 (.slice (some ⟨wr.heap.size, 0, none⟩) (t + 3) (t + 3)) (t + 3) (byV (L.getD i [] ++ [7, 7, 7])) ∧ Below wr.heap.size wr w')) := hide (by
        rw [ht, hTD]
        rcases x2 with rfl | ⟨bb, oo, rfl, y1, y2⟩
        · exact spare_any a' c' [] wr (.inl rfl) (by simp)
        · exact spare_any (some ⟨bb, oo, none⟩) c' T wr (.inr ⟨bb, oo, rfl, Nat.lt_of_lt_of_le y1 (unhide p).bel.size, fun k hk => by rw [(unhide p).bel.cell y1]; exact y2 k hk⟩) (by omega))
      have MID : Hid (∀ w1 v' w3, Hid (Rws w1 5 1 (.slice (some ⟨wr.heap.size, 0, none⟩) (t + 3) (t + 3)) (t + 3) (byV (L.getD i [] ++ [7, 7, 7])) ∧ Below wr.heap.size wr w1) → Rws w3 25 1 v' (i + 1) (fun k => if k < i * 1 then fuV L G k else [Value.slice (some ⟨wr.heap.size, 0, none⟩) (t + 3) (t + 3)].getD (k - i * 1) undef) → Gr 25 (i * 1) 1 (w1.alloc (.cells #[.slice (some ⟨wr.heap.size, 0, none⟩) (t + 3) (t + 3)] 25)) w3 (.slice fa i fc) v' → ∃ G', Hid (Spm w w3 w.heap.size n v' L i G') ∧ tn L i = t) := hide (fun w1 v' w3 h1 h3 hG => ⟨_, hide ((unhide p).mid (by rw [htn, ← ht]; exact unhide h1) (by rw [htn, ← ht]; exact h3) (by rw [htn, ← ht]; exact hG)), by rw [htn, ht]⟩)
      have FU : Hid (∀ w1, Hid (Rws w1 5 1 (.slice (some ⟨wr.heap.size, 0, none⟩) (t + 3) (t + 3)) (t + 3) (byV (L.getD i [] ++ [7, 7, 7])) ∧ Below wr.heap.size wr w1) → Rws (w1.alloc (.cells #[.slice (some ⟨wr.heap.size, 0, none⟩) (t + 3) (t + 3)] 25)) 25 1 (.slice fa i fc) i (fun k => fuV L G k)) := hide (fun w1 h1 => ((unhide p).full.below (unhide h1).2).below ((Below.refl _ _).alloc (Nat.le_refl _) _))
      have CE : Hid (∀ w3 v' G', Hid (Spm w w3 w.heap.size n v' L i G') → w3.cell? ⟨b, off + i, none⟩ = some (.slice a' t c')) := hide (fun w3 v' G' h => by rw [(unhide h).bel.cell hAt.1, x1, ht])
      have ht2 : t ≤ 268435456 := by omega
      clear hAt x1 x2 x3 hT hTD htn ht
      go_upto_region 7 with (first
        | (go_at_call 14; refine (unhide CS).mono ?_; rintro e w1 ⟨rfl, k1⟩)
        | (at_builtin; refine append_rws rfl _ _ 36 rfl 25 i25 _ 1 24 Tryz.underlying36 hi25 hz25 hs25 hb25 rfl 25 (.slice fa i fc) i (fun k => fuV L G k) rfl (unhide FU w1 k1) (.inl rfl) w1.heap.size 1 rfl [.slice (some ⟨wr.heap.size, 0, none⟩) (t + 3) (t + 3)] (by decide) rfl (made_cells w1 _ 25) (fun x hx => by simp at hx; subst hx; rfl) (by omega) (by omega) ?_; intro v' w3 h3 hG; obtain ⟨G', k3, ke⟩ := unhide MID w1 v' w3 k1 h3 hG; clear h3 hG))
      obtain ⟨gf, fc', rfl, d1, ⟨u, d2⟩, d3⟩ := (unhide k3).cells hlt
      have d4 := unhide CE _ _ _ k3
      have PUT := hide ((unhide k3).put hlt)
      rw [show fuV L G' i = .slice (some ⟨G' i, 0, none⟩) (t + 3) (t + 3) by unfold fuV; rw [ke]] at d1
      rw [show inV L G' i = .slice (some ⟨G' i, 0, none⟩) t (t + 3) by unfold inV; rw [ke]] at PUT
      clear CS MID FU CE p k1
      have r1 : (t : Int) ≤ (t : Int) + 3 := by omega
      have r2 : (0 : Int) ≤ (t : Int) := by omega
      go_region
      all_goals go_wp2
      all_goals go_roundw
      all_goals first | exact ⟨i + 1, _, by go_num, by omega, PUT⟩ | (simp [intOf]; omega)
    · obtain rfl : i = n := by omega
      have f1 : decide ((i : Int) < (i : Int)) = false := decide_eq_false (by omega)
      have g1 : (0 : Int) ≤ (i : Int) := by omega
      have g3 : (i : Int) < (i : Int) + 1 := by omega
      obtain ⟨⟨u, d1⟩, d2⟩ := (unhide p).last (.cells #[.int .u8 9] 5)
      have DN := hide (unhide p).done
      clear p
      go_wp2
      all_goals go_ret2
      all_goals exact ⟨_, _, _, _, rfl, DN⟩
end Go.Proofs.YtcnlikojbkegiaaGreatDoor
