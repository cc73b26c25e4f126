/- ArenaRefused: blocks made, images kept. -/
import Derived.Test.YtdgdnpgjbphgaaaBegun
import Derived.Deep.CutBlock
import Derived.Deep.DeepCutAuto
import Derived.Deep.Light
namespace Go.Proofs.Ytdgdnpgjbphgaaa
open Go.ChangeShapes Go.WideShapes Go.ChangeAt Go.RowKit
set_option linter.unusedVariables false
set_option maxRecDepth 100000
set_option maxHeartbeats 8000000

/-- one step of a script -/
structure OpL where
  K : Int
  X : Int
  Y : Int
  A : Int
  B : Int
  C : Int
  V : Nat
  a : Option Addr
  l : List Nat
  c : Nat
def OpAt (w : World) (b o : Nat) (q : OpL) : Prop :=
  w.cell? ⟨b, o, none⟩ = some (.int .i64 q.K) ∧ w.cell? ⟨b, o + 1, none⟩ = some (.int .i64 q.X) ∧ w.cell? ⟨b, o + 2, none⟩ = some (.int .i64 q.Y) ∧ w.cell? ⟨b, o + 3, none⟩ = some (.int .i64 q.A) ∧ w.cell? ⟨b, o + 4, none⟩ = some (.int .i64 q.B) ∧ w.cell? ⟨b, o + 5, none⟩ = some (.int .i64 q.C) ∧ w.cell? ⟨b, o + 6, none⟩ = some (.int .u64 q.V) ∧ w.cell? ⟨b, o + 7, none⟩ = some (.slice q.a q.l.length q.c)
def OpOk (w : World) (q : OpL) : Prop := q.V < 18446744073709551616 ∧ q.B ≤ 9223372036854775807 ∧ -9223372036854775808 ≤ q.B ∧ Bytes w q.a q.l ∧ Small q.l
def Script (w : World) (a : Option Addr) (n : Nat) : Prop := n = 0 ∨ ∃ b off, a = some ⟨b, off, none⟩ ∧ b < w.heap.size ∧ ∀ i, i < n → ∃ q, OpAt w b (off + i * 8) q ∧ OpOk w q

/-- so many blocks were made -/
structure NewTo (base gp k : Nat) (w2 wr : World) (P : Nat → Nat × Nat × Nat) (N : Nat → Nat) : Prop where
  ar : ∀ j, j < k → Ar wr (P j).1 (P j).2.1 (P j).2.2 (List.replicate (N j) 0) (List.replicate (N j) false) 1 ∧ 1 ≤ N j
  low : ∀ j, j < k → ∀ x ∈ own3 P j, base ≤ x ∧ x < wr.heap.size
  apart : ∀ i j, i < k → j < k → i ≠ j → ∀ x ∈ own3 P i, x ∉ own3 P j
  cells : ∀ j, j < k → wr.cell? ⟨gp, j, none⟩ = some (.pointer (some ⟨(P j).1, 0, none⟩))
  room : ∀ j, j < 3 → (∃ v, wr.cell? ⟨gp, j, none⟩ = some v) ∧ wr.frozen? ⟨gp, j, none⟩ = false
  but : But [gp] w2 wr
theorem NewTo.next {base gp k : Nat} {w2 wr w' : World} {P : Nat → Nat × Nat × Nat} {N : Nat → Nat} (h : NewTo base gp k w2 wr P N) (hk : k < 3) (hg : gp < base) (hb2 : base ≤ w2.heap.size) {p bw bh m : Nat} (hm : 1 ≤ m) (hA : Ar w' p bw bh (List.replicate m 0) (List.replicate m false) 1) (h1 : wr.heap.size ≤ p) (h2 : wr.heap.size ≤ bw) (h3 : wr.heap.size ≤ bh) (hb : Below wr.heap.size wr w') :
    NewTo base gp (k + 1) w2 (w'.setCell ⟨gp, k, none⟩ (.pointer (some ⟨p, 0, none⟩))) (fun j => if j = k then (p, bw, bh) else P j) (fun j => if j = k then m else N j) := by
  have hgr : gp < wr.heap.size := by have := h.but.size; omega
  have hbs : base ≤ wr.heap.size := by have := h.but.size; omega
  have hbut : But [gp] w' (w'.setCell ⟨gp, k, none⟩ (.pointer (some ⟨p, 0, none⟩))) := (But.refl _ _).set ⟨gp, k, none⟩ (by simp) _
  have hsz := hb.size
  have hls := hbut.size
  have lw := hA.lw
  have lp := hA.lp
  have lh := hA.lh
  obtain ⟨⟨v0, hv0⟩, hf0⟩ := h.room k hk
  have hown : ∀ j, j < k → own3 (fun j => if j = k then (p, bw, bh) else P j) j = own3 P j := fun j hj => by
    unfold own3; dsimp only; rw [if_neg (by omega)]
  have hownk : own3 (fun j => if j = k then (p, bw, bh) else P j) k = [p, bw, bh] := by unfold own3; dsimp only; rw [if_pos rfl]
  have hcell : ∀ j, j ≠ k → (w'.setCell ⟨gp, k, none⟩ (.pointer (some ⟨p, 0, none⟩))).cell? ⟨gp, j, none⟩ = wr.cell? ⟨gp, j, none⟩ := fun j hj => by
    rw [World.cell?_setCell_other _ _ _ _ (fun e => hj (by injection e with e1 e2; exact e2.symm)), hb.cell (p := ⟨gp, j, none⟩) hgr]
  have hcellk : (w'.setCell ⟨gp, k, none⟩ (.pointer (some ⟨p, 0, none⟩))).cell? ⟨gp, k, none⟩ = some (.pointer (some ⟨p, 0, none⟩)) := World.cell?_setCell_same' w' _ _ (by rw [hb.cell (p := ⟨gp, k, none⟩) hgr, hv0]; rfl)
  refine ⟨fun j hj => ?_, fun j hj x hx => ?_, fun i j hi hj hij x hx => ?_, fun j hj => ?_, fun j hj => ⟨?_, ?_⟩, ?_⟩
  · by_cases e : j = k
    · rw [if_pos e, if_pos e]
      exact ⟨hA.but hbut (by simp; omega) (by simp; omega) (by simp; omega), hm⟩
    · rw [if_neg e, if_neg e]
      obtain ⟨a1, a2⟩ := h.ar j (by omega)
      have l := h.low j (by omega)
      have l1 := l (P j).1 (by simp [own3])
      have l2 := l (P j).2.1 (by simp [own3])
      have l3 := l (P j).2.2 (by simp [own3])
      exact ⟨(a1.below hb).but hbut (by simp; omega) (by simp; omega) (by simp; omega), a2⟩
  · by_cases e : j = k
    · subst e
      rw [hownk] at hx
      simp at hx
      omega
    · rw [hown j (by omega)] at hx
      have := h.low j (by omega) x hx
      omega
  · by_cases e : i = k
    · subst e
      rw [hownk] at hx
      rw [hown j (by omega)]
      intro hm
      have := h.low j (by omega) x hm
      simp at hx
      omega
    · rw [hown i (by omega)] at hx
      have hl := h.low i (by omega) x hx
      by_cases e2 : j = k
      · subst e2
        rw [hownk]
        simp
        omega
      · rw [hown j (by omega)]
        exact h.apart i j (by omega) (by omega) hij x hx
  · by_cases e : j = k
    · subst e; rw [if_pos rfl]; exact hcellk
    · rw [if_neg e, hcell j e]; exact h.cells j (by omega)
  · by_cases e : j = k
    · subst e; exact ⟨_, hcellk⟩
    · rw [hcell j e]; exact (h.room j hj).1
  · rw [World.frozen?_setCell]
    have := (h.room j hj).2
    unfold World.frozen? at this ⊢
    rw [hb.block gp hgr]; exact this
  · exact (h.but.trans (But.of_below hb)).trans hbut
theorem image_more {p bw bh : Nat} {ws : List Nat} {hs : List Bool} {used : Nat} (w : World) (h : Ar w p bw bh ws hs used) :
    Calls Try.prog 16 #[.pointer (some ⟨p, 0, none⟩)] w fun e w' => e = .returned (.slice (some ⟨w.heap.size, 0, none⟩) used used) ∧ w.heap.size < w'.heap.size ∧ (∀ j, j < used → w'.cell? ⟨w.heap.size, j, none⟩ = some (.int .u64 (ws.getD j 0 : Nat))) ∧ (∀ j, w'.frozen? ⟨w.heap.size, j, none⟩ = false) ∧ Below w.heap.size w w' := by
  have c0 := h.c0
  have c2 := h.c2
  have hu := h.u2
  have hu1 := h.u1
  have hz := h.sz
  have m1 := fun w' => run_make_row' (P := Try.prog) 34 36 (.int .u64 0) 8 Try.underlying34 Try.info36 rfl .i64 .i64 used (by omega) (by omega) w'
  have HB := hide ((Below.refl w.heap.size w).alloc (Nat.le_refl _) (.cells (madeCells #[.int .u64 0] used) 36))
  have hg := heap_alloc_new w (.cells (madeCells #[.int .u64 0] used) 36)
  have HG := hide hg
  have HW : Hid (∀ j v, ((List.range used).map fun k => Value.int .u64 (ws.getD k 0 : Nat))[j]? = some v → (w.alloc (.cells (madeCells #[.int .u64 0] used) 36)).cell? ((⟨bw, 0, none⟩ : Addr).add j) = some v) := hide (fun j v hj => by
    have hjl : j < used := by
      have := (List.getElem?_eq_some_iff.1 hj).1
      simpa using this
    rw [List.getElem?_map, List.getElem?_range hjl] at hj
    have e : (⟨bw, 0, none⟩ : Addr).add j = ⟨bw, j, none⟩ := by simp [Addr.add]; exact fun h => h.symm
    rw [e, (unhide HB).cell (p := ⟨bw, j, none⟩) h.lw, h.ww j (by omega)]
    exact hj)
  have c0' := ((unhide HB).cell (p := ⟨p, 0, none⟩) h.lp).trans c0
  clear h hg
  obtain ⟨i0, hi, hy0, hy1, hy2⟩ := info_parts Try.info36
  have hcopy : ∃ w2, (Builtin.copy_ #[34, 34] 3 #[.slice (some ⟨w.heap.size, 0, none⟩) used used, .slice (some ⟨bw, 0, none⟩) ws.length ws.length]).run Try.prog (w.alloc (.cells (madeCells #[.int .u64 0] used) 36)) = .ok (goInt used) w2 ∧ Hid (∀ j, j < used → w2.cell? ⟨w.heap.size, j, none⟩ = some (.int .u64 (ws.getD j 0 : Nat))) ∧ Hid (∀ j, w2.frozen? ⟨w.heap.size, j, none⟩ = false) ∧ Below w.heap.size w w2 ∧ w2.heap.size = w.heap.size + 1 := by
    obtain ⟨cs, hcs⟩ : ∃ cs, cs = (List.range used).map fun k => Value.int .u64 (ws.getD k 0 : Nat) := ⟨_, rfl⟩
    have hlen : cs.length = used := by rw [hcs]; simp
    rw [← hcs] at HW
    have hcp := run_copy_row (P := Try.prog) (w.alloc (.cells (madeCells #[.int .u64 0] used) 36)) 34 34 3 36 w.heap.size 0 used used ⟨bw, 0, none⟩ ws.length ws.length (madeCells #[.int .u64 0] used) 36 cs Try.underlying34 (by rw [hi]; simp [hy1]) (unhide HG) (by rw [hlen]; show used = min _ _; omega) (unhide HW) (by rw [hlen]; simp [madeCells]) (fun v hv => by rw [hcs] at hv; obtain ⟨k, _, rfl⟩ := List.mem_map.1 hv; rfl)
    rw [hlen] at hcp
    refine ⟨_, hcp, hide (fun j hj => ?_), hide (fun j => ?_), below_setRow (unhide HB) (Nat.le_refl _) _, by simp [World.setRow]⟩
    all_goals have hrow := setRow_heap (w.alloc (.cells (madeCells #[.int .u64 0] used) 36)) w.heap.size _ ((madeCells #[.int .u64 0] used).toList.take 0 ++ cs ++ (madeCells #[.int .u64 0] used).toList.drop (0 + used)).toArray 36 (0, 0) (unhide HG)
    · simp only [World.cell?, hrow]
      rw [List.take_zero, List.nil_append]
      simp [List.getElem?_append, hj, hcs]
    · simp only [World.frozen?, hrow]
      simp
  obtain ⟨w2, hcp, HR, HZ, hbr, hsz⟩ := hcopy
  go_enter Try.func16, Try.ntmps16
  go_wp2
  go_ret
  exact ⟨rfl, by omega, unhide HR, unhide HZ, hbr⟩

/-- so many images were kept -/
structure Snap (base gw m : Nat) (Y wz : World) (S : Nat → List Nat × List Bool × Nat) (G : Nat → Nat) : Prop where
  low : ∀ j, j < m → base ≤ G j ∧ G j < wz.heap.size
  ne : ∀ i j, i < m → j < m → i ≠ j → G i ≠ G j
  cells : ∀ j, j < m → wz.cell? ⟨gw, j, none⟩ = some (.slice (some ⟨G j, 0, none⟩) (S j).2.2 (S j).2.2)
  words : ∀ j, j < m → ∀ q, q < (S j).2.2 → wz.cell? ⟨G j, q, none⟩ = some (.int .u64 ((S j).1.getD q 0 : Nat)) ∧ wz.frozen? ⟨G j, q, none⟩ = false
  room : ∀ j, j < 3 → (∃ v, wz.cell? ⟨gw, j, none⟩ = some v) ∧ wz.frozen? ⟨gw, j, none⟩ = false
  but : But [gw] Y wz
theorem Snap.next {base gw m : Nat} {Y wz w' : World} {S : Nat → List Nat × List Bool × Nat} {G : Nat → Nat} (h : Snap base gw m Y wz S G) (hm : m < 3) (hg : gw < base) (hb2 : base ≤ Y.heap.size) (h1 : wz.heap.size < w'.heap.size) (h2 : ∀ q, q < (S m).2.2 → w'.cell? ⟨wz.heap.size, q, none⟩ = some (.int .u64 ((S m).1.getD q 0 : Nat))) (h3 : ∀ j, w'.frozen? ⟨wz.heap.size, j, none⟩ = false) (hb : Below wz.heap.size wz w') :
    Snap base gw (m + 1) Y (w'.setCell ⟨gw, m, none⟩ (.slice (some ⟨wz.heap.size, 0, none⟩) (S m).2.2 (S m).2.2)) S (fun j => if j = m then wz.heap.size else G j) := by
  have hgr : gw < wz.heap.size := by have := h.but.size; omega
  have hbs : base ≤ wz.heap.size := by have := h.but.size; omega
  have hbut : But [gw] w' (w'.setCell ⟨gw, m, none⟩ (.slice (some ⟨wz.heap.size, 0, none⟩) (S m).2.2 (S m).2.2)) := (But.refl _ _).set ⟨gw, m, none⟩ (by simp) _
  have hls := hbut.size
  obtain ⟨⟨v0, hv0⟩, hf0⟩ := h.room m hm
  have hcell : ∀ j, j ≠ m → (w'.setCell ⟨gw, m, none⟩ (.slice (some ⟨wz.heap.size, 0, none⟩) (S m).2.2 (S m).2.2)).cell? ⟨gw, j, none⟩ = wz.cell? ⟨gw, j, none⟩ := fun j hj => by
    rw [World.cell?_setCell_other _ _ _ _ (fun e => hj (by injection e with e1 e2; exact e2.symm)), hb.cell (p := ⟨gw, j, none⟩) hgr]
  have hcellm : (w'.setCell ⟨gw, m, none⟩ (.slice (some ⟨wz.heap.size, 0, none⟩) (S m).2.2 (S m).2.2)).cell? ⟨gw, m, none⟩ = some (.slice (some ⟨wz.heap.size, 0, none⟩) (S m).2.2 (S m).2.2) := World.cell?_setCell_same' w' _ _ (by rw [hb.cell (p := ⟨gw, m, none⟩) hgr, hv0]; rfl)
  refine ⟨fun j hj => ?_, fun i j hi hj hij => ?_, fun j hj => ?_, fun j hj q hq => ?_, fun j hj => ⟨?_, ?_⟩, ?_⟩
  · by_cases e : j = m
    · rw [if_pos e]; omega
    · rw [if_neg e]; have := h.low j (by omega); omega
  · by_cases e : i = m
    · rw [if_pos e, if_neg (by omega)]
      have := h.low j (by omega); omega
    · rw [if_neg e]
      by_cases e2 : j = m
      · rw [if_pos e2]; have := h.low i (by omega); omega
      · rw [if_neg e2]; exact h.ne i j (by omega) (by omega) hij
  · by_cases e : j = m
    · subst e; rw [if_pos rfl]; exact hcellm
    · rw [if_neg e, hcell j e]; exact h.cells j (by omega)
  · by_cases e : j = m
    · subst e
      rw [if_pos rfl, World.frozen?_setCell, hbut.cell (q := ⟨wz.heap.size, q, none⟩) h1 (by simp; omega)]
      exact ⟨h2 q hq, h3 q⟩
    · rw [if_neg e, World.frozen?_setCell]
      obtain ⟨l1, l2⟩ := h.low j (by omega)
      rw [hbut.cell (q := ⟨G j, q, none⟩) (Nat.lt_trans l2 h1) (by simp; omega), hb.cell (p := ⟨G j, q, none⟩) l2]
      obtain ⟨a1, a2⟩ := h.words j (by omega) q hq
      refine ⟨a1, ?_⟩
      unfold World.frozen? at a2 ⊢
      rw [hb.block (G j) l2]; exact a2
  · by_cases e : j = m
    · subst e; exact ⟨_, hcellm⟩
    · rw [hcell j e]; exact (h.room j hj).1
  · rw [World.frozen?_setCell]
    have := (h.room j hj).2
    unfold World.frozen? at this ⊢
    rw [hb.block gw hgr]; exact this
  · exact (h.but.trans (But.of_below hb)).trans hbut
end Go.Proofs.Ytdgdnpgjbphgaaa
