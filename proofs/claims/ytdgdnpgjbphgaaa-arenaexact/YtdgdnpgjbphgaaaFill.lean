/- fill. -/
import Derived.Test.YtdgdnpgjbphgaaaTake
namespace Go.Proofs.Ytdgdnpgjbphgaaa
open Go.ChangeShapes Go.WideShapes Go.ChangeAt Go.RowKit
set_option linter.unusedVariables false
set_option maxRecDepth 100000
set_option maxHeartbeats 2000000

/-- the words of an object of that shape -/
def wd (s : Nat × Nat × Nat) : Nat := 1 + s.2.1 + s.2.2
def headOf (s : Nat × Nat × Nat) : Nat := s.1 + 256 * s.2.1 + 4294967296 * s.2.2
/-- where object i begins -/
def place (L : List (Nat × Nat × Nat)) : Nat → Nat
  | 0 => 1
  | i + 1 => place L i + wd (L.getD i (0, 0, 0))
theorem place_mono (L : List (Nat × Nat × Nat)) (i j : Nat) : place L i ≤ place L (i + j) := by
  induction j with
  | zero => exact Nat.le_refl _
  | succ j ih => rw [← Nat.add_assoc]; show _ ≤ place L (i + j) + _; omega
theorem place_le (L : List (Nat × Nat × Nat)) {i j : Nat} (h : i ≤ j) : place L i ≤ place L j := by
  obtain ⟨d, rfl⟩ := Nat.exists_eq_add_of_le h
  exact place_mono L i d
theorem place_lt (L : List (Nat × Nat × Nat)) {i j : Nat} (h : i < j) : place L i + wd (L.getD i (0, 0, 0)) ≤ place L j := place_le L (i := i + 1) h
theorem place_pos' (L : List (Nat × Nat × Nat)) (i : Nat) : 1 ≤ place L i := place_le L (i := 0) (Nat.zero_le _)
def ints (L : List (Nat × Nat × Nat)) : List (Int × Int × Int) := L.map fun s => ((s.1 : Int), (s.2.1 : Int), (s.2.2 : Int))
theorem ints_at (L : List (Nat × Nat × Nat)) (i : Nat) (h : i < L.length) : (ints L).getD i (0, 0, 0) = (((L.getD i (0, 0, 0)).1 : Int), ((L.getD i (0, 0, 0)).2.1 : Int), ((L.getD i (0, 0, 0)).2.2 : Int)) := by
  unfold ints
  rw [List.getD_eq_getElem?_getD, List.getElem?_map, List.getD_eq_getElem?_getD, List.getElem?_eq_getElem h]; rfl
/-- shapes that may be -/
def Good (L : List (Nat × Nat × Nat)) : Prop := ∀ i, i < L.length → 1 ≤ (L.getD i (0, 0, 0)).1 ∧ (L.getD i (0, 0, 0)).1 ≤ 255 ∧ (L.getD i (0, 0, 0)).2.1 ≤ 24 ∧ (L.getD i (0, 0, 0)).2.2 ≤ 24

/-- the first i objects lie in the block, all their fields 0 -/
structure LaidTo (L : List (Nat × Nat × Nat)) (i : Nat) (ws : List Nat) (hs : List Bool) : Prop where
  marks : ∀ k, k < place L i → (hs.getD k false = true ↔ ∃ j, j < i ∧ k = place L j)
  heads : ∀ j, j < i → ws.getD (place L j) 0 = headOf (L.getD j (0, 0, 0))
  fields : ∀ j f, j < i → f < (L.getD j (0, 0, 0)).2.1 + (L.getD j (0, 0, 0)).2.2 → ws.getD (place L j + 1 + f) 0 = 0
  zero : ws.getD 0 0 = 0

theorem LaidTo.start (L : List (Nat × Nat × Nat)) (n : Nat) (hn : 1 ≤ n) : LaidTo L 0 (List.replicate n 0) (List.replicate n false) where
  marks k hk := by
    have : k = 0 := by unfold place at hk; omega
    subst this
    rw [rep_at n 0 false false (by omega)]
    constructor
    · intro h; cases h
    · rintro ⟨j, hj, _⟩; omega
  heads j hj := by omega
  fields j f hj := by omega
  zero := rep_at n 0 0 0 (by omega)
theorem LaidTo.next {L : List (Nat × Nat × Nat)} {i : Nat} {ws : List Nat} {hs : List Bool} (h : LaidTo L i ws hs) (hl : hs.length = ws.length) (hn : place L (i + 1) ≤ ws.length) :
    LaidTo L (i + 1) (laid ws (place L i) (wd (L.getD i (0, 0, 0))) (headOf (L.getD i (0, 0, 0)))) (mark hs (place L i) (wd (L.getD i (0, 0, 0)))) := by
  have hp : place L (i + 1) = place L i + wd (L.getD i (0, 0, 0)) := rfl
  have hw1 : 1 ≤ wd (L.getD i (0, 0, 0)) := by unfold wd; omega
  have before : ∀ j, j < i → place L j + wd (L.getD j (0, 0, 0)) ≤ place L i := fun j hj => place_lt L hj
  refine ⟨fun k hk => ?_, fun j hj => ?_, fun j f hj hf => ?_, by
    have := place_pos' L i
    rw [laid_at ws _ _ _ _ (by omega), if_neg (by omega), if_neg (by omega)]; exact h.zero⟩
  · rw [mark_at hs _ _ k (by omega)]
    by_cases e : k = place L i
    · rw [if_pos e]
      exact ⟨fun _ => ⟨i, by omega, e⟩, fun _ => rfl⟩
    · rw [if_neg e]
      by_cases hr : place L i ≤ k ∧ k < place L i + wd (L.getD i (0, 0, 0))
      · rw [if_pos hr]
        constructor
        · intro h; cases h
        · rintro ⟨j, hj, rfl⟩
          by_cases hji : j = i
          · subst hji; exact absurd rfl e
          · have := before j (by omega); unfold wd at this; omega
      · rw [if_neg hr, h.marks k (by omega)]
        constructor
        · rintro ⟨j, hj, rfl⟩; exact ⟨j, by omega, rfl⟩
        · rintro ⟨j, hj, rfl⟩
          by_cases hji : j = i
          · subst hji; exact absurd rfl e
          · exact ⟨j, by omega, rfl⟩
  · by_cases hji : j = i
    · subst hji
      rw [laid_at ws _ _ _ _ (by omega), if_pos rfl]
    · have := before j (by omega)
      unfold wd at this
      rw [laid_at ws _ _ _ _ (by omega), if_neg (by omega), if_neg (by omega)]
      exact h.heads j (by omega)
  · by_cases hji : j = i
    · subst hji
      have : wd (L.getD j (0, 0, 0)) = 1 + (L.getD j (0, 0, 0)).2.1 + (L.getD j (0, 0, 0)).2.2 := rfl
      rw [laid_at ws _ _ _ _ (by omega), if_neg (by omega), if_pos (by omega)]
    · have := before j (by omega)
      unfold wd at this
      rw [laid_at ws _ _ _ _ (by omega), if_neg (by omega), if_neg (by omega)]
      exact h.fields j f (by omega) hf

theorem Ar.under {B : Nat} {w w' : World} {p bw bh : Nat} {ws : List Nat} {hs : List Bool} {used : Nat} (h : Ar w p bw bh ws hs used) (k : Below B w w') (hs1 : w.heap.size ≤ w'.heap.size) (h1 : p < B) (h2 : bw < B) (h3 : bh < B) : Ar w' p bw bh ws hs used where
  c0 := (k.cell (p := ⟨p, 0, none⟩) h1).trans h.c0
  c1 := (k.cell (p := ⟨p, 1, none⟩) h1).trans h.c1
  c2 := (k.cell (p := ⟨p, 2, none⟩) h1).trans h.c2
  f2 := by
    have := k.block p h1
    unfold World.frozen?; rw [this]; exact h.f2
  ww j hj := (k.cell (p := ⟨bw, j, none⟩) h2).trans (h.ww j hj)
  wf j hj := by
    have := k.block bw h2
    unfold World.frozen?; rw [this]; exact h.wf j hj
  hh j hj := (k.cell (p := ⟨bh, j, none⟩) h3).trans (h.hh j hj)
  hf j hj := by
    have := k.block bh h3
    unfold World.frozen?; rw [this]; exact h.hf j hj
  hl := h.hl
  ne1 := h.ne1
  ne2 := h.ne2
  ne3 := h.ne3
  lp := Nat.lt_of_lt_of_le h.lp hs1
  lw := Nat.lt_of_lt_of_le h.lw hs1
  lh := Nat.lt_of_lt_of_le h.lh hs1
  u1 := h.u1
  u2 := h.u2
  sz := h.sz
  small := h.small
theorem rowbut {B : List Nat} {w w' : World} {base e size n : Nat} {v : Value} {xs : List Value} (h : w.ownsRow base e size v n xs) (hb : But B w w') (hB : ∀ j ∈ B, j < base) : w'.ownsRow base e size v n xs := by
  refine ⟨h.1, ?_⟩
  rcases h.2 with hn | ⟨g, cap, cur, rfl, hbb, hg, rest⟩
  · exact .inl hn
  · exact .inr ⟨g, cap, cur, rfl, hbb, by rw [hb.block g (Array.getElem?_eq_some_iff.1 hg).1 (fun hm => by have := hB g hm; omega)]; exact hg, rest⟩
theorem But.below {B : List Nat} {base : Nat} {w0 w w' : World} (h : But B w w') (hb : Below base w0 w) (hB : ∀ j ∈ B, base ≤ j) (hsz : base ≤ w.heap.size) : Below base w0 w' :=
  ⟨h.os.trans hb.os, h.tape.trans hb.tape, h.output.trans hb.output, Nat.le_trans hb.size h.size, fun j hj => (h.block j (by omega) (fun hm => by have := hB j hm; omega)).trans (hb.block j hj)⟩

def icells (l : List Nat) : List Value := l.map fun n : Nat => Value.int .i64 (n : Int)
def places (L : List (Nat × Nat × Nat)) (i : Nat) : List Nat := (List.range i).map (place L)
theorem Try.info3 : (Try.prog.info? 3).map (fun i => (i.zero, i.size, i.bytes)) = some (some (.int .i64 0), 1, 8) := by kernel_rfl

theorem place_bound {L : List (Nat × Nat × Nat)} (hg : Good L) (i : Nat) (hi : i ≤ L.length) : place L i ≤ 1 + 49 * i := by
  induction i with
  | zero => unfold place; omega
  | succ i ih =>
    have h1 := ih (by omega)
    obtain ⟨_, _, h3, h4⟩ := hg i (by omega)
    show place L i + wd (L.getD i (0, 0, 0)) ≤ _
    unfold wd; omega
theorem place_pos (L : List (Nat × Nat × Nat)) (i : Nat) : 1 ≤ place L i := place_le L (i := 0) (Nat.zero_le _)

theorem fill_any (b off cap : Nat) (w : World) (L : List (Nat × Nat × Nat)) (hg : Good L) (hpos : 0 < L.length) (hl : L.length ≤ 4000) (hb : b < w.heap.size) (hL : ShapesAt w b off (ints L)) :
    Calls Try.prog 10 #[.slice (some ⟨b, off, none⟩) L.length cap] w fun e w' => ∃ p bw bh v ws hs, e = .returned (.tuple #[.pointer (some ⟨p, 0, none⟩), v, .bool true]) ∧ Ar w' p bw bh ws hs (place L L.length) ∧ ws.length = place L L.length ∧ LaidTo L L.length ws hs ∧
      (∃ base, w'.ownsRow base 3 1 v L.length (icells (places L L.length)) ∧ p < base ∧ bw < base ∧ bh < base) ∧ w.heap.size ≤ p ∧ w.heap.size ≤ bw ∧ w.heap.size ≤ bh ∧ Below w.heap.size w w' := by
  have HL := hide hL
  have HG := hide hg
  clear hL hg
  go_enter Try.func10, Try.ntmps10
  go_wp2_with fail
  go_loopw [5, 6] (fun n i wr => ∃ k : Nat, k ≤ L.length ∧ i = .int .i64 k ∧ n = .int .i64 (place L k : Nat) ∧ Below w.heap.size w wr) (fun _ i _ => L.length - (intOf i).toNat)
  case atStart => exact ⟨0, by omega, rfl, rfl, Below.refl _ _⟩
  case round =>
    obtain ⟨k, hk, rfl, rfl, hbl⟩ := hrel
    by_cases hlt : k < L.length
    · obtain ⟨c0, c1, c2⟩ := unhide HL k (by unfold ints; rw [List.length_map]; exact hlt)
      rw [ints_at L k hlt] at c1 c2
      have hpb := place_bound (unhide HG) k hk
      obtain ⟨_, _, g3, g4⟩ := unhide HG k hlt
      have hp1 : place L (k + 1) = place L k + (1 + (L.getD k (0, 0, 0)).2.1 + (L.getD k (0, 0, 0)).2.2) := rfl
      generalize (L.getD k (0, 0, 0)).2.1 = r at *
      generalize (L.getD k (0, 0, 0)).2.2 = s at *
      have d1 : wr.cell? ⟨b, off + k * 3 + 1, none⟩ = some (.int .i64 (r : Int)) := (hbl.cell (p := ⟨b, off + k * 3 + 1, none⟩) hb).trans c1
      have d2 : wr.cell? ⟨b, off + k * 3 + 2, none⟩ = some (.int .i64 (s : Int)) := (hbl.cell (p := ⟨b, off + k * 3 + 2, none⟩) hb).trans c2
      have HP : Hid (((place L (k + 1) : Nat) : Int) = (place L k : Int) + 1 + (r : Int) + (s : Int)) := hide (by rw [hp1]; omega)
      obtain ⟨q, hq⟩ : ∃ q, q = place L k := ⟨_, rfl⟩
      rw [← hq] at hpb HP ⊢
      clear c0 c1 c2 hp1 hq
      have z0 : (0 : Int) ≤ (k : Int) := by omega
      have z1 : (k : Int) < (L.length : Int) := by omega
      go_wp2
      go_quiet (fail)
      go_wp2
      go_roundw
      case rel => exact ⟨k + 1, by omega, by go_num, by rw [unhide HP], ⟨hbl.os, hbl.tape, hbl.output, hbl.size, hbl.block⟩⟩
      case measure => simp [intOf]; omega
    · have hk2 : k = L.length := by omega
      subst hk2
      have hpb := place_bound (unhide HG) L.length (Nat.le_refl _)
      have hp1 := place_pos L L.length
      have HN := hide (new_yes (place L L.length) hp1 (by omega) wr)
      go_wp2_with fail
      refine (unhide HN).mono ?_
      rintro e w1 ⟨p, bw, bh, rfl, hA1, q1, q2, q3, hb1⟩
      have HA := hide hA1
      clear hA1
      go_wp2_with fail
      refine (num_any 0 w1).mono ?_
      rintro e w' ⟨rfl, hw'⟩
      obtain rfl := hw'.symm
      have hbw1 := hbl.trans (hb1.mono hbl.size)
      have HB1 := hide hbw1
      have hsz1 := hb1.size
      have lt1 := (unhide HA).lp
      have lt2 := (unhide HA).lw
      have lt3 := (unhide HA).lh
      obtain ⟨i0, hi, hy0, hy1, hy2⟩ := info_parts Try.info3
      have hws0 := hbl.size
      rename World => wz
      clear hbl hb1 hbw1
      go_wp2_with fail
      go_loopw [9, 10, 11] (fun v nx i wr => ∃ (k : Nat) (ws : List Nat) (hs : List Bool), k ≤ L.length ∧ i = .int .i64 k ∧ nx = .int .i64 (place L k : Nat) ∧ wr.ownsRow wz.heap.size 3 1 v k (icells (places L k)) ∧ Ar wr p bw bh ws hs (place L k) ∧ ws.length = place L L.length ∧ LaidTo L k ws hs ∧ Below w.heap.size w wr ∧ wz.heap.size ≤ wr.heap.size) (fun _ _ i _ => L.length - (intOf i).toNat)
      case atStart => exact ⟨0, _, _, by omega, rfl, rfl, World.ownsRow_nil _ _ _ _, unhide HA, by simp, LaidTo.start L _ hp1, unhide HB1, Nat.le_refl _⟩
      case round =>
        obtain ⟨k, ws, hs, hk, rfl, rfl, hown, hAr, hwl, hLaid, hbl, hszz⟩ := hrel
        by_cases hlt : k < L.length
        · obtain ⟨c0, c1, c2⟩ := unhide HL k (by unfold ints; rw [List.length_map]; exact hlt)
          rw [ints_at L k hlt] at c0 c1 c2
          obtain ⟨g1, g2, g3, g4⟩ := unhide HG k hlt
          have hp1' : place L (k + 1) = place L k + (1 + (L.getD k (0, 0, 0)).2.1 + (L.getD k (0, 0, 0)).2.2) := rfl
          have hpl : place L (k + 1) ≤ place L L.length := place_le L (by omega)
          have hnx := hLaid.next hAr.hl (by omega)
          have HAL := hide (alloc_yes (L.getD k (0, 0, 0)).1 (L.getD k (0, 0, 0)).2.1 (L.getD k (0, 0, 0)).2.2 wr.drew (hAr.drawn 1) ⟨by omega, by omega, by omega, by omega, by omega, by omega⟩ (by omega))
          have hwd : wd (L.getD k (0, 0, 0)) = 1 + (L.getD k (0, 0, 0)).2.1 + (L.getD k (0, 0, 0)).2.2 := rfl
          have hhd : headOf (L.getD k (0, 0, 0)) = (L.getD k (0, 0, 0)).1 + 256 * (L.getD k (0, 0, 0)).2.1 + 4294967296 * (L.getD k (0, 0, 0)).2.2 := rfl
          rw [hwd, hhd] at hnx
          have HNX := hide hnx
          have hwl2 : (laid ws (place L k) (1 + (L.getD k (0, 0, 0)).2.1 + (L.getD k (0, 0, 0)).2.2) ((L.getD k (0, 0, 0)).1 + 256 * (L.getD k (0, 0, 0)).2.1 + 4294967296 * (L.getD k (0, 0, 0)).2.2)).length = place L L.length := by rw [laid_length]; exact hwl
          have HWL := hide hwl2
          have d0 := (hbl.cell (p := ⟨b, off + k * 3, none⟩) hb).trans c0
          have d1 := (hbl.cell (p := ⟨b, off + k * 3 + 1, none⟩) hb).trans c1
          have d2 := (hbl.cell (p := ⟨b, off + k * 3 + 2, none⟩) hb).trans c2
          have hpb2 := place_bound (unhide HG) L.length (Nat.le_refl _)
          have HP : Hid (((place L (k + 1) : Nat) : Int) = (place L k : Int) + 1 + ((L.getD k (0, 0, 0)).2.1 : Int) + ((L.getD k (0, 0, 0)).2.2 : Int)) := hide (by rw [hp1']; omega)
          generalize (L.getD k (0, 0, 0)).1 = kd at *
          generalize (L.getD k (0, 0, 0)).2.1 = r at *
          generalize (L.getD k (0, 0, 0)).2.2 = s at *
          have HK : Hid (∀ w', But [p, bw, bh] wr.drew w' → w'.cell? ⟨b, off + k * 3, none⟩ = some (.int .i64 (kd : Int)) ∧ w'.cell? ⟨b, off + k * 3 + 1, none⟩ = some (.int .i64 (r : Int)) ∧ w'.cell? ⟨b, off + k * 3 + 2, none⟩ = some (.int .i64 (s : Int))) := hide (fun w' hw => by
            have hbn : b ∉ [p, bw, bh] := by simp; omega
            have hbs : b < wr.drew.heap.size := Nat.lt_of_lt_of_le hb hbl.size
            exact ⟨(hw.cell (q := ⟨b, off + k * 3, none⟩) hbs hbn).trans d0, (hw.cell (q := ⟨b, off + k * 3 + 1, none⟩) hbs hbn).trans d1, (hw.cell (q := ⟨b, off + k * 3 + 2, none⟩) hbs hbn).trans d2⟩)
          have HOWN : Hid (∀ w', But [p, bw, bh] wr.drew w' → w'.ownsRow wz.heap.size 3 1 _ k (icells (places L k))) := hide (fun w' hw => rowbut (w := wr.drew) hown hw (fun j hj => by simp at hj; omega))
          have HBL : Hid (∀ w', But [p, bw, bh] wr.drew w' → Below w.heap.size w w') := hide (fun w' hw => hw.below (w := wr.drew) ⟨hbl.os, hbl.tape, hbl.output, hbl.size, hbl.block⟩ (fun j hj => by simp at hj; omega) hbl.size)
          have hkq : place L k ≤ 196001 := by omega
          have hpe : Hid (icells (places L (k + 1)) = icells (places L k) ++ [.int .i64 ((place L k : Nat) : Int)]) := hide (by unfold icells places; rw [List.range_succ]; simp)
          obtain ⟨q, hq⟩ : ∃ q, q = place L k := ⟨_, rfl⟩
          rw [← hq] at HAL HP hkq hpe ⊢
          have HQ := hide hq
          have z0 : (0 : Int) ≤ (k : Int) := by omega
          have z1 : (k : Int) < (L.length : Int) := by omega
          clear c0 c1 c2 hp1' hnx hwl2 hwd hhd hAr hLaid hown hbl hwl hq hpl
          go_wp2_with fail
          go_region_held3 (fun w' => w'.cell? ⟨b, off + k * 3, none⟩ = some (.int .i64 (kd : Int)) ∧ w'.cell? ⟨b, off + k * 3 + 1, none⟩ = some (.int .i64 (r : Int)) ∧ w'.cell? ⟨b, off + k * 3 + 2, none⟩ = some (.int .i64 (s : Int)))
            (first | exact ⟨d0, d1, d2⟩ | assumption | exact unhide HK _ (by assumption))
            (first | (go_at_call 34; refine (unhide HAL).mono ?_; rintro e w2 ⟨rfl, hA2, hB2⟩))
          have hown2 := unhide HOWN w2 hB2
          have hbl2 := unhide HBL w2 hB2
          obtain ⟨x0, x1, x2⟩ := unhide HK w2 hB2
          have hsz2 : wz.heap.size ≤ w2.heap.size := Nat.le_trans hszz hB2.size
          have HA2 := hide hA2
          clear d0 d1 d2 hA2 HAL HK HOWN HBL hB2
          go_wp2_with fail
          refine (num_any 0 w2).mono ?_
          rintro e w' ⟨rfl, hw'⟩
          obtain rfl := hw'.symm
          go_wp2_with (at_builtin; refine wpList_append_own _ rfl _ _ 30 rfl wz.heap.size 3 i0 (.int .i64 0) 1 8 Try.underlying30 hi hy0 hy1 hy2 rfl (by decide) _ _ _ rfl (hown2.alloc _) ⟨w2.heap.size, 0, none⟩ 1 1 [.int .i64 (q : Int)] rfl rfl ?c1 ?c2 ?c3 ?c4 ?c5 ?_)
          case c1 =>
            intro j u hj
            match j, hj with
            | 0, hj => simp at hj; subst hj; simp [Addr.add]
          case c2 => intro u hu; simp at hu; subst hu; rfl
          case c3 => simp [maxLen]; omega
          case c4 => omega
          case c5 => simp; omega
          · intro v' w5 hown' hgrow _
            have hg5 : Below wz.heap.size w2 w5 := by
              have hlt2 := hown2.lt
              exact ((Below.refl wz.heap.size w2).alloc hsz2 _).grown hgrow (by simp; omega) (fun j hj => (hlt2 j hj).1)
            have hA5 := (unhide HA2).under hg5 hg5.size lt1 lt2 lt3
            have hbl5 : Below w.heap.size w w5 := hbl2.trans (hg5.mono (by omega))
            have y1 : w5.cell? ⟨b, off + k * 3 + 1, none⟩ = some (.int .i64 (r : Int)) := (hg5.cell (p := ⟨b, off + k * 3 + 1, none⟩) (by show b < wz.heap.size; omega)).trans x1
            have y2 : w5.cell? ⟨b, off + k * 3 + 2, none⟩ = some (.int .i64 (s : Int)) := (hg5.cell (p := ⟨b, off + k * 3 + 2, none⟩) (by show b < wz.heap.size; omega)).trans x2
            have hsz5 : wz.heap.size ≤ w5.heap.size := Nat.le_trans hsz2 hg5.size
            have HOWN5 : Hid (w5.ownsRow wz.heap.size 3 1 v' (k + 1) (icells (places L (k + 1)))) := hide (by rw [unhide hpe]; exact hown')
            have HA5 := hide hA5
            have HBL5 := hide hbl5
            clear hown' hgrow hown2 hbl2 x0 x1 x2 hA5 hbl5 hg5 HA2
            go_wp2
            go_quiet (fail)
            go_wp2
            go_roundw
            case rel =>
              have hA6 := unhide HA5
              have hq := unhide HQ
              have e1 : q + (1 + r + s) = place L (k + 1) := by have := unhide HP; omega
              rw [e1] at hA6
              rw [hq] at hA6
              exact ⟨k + 1, _, _, by omega, by go_num, by rw [unhide HP], unhide HOWN5, hA6.drawn _, unhide HWL, unhide HNX, ⟨(unhide HBL5).os, (unhide HBL5).tape, (unhide HBL5).output, (unhide HBL5).size, (unhide HBL5).block⟩, hsz5⟩
            case measure => simp [intOf]; omega
        · have hk2 : k = L.length := by omega
          subst hk2
          have HFU := hide (alloc_full 1 0 0 wr hAr ⟨by decide, by decide, by decide, by decide, by decide, by decide⟩ (by omega))
          have HAR := hide hAr
          go_wp2_with fail
          refine (unhide HFU).mono ?_
          rintro e w2 ⟨rfl, hb2⟩
          have hA2 := (unhide HAR).below hb2
          have HU := hide (used_any w2 hA2)
          have HS := hide (size_any w2 hA2)
          have HA2 := hide hA2
          rw [hwl] at HS
          clear hA2 hAr
          go_wp2_with (first
            | (go_at_call 13; refine (num_any _ _).mono ?_; rintro e w' ⟨rfl, hw'⟩; obtain rfl := hw'.symm)
            | (go_at_call 17; refine (unhide HU).mono ?_; rintro e w' ⟨rfl, hw'⟩; obtain rfl := hw'.symm)
            | (go_at_call 35; refine (unhide HS).mono ?_; rintro e w' ⟨rfl, hw'⟩; obtain rfl := hw'.symm))
          go_ret3
          exact ⟨p, bw, bh, _, ws, hs, rfl, unhide HA2, hwl, hLaid, ⟨wz.heap.size, rowbelow hown hb2, by omega, by omega, by omega⟩, by omega, by omega, by omega, hbl.trans (hb2.mono hbl.size)⟩
end Go.Proofs.Ytdgdnpgjbphgaaa
