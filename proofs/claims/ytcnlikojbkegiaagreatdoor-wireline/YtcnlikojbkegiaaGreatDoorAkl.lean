/- asked: a Line. -/
import Derived.Test.YtcnlikojbkegiaaGreatDoorAka
import Derived.Test.YtcnlikojbkegiaaGreatDoorLiy
import Derived.Test.YtcnlikojbkegiaaGreatDoorTdr
import Derived.Test.YtcnlikojbkegiaaGreatDoorHvt
namespace Go.Proofs.YtcnlikojbkegiaaGreatDoor
open Go.ChangeShapes Go.WideShapes Go.ChangeAt Go.RowKit
set_option linter.unusedVariables false
set_option linter.unusedSimpArgs false
set_option maxRecDepth 20000
set_option maxHeartbeats 4000000

structure E2 (W W2 : World) (C : Array Value) (S : Nat) : Prop where
  bel : Below (W.heap.size + 1) (W.alloc (.cells C 52)) W2
  few : S ≤ 16777216
theorem E2.old {W W2 : World} {C : Array Value} {S : Nat} (h : E2 W W2 C S) : Below W.heap.size W W2 := ((Below.refl W.heap.size W).alloc (Nat.le_refl _) _).trans (h.bel.mono (Nat.le_succ _))
theorem E2.cell {W W2 : World} {C : Array Value} {S : Nat} (h : E2 W W2 C S) (j : Nat) (v : Value) (hv : C[j]? = some v) : W2.cell? ⟨W.heap.size, j, none⟩ = some v := by
  rw [h.bel.cell (Nat.lt_succ_self _), cell_of_row _ _ _ _ _ _ (heap_alloc_new W _)]; exact hv
theorem E2.below {W W2 W3 : World} {C : Array Value} {S : Nat} (h : E2 W W2 C S) (hb : Below W2.heap.size W2 W3) : E2 W W3 C S := ⟨h.bel.trans (hb.mono (by have := h.bel.size; simp at this; omega)), h.few⟩
theorem E2.lt {W W2 : World} {C : Array Value} {S : Nat} (h : E2 W W2 C S) : W.heap.size < W2.heap.size := by
  have := h.bel.size
  simp at this
  omega
end Go.Proofs.YtcnlikojbkegiaaGreatDoor
namespace Go.Proofs.YtcnlikojbkegiaaGreatDoor
open Go.ChangeShapes Go.WideShapes Go.ChangeAt Go.RowKit
set_option linter.unusedVariables false
set_option linter.unusedSimpArgs false
set_option maxRecDepth 20000
set_option maxHeartbeats 4000000

theorem first_say (b : List Nat) (x : List Nat × List Nat) (h : Larder8.firstL b = some x) : x.1.length ≤ b.length ∧ x.2.length ≤ b.length := by
  unfold Larder8.firstL at h
  have hp := Larder8.pre_le b
  cases hk : Larder8.closeP (b.drop (Larder8.pre b)) with
  | none => rw [hk] at h; cases h
  | some y =>
    rw [hk] at h
    cases h
    have h1 := (Larder8.close_len _ y hk).1
    simp only [List.length_append, List.length_take, List.length_drop] at h1 ⊢
    have h2 : y.1.length ≤ (b.drop (Larder8.pre b)).length := by
      match hb : b.drop (Larder8.pre b), hk with
      | [], hk => rw [Larder8.closeP] at hk; cases hk; simp
      | c :: r, hk =>
        rw [Larder8.closeP] at hk
        split at hk
        · cases hk; simp
        · split at hk
          · cases hk
          · rename_i s hq
            cases hk
            have := quoted_say c _ _ (Nat.le_refl _) _ hq
            simp only [List.length_cons]
            simp only at this
            omega
          · rename_i s d r' hq
            split at hk
            · cases hk
              have := quoted_say c _ _ (Nat.le_refl _) _ hq
              simp only [List.length_cons]
              simp only at this
              omega
            · cases hk
    simp only [List.length_drop] at h2
    omega
theorem line_say : ∀ (n : Nat) (b : List Nat), b.length ≤ n → ∀ ws, Larder8.lineW b = some ws → ∀ T ∈ ws, T.length ≤ b.length
  | n, [], _, ws, h, T, hT => by rw [Larder8.lineW] at h; cases h; cases hT
  | 0, c :: r, hl, ws, h, T, hT => by simp at hl
  | n + 1, c :: r, hl, ws, h, T, hT => by
    rw [Larder8.lineW] at h
    split at h
    · have := line_say n r (by simpa using hl) ws h T hT
      simp; omega
    · rename_i hb
      split at h
      · cases h
      · rename_i x hx
        have h1 := first_say _ x hx
        have h3 := Larder8.first_len c r (by simpa using hb) x hx
        cases h2 : Larder8.lineW x.2 with
        | none => rw [h2] at h; cases h
        | some ws2 =>
          rw [h2] at h
          cases h
          rcases List.mem_cons.1 hT with e | e
          · rw [e]; exact h1.1
          · have := line_say n x.2 (by simp at hl h3 ⊢; omega) ws2 h2 T e
            omega
theorem lineL_say (D : List Nat) : (Larder8.lineL D).1.length ≤ 128 ∧ ∀ T ∈ (Larder8.lineL D).1, T.length ≤ 1024 := by
  unfold Larder8.lineL
  split
  · exact ⟨by simp, fun T hT => by cases hT⟩
  · rename_i h1
    cases hw : Larder8.lineW D with
    | none => exact ⟨by simp, fun T hT => by cases hT⟩
    | some ws =>
      simp only
      split
      · exact ⟨by simp, fun T hT => by cases hT⟩
      · rename_i h2
        exact ⟨by show ws.length ≤ 128; omega, fun T hT => by have := line_say _ D (Nat.le_refl _) ws hw T hT; omega⟩
theorem Z_len {Z : List (Value × List Nat)} {L : List (List Nat)} (h : Z.map (·.2) = L) : Z.length = L.length := by rw [← h]; simp
theorem WsAt.kept {w W W' : World} {B g : Nat} {v : Value} {Z : List (Value × List Nat)} (h : WsAt w W B v Z) (hk : Kept1 g W W') (hg : g < B) : Rws W' 25 1 v Z.length (fun k => (Z.getD k (undef, [])).1) ∧ ∀ z ∈ Z, Rws W' 5 1 z.1 z.2.length (byV z.2) :=
  ⟨h.row.same (fun q hq => hk.blk q (by have := h.rown q hq; omega)), fun z hz => (h.ent z hz).1.same (fun q hq => hk.blk q (by have := (h.ent z hz).2 q hq; omega))⟩
theorem args_of {W : World} {va : Option Addr} {n vc : Nat} {Z : List (Value × List Nat)} (hr : Rws W 25 1 (.slice va n vc) Z.length (fun k => (Z.getD k (undef, [])).1)) (he : ∀ z ∈ Z, Rws W 5 1 z.1 z.2.length (byV z.2)) (hl : ∀ z ∈ Z, z.2.length ≤ 268435456) : ArgsO W va (Z.map (·.2)) := by
  rcases hr with ⟨_, h0⟩ | ⟨b, cap, cur, e, hg, hn, hm, hs, hh⟩
  · exact .inl (by rw [List.eq_nil_of_length_eq_zero h0]; rfl)
  · simp only [Value.slice.injEq] at e
    refine .inr ⟨b, 0, e.1, block_lt hg, fun k T hT => ?_⟩
    rw [List.getElem?_map] at hT
    cases hz : Z[k]? with
    | none => rw [hz] at hT; cases hT
    | some z =>
      rw [hz] at hT
      cases hT
      obtain ⟨hkl, hkz⟩ := List.getElem?_eq_some_iff.1 hz
      have hmem : z ∈ Z := by rw [← hkz]; exact List.getElem_mem hkl
      obtain ⟨a, c, hv, hB, _⟩ := (he z hmem).bytes
      refine ⟨a, c, ?_, hB, hl z hmem⟩
      rw [Nat.zero_add, cell_of_row _ _ _ _ _ _ hg, hh k (by omega), ← hv]
      show some (Z.getD k (undef, [])).1 = _
      rw [List.getD_eq_getElem?_getD, hz]
      rfl
theorem rowx_of {W : World} {v : Value} {Z : List (Value × List Nat)} (hr : Rws W 25 1 v Z.length (fun k => (Z.getD k (undef, [])).1)) : ∃ xs, Br.RowX v Z xs ∧ ∀ x ∈ xs, v.ownBlock = some x.1 ∧ W.heap[x.1]? = some x.2 := by
  rcases hr with ⟨rfl, h0⟩ | ⟨b, cap, cur, rfl, hg, hn, hm, hs, hh⟩
  · exact ⟨[], .inl ⟨rfl, List.eq_nil_of_length_eq_zero h0, rfl⟩, fun x hx => by cases hx⟩
  · refine ⟨[(b, .cells cur 25 (0, 0))], .inr ⟨b, cap, cur, rfl, rfl, hn, hm, by omega, fun j hj => hh j (by omega)⟩, fun x hx => ?_⟩
    simp only [List.mem_singleton] at hx
    subst hx
    exact ⟨rfl, hg⟩
theorem E2.kept {W W2 W3 : World} {C : Array Value} {S g : Nat} (h : E2 W W2 C S) (hk : Kept1 g W2 W3) (hg : W.heap.size < g) : E2 W W3 C S :=
  ⟨h.bel.trans ⟨hk.os, hk.tape, hk.output, by rw [hk.size]; exact Nat.le_refl _, fun b hb => hk.blk b (by omega)⟩, h.few⟩
/-- behind spare -/
structure F3 (W W2 W3 : World) (C : Array Value) (D : List Nat) (n : Nat) : Prop where
  s2 : E2 W W2 C 0
  bel : Below W2.heap.size W2 W3
  row : Rws W3 5 1 (.slice (some ⟨W2.heap.size, 0, none⟩) (n + 3) (n + 3)) (n + 3) (byV (D ++ [7, 7, 7]))
  len : n = D.length
/-- behind both Lines -/
structure F5 (W W2 W3 W4 W5 : World) (C : Array Value) (D : List Nat) (n : Nat) (va ma : Option Addr) (ln vc mn mc : Nat) (Z Y : List (Value × List Nat)) : Prop where
  s3 : F3 W W2 W3 C D n
  w4 : WsAt W3 W4 W3.heap.size (.slice va ln vc) Z
  zl : ln = Z.length
  zm : Z.map (·.2) = (Larder8.lineL D).1
  w5 : WsAt W4 W5 W4.heap.size (.slice ma mn mc) Y
  yl : mn = Y.length
  ym : Y.map (·.2) = (Larder8.lineL D).1
theorem F3.now {W W2 W3 : World} {C : Array Value} {D : List Nat} {n : Nat} (h : F3 W W2 W3 C D n) : E2 W W3 C 0 := h.s2.below h.bel
theorem F3.g {W W2 W3 : World} {C : Array Value} {D : List Nat} {n : Nat} (h : F3 W W2 W3 C D n) : W.heap.size < W2.heap.size ∧ W2.heap.size < W3.heap.size := ⟨h.s2.lt, h.row.lt _ rfl⟩
theorem asked_line (w0 w1 W : World) (pb t : Nat) (m : Int) (da la : Option Addr) (dn dc n lc d : Nat) (x : Tr d) (L : List (List Nat)) (D : List Nat) (r0 r1 r2 r3 : Value)
    (hT : Br.Td w1 W pb t m [] []) (h01 : Below w0.heap.size w0 w1) (hp : w0.heap.size ≤ pb) (hn : n = L.length) (hA : ArgsW w0 la L) (hR : RpAt w0 d x r0 r1 r2 r3) (hd : dn ≤ 140737488351232) (hl : n ≤ 140737488351232) (hD : dn = D.length ∧ Bytes w0 da D ∧ Small D) (hdc : dn ≤ dc ∧ dc ≤ 9223372036854775807) (htt : t < 900000) (hm : -4611686018427387904 ≤ m ∧ m ≤ 4611686018427387904) :
    Calls Tryz.prog 9 #[.agg #[.int .i64 1, .slice da dn dc, .slice la n lc, r0, r1, r2, r3], .pointer (some ⟨pb + 1, 0, none⟩)] W fun e w' => e = .returned (.bool true) ∧ ∃ m', Hid (Br.Td w1 w' pb (t + 129) m' [] []) ∧ m - 600000 ≤ m' ∧ m' ≤ m := by
  have h0W : Below w0.heap.size w0 W := by
    have hk := hT.kept
    refine ⟨hk.os.trans h01.os, hk.tape.trans h01.tape, hk.output.trans h01.output, Nat.le_trans h01.size hk.size, fun b hb => (hk.blk b (Nat.lt_of_lt_of_le hb h01.size) (by omega)).trans (h01.block b hb)⟩
  have hWB : Below W.heap.size W (W.alloc (.cells #[.int .i64 1, .slice da dn dc, .slice la n lc, r0, r1, r2, r3] 52)) := (Below.refl _ _).alloc (Nat.le_refl _) _
  obtain ⟨C, hC⟩ : ∃ C : Array Value, C = #[.int .i64 1, .slice da dn dc, .slice la n lc, r0, r1, r2, r3] := ⟨_, rfl⟩
  obtain ⟨hDl, hDb, hDs⟩ := hD
  have CH : Hid (Calls Tryz.prog 13 #[.agg #[.int .i64 1, .slice da dn dc, .slice la n lc, r0, r1, r2, r3]] (W.alloc (.cells #[.int .i64 1, .slice da dn dc, .slice la n lc, r0, r1, r2, r3] 52)) fun e w' => ∃ h : Bool, e = .returned (.bool h) ∧ Hid (Below W.heap.size W w') ∧ (h = false → dn ≤ 16777216) ∧ Hid (E2 W w' C 0) ∧ w'.cell? ⟨W.heap.size, 0, none⟩ = some (.int .i64 1) ∧ w'.cell? ⟨W.heap.size, 1, none⟩ = some (.slice da dn dc)) := hide (by
    refine (heavy_tree _ 1 da la dn dc n lc d x L _ _ _ _ hn ?_ ((hR.below h0W).below hWB) hd hl).mono ?_
    · rcases hA with h | ⟨b, off, e, hlt, hc⟩
      · exact .inl h
      · have hb0 := h0W.trans (hWB.mono h0W.size)
        refine .inr ⟨b, off, e, Nat.lt_of_lt_of_le hlt hb0.size, fun k T hT => ?_⟩
        obtain ⟨x, c, y1, y2, y3⟩ := hc k T hT
        exact ⟨x, c, (hb0.cell hlt).trans y1, y2.below hb0, y3⟩
    · rintro e w' ⟨h, rfl, kb, kh⟩
      have bb : Below (W.heap.size + 1) (W.alloc (.cells #[.int .i64 1, .slice da dn dc, .slice la n lc, r0, r1, r2, r3] 52)) w' := (unhide kb).mono (by simp)
      have cc : ∀ j v, (#[.int .i64 1, .slice da dn dc, .slice la n lc, r0, r1, r2, r3] : Array Value)[j]? = some v → w'.cell? ⟨W.heap.size, j, none⟩ = some v := fun j v hv => by
        rw [bb.cell (Nat.lt_succ_self _), cell_of_row _ _ _ _ _ _ (heap_alloc_new W _)]; exact hv
      exact ⟨h, rfl, hide (hWB.trans (bb.mono (Nat.le_succ _))), fun e => by have := kh e; omega, hide ⟨by rw [hC]; exact bb, by omega⟩, cc 0 _ rfl, cc 1 _ rfl⟩)
  have cs : ∀ {W2 : World}, E2 W W2 C 0 → W2.cell? ⟨W.heap.size, 1, none⟩ = some (.slice da dn dc) := fun h => h.cell 1 _ (by rw [hC]; rfl)
  have b0 : ∀ {W2 : World}, E2 W W2 C 0 → Below w0.heap.size w0 W2 := fun h => h0W.trans (h.old.mono h0W.size)
  have CSP : Hid (∀ W2, dn ≤ 16777216 → Hid (E2 W W2 C 0) → Calls Tryz.prog 14 #[.slice da dn dc] W2 fun e w' => e = .returned (.slice (some ⟨W2.heap.size, 0, none⟩) (dn + 3) (dn + 3)) ∧ Hid (F3 W W2 w' C D dn) ∧ w'.cell? ⟨W.heap.size, 1, none⟩ = some (.slice da dn dc)) := hide (fun W2 hs h2 => by
    have := spare_any da dc D W2 (hDb.below (b0 (unhide h2))) (by omega)
    rw [← hDl] at this
    refine this.mono ?_
    rintro e w' ⟨rfl, k⟩
    have f3 : F3 W W2 w' C D dn := ⟨unhide h2, (unhide k).2, (unhide k).1, hDl⟩
    exact ⟨rfl, hide f3, cs f3.now⟩)
  have CLN : Hid (∀ W2 W3, dn ≤ 16777216 → Hid (F3 W W2 W3 C D dn) → Calls Tryz.prog 15 #[.slice (some ⟨W2.heap.size, 0, none⟩) dn (dn + 3)] W3 fun e w' => ∃ (va : Option Addr) (ln vc : Nat) (E : Int), e = .returned (.tuple #[.slice va ln vc, .int .i64 E]) ∧ Hid (E = (Larder8.lineL D).2) ∧ Hid (∃ Z, WsAt W3 w' W3.heap.size (.slice va ln vc) Z ∧ ln = Z.length ∧ Z.map (·.2) = (Larder8.lineL D).1) ∧ w'.cell? ⟨W.heap.size, 1, none⟩ = some (.slice da dn dc)) := hide (fun W2 W3 hs h3 => by
    have hB : Bytes W3 (some ⟨W2.heap.size, 0, none⟩) D := by
      have h1 := (unhide h3).row.take (m := dn) (by omega) (byV D) (fun k hk => by
        unfold byV
        rw [List.getD_eq_getElem?_getD, List.getD_eq_getElem?_getD, List.getElem?_append_left (by omega)])
      rw [hDl] at h1
      exact h1.inb'.1
    refine (line_any W3 _ (dn + 3) dn D hDl hB (by omega) (by omega)).mono ?_
    rintro e w' ⟨va, ln, vc, E, rfl, k⟩
    obtain ⟨k1, Z, k2, k3, k4⟩ := unhide k
    exact ⟨va, ln, vc, E, rfl, hide k1, hide ⟨Z, k2, k3, k4⟩, cs ((unhide h3).now.below k2.bel)⟩)
  have CRL : Hid (∀ W2 W3 W4 va ln vc, Hid (F3 W W2 W3 C D dn) → Hid (∃ Z, WsAt W3 W4 W3.heap.size (.slice va ln vc) Z ∧ ln = Z.length ∧ Z.map (·.2) = (Larder8.lineL D).1) → Calls Tryz.prog 16 #[.slice da dn dc] W4 fun e w' => ∃ (ma : Option Addr) (mn mc : Nat) (E : Int), e = .returned (.tuple #[.slice ma mn mc, .int .i64 E]) ∧ Hid (E = (Larder8.lineL D).2) ∧ Hid (∃ Z Y, F5 W W2 W3 W4 w' C D dn va ma ln vc mn mc Z Y) ∧ w'.cell? ⟨W.heap.size, 1, none⟩ = some (.slice da dn dc)) := hide (fun W2 W3 W4 va ln vc h3 h4 => by
    obtain ⟨Z, k2, k3, k4⟩ := unhide h4
    have e4 := (unhide h3).now.below k2.bel
    refine (rline_any W4 da dc dn D ⟨hDb.below (b0 e4), hDl, hdc.1, hdc.2⟩).mono ?_
    rintro e w' ⟨ma, mn, mc, E, rfl, k⟩
    obtain ⟨j1, Y, j2, j3, j4⟩ := unhide k
    exact ⟨ma, mn, mc, E, rfl, hide j1, hide ⟨Z, Y, ⟨unhide h3, k2, k3, k4, j2, j3, j4⟩⟩, cs (e4.below j2.bel)⟩)
  have CSM : Hid (∀ W2 W3 W4 W5 va ma ln vc mn mc, dn ≤ 16777216 → Hid (∃ Z Y, F5 W W2 W3 W4 W5 C D dn va ma ln vc mn mc Z Y) → Calls Tryz.prog 17 #[.slice (some ⟨W2.heap.size, 0, none⟩) (dn + 3) (dn + 3), .slice da dn dc] W5 fun e w' => e = .returned (.bool true) ∧ Hid (Kept1 W2.heap.size W5 w')) := hide (fun W2 W3 W4 W5 va ma ln vc mn mc hs h5 => by
    obtain ⟨Z, Y, f⟩ := unhide h5
    have e5 := (f.s3.now.below f.w4.bel).below f.w5.bel
    have hb5 := b0 e5
    have g1 := f.s3.g
    have hr5 := (f.s3.row.below f.w4.bel).below f.w5.bel
    have hbd := hDb.below hb5
    rcases hbd with e | ⟨b, off, e, hb1, hc⟩
    · refine (same_any' W2.heap.size 0 0 dc da D dn W5 hDl hr5 (fun h => by rw [e] at hDl; simp at hDl; omega) (fun h => by rw [e] at hDl; simp at hDl; omega) (fun h => by rw [e] at hDl; simp at hDl; omega) (fun k hk => by rw [e] at hDl; simp at hDl; omega) hDs (by omega)).mono ?_
      rintro e w' ⟨rfl, k⟩
      exact ⟨rfl, hide k⟩
    · refine (same_any' W2.heap.size b off dc da D dn W5 hDl hr5 (fun _ => e) (fun _ => hb1) (fun h => ?_) (fun k hk => hc k (by omega)) hDs (by omega)).mono ?_
      · rcases hDb with e2 | ⟨b', off', e2, hb2, _⟩
        · rw [e2] at hDl; simp at hDl; omega
        · rw [e2] at e
          cases e
          have := h0W.size
          omega
      · rintro e w' ⟨rfl, k⟩
        exact ⟨rfl, hide k⟩)
  have hLs := lineL_say D
  have CEQ : Hid (∀ W2 W3 W4 W5 W6 va ma ln vc mn mc, Hid (∃ Z Y, F5 W W2 W3 W4 W5 C D dn va ma ln vc mn mc Z Y) → Hid (Kept1 W2.heap.size W5 W6) → Calls Tryz.prog 18 #[.slice va ln vc, .slice ma mn mc] W6 fun e w' => e = .returned (.bool true) ∧ Hid (∃ Z xs, Br.Td w1 w' pb t m Z xs ∧ Br.RowX (.slice va ln vc) Z xs ∧ ln = Z.length ∧ Z.map (·.2) = (Larder8.lineL D).1)) := hide (fun W2 W3 W4 W5 W6 va ma ln vc mn mc h5 hk => by
    obtain ⟨Z, Y, f⟩ := unhide h5
    have g1 := f.s3.g
    have s34 := f.w4.sz
    have hzl := Z_len f.zm
    have hyl := Z_len f.ym
    obtain rfl : mn = ln := by rw [f.zl, f.yl, hzl, hyl]
    have e6 := ((f.s3.now.below f.w4.bel).below f.w5.bel).kept (unhide hk) g1.1
    have r6 := (f.w4.below f.w5.bel).kept (unhide hk) g1.2
    have y6 := f.w5.kept (unhide hk) (Nat.lt_of_lt_of_le g1.2 f.w4.bel.size)
    have zs : ∀ z ∈ Z, z.2.length ≤ 1024 := fun z hz => hLs.2 _ (by rw [← f.zm]; exact List.mem_map_of_mem hz)
    have ys : ∀ z ∈ Y, z.2.length ≤ 1024 := fun z hz => hLs.2 _ (by rw [← f.ym]; exact List.mem_map_of_mem hz)
    have a1 := args_of r6.1 r6.2 (fun z hz => by have := zs z hz; omega)
    have a2 := args_of y6.1 y6.2 (fun z hz => by have := ys z hz; omega)
    rw [f.zm] at a1
    rw [f.ym] at a2
    refine (eqlists_opt W6 va ma mn vc mc _ (by rw [f.zl, hzl]) a1 a2 (by rw [f.zl, hzl]; omega)).mono ?_
    rintro e w' ⟨rfl, k⟩
    obtain ⟨xs, hx1, hx2⟩ := rowx_of r6.1
    have hbW : Below W.heap.size W w' := e6.old.trans (k.below.mono e6.old.size)
    have hmore := hT.more hbW Z (fun z hz => ⟨(r6.2 z hz).below k.below, fun g hg => by have := (f.w4.ent z hz).2 g hg; omega⟩) f.w4.ap xs (fun x hx => ⟨by have := f.w4.rown x.1 (hx2 x hx).1; omega, by rw [k.heap]; exact (hx2 x hx).2, fun z hz => r6.1.apart (r6.2 z hz) (by decide) x.1 (hx2 x hx).1⟩)
    rw [List.append_nil] at hmore
    exact ⟨rfl, hide ⟨Z, xs, hmore, hx1, f.zl, f.zm⟩⟩)
  have CTO : Hid (∀ W8 va ln vc, Hid (∃ Z xs, Br.Td w1 W8 pb t m Z xs ∧ Br.RowX (.slice va ln vc) Z xs ∧ ln = Z.length ∧ Z.map (·.2) = (Larder8.lineL D).1) → Calls Tryz.prog 19 #[.pointer (some ⟨pb + 1, 0, none⟩), .slice va ln vc] W8 fun e w' => e = .returned (.tuple #[]) ∧ ∃ m', Hid (Br.Td w1 w' pb (t + 129) m' [] []) ∧ m - 600000 ≤ m' ∧ m' ≤ m) := hide (fun W8 va ln vc h8 => by
    obtain ⟨Z, xs, k1, k2, k3, k4⟩ := unhide h8
    have hzl := Z_len k4
    have zs : ∀ z ∈ Z, z.2.length ≤ 1024 := fun z hz => hLs.2 _ (by rw [← k4]; exact List.mem_map_of_mem hz)
    have hln : ln ≤ 128 := by rw [k3, hzl]; exact hLs.1
    have s1 := Br.spendR_nn Z
    have s2 := Br.spendR_le 1024 Z zs
    have s3 : (Z.length : Int) * (((1024 : Nat) : Int) + 10) ≤ 500000 := by
      have : (Z.length : Int) ≤ 128 := by omega
      have e : ((1024 : Nat) : Int) = 1024 := rfl
      rw [e]
      omega
    refine (k1.toldR k2 k3 (by omega) (by omega) (fun z hz => by have := zs z hz; omega) hm).mono ?_
    rintro e w' ⟨rfl, k⟩
    exact ⟨rfl, _, hide ((unhide k).later (by omega)), by omega, by omega⟩)
  have CLK : Hid (∀ W9 m', Hid (Br.Td w1 W9 pb (t + 129) m' [] []) → Calls Tryz.prog 32 #[.pointer (some ⟨pb + 1, 0, none⟩)] W9 fun e w' => e = .returned (.bool true) ∧ Hid (Br.Td w1 w' pb (t + 129) m' [] [])) := hide (fun W9 m' h9 => (unhide h9).looked)
  have TD : Hid (∀ w', Hid (Below W.heap.size W w') → Br.Td w1 w' pb (t + 129) m [] []) := hide (fun w' h => (hT.below (unhide h)).later (by omega))
  obtain ⟨k0, k1, ta, tn', tc, qa, qn, qc, rfl, rfl, rfl, rfl⟩ : ∃ (k0 k1 : Int) (ta : Option Addr) (tn' tc : Nat) (qa : Option Addr) (qn qc : Nat), r0 = .int .i64 k0 ∧ r1 = .int .i64 k1 ∧ r2 = .slice ta tn' tc ∧ r3 = .slice qa qn qc := by
    obtain ⟨d, rfl⟩ : ∃ d', d = d' + 1 := ⟨d - 1, by have := tr_pos x; omega⟩
    obtain ⟨⟨rfl, -⟩, ⟨rfl, -⟩, ⟨ta, tc, rfl, -⟩, la, lc, rfl, -⟩ := hR
    exact ⟨_, _, _, _, _, _, _, _, rfl, rfl, rfl, rfl⟩
  have hdi : (0 : Int) ≤ (dn : Int) := by omega
  clear hT h0W hR hA hn h01 hp hWB cs b0 hDl hDb hDs hdc hLs hC
  go_enter Tryz.func9, Tryz.ntmps9
  go_wp2_with (first
    | (go_at_call 13; with_reducible refine (unhide CH).mono ?_; rintro e W2 ⟨h, rfl, kb, kd, k2, x0, x1⟩; cases h; rotate_left)
    | (go_at_call 14; with_reducible refine (unhide CSP W2 (kd (by first | rfl | trivial)) k2).mono ?_; rintro e W3 ⟨rfl, k3, x3⟩; have hds := kd (by first | rfl | trivial); have hd1 : (dn : Int) ≤ ((dn + 3 : Nat) : Int) := by omega)
    | (go_at_call 15; with_reducible refine (unhide CLN W2 W3 hds k3).mono ?_; rintro e W4 ⟨va, ln, vc, E, rfl, kE, k4, x4⟩)
    | (go_at_call 16; with_reducible refine (unhide CRL W2 W3 W4 va ln vc k3 k4).mono ?_; rintro e W5 ⟨ma, mn, mc, F, rfl, kF, k5, x5⟩; have hEF : F = E := (unhide kF).trans (unhide kE).symm; subst hEF)
    | (go_at_call 17; with_reducible refine (unhide CSM W2 W3 W4 W5 va ma ln vc mn mc hds k5).mono ?_; rintro e W6 ⟨rfl, k6⟩)
    | (go_at_call 18; with_reducible refine (unhide CEQ W2 W3 W4 W5 W6 va ma ln vc mn mc k5 k6).mono ?_; rintro e W7 ⟨rfl, k7⟩)
    | (go_at_call 7; refine (num_any _ _).mono ?_; rintro e W7' ⟨rfl, h7'⟩; subst h7')
    | (go_at_call 19; with_reducible refine (unhide CTO _ va ln vc k7).mono ?_; rintro e W8 ⟨rfl, m', k8, q1, q2⟩)
    | (go_at_call 32; with_reducible refine (unhide CLK W8 m' k8).mono ?_; rintro e W9 ⟨rfl, k9⟩))
  all_goals go_ret
  all_goals first | exact ⟨rfl, m', k9, q1, q2⟩ | exact ⟨rfl, m, hide (unhide TD _ kb), by omega, Int.le_refl _⟩
end Go.Proofs.YtcnlikojbkegiaaGreatDoor
