/- inPlace. -/
import Derived.Test.YtidfbelckdlbhabGreatEqs
import Derived.Test.YtidfbelckdlbhabGreatLxa
import Derived.BigQuiet
import Derived.WalkSmall
import Derived.Test.YtidfbelckdlbhabGreatRsc
import Derived.Test.YtidfbelckdlbhabGreatInl
import Derived.Test.YtidfbelckdlbhabGreatSha
namespace Go.Proofs.YtidfbelckdlbhabGreat
open Go.ChangeShapes Go.WideShapes Go.ChangeAt Go.RowKit
set_option linter.unusedVariables false
set_option maxRecDepth 100000
set_option maxHeartbeats 1000000

theorem Bytes.heapEq {w w' : World} {a : Option Addr} {l : List Nat} (h : Bytes w a l) (e : w.heap = w'.heap) : Bytes w' a l := by
  rcases h with h | ⟨b, off, h, hb, hc⟩
  · exact .inl h
  · exact .inr ⟨b, off, h, by rw [← e]; exact hb, fun i hi => (World.cell?_of_block (w := w) (by rw [e])).trans (hc i hi)⟩
theorem inlex_any {aL aH aM : Option Addr} {cL cH cM : Nat} {L H M : List Nat} (lf : Int) (lo : Bool) (hf : Int) (ho : Bool) (w : World) (sL : Small L) (sH : Small H) (sM : Small M) (bL : Bytes w aL L) (bH : Bytes w aH H) (bM : Bytes w aM M) :
    Calls Tryz.prog 15 #[.agg #[.int .i64 lf, .slice aL L.length cL, .bool lo], .agg #[.int .i64 hf, .slice aH H.length cH, .bool ho], .slice aM M.length cM] w fun e w' => e = .returned (.bool (Larder.inB lf (Larder.cmpL M L) lo hf (Larder.cmpL H M) ho)) ∧ Below w.heap.size w w' := by
  rw [← cmpI_eq M L sM sL, ← cmpI_eq H M sH sM]
  have hb : Below w.heap.size w ((w.alloc (.cells #[.int .i64 lf, .slice aL L.length cL, .bool lo] 36)).alloc (.cells #[.int .i64 hf, .slice aH H.length cH, .bool ho] 36)) := ((Below.refl _ _).alloc (Nat.le_refl _) _).alloc (by simp) _
  have HB := hide hb
  have H1 : Hid (∀ W, ((w.alloc (.cells #[.int .i64 lf, .slice aL L.length cL, .bool lo] 36)).alloc (.cells #[.int .i64 hf, .slice aH H.length cH, .bool ho] 36)).heap = W.heap → Calls Tryz.prog 34 #[.slice aM M.length cM, .slice aL L.length cL] W fun e w' => e = .returned (.int .i64 (cmpI M L)) ∧ w' = W) := hide (fun W hW => bcmp_any (c1 := cM) (c2 := cL) ((bM.below hb).heapEq hW) ((bL.below hb).heapEq hW))
  have H2 : Hid (∀ W, ((w.alloc (.cells #[.int .i64 lf, .slice aL L.length cL, .bool lo] 36)).alloc (.cells #[.int .i64 hf, .slice aH H.length cH, .bool ho] 36)).heap = W.heap → Calls Tryz.prog 34 #[.slice aH H.length cH, .slice aM M.length cM] W fun e w' => e = .returned (.int .i64 (cmpI H M)) ∧ w' = W) := hide (fun W hW => bcmp_any (c1 := cH) (c2 := cM) ((bH.below hb).heapEq hW) ((bM.below hb).heapEq hW))
  have H3 := hide (fun W => mirr_any hf W)
  clear bL bH bM hb sL sH sM
  generalize cmpI M L = A at *
  generalize cmpI H M = B at *
  generalize L.length = nL at *
  generalize H.length = nH at *
  generalize M.length = nM at *
  have HR : Hid (Larder.inB lf A lo hf B ho = (Larder.letsB lf A lo && Larder.letsB (Larder.cmpInt 0 hf) B ho)) := hide rfl
  have H4 := hide (fun W => lets_any lf A lo W)
  have H5 := hide (fun W => lets_any (Larder.cmpInt 0 hf) B ho W)
  generalize Larder.inB lf A lo hf B ho = R at *
  generalize Larder.cmpInt 0 hf = Mi at *
  generalize hL : Larder.letsB lf A lo = Lo at *
  generalize hH : Larder.letsB Mi B ho = U at *
  clear hL hH
  cases Lo with
  | true =>
    go_enter Tryz.func15, Tryz.ntmps15
    go_wp2_with fail
    go_quiet (first | (go_at_call 34; first | with_reducible exact Calls.quiet_of_same (unhide H1 _ rfl) | with_reducible exact Calls.quiet_of_same (unhide H2 _ rfl)) | (go_at_call 35; exact Calls.quiet_of_same (unhide H3 _)) | (go_at_call 33; first | with_reducible exact Calls.quiet_of_same (unhide H4 _) | with_reducible exact Calls.quiet_of_same (unhide H5 _)))
    all_goals go_wp2
    all_goals go_ret
    all_goals exact ⟨ret_bool (unhide HR).symm, below_drewN (unhide HB) _⟩
  | false =>
    go_enter Tryz.func15, Tryz.ntmps15
    go_wp2_with fail
    go_quiet (first | (go_at_call 34; with_reducible exact Calls.quiet_of_same (unhide H1 _ rfl)) | (go_at_call 33; with_reducible exact Calls.quiet_of_same (unhide H4 _)))
    all_goals go_wp2
    all_goals go_ret
    all_goals exact ⟨ret_bool (unhide HR).symm, below_drewN (unhide HB) _⟩

end Go.Proofs.YtidfbelckdlbhabGreat
namespace Go.Proofs.YtidfbelckdlbhabGreat
open Go.ChangeShapes Go.WideShapes Go.ChangeAt Go.RowKit
set_option linter.unusedVariables false
set_option linter.unusedSimpArgs false
set_option maxRecDepth 20000
set_option maxHeartbeats 40000000

theorem five_allocs (w : World) (o0 o1 o2 o3 o4 : Obj) {W : World} (hW : W = ((((w.alloc o0).alloc o1).alloc o2).alloc o3).alloc o4) :
    Below w.heap.size w W ∧ W.heap.size = w.heap.size + 5 ∧ W.heap[w.heap.size]? = some o0 ∧ W.heap[w.heap.size + 1]? = some o1 ∧ W.heap[w.heap.size + 1 + 1]? = some o2 ∧ W.heap[w.heap.size + 1 + 1 + 1]? = some o3 ∧ W.heap[w.heap.size + 1 + 1 + 1 + 1]? = some o4 := by
  subst hW
  refine ⟨(((((Below.refl _ w).alloc (Nat.le_refl _) _).alloc (by simp) _).alloc (by simp <;> omega) _).alloc (by simp <;> omega) _).alloc (by simp <;> omega) _, by simp, ?_, ?_, ?_, ?_, ?_⟩
  · rw [heap_alloc_old _ _ (by simp <;> omega), heap_alloc_old _ _ (by simp <;> omega), heap_alloc_old _ _ (by simp <;> omega), heap_alloc_old _ _ (by simp)]
    exact heap_alloc_new _ _
  · rw [heap_alloc_old _ _ (by simp <;> omega), heap_alloc_old _ _ (by simp <;> omega), heap_alloc_old _ _ (by simp)]
    have := heap_alloc_new (w.alloc o0) o1
    simpa using this
  · rw [heap_alloc_old _ _ (by simp <;> omega), heap_alloc_old _ _ (by simp)]
    have := heap_alloc_new ((w.alloc o0).alloc o1) o2
    simpa using this
  · rw [heap_alloc_old _ _ (by simp)]
    have := heap_alloc_new (((w.alloc o0).alloc o1).alloc o2) o3
    simpa using this
  · have := heap_alloc_new ((((w.alloc o0).alloc o1).alloc o2).alloc o3) o4
    simpa using this
theorem inplace_any (w : World) (D I J N lf ls hf hs ff uf : Int) (lo ho fo uo : Bool) (aP aT aF aU ap at' : Option Addr) (cP cT cF cU nF nU cp ct : Nat) (P T : List Nat) (bP : Bytes w aP P) (bT : Bytes w aT T) (bp : Bytes w ap P) (bt : Bytes w at' T) (sP : Small P) (sT : Small T) (lP : P.length ≤ 140737488355328) (lT : T.length ≤ 140737488355328) (hcP : P.length ≤ cP) (hcp : P.length ≤ cp) (hcp2 : cp ≤ 9223372036854775807) :
    Calls Tryz.prog 25 #[.agg #[.int .i64 D, .slice aP P.length cP, .slice aT T.length cT, .int .i64 I, .int .i64 J, .int .i64 N, .int .i64 lf, .int .i64 ls, .bool lo, .int .i64 hf, .int .i64 hs, .bool ho, .int .i64 ff, .slice aF nF cF, .bool fo, .int .i64 uf, .slice aU nU cU, .bool uo], .slice ap P.length cp, .slice at' T.length ct] w fun e w' => e = .returned (.bool true) ∧ Below w.heap.size w w' := by
  obtain ⟨arr, harr⟩ : ∃ arr : Array Value, arr = #[.int .i64 D, .slice aP P.length cP, .slice aT T.length cT, .int .i64 I, .int .i64 J, .int .i64 N, .int .i64 lf, .int .i64 ls, .bool lo, .int .i64 hf, .int .i64 hs, .bool ho, .int .i64 ff, .slice aF nF cF, .bool fo, .int .i64 uf, .slice aU nU cU, .bool uo] := ⟨_, rfl⟩
  have C1 : Hid (∀ W, Below w.heap.size w W → Calls Tryz.prog 8 #[.slice ap P.length cp] W fun e w' => e = .returned (boundV (Larder.scoreRes P)) ∧ Hid (Below W.heap.size W w')) := hide (fun W hW => (score_any ap cp W P lP sP hcp hcp2 (bp.below hW)).mono (fun e w' h => ⟨h.1, hide h.2⟩))
  have C2 : Hid (∀ W, Below w.heap.size w W → Calls Tryz.prog 47 #[.slice aP P.length cP] W fun e w' => e = .returned (boundV (Larder.scoreRes P)) ∧ Hid (Below W.heap.size W w')) := hide (fun W hW => (rscore_any aP cP W P lP sP hcP (bP.below hW)).mono (fun e w' h => ⟨h.1, hide h.2⟩))
  have FR : Hid (∀ W, Below (w.heap.size + 1) (w.alloc (.cells arr 58)) W → ∀ j, W.cell? ⟨w.heap.size, j, none⟩ = arr[j]?) := hide (fun W hW j => by
    rw [hW.cell (p := ⟨w.heap.size, j, none⟩) (by simp), cell_of_row _ _ _ _ _ _ (heap_alloc_new w _)])
  have C3 : Hid (∀ W, Below w.heap.size w W → Calls Tryz.prog 15 #[.agg #[.int .i64 ff, .slice ap P.length cp, .bool fo], .agg #[.int .i64 uf, .slice at' T.length ct, .bool uo], .slice at' T.length ct] W fun e w' => e = .returned (.bool (Larder.inB ff (Larder.cmpL T P) fo uf (Larder.cmpL T T) uo)) ∧ Hid (Below W.heap.size W w')) := hide (fun W hW => (inlex_any ff fo uf uo W sP sT sT (bp.below hW) (bt.below hW) (bt.below hW)).mono (fun e w' h => ⟨h.1, hide h.2⟩))
  have C4 : Hid (∀ W, Below w.heap.size w W → Calls Tryz.prog 48 #[.agg #[.int .i64 ff, .slice aP P.length cP, .bool fo], .agg #[.int .i64 uf, .slice aT T.length cT, .bool uo], .slice aT T.length cT] W fun e w' => e = .returned (.bool (Larder.inB ff (Larder.cmpL T P) fo uf (Larder.cmpL T T) uo)) ∧ Hid (Below W.heap.size W w')) := hide (fun W hW => (rinlex_any ff fo uf uo W lP lT lT (bP.below hW) (bT.below hW) (bT.below hW)).mono (fun e w' h => ⟨h.1, hide h.2⟩))
  have C5 : Hid (∀ W, Below w.heap.size w W → Calls Tryz.prog 15 #[.agg #[.int .i64 uf, .slice at' T.length ct, .bool uo], .agg #[.int .i64 ff, .slice ap P.length cp, .bool fo], .slice ap P.length cp] W fun e w' => e = .returned (.bool (Larder.inB uf (Larder.cmpL P T) uo ff (Larder.cmpL P P) fo)) ∧ Hid (Below W.heap.size W w')) := hide (fun W hW => (inlex_any uf uo ff fo W sT sP sP (bt.below hW) (bp.below hW) (bp.below hW)).mono (fun e w' h => ⟨h.1, hide h.2⟩))
  have C6 : Hid (∀ W, Below w.heap.size w W → Calls Tryz.prog 48 #[.agg #[.int .i64 uf, .slice aT T.length cT, .bool uo], .agg #[.int .i64 ff, .slice aP P.length cP, .bool fo], .slice aP P.length cP] W fun e w' => e = .returned (.bool (Larder.inB uf (Larder.cmpL P T) uo ff (Larder.cmpL P P) fo)) ∧ Hid (Below W.heap.size W w')) := hide (fun W hW => (rinlex_any uf uo ff fo W lT lP lP (bT.below hW) (bP.below hW) (bP.below hW)).mono (fun e w' h => ⟨h.1, hide h.2⟩))
  unfold boundV at C1 C2
  generalize Larder.scoreRes P = sr at *
  obtain ⟨⟨s1, s2, s3⟩, s4⟩ := sr
  dsimp only at C1 C2
  clear bP bT bp bt sP sT lP lT hcP hcp hcp2
  generalize Larder.inB ff (Larder.cmpL T P) fo uf (Larder.cmpL T T) uo = r1 at *
  generalize Larder.inB uf (Larder.cmpL P T) uo ff (Larder.cmpL P P) fo = r2 at *
  generalize P.length = nP at *
  generalize T.length = nT at *
  go_enter Tryz.func25, Tryz.ntmps25
  go_wp2_with fail
  refine (unhide C1 _ ((Below.refl _ _).alloc (Nat.le_refl _) _)).mono ?_
  rintro e w1 ⟨rfl, k1⟩
  rw [← harr] at k1 ⊢
  have B1 : Hid (Below (w.heap.size + 1) (w.alloc (.cells arr 58)) w1) := hide (by have := unhide k1; simpa using this)
  have b1 : Hid (∀ o, Below w.heap.size w (w1.alloc o)) := hide (fun o => (((Below.refl _ _).alloc (Nat.le_refl _) _).trans ((unhide B1).mono (by omega))).alloc (by have := (unhide B1).size; simp at this; omega) o)
  have x1 : ∀ o, (w1.alloc o).cell? ⟨w.heap.size, 1, none⟩ = some (.slice aP nP cP) := fun o => by rw [unhide FR _ ((unhide B1).alloc (by have := (unhide B1).size; simpa using this) o), harr]; rfl
  clear k1
  go_wp2_with fail
  refine (unhide C2 _ (unhide b1 _)).mono ?_
  rintro e w2 ⟨rfl, k2⟩
  have s1z := (unhide B1).size
  simp at s1z
  have B2 : Hid (Below (w.heap.size + 1) (w.alloc (.cells arr 58)) w2) := hide (((unhide B1).alloc (by omega) _).trans ((unhide k2).mono (by simp <;> omega)))
  have s2z : w1.heap.size + 1 ≤ w2.heap.size := by have := (unhide k2).size; simpa using this
  have vb : w2.heap[w1.heap.size]? = some (.cells #[.int .i64 s1, .int .i64 s2, .bool s3] 30 (0, 0)) := ((unhide k2).block w1.heap.size (by simp)).trans (heap_alloc_new _ _)
  have v0 : w2.cell? ⟨w1.heap.size, 0, none⟩ = some (.int .i64 s1) := by rw [cell_of_row _ _ _ _ _ _ vb]; rfl
  have v1 : w2.cell? ⟨w1.heap.size, 1, none⟩ = some (.int .i64 s2) := by rw [cell_of_row _ _ _ _ _ _ vb]; rfl
  have v2 : w2.cell? ⟨w1.heap.size, 2, none⟩ = some (.bool s3) := by rw [cell_of_row _ _ _ _ _ _ vb]; rfl
  have y1 : w2.cell? ⟨w.heap.size, 1, none⟩ = some (.slice aP nP cP) := by rw [unhide FR _ (unhide B2), harr]; rfl
  have y2 : w2.cell? ⟨w.heap.size, 2, none⟩ = some (.slice aT nT cT) := by rw [unhide FR _ (unhide B2), harr]; rfl
  have y12 : w2.cell? ⟨w.heap.size, 12, none⟩ = some (.int .i64 ff) := by rw [unhide FR _ (unhide B2), harr]; rfl
  have y14 : w2.cell? ⟨w.heap.size, 14, none⟩ = some (.bool fo) := by rw [unhide FR _ (unhide B2), harr]; rfl
  have y15 : w2.cell? ⟨w.heap.size, 15, none⟩ = some (.int .i64 uf) := by rw [unhide FR _ (unhide B2), harr]; rfl
  have y17 : w2.cell? ⟨w.heap.size, 17, none⟩ = some (.bool uo) := by rw [unhide FR _ (unhide B2), harr]; rfl
  have lt0 : w.heap.size < w2.heap.size := by omega
  have lt1 : w1.heap.size < w2.heap.size := by omega
  have lt0_1 : w.heap.size < w2.heap.size + 1 := by omega
  have lt0_2 : w.heap.size < w2.heap.size + 1 + 1 := by omega
  have lt0_3 : w.heap.size < w2.heap.size + 1 + 1 + 1 := by omega
  have lt0_4 : w.heap.size < w2.heap.size + 1 + 1 + 1 + 1 := by omega
  have lt0_5 : w.heap.size < w2.heap.size + 1 + 1 + 1 + 1 + 1 := by omega
  have lt0_6 : w.heap.size < w2.heap.size + 1 + 1 + 1 + 1 + 1 + 1 := by omega
  have lt1_1 : w1.heap.size < w2.heap.size + 1 := by omega
  have lt1_2 : w1.heap.size < w2.heap.size + 1 + 1 := by omega
  have lt1_3 : w1.heap.size < w2.heap.size + 1 + 1 + 1 := by omega
  have lt1_4 : w1.heap.size < w2.heap.size + 1 + 1 + 1 + 1 := by omega
  have lt1_5 : w1.heap.size < w2.heap.size + 1 + 1 + 1 + 1 + 1 := by omega
  have lt1_6 : w1.heap.size < w2.heap.size + 1 + 1 + 1 + 1 + 1 + 1 := by omega
  clear k2 x1 b1 B1
  go_wp2_with fail
  generalize hWF : ((((w2.alloc (Obj.cells #[.int .i64 s1, .int .i64 s2, .bool s3] 30)).alloc (.cells #[.int .i64 ff, .slice ap nP cp, .bool fo] 36)).alloc (.cells #[.int .i64 uf, .slice at' nT ct, .bool uo] 36)).alloc (.cells #[.int .i64 ff, .slice aP nP cP, .bool fo] 36)).alloc (.cells #[.int .i64 uf, .slice aT nT cT, .bool uo] 36) = WF at *
  have fa := five_allocs w2 _ _ _ _ _ hWF.symm
  clear hWF
  obtain ⟨fb, fz, f0, f1, f2, f3, f4⟩ := fa
  have BF : Hid (Below w.heap.size w WF) := hide ((((Below.refl _ w).alloc (Nat.le_refl _) _).trans ((unhide B2).mono (by omega))).trans (fb.mono (by omega)))
  have vF := (fb.block _ lt1).trans vb
  have aF := fun j => fb.cell (p := ⟨w.heap.size, j, none⟩) lt0
  obtain ⟨pA, hpA⟩ : ∃ p, p = w.heap.size := ⟨_, rfl⟩
  obtain ⟨pB, hpB⟩ : ∃ p, p = w1.heap.size := ⟨_, rfl⟩
  obtain ⟨pC, hpC⟩ : ∃ p, p = w2.heap.size := ⟨_, rfl⟩
  obtain ⟨pF, hpF⟩ : ∃ p, p = pC + 1 := ⟨_, rfl⟩
  obtain ⟨pU, hpU⟩ : ∃ p, p = pF + 1 := ⟨_, rfl⟩
  obtain ⟨pO, hpO⟩ : ∃ p, p = pU + 1 := ⟨_, rfl⟩
  obtain ⟨pT, hpT⟩ : ∃ p, p = pO + 1 := ⟨_, rfl⟩
  have lA : pA < WF.heap.size := by omega
  have lB : pB < WF.heap.size := by omega
  rw [← hpC, ← hpF, ← hpU] at f2
  rw [← hpC, ← hpF, ← hpU, ← hpO] at f3
  rw [← hpC, ← hpF, ← hpU, ← hpO, ← hpT] at f4
  rw [← hpC, ← hpF] at f1
  rw [← hpC] at f0
  rw [← hpB] at vF
  have y1' := (aF 1).trans y1
  have y2' := (aF 2).trans y2
  rw [← hpA] at y1' y2'
  have SS : Hid (∀ w', Below WF.heap.size WF w' → w'.cell? ⟨pB, 0, none⟩ = some (.int .i64 s1) ∧ w'.cell? ⟨pB, 1, none⟩ = some (.int .i64 s2) ∧ w'.cell? ⟨pB, 2, none⟩ = some (.bool s3) ∧ w'.cell? ⟨pC, 0, none⟩ = some (.int .i64 s1) ∧ w'.cell? ⟨pC, 1, none⟩ = some (.int .i64 s2) ∧ w'.cell? ⟨pC, 2, none⟩ = some (.bool s3) ∧ w'.cell? ⟨pF, 0, none⟩ = some (.int .i64 ff) ∧ w'.cell? ⟨pF, 1, none⟩ = some (.slice ap nP cp) ∧ w'.cell? ⟨pF, 2, none⟩ = some (.bool fo) ∧ w'.cell? ⟨pU, 0, none⟩ = some (.int .i64 uf) ∧ w'.cell? ⟨pU, 1, none⟩ = some (.slice at' nT ct) ∧ w'.cell? ⟨pU, 2, none⟩ = some (.bool uo) ∧ w'.cell? ⟨pO, 0, none⟩ = some (.int .i64 ff) ∧ w'.cell? ⟨pO, 1, none⟩ = some (.slice aP nP cP) ∧ w'.cell? ⟨pO, 2, none⟩ = some (.bool fo) ∧ w'.cell? ⟨pT, 0, none⟩ = some (.int .i64 uf) ∧ w'.cell? ⟨pT, 1, none⟩ = some (.slice aT nT cT) ∧ w'.cell? ⟨pT, 2, none⟩ = some (.bool uo) ∧ w'.cell? ⟨pA, 1, none⟩ = some (.slice aP nP cP) ∧ w'.cell? ⟨pA, 2, none⟩ = some (.slice aT nT cT)) := hide (fun w' hb => by
    have g0 := (hb.block _ (block_lt f0)).trans f0
    have g1 := (hb.block _ (block_lt f1)).trans f1
    have g2 := (hb.block _ (block_lt f2)).trans f2
    have g3 := (hb.block _ (block_lt f3)).trans f3
    have g4 := (hb.block _ (block_lt f4)).trans f4
    have gb := (hb.block _ (block_lt vF)).trans vF
    refine ⟨?_, ?_, ?_, ?_, ?_, ?_, ?_, ?_, ?_, ?_, ?_, ?_, ?_, ?_, ?_, ?_, ?_, ?_, (hb.cell (p := ⟨pA, 1, none⟩) lA).trans y1', (hb.cell (p := ⟨pA, 2, none⟩) lA).trans y2'⟩
    all_goals first | (rw [cell_of_row _ _ _ _ _ _ gb]; rfl) | (rw [cell_of_row _ _ _ _ _ _ g0]; rfl) | (rw [cell_of_row _ _ _ _ _ _ g1]; rfl) | (rw [cell_of_row _ _ _ _ _ _ g2]; rfl) | (rw [cell_of_row _ _ _ _ _ _ g3]; rfl) | (rw [cell_of_row _ _ _ _ _ _ g4]; rfl))
  rw [← hpC, ← hpF, ← hpU, ← hpO, ← hpT, ← hpA, ← hpB]
  have T : ∀ {f : Nat} {args : Array Value} {r : Value}, (∀ W, Below w.heap.size w W → Calls Tryz.prog f args W fun e w' => e = .returned r ∧ Hid (Below W.heap.size W w')) → Hid (∀ W, Hid (Below WF.heap.size WF W) → Calls Tryz.prog f args W fun e w' => e = .returned r ∧ Hid (Below WF.heap.size WF w') ∧ w'.cell? ⟨pB, 0, none⟩ = some (.int .i64 s1) ∧ w'.cell? ⟨pB, 1, none⟩ = some (.int .i64 s2) ∧ w'.cell? ⟨pB, 2, none⟩ = some (.bool s3) ∧ w'.cell? ⟨pC, 0, none⟩ = some (.int .i64 s1) ∧ w'.cell? ⟨pC, 1, none⟩ = some (.int .i64 s2) ∧ w'.cell? ⟨pC, 2, none⟩ = some (.bool s3) ∧ w'.cell? ⟨pF, 0, none⟩ = some (.int .i64 ff) ∧ w'.cell? ⟨pF, 1, none⟩ = some (.slice ap nP cp) ∧ w'.cell? ⟨pF, 2, none⟩ = some (.bool fo) ∧ w'.cell? ⟨pU, 0, none⟩ = some (.int .i64 uf) ∧ w'.cell? ⟨pU, 1, none⟩ = some (.slice at' nT ct) ∧ w'.cell? ⟨pU, 2, none⟩ = some (.bool uo) ∧ w'.cell? ⟨pO, 0, none⟩ = some (.int .i64 ff) ∧ w'.cell? ⟨pO, 1, none⟩ = some (.slice aP nP cP) ∧ w'.cell? ⟨pO, 2, none⟩ = some (.bool fo) ∧ w'.cell? ⟨pT, 0, none⟩ = some (.int .i64 uf) ∧ w'.cell? ⟨pT, 1, none⟩ = some (.slice aT nT cT) ∧ w'.cell? ⟨pT, 2, none⟩ = some (.bool uo) ∧ w'.cell? ⟨pA, 1, none⟩ = some (.slice aP nP cP) ∧ w'.cell? ⟨pA, 2, none⟩ = some (.slice aT nT cT)) := fun h => hide (fun W hW => by
    refine (h W ((unhide BF).trans ((unhide hW).mono (unhide BF).size))).mono ?_
    rintro e w' ⟨h1, h2⟩
    have b : Below WF.heap.size WF w' := (unhide hW).trans ((unhide h2).mono (unhide hW).size)
    exact ⟨h1, hide b, unhide SS w' b⟩)
  have D3 := T (unhide C3)
  have D4 := T (unhide C4)
  have D5 := T (unhide C5)
  have D6 := T (unhide C6)
  have kd : Hid (Below WF.heap.size WF WF) := hide (Below.refl _ _)
  have kd2 : Hid (Below WF.heap.size WF WF.drew) := hide (Below.refl _ _).drew
  obtain ⟨q0, q1, q2, q3, q4, q5, q6, q7, q8, q9, q10, q11, q12, q13, q14, q15, q16, q17, q18, q19⟩ := unhide SS WF (Below.refl _ _)
  clear C1 C2 C3 C4 C5 C6 T f0 f1 f2 f3 f4 fb fz vF aF y1 y2 y12 y14 y15 y17 y1' y2' vb v0 v1 v2 lA lB hpA hpB hpC hpF hpU hpO hpT lt0_1 lt1_1 lt0_2 lt1_2 lt0_3 lt1_3 lt0_4 lt1_4 lt0_5 lt1_5 lt0_6 lt1_6 lt0 lt1 s1z s2z B2 FR harr
  clear SS
  go_region_held3 (fun w' => w'.cell? ⟨pB, 0, none⟩ = some (.int .i64 s1) ∧ w'.cell? ⟨pB, 1, none⟩ = some (.int .i64 s2) ∧ w'.cell? ⟨pB, 2, none⟩ = some (.bool s3) ∧ w'.cell? ⟨pC, 0, none⟩ = some (.int .i64 s1) ∧ w'.cell? ⟨pC, 1, none⟩ = some (.int .i64 s2) ∧ w'.cell? ⟨pC, 2, none⟩ = some (.bool s3) ∧ w'.cell? ⟨pF, 0, none⟩ = some (.int .i64 ff) ∧ w'.cell? ⟨pF, 1, none⟩ = some (.slice ap nP cp) ∧ w'.cell? ⟨pF, 2, none⟩ = some (.bool fo) ∧ w'.cell? ⟨pU, 0, none⟩ = some (.int .i64 uf) ∧ w'.cell? ⟨pU, 1, none⟩ = some (.slice at' nT ct) ∧ w'.cell? ⟨pU, 2, none⟩ = some (.bool uo) ∧ w'.cell? ⟨pO, 0, none⟩ = some (.int .i64 ff) ∧ w'.cell? ⟨pO, 1, none⟩ = some (.slice aP nP cP) ∧ w'.cell? ⟨pO, 2, none⟩ = some (.bool fo) ∧ w'.cell? ⟨pT, 0, none⟩ = some (.int .i64 uf) ∧ w'.cell? ⟨pT, 1, none⟩ = some (.slice aT nT cT) ∧ w'.cell? ⟨pT, 2, none⟩ = some (.bool uo) ∧ w'.cell? ⟨pA, 1, none⟩ = some (.slice aP nP cP) ∧ w'.cell? ⟨pA, 2, none⟩ = some (.slice aT nT cT)) (go_keep) (first
    | (go_at_call 15; first | (with_reducible refine (unhide D3 _ (by assumption)).mono ?_; rintro e w5 ⟨rfl, k5, s5⟩) | (with_reducible refine (unhide D5 _ (by assumption)).mono ?_; rintro e w5 ⟨rfl, k5, s5⟩))
    | (go_at_call 48; first | (with_reducible refine (unhide D4 _ (by assumption)).mono ?_; rintro e w5 ⟨rfl, k5, s5⟩) | (with_reducible refine (unhide D6 _ (by assumption)).mono ?_; rintro e w5 ⟨rfl, k5, s5⟩)))
  all_goals go_wp2
  all_goals go_ret
  all_goals exact ⟨rfl, (unhide BF).trans ((unhide k5).mono (unhide BF).size)⟩
end Go.Proofs.YtidfbelckdlbhabGreat
