/- Late: Add. -/
import Derived.Test.YtochdajeocganabDoorHand
import Derived.Test.YtochdajeocganabDoorStep
import Derived.Test.YtochdajeocganabDoorRText
import Derived.Test.YtochdajeocganabDoorLendW
namespace Go.Proofs.YtochdajeocganabDoor
open Go.ChangeShapes Go.WideShapes Go.ChangeAt Go.RowKit
set_option linter.unusedVariables false
set_option maxRecDepth 100000
set_option maxHeartbeats 8000000

theorem Chg.free {c : Nat} {lt : Nat → Nat} {w w' : World} (un : ∀ g, lt g ≠ 0 → g < w.heap.size) (hb : Below w.heap.size w w') (x : Value) (k : Nat) (hx : ∀ g, x.ownBlock = some g → w.heap.size ≤ g ∧ g < w'.heap.size) : Chg c lt (tagAt lt x k) w w' := by
  have hs := hb.size
  refine ⟨hb.os, hb.tape, hb.output, hb.size, fun g hg => ?_, fun g hg _ => hb.block g hg, fun g hg => ?_⟩
  · unfold tagAt
    rw [if_neg (fun e => by have := (hx g e).1; omega)]
  · unfold tagAt at hg
    by_cases e : x.ownBlock = some g
    · exact (hx g e).2
    · rw [if_neg e] at hg; have := un g hg; omega
theorem Bytes.keep {w w' : World} {a : Option Addr} {l : List Nat} (h : Bytes w a l) (hs : w.heap.size ≤ w'.heap.size) (hb : ∀ b off, a = some ⟨b, off, none⟩ → b < w.heap.size → w'.heap[b]? = w.heap[b]?) : Bytes w' a l := by
  rcases h with h | ⟨b, off, e, hlt, hc⟩
  · exact .inl h
  · exact .inr ⟨b, off, e, by omega, fun i hi => (World.cell?_of_block (a := ⟨b, off + i, none⟩) (hb b off e hlt)).trans (hc i hi)⟩
theorem nums_str (l : List Nat) (hs : Small l) : strOfNums (l.map Int.ofNat) = ⟨(l.map fun c => UInt8.ofNat c).toArray⟩ ∧ Larder.nums (l.map fun c => UInt8.ofNat c) = l ∧ (l.map fun c => UInt8.ofNat c).length = l.length := by
  refine ⟨?_, ?_, by simp⟩
  · unfold strOfNums
    rw [List.map_map]
    rfl
  · unfold Larder.nums
    rw [List.map_map]
    conv => rhs; rw [← List.map_id l]
    apply List.map_congr_left
    intro c hc
    obtain ⟨i, hi, rfl⟩ := List.mem_iff_getElem.1 hc
    have := hs i hi
    rw [List.getD_eq_getElem?_getD, List.getElem?_eq_getElem hi] at this
    simp only [Function.comp, UInt8.toNat_ofNat', id]
    simp at this
    omega
theorem add_any {B0 : Nat} {w0 w : World} {pb pl pw : Nat} {tag lt : Nat → Nat} {S : BookSt} {L M : TwoSt} (h : St B0 w0 w pb pl pw tag lt S L M) (h0 : B0 ≤ w.heap.size) (v : Value) (l : List Nat) (hv : Line w 5 v l.length (fun k => u8V (l.getD k 0))) (hvf : ∀ g, v.ownBlock = some g → lt g = 0 ∧ tag g = 0 ∧ g ≠ pb ∧ B0 ≤ g) (a : Option Addr) (cap : Nat) (hB : Bytes w a l) (hs : Small l) (hBf : ∀ b off, a = some ⟨b, off, none⟩ → lt b = 0 ∧ v.ownBlock ≠ some b) (hl : l.length ≤ 140737488355328) (hG : L.G.length ≤ 100000) :
    Calls Tryd.prog 15 #[.pointer (some ⟨pl, 0, none⟩), v, .slice a l.length cap] w fun e w' => e = .returned (.tuple #[]) ∧ ∃ lt' L', St B0 w0 w' pb pl pw tag lt' S L' M ∧ L'.G.length = L.G.length + 1 ∧ L'.X = L.X ++ [l] ∧ w.heap.size ≤ w'.heap.size ∧ (∀ g, g < w.heap.size → lt g = 0 → v.ownBlock ≠ some g → w'.heap[g]? = w.heap[g]? ∧ lt' g = 0) := by
  obtain ⟨i0, hi, hy0, hy1, hy2⟩ := info_parts Tryd.info46
  have hf := h.free v (30 + 2 * L.G.length + 0) (fun g hg => ⟨(hvf g hg).1, (hvf g hg).2.1, (hvf g hg).2.2.1, (hvf g hg).2.2.2, hv.lt g hg⟩)
  obtain ⟨lt1, hlt1⟩ : ∃ lt1, lt1 = tagAt lt v (30 + 2 * L.G.length + 0) := ⟨_, rfl⟩
  rw [← hlt1] at hf
  have hvt : ∀ g, v.ownBlock = some g → lt1 g = 30 + 2 * L.G.length + 0 := fun g hg => by rw [hlt1]; exact tagAt_self lt v _ g hg
  have hBt : ∀ b off, a = some ⟨b, off, none⟩ → lt1 b = 0 := fun b off e => by
    rw [hlt1]
    unfold tagAt
    rw [if_neg (hBf b off e).2]
    exact (hBf b off e).1
  have hlz : ∀ g, lt g = 0 → v.ownBlock ≠ some g → lt1 g = 0 := fun g h1 h2 => by rw [hlt1]; unfold tagAt; rw [if_neg h2]; exact h1
  have HLZ := hide hlz
  have c0 := hf.late.c0
  have c1 := hf.late.c1
  obtain ⟨he1, he2⟩ := hf.e1
  have HF := hide hf
  have HV := hide hv
  have HVT := hide hvt
  have HBT := hide hBt
  have HB := hide hB
  have HS := hide hs
  have HE1 := hide he1
  have HE2 := hide he2
  obtain ⟨av, cv, hvs⟩ := hv.shape
  clear h hf hv hvf hvt hBf hBt hB hs hlt1 he1 he2 hlz
  subst hvs
  go_enter Tryd.func15, Tryd.ntmps15
  go_wp2_with (at_builtin; refine append_line rfl _ _ 26 rfl 46 i0 (.slice none 0 0) 24 Tryd.underlying26 hi hy0 hy1 hy2 rfl _ _ _ rfl ((unhide HF).late.below ((Below.refl _ _).alloc (Nat.le_refl _) _)).rg w.heap.size rfl (.slice av l.length cv) ?c1 rfl ?c2 ?c3 ?_)
  case c1 => exact cell_made rfl _ _
  case c2 => omega
  case c3 => omega
  intro v4 w4 hl4 hg4
  obtain ⟨a4, cp4, rfl⟩ := hl4.shape
  have hbA : Below w.heap.size w (w.alloc (.cells #[.slice av l.length cv] 46)) := (Below.refl _ _).alloc (Nat.le_refl _) _
  have hTA := (unhide HF).late.below hbA
  have hvA : Line (w.alloc (.cells #[.slice av l.length cv] 46)) 5 (.slice av l.length cv) l.length (fun k => u8V (l.getD k 0)) := (unhide HV).same (fun g hg => hbA.block g ((unhide HV).lt g hg))
  have hT4 := hTA.addG (by decide) (unhide HE2) (by rw [unhide HE1]; exact Nat.le_refl _) hg4 hl4 hvA (unhide HVT)
  have hK4 := (Chg.below (c := 0) (unhide HF).un hbA).trans (Chg.grew (c := 0) (fun g hg => Nat.lt_of_lt_of_le ((unhide HF).un g hg) hbA.size) hg4 hTA.rg hTA.tg (by decide) (by decide))
  have hT5 := hT4.setG (by decide) (.slice a4 (L.G.length + 1) cp4)
  have hK5 := hK4.trans (Chg.set (c := 0) hK4.un pl 0 (.slice a4 (L.G.length + 1) cp4) (by rw [hT4.tp]; decide) (by rw [hT4.tp]))
  have c40 := hT4.c0
  have f40 := hT4.f0
  have c41 := hT4.c1
  have f41 := hT4.f1
  obtain ⟨lt4, hlt4⟩ : ∃ lt4, lt4 = tagAt lt1 (.slice a4 (L.G.length + 1) cp4) (4 + 0) := ⟨_, rfl⟩
  have hK5' : Chg 0 lt1 lt4 w (w4.setCell ⟨pl, 0, none⟩ (.slice a4 (L.G.length + 1) cp4)) := by rw [hlt4]; exact hK5
  have hT5' : Two 0 5 46 u8V (w4.setCell ⟨pl, 0, none⟩ (.slice a4 (L.G.length + 1) cp4)) pl lt4 (.slice a4 (L.G.length + 1) cp4) L.vw { L with vg := .slice a4 (L.G.length + 1) cp4, G := L.G ++ [.slice av l.length cv], X := L.X ++ [l] } := by rw [hlt4]; exact hT5
  have hB5 := (unhide HB).keep hK5'.size (fun b off e hb => hK5'.blk b hb (.inl (unhide HBT b off e)))
  obtain ⟨w5, hw5⟩ : ∃ w5, w5 = w4.setCell ⟨pl, 0, none⟩ (.slice a4 (L.G.length + 1) cp4) := ⟨_, rfl⟩
  rw [← hw5] at hT5' hK5' hB5
  obtain ⟨n1, n2, n3⟩ := nums_str l (unhide HS)
  have hcv : (convert 46 9 (.slice a l.length cap)).run Tryd.prog w5.drew = .ok (.string (strOfNums (l.map Int.ofNat))) w5.drew := conv_any a cap w5.drew l hB5
  generalize hstr : strOfNums (l.map Int.ofNat) = str at *
  have hsz : str.size = l.length := by rw [n1]; show (l.map fun c => UInt8.ofNat c).toArray.size = _; simp
  have hmk : ∀ w' : World, (convert 9 46 (.string str)).run Tryd.prog w' = .ok (.slice (some ⟨w'.heap.size, 0, none⟩) l.length (grownCap w' l.length 0 5)) (Lib.bytesWorld w' 5 str) := fun w' => by
    have := Lib.run_convert_string_bytes (P := Tryd.prog) w' 9 46 5 str Tryd.underlying9 Tryd.underlying46 Tryd.underlying5
    rw [hsz] at this
    exact this
  obtain ⟨c6, w6', hcv6, hB6, hb6⟩ := text_bytes (l.map fun c => UInt8.ofNat c) str n1 w5.drew
  rw [n2] at hB6
  rw [hmk] at hcv6
  simp only [Result.ok.injEq] at hcv6
  obtain ⟨-, rfl⟩ := hcv6
  obtain ⟨w6, hw6⟩ : ∃ w6, w6 = Lib.bytesWorld w5.drew 5 str := ⟨_, rfl⟩
  obtain ⟨cg, hcg⟩ : ∃ cg, cg = grownCap w5.drew l.length 0 5 := ⟨_, rfl⟩
  rw [← hw6] at hB6 hb6
  have hs6 : w6.heap.size = w5.heap.size + 1 := by rw [hw6, Lib.bytesWorld_size]; rfl
  have hb56 : Below w5.heap.size w5 w6 := ⟨hb6.os, hb6.tape, hb6.output, hb6.size, hb6.block⟩
  have hmk5 : (convert 9 46 (.string str)).run Tryd.prog w5.drew = .ok (.slice (some ⟨w5.heap.size, 0, none⟩) l.length cg) w6 := by rw [hmk, ← hw6, ← hcg]; rfl
  -- the wanted list's copy gets its tag
  have hx : ∀ g, Value.ownBlock (.slice (some ⟨w5.heap.size, 0, none⟩) l.length cg) = some g → w5.heap.size ≤ g ∧ g < w6.heap.size := fun g hg => by simp [Value.ownBlock] at hg; omega
  have hK6 := hK5'.trans (Chg.free (c := 0) hK5'.un hb56 (.slice (some ⟨w5.heap.size, 0, none⟩) l.length cg) 8 hx)
  have hT6 := (hT5'.below hb56).free (.slice (some ⟨w5.heap.size, 0, none⟩) l.length cg) 8 (fun g hg => by
    by_cases e : lt4 g = 0
    · exact e
    · have h1 := hK5'.un g e
      have h2 := (hx g hg).1
      omega)
  have hrd : Rd w6 (.slice (some ⟨w5.heap.size, 0, none⟩) l.length cg) l.length (fun k => u8V (l.getD k 0)) := by
    refine ⟨_, _, rfl, ?_, fun g hg => (hx g hg).2⟩
    by_cases h0' : l.length = 0
    · exact .inl h0'
    · right
      refine ⟨_, rfl, fun j hj => ?_⟩
      rcases hB6 with h1 | ⟨b, off, e, _, hc⟩
      · rw [h1] at hj; simp at hj
      · cases e
        have := hc j hj
        rw [Nat.zero_add] at this
        exact this
  obtain ⟨lt6, hlt6⟩ : ∃ lt6, lt6 = tagAt lt4 (.slice (some ⟨w5.heap.size, 0, none⟩) l.length cg) 8 := ⟨_, rfl⟩
  rw [← hlt6] at hK6 hT6
  have htx : ∀ g, Value.ownBlock (.slice (some ⟨w5.heap.size, 0, none⟩) l.length cg) = some g → lt6 g = 8 + 0 := fun g hg => by rw [hlt6]; exact tagAt_self lt4 _ 8 g hg
  have hbA : Below w6.heap.size w6 (w6.alloc (.cells #[.slice (some ⟨w5.heap.size, 0, none⟩) l.length cg] 46)) := (Below.refl _ _).alloc (Nat.le_refl _) _
  have hT7 := hT6.below hbA
  have hK7 := hK6.trans (Chg.below (c := 0) hK6.un hbA)
  have hr7 := hrd.same hbA.size (fun g hg => hbA.block g (hrd.lt g hg))
  have hXl : (L.X ++ [l]).getD L.W.length [] = l := getD_last _ _ _ _ ((unhide HE2).trans (unhide HE1).symm)
  have HFIN : Hid (∀ v' w', Line w' 46 v' (L.W.length + 1) (fun j => if j < L.W.length then L.W.getD j undef else .slice (some ⟨w5.heap.size, 0, none⟩) l.length cg) → Grew 46 L.W.length (.slice (some ⟨w5.heap.size, 0, none⟩) l.length cg) (w6.alloc (.cells #[.slice (some ⟨w5.heap.size, 0, none⟩) l.length cg] 46)) w' L.vw v' → w'.cell? ⟨pl, 1, none⟩ = some L.vw ∧ w'.frozen? ⟨pl, 1, none⟩ = false ∧ (∃ a cp, v' = .slice a (L.W.length + 1) cp) ∧ ∃ lt' L', St B0 w0 (w'.setCell ⟨pl, 1, none⟩ v') pb pl pw tag lt' S L' M ∧ L'.G.length = L.G.length + 1 ∧ L'.X = L.X ++ [l] ∧ w.heap.size ≤ (w'.setCell ⟨pl, 1, none⟩ v').heap.size ∧ (∀ g, g < w.heap.size → lt g = 0 → Value.ownBlock (.slice av l.length cv) ≠ some g → (w'.setCell ⟨pl, 1, none⟩ v').heap[g]? = w.heap[g]? ∧ lt' g = 0)) := hide (fun v' w' hl' hg' => by
    have hT8 := hT7.addW (by decide) (l := l) hXl hg' hl' hr7 htx
    have hK8 := hK7.trans (Chg.grew (c := 0) hK7.un hg' hT7.rw hT7.tw (by decide) (by decide))
    have hT9 := hT8.setW (by decide) v'
    have hK9 := hK8.trans (Chg.set (c := 0) hK8.un pl 1 v' (by rw [hT8.tp]; decide) (by rw [hT8.tp]))
    refine ⟨hT8.c1, hT8.f1, hl'.shape, _, _, (unhide HF).first (L' := ⟨.slice a4 (L.G.length + 1) cp4, v', L.G ++ [.slice av l.length cv], L.W ++ [.slice (some ⟨w5.heap.size, 0, none⟩) l.length cg], L.X ++ [l]⟩) h0 hK9 hT9 ⟨?_, ?_⟩, ?_, rfl, hK9.size, fun g h1 h2 h3 => ⟨hK9.blk g h1 (.inl (unhide HLZ g h2 h3)), (hK9.tg g h1).trans (unhide HLZ g h2 h3)⟩⟩
    · show (L.W ++ [_]).length = (L.G ++ [_]).length
      have := unhide HE1
      simp; omega
    · show (L.X ++ [_]).length = (L.G ++ [_]).length
      have := unhide HE2
      simp; omega
    · show (L.G ++ [_]).length = _
      simp)
  have HROW : Hid (Line (w6.alloc (.cells #[.slice (some ⟨w5.heap.size, 0, none⟩) l.length cg] 46)) 46 L.vw L.W.length (fun j => L.W.getD j undef)) := hide hT7.rw
  have hWl : L.W.length ≤ 100000 := by have := unhide HE1; omega
  have c5 : w5.drew.cell? ⟨pl, 1, none⟩ = some L.vw := hT5'.c1
  have c6' : w6.cell? ⟨pl, 1, none⟩ = some L.vw := hT6.c1
  have c7' : (w6.alloc (.cells #[.slice (some ⟨w5.heap.size, 0, none⟩) l.length cg] 46)).cell? ⟨pl, 1, none⟩ = some L.vw := hT7.c1
  have C7N : Hid ((w6.alloc (.cells #[.slice (some ⟨w5.heap.size, 0, none⟩) l.length cg] 46)).cell? ⟨w6.heap.size, 0, none⟩ = some (.slice (some ⟨w5.heap.size, 0, none⟩) l.length cg)) := hide (cell_made rfl _ _)
  have HW5 := hide hw5
  have c50 : w4.cell? ⟨pl, 0, none⟩ = some L.vg := c40
  clear hT4 hK4 hT5 hK5 hT5' hK5' hTA hvA hl4 hg4 HF hlt4 c0 c1 n1 n2 n3 hB5 hbA hB6 hb6 hb56 hs6 hx hK6 hT6 hrd hlt6 htx hT7 hK7 hr7 hXl hw5 hw6 hcg hsz hmk hstr c40
  go_wp2_with fail
  rw [← unhide HW5]
  go_region_law (refine step_append_line rfl (.tmp 20) (.tmp 24) 26 rfl 46 i0 (.slice none 0 0) 24 Tryd.underlying26 hi hy0 hy1 hy2 rfl L.vw L.W.length _ (by simp [Act.eval]) (unhide HROW) w6.heap.size (by simp [Act.eval]) (.slice (some ⟨w5.heap.size, 0, none⟩) l.length cg) (unhide C7N) rfl (by omega) (by omega) ?_; intro v9 w9 hl9 hg9; obtain ⟨k1, k2, ⟨a9, cp9, rfl⟩, hst⟩ := unhide HFIN _ _ hl9 hg9; clear hl9 hg9)
  all_goals (go_end0; exact ⟨rfl, by assumption⟩)
end Go.Proofs.YtochdajeocganabDoor
