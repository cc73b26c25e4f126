/- ArenaCollect: the law. -/
import Derived.Test.YtdgdnpgjbphgaaaCopyAll
import Derived.Test.YtdgdnpgjbphgaaaCopied
namespace Go.Proofs.Ytdgdnpgjbphgaaa
open Go.ChangeShapes Go.WideShapes Go.ChangeAt Go.RowKit
set_option linter.unusedVariables false
set_option maxRecDepth 100000
set_option maxHeartbeats 8000000

theorem cop_start {w : World} {p bw bh p' bw' bh' : Nat} {L : List (Nat × Nat × Nat)} {E : List (List Int)} {R : List Nat} {N : Nat} {ws : List Nat} {hs : List Bool} (hA : Ar w p bw bh ws hs (place L L.length)) (hwl : ws.length = place L L.length) (hk : Kept L ws hs) (hp : Part L E L.length 0 ws) (hB : Ar w p' bw' bh' (List.replicate N 0) (List.replicate N false) 1) :
    Cop w w p bw bh p' bw' bh' L E R N hs [] 0 0 ws (List.replicate N 0) (List.replicate N false) := by
  refine ⟨hA, hwl, ⟨hk.marks, fun i _ h => by simp at h, fun i hi _ => hk.heads i hi, fun i f hi hf => by rw [hp i f hi hf, if_pos (.inl hi)]⟩, hB, by simp, ⟨fun k hk => ?_, fun m hm => by simp at hm, fun m f hm => by simp at hm⟩, fun m f t hm => by simp at hm, fun i hi => by simp at hi, List.nodup_nil, .inr rfl, by simp, But.refl _ _⟩
  have e : (List.replicate N false).getD k false = false := by
    rw [List.getD_eq_getElem?_getD, List.getElem?_replicate]
    split <;> rfl
  rw [e]
  refine ⟨(fun h => by cases h), ?_⟩
  rintro ⟨m, hm, _⟩
  simp at hm
theorem Cop.stays {w0 w : World} {p bw bh p' bw' bh' : Nat} {L : List (Nat × Nat × Nat)} {E : List (List Int)} {R : List Nat} {N : Nat} {hsa : List Bool} {Q : List Nat} {sc c : Nat} {wsa wsb : List Nat} {hsb : List Bool} (h : Cop w0 w p bw bh p' bw' bh' L E R N hsa Q sc c wsa wsb hsb) (hg : Good L) (t : Nat) (ht : t < L.length) (hn : t ∉ Q) :
    Calls Try.prog 25 #[.pointer (some ⟨p, 0, none⟩), .int .i64 (place L t : Nat)] w fun e w' => e = .returned (.tuple #[.int .i64 0, .bool false, .int .i64 0]) ∧ w' = w := by
  refine (movedcall_any (place L t : Nat) w h.a).mono ?_
  rintro e w' ⟨rfl, hw⟩
  rw [(movedRes_not (h.fr.obj hg t ht hn)).1]
  exact ⟨rfl, hw⟩
theorem Cop.objectA {w0 w : World} {p bw bh p' bw' bh' : Nat} {L : List (Nat × Nat × Nat)} {E : List (List Int)} {R : List Nat} {N : Nat} {hsa : List Bool} {Q : List Nat} {sc c : Nat} {wsa wsb : List Nat} {hsb : List Bool} (h : Cop w0 w p bw bh p' bw' bh' L E R N hsa Q sc c wsa wsb hsb) (hg : Good L) (t : Nat) (ht : t < L.length) (hn : t ∉ Q) :
    Calls Try.prog 14 #[.pointer (some ⟨p, 0, none⟩), .int .i64 (place L t : Nat)] w fun e w' => e = .returned (.tuple #[.int .i64 ((L.getD t (0, 0, 0)).1 : Nat), .int .i64 ((L.getD t (0, 0, 0)).2.1 : Nat), .int .i64 ((L.getD t (0, 0, 0)).2.2 : Nat), .int .i64 0]) ∧ Below w.heap.size w w' := by
  refine (object_any (place L t : Nat) w h.a (h.fr.all hg)).mono ?_
  rintro e w' ⟨rfl, hb⟩
  rw [h.fr.obj hg t ht hn]
  exact ⟨rfl, hb⟩
theorem ShapesAt.below {w w' : World} {b : Nat} {T : List (Int × Int × Int)} (h : ShapesAt w b 0 T) {B : Nat} (hb : Below B w w') (hl : b < B) : ShapesAt w' b 0 T := fun i hi => by
  obtain ⟨x0, x1, x2⟩ := h i hi
  exact ⟨(hb.cell (p := ⟨b, 0 + i * 3, none⟩) hl).trans x0, (hb.cell (p := ⟨b, 0 + i * 3 + 1, none⟩) hl).trans x1, (hb.cell (p := ⟨b, 0 + i * 3 + 2, none⟩) hl).trans x2⟩
/-- the lists of a graph, and its objects' shapes, in whatever world still has them -/
structure Given (w W w' : World) (aS aE aR : Option Addr) (nS cS cE cR : Nat) (E : List (List Int)) (R0 : List Int) (L : List (Nat × Nat × Nat)) (bL : Nat) : Prop where
  c0 : w'.cell? ⟨w.heap.size, 0, none⟩ = some (.slice aS nS cS)
  c1 : w'.cell? ⟨w.heap.size, 1, none⟩ = some (.slice aE E.length cE)
  c2 : w'.cell? ⟨w.heap.size, 2, none⟩ = some (.slice aR R0.length cR)
  sh : ShapesAt w' bL 0 (ints L)
  rows0 : NumRows w aE E
  nums0 : Nums w aR R0
  bel : Below w.heap.size w w'
  lt : bL < w'.heap.size
  gl : w.heap.size < W.heap.size
  size : W.heap.size ≤ w'.heap.size
  lt0 : bL < W.heap.size
theorem Given.more {w W w' w'' : World} {aS aE aR : Option Addr} {nS cS cE cR : Nat} {E : List (List Int)} {R0 : List Int} {L : List (Nat × Nat × Nat)} {bL : Nat} (h : Given w W w' aS aE aR nS cS cE cR E R0 L bL) (hb : Below W.heap.size w' w'') : Given w W w'' aS aE aR nS cS cE cR E R0 L bL := by
  have hs := hb.size
  have h1 := h.gl
  have hbw : Below w.heap.size w w'' := h.bel.trans (hb.mono (by omega))
  have h3 := h.lt
  have h4 := h.size
  exact ⟨(hb.cell (p := ⟨w.heap.size, 0, none⟩) h1).trans h.c0, (hb.cell (p := ⟨w.heap.size, 1, none⟩) h1).trans h.c1, (hb.cell (p := ⟨w.heap.size, 2, none⟩) h1).trans h.c2, h.sh.below hb h.lt0, h.rows0, h.nums0, hbw, by omega, h1, by omega, h.lt0⟩
theorem Given.rows {w W w' : World} {aS aE aR : Option Addr} {nS cS cE cR : Nat} {E : List (List Int)} {R0 : List Int} {L : List (Nat × Nat × Nat)} {bL : Nat} (h : Given w W w' aS aE aR nS cS cE cR E R0 L bL) : NumRows w' aE E := h.rows0.below h.bel
theorem Given.nums {w W w' : World} {aS aE aR : Option Addr} {nS cS cE cR : Nat} {E : List (List Int)} {R0 : List Int} {L : List (Nat × Nat × Nat)} {bL : Nat} (h : Given w W w' aS aE aR nS cS cE cR E R0 L bL) : Nums w' aR R0 := h.nums0.below h.bel
/-- a copy of the graph into a block of N words: all that the law needs of lay, New and copyAll -/
theorem seen_kind {w W w' : World} {aS aE aR : Option Addr} {nS cS cE cR : Nat} {E : List (List Int)} {R0 : List Int} {L : List (Nat × Nat × Nat)} {bL : Nat} (h : Given w W w' aS aE aR nS cS cE cR E R0 L bL) (j : Nat) (hj : j < L.length) : w'.cell? ⟨bL, j * 3, none⟩ = some (.int .i64 ((L.getD j (0, 0, 0)).1 : Nat)) := by
  obtain ⟨x0, _, _⟩ := h.sh j (by unfold ints; rw [List.length_map]; exact hj)
  rw [ints_at L j hj, Nat.zero_add] at x0
  exact x0

theorem collect_law (aS : Option Addr) (cS : Nat) (aE : Option Addr) (cE : Nat) (aR : Option Addr) (cR : Nat) (S : List (Int × Int × Int)) (E : List (List Int)) (R0 : List Int) (w : World) (hS : Shapes w aS S) (hE : NumRows w aE E) (hR : Nums w aR R0) (hSl : S.length ≤ 140737488355328) (hRl : R0.length ≤ 17592186044416) :
    Calls Try.prog 7 #[.agg #[.slice aS S.length cS, .slice aE E.length cE, .slice aR R0.length cR]] w fun e w' => e = .returned (.bool true) ∧ Below w.heap.size w w' := by
  obtain ⟨i0, hi, hy0, hy1, hy2⟩ := info_parts Try.info28
  obtain ⟨W, hW⟩ : ∃ W, W = w.alloc (.cells #[.slice aS S.length cS, .slice aE E.length cE, .slice aR R0.length cR] 78) := ⟨_, rfl⟩
  have hWb : W.heap[w.heap.size]? = some (.cells #[.slice aS S.length cS, .slice aE E.length cE, .slice aR R0.length cR] 78 (0, 0)) := by rw [hW]; exact heap_alloc_new w _
  have hWs : W.heap.size = w.heap.size + 1 := by rw [hW]; simp
  have hb0 : Below w.heap.size w W := by rw [hW]; exact (Below.refl w.heap.size w).alloc (Nat.le_refl _) _
  have hS1 : Shapes W aS S := by
    rcases hS with h | ⟨b, off, e, hlt, h⟩
    · exact .inl h
    · exact .inr ⟨b, off, e, by omega, fun i hi => ⟨(hb0.cell (p := ⟨b, off + i * 3, none⟩) hlt).trans (h i hi).1, (hb0.cell (p := ⟨b, off + i * 3 + 1, none⟩) hlt).trans (h i hi).2.1, (hb0.cell (p := ⟨b, off + i * 3 + 2, none⟩) hlt).trans (h i hi).2.2⟩⟩
  have g0 : W.cell? ⟨w.heap.size, 0, none⟩ = some (.slice aS S.length cS) := by simp [World.cell?, hWb]
  have HT := hide (take_any aS cS W S hSl hS1)
  have HB0 := hide hb0
  have HWB := hide hWb
  have HWE := hide hW
  have HE := hide hE
  have HR := hide hR
  have hgood := taken_good S (5, 1, 1) ⟨by decide, by decide, by decide, by decide⟩
  have hints := hide (taken_ints S (5, 1, 1))
  have hlen := taken_length S (5, 1, 1)
  have HSL : Hid (((S.take 2000).map fitL).length = min 2000 S.length) := hide (by simp)
  have HG := hide hgood
  generalize taken S (5, 1, 1) = L at *
  generalize (S.take 2000).map fitL = T at *
  have hTl : T.length + 1 = L.length := by have := unhide HSL; omega
  have hL4 : L.length ≤ 2001 := by omega
  have hLp : 0 < L.length := by omega
  have hT4 : T.length ≤ 2000 := by omega
  have HTL := hide hTl
  clear hS hS1 hW hWb hb0 HSL hTl hlen hgood hE hR
  go_enter Try.func7, Try.ntmps7
  go_upto_region 1 with fail
  rw [← unhide HWE]
  clear HWE
  go_wp2_with fail
  refine (unhide HT).mono ?_
  rintro e w1 ⟨v, rfl, hown, hb1⟩
  have hh1 : w1.heap[w.heap.size]? = some (.cells #[.slice aS S.length cS, .slice aE E.length cE, .slice aR R0.length cR] 78 (0, 0)) := (hb1.block w.heap.size (by omega)).trans (unhide HWB)
  have hs1 := hb1.size
  rw [hWs] at hown hb1 hs1
  unfold OwnS at hown
  go_wp2_with (at_builtin; refine wpList_append_own _ rfl _ _ 22 rfl _ 28 i0 (.agg #[.int .i64 0, .int .i64 0, .int .i64 0]) 3 24 Try.underlying22 hi hy0 hy1 hy2 rfl (by decide) _ _ _ rfl (hown.alloc _) ⟨w1.heap.size, 0, none⟩ 1 1 [.int .i64 5, .int .i64 1, .int .i64 1] rfl rfl ?c1 ?c2 ?c3 ?c4 ?c5 ?_)
  case c1 =>
    intro j u hj
    match j, hj with
    | 0, hj => simp at hj; subst hj; simp [Addr.add]
    | 1, hj => simp at hj; subst hj; simp [Addr.add]
    | 2, hj => simp at hj; subst hj; simp [Addr.add]
  case c2 => intro u hu; simp at hu; rcases hu with rfl | rfl | rfl <;> rfl
  case c3 => simp [maxLen]; omega
  case c4 => omega
  case c5 => simp; omega
  intro v' w5 hown' hgrow _
  have hown5 : OwnS w5 (w.heap.size + 1) v' (ints L) := by
    unfold OwnS
    rw [unhide hints, List.length_append, List.length_singleton, scells_append]
    exact hown'
  have hTl := unhide HTL
  have hbl5 : Below (w.heap.size + 1) W w5 := by
    have hlt2 := hown.lt
    exact (hb1.alloc (by omega) _).grown hgrow (by simp; omega) (fun j hj => by have := (hlt2 j hj).1; omega)
  have hil : (ints L).length = L.length := by simp [ints]
  obtain ⟨bL, cap, rfl, hg1, hg2, hsh⟩ := hown5.shape (by omega)
  rw [hil] at hown' ⊢
  have hh5 : w5.heap[w.heap.size]? = some (.cells #[.slice aS S.length cS, .slice aE E.length cE, .slice aR R0.length cR] 78 (0, 0)) := (hbl5.block w.heap.size (by omega)).trans (unhide HWB)
  have hgv : Given w w5 w5 aS aE aR S.length cS cE cR E R0 L bL := ⟨by simp [World.cell?, hh5], by simp [World.cell?, hh5], by simp [World.cell?, hh5], hsh, unhide HE, unhide HR, (unhide HB0).trans (hbl5.mono (by omega)), hg2, by have := hbl5.size; omega, Nat.le_refl _, hg2⟩
  have HGV := hide hgv
  have c50 := hgv.c0
  have c51 := hgv.c1
  have c52 := hgv.c2
  have HRE := hide (reached_any aS aE aR S.length cS cE cR E R0 bL cap L w5 (unhide HG) hLp (by omega) hg2 hsh hgv.rows hgv.nums (by omega))
  clear hown' hown5 hgrow hown hbl5 hh1 hh5 hgv hsh hil HT hTl HTL hb1 hs1 HB0 HWB HE HR
  go_wp2_with fail
  refine (unhide HRE).mono ?_
  rintro e w6 ⟨gs, sn, rfl, hsl, hsc, hsn, hgs1, hgs2, hb6⟩
  have HSC := hide hsc
  have HSN := hide hsn
  have hs6 := hb6.size
  have hg6 := (unhide HGV).more hb6
  have HGV6 := hide hg6
  have c60 := hg6.c0
  have c61 := hg6.c1
  have c62 := hg6.c2
  have HLY := hide (lay_any aS aE aR S.length cS cE R0.length cR E bL cap L w6 (unhide HG) hLp (by omega) hg6.lt hg6.sh hg6.rows)
  have hnb := wsum_bound (unhide HG) sn L.length (Nat.le_refl _)
  have HNN : Hid (wsum L sn L.length = wsum L sn L.length) := hide rfl
  obtain ⟨n, hn⟩ : ∃ n, n = wsum L sn L.length := ⟨_, rfl⟩
  rw [← hn] at hnb ⊢
  have HN := hide hn
  have hn2 : n ≤ 98049 := by omega
  clear hsc hsn hb6 hg6 HRE hn hnb HNN c50 c51 c52 g0
  go_wp2_with fail
  refine (unhide HLY).mono ?_
  rintro e w7 ⟨p, bw, bh, ga, ca, ws, hs, rfl, hA, hwl, hkp, hpt, hat, hgan, hga1, hga2, hp1, hp2, hp3, hb7⟩
  have HA := hide hA
  have HWL := hide hwl
  have HKP := hide hkp
  have HPT := hide hpt
  have HAT := hide hat
  have HGAN := hide hgan
  have HB7 := hide hb7
  have hs7 := hb7.size
  have hlp := hA.lp
  have hlw := hA.lw
  have hlh := hA.lh
  have HNW := hide (fun w' => new_yes (1 + n) (by omega) (by omega) w')
  clear hA hwl hkp hpt hat hgan hb7 HLY c60 c61 c62
  go_wp2_with fail
  refine (unhide HNW _).mono ?_
  rintro e w8 ⟨p', bw', bh', rfl, hB, hq1, hq2, hq3, hb8⟩
  have hs8 := hb8.size
  have hg7 : Given w w5 w7 aS aE aR S.length cS cE cR E R0 L bL := (unhide HGV6).more ((unhide HB7).mono (by omega))
  have hg8 : Given w w5 w8 aS aE aR S.length cS cE cR E R0 L bL := hg7.more (hb8.mono (by omega))
  have HGV8 := hide hg8
  have c80 := hg8.c0
  have c81 := hg8.c1
  have c82 := hg8.c2
  have hc8 : Cop w8 w8 p bw bh p' bw' bh' L E (rootsOf R0 L.length) (1 + n) hs [] 0 0 ws (List.replicate (1 + n) 0) (List.replicate (1 + n) false) := cop_start ((unhide HA).below hb8) (unhide HWL) (unhide HKP) (unhide HPT) hB
  have hat8 : ∀ j, j < L.length → w8.cell? ⟨ga, j, none⟩ = some (.int .i64 (place L j : Nat)) := fun j hj => (hb8.cell (p := ⟨ga, j, none⟩) hga2).trans (unhide HAT j hj)
  have hgan := unhide HGAN
  have hgan' : ga ≠ p ∧ ga ≠ bw ∧ ga ≠ bh := by simp at hgan; exact hgan
  have HCA := hide (copyAll_any aS aE aR S.length cS E.length cE cR E R0 (some ⟨bL, 0, none⟩) cap ga ca L p bw bh p' bw' bh' (1 + n) ws (List.replicate (1 + n) 0) hs (List.replicate (1 + n) false) sn w8 (unhide HG) hLp (by omega)
    (fun w' h => (hg8.more (h.below (Below.refl _ _) (by simp; omega) hg8.size)).nums) (by omega) hat8 (by simp; omega) (by omega) (by simp; omega) (by simp; omega) (by simp; omega) (unhide HSN) hc8)
  clear hg7 hg8 hc8 hat8 hgan hB HNW
  go_wp2_with (go_at_call 13; refine (num_any _ _).mono ?_; rintro e w' ⟨rfl, hw'⟩; obtain rfl := hw'.symm)
  refine (unhide HCA).mono ?_
  rintro e w9 (⟨Q, wsa, wsb, hsb, rfl, hc9, hr9⟩ | ⟨rfl, hN, _⟩)
  case inr => exact absurd hN (by rw [← unhide HN]; omega)
  have hlv := hc9.live hr9
  have hsum := hc9.sum hr9 sn (unhide HSN)
  rw [← unhide HN] at hsum
  have HUS := used_any w9 hc9.b
  rw [hsum] at HUS
  have HUS9 := hide HUS
  have hbut := hc9.but
  have hs9 := hbut.size
  have HGV9 : Hid (∀ wq, Below w9.heap.size w9 wq → Given w w5 wq aS aE aR S.length cS cE cR E R0 L bL ∧ (∀ j, j < L.length → wq.cell? ⟨ga, j, none⟩ = some (.int .i64 (place L j : Nat)) ∧ wq.cell? ⟨gs, j, none⟩ = some (.bool (sn.getD j false)) ∧ wq.cell? ⟨bL, j * 3, none⟩ = some (.int .i64 ((L.getD j (0, 0, 0)).1 : Nat))) ∧ Cop w8 wq p bw bh p' bw' bh' L E (rootsOf R0 L.length) (1 + n) hs Q Q.length 0 wsa wsb hsb ∧ ga < wq.heap.size) := hide (fun wq hb => by
    have hsq := hb.size
    have hg9 : Given w w5 wq aS aE aR S.length cS cE cR E R0 L bL := ((unhide HGV8).more (hbut.below (Below.refl _ _) (by simp; omega) (unhide HGV8).size)).more (hb.mono (by omega))
    refine ⟨hg9, fun j hj => ⟨?_, ?_, seen_kind hg9 j hj⟩, hc9.below hb, by omega⟩
    · have e1 := hb.cell (p := ⟨ga, j, none⟩) (show ga < w9.heap.size by omega)
      have e2 := hbut.cell (q := ⟨ga, j, none⟩) (show ga < w8.heap.size by omega) (by simp; omega)
      have e3 := hb8.cell (p := ⟨ga, j, none⟩) (show ga < w7.heap.size by omega)
      exact e1.trans (e2.trans (e3.trans (unhide HAT j hj)))
    · have e1 := hb.cell (p := ⟨gs, j, none⟩) (show gs < w9.heap.size by omega)
      have e2 := hbut.cell (q := ⟨gs, j, none⟩) (show gs < w8.heap.size by omega) (by simp; omega)
      have e3 := hb8.cell (p := ⟨gs, j, none⟩) (show gs < w7.heap.size by omega)
      have e4 := (unhide HB7).cell (p := ⟨gs, j, none⟩) (show gs < w6.heap.size by omega)
      exact e1.trans (e2.trans (e3.trans (e4.trans (unhide HSC j hj)))))
  have HLV : Hid (∀ j, j ∈ Q ↔ sn.getD j false = true) := hide (fun j => (hlv j).trans (unhide HSN j).symm)
  clear hc9 hr9 hlv hsum HUS hbut hb8 HCA HGV8 HGV6 HGV HA HWL HKP HPT HAT HGAN HB7 HSC c80 c81 c82
  go_wp2_with (go_at_call 13; refine (num_any _ _).mono ?_; rintro e w' ⟨rfl, hw'⟩; obtain rfl := hw'.symm)
  refine (unhide HUS9).mono ?_
  rintro e w' ⟨rfl, hw'⟩
  obtain rfl := hw'.symm
  have en : ((1 + n : Nat) : Int) = 1 + (n : Int) := by omega
  rw [en]
  go_wp2_with fail
  go_loopw [11] (fun i wq => ∃ k : Nat, k ≤ L.length ∧ i = .int .i64 k ∧ Below w9.heap.size w9 wq) (fun i _ => L.length - (intOf i).toNat)
  case atStart => exact ⟨0, by omega, rfl, Below.refl _ _⟩
  case round =>
    obtain ⟨k, hk, rfl, hbq⟩ := hrel
    rename World => wq
    obtain ⟨hgq, hcells, hcq, hgaq⟩ := unhide HGV9 wq hbq
    have HBQ := hide hbq
    have c0 := hgq.c0
    have c1 := hgq.c1
    have c2 := hgq.c2
    by_cases hlt : k < L.length
    · have f1 : decide ((k : Int) < (L.length : Int)) = true := decide_eq_true (by omega)
      have f1' : decide (k < L.length) = true := decide_eq_true hlt
      have y0 : (0 : Int) ≤ (k : Int) := by omega
      have y1 : (k : Int) < (L.length : Int) := by omega
      obtain ⟨k0, k1, k2⟩ := hcells k hlt
      cases hsk : sn.getD k false with
      | true =>
        rw [hsk] at k1
        have HCD := hide (copied_any aS aE aR S.length cS cE R0.length cR E bL cap ga ca L (rootsOf R0 L.length) p bw bh p' bw' bh' (1 + n) Q wsa wsb hs hsb k w8 wq (unhide HG) (by omega) hgq.lt hgq.sh hgq.rows (fun j hj => (hcells j hj).1) hgaq hcq ((unhide HLV k).2 hsk))
        clear hgq hcells hcq hbq
        go_wp2_with fail
        refine (unhide HCD).mono ?_
        rintro e w10 ⟨rfl, hb10⟩
        have HB10 := hide ((unhide HBQ).trans (hb10.mono (unhide HBQ).size))
        clear hb10 HCD
        go_wp2_with fail
        go_roundw
        case rel => exact ⟨k + 1, by omega, by go_num, unhide HB10⟩
        case measure => simp [intOf]; omega
      | false =>
        rw [hsk] at k1
        have hnq : k ∉ Q := fun h => by have := (unhide HLV k).1 h; rw [hsk] at this; cases this
        have HMV := hide (hcq.stays (unhide HG) k hlt hnq)
        have HOB := hide (hcq.objectA (unhide HG) k hlt hnq)
        generalize (L.getD k (0, 0, 0)).1 = kd at *
        generalize (L.getD k (0, 0, 0)).2.1 = kr at *
        generalize (L.getD k (0, 0, 0)).2.2 = ks at *
        generalize place L k = pk at *
        have HK2 : Hid (∀ w', Below wq.heap.size wq w' → w'.cell? ⟨bL, k * 3, none⟩ = some (.int .i64 (kd : Nat))) := hide (fun w' h => (h.cell (p := ⟨bL, k * 3, none⟩) hgq.lt).trans k2)
        clear hgq hcells hcq hbq
        go_wp2_with fail
        refine (unhide HMV).mono ?_
        rintro e w' ⟨rfl, hw'⟩
        obtain rfl := hw'.symm
        go_wp2_with fail
        refine (unhide HOB).mono ?_
        rintro e w10 ⟨rfl, hb10⟩
        have HB10 := hide ((unhide HBQ).trans (hb10.mono (unhide HBQ).size))
        have kk := unhide HK2 w10 hb10
        clear hb10 HMV HOB HK2 k0 k1 k2 c0 c1 c2
        go_wp2_with (go_at_call 13; refine (num_any _ _).mono ?_; rintro e w' ⟨rfl, hw'⟩; obtain rfl := hw'.symm)
        go_roundw
        case rel => exact ⟨k + 1, by omega, by go_num, unhide HB10⟩
        case measure => simp [intOf]; omega
    · have f1 : decide ((k : Int) < (L.length : Int)) = false := decide_eq_false (by omega)
      have f1' : decide (k < L.length) = false := decide_eq_false hlt
      by_cases hn0 : n = 0
      · subst hn0
        have HEN := hide hgq.bel
        clear hgq hcells hcq hbq
        go_wp2
        go_ret
        exact ⟨rfl, unhide HEN⟩
      · have f2 : ((n : Int) == 0) = false := by rw [beq_eq_false_iff_ne]; omega
        have f2' : (n == 0) = false := by rw [beq_eq_false_iff_ne]; exact hn0
        have HLY := hide (lay_any aS aE aR S.length cS cE R0.length cR E bL cap L wq (unhide HG) hLp (by omega) hgq.lt hgq.sh hgq.rows)
        have HGQ := hide hgq
        have hszq := hgq.size
        clear hgq hcells hcq hbq
        go_wp2_with fail
        refine (unhide HLY).mono ?_
        rintro e v7 ⟨p2, bw2, bh2, ga2, ca2, ws2, hs2, rfl, hA, hwl, hkp, hpt, hat, hgan, hga21, hga22, hp21, hp22, hp23, hb7⟩
        have HA := hide hA
        have HWL := hide hwl
        have HKP := hide hkp
        have HPT := hide hpt
        have HAT := hide hat
        have hgan' : ga2 ≠ p2 ∧ ga2 ≠ bw2 ∧ ga2 ≠ bh2 := by simp at hgan; exact hgan
        have HG7 := hide ((unhide HGQ).more (hb7.mono hszq))
        have hz7 := hb7.size
        have hlp2 := hA.lp
        have hlw2 := hA.lw
        have hlh2 := hA.lh
        have HNW := hide (fun w' => new_yes n (by omega) (by omega) w')
        clear hA hwl hkp hpt hat hgan hb7 HLY c0 c1 c2
        go_wp2_with fail
        refine (unhide HNW _).mono ?_
        rintro e v8 ⟨p3, bw3, bh3, rfl, hB, hq31, hq32, hq33, hb8⟩
        have hz8 := hb8.size
        have hg8 : Given w w5 v8 aS aE aR S.length cS cE cR E R0 L bL := (unhide HG7).more (hb8.mono (by omega))
        have HG8 := hide hg8
        have c80 := hg8.c0
        have c81 := hg8.c1
        have c82 := hg8.c2
        have hc8 : Cop v8 v8 p2 bw2 bh2 p3 bw3 bh3 L E (rootsOf R0 L.length) n hs2 [] 0 0 ws2 (List.replicate n 0) (List.replicate n false) := cop_start ((unhide HA).below hb8) (unhide HWL) (unhide HKP) (unhide HPT) hB
        have hat8 : ∀ j, j < L.length → v8.cell? ⟨ga2, j, none⟩ = some (.int .i64 (place L j : Nat)) := fun j hj => (hb8.cell (p := ⟨ga2, j, none⟩) hga22).trans (unhide HAT j hj)
        have HCA := hide (copyAll_any aS aE aR S.length cS E.length cE cR E R0 (some ⟨bL, 0, none⟩) cap ga2 ca2 L p2 bw2 bh2 p3 bw3 bh3 n ws2 (List.replicate n 0) hs2 (List.replicate n false) sn v8 (unhide HG) hLp (by omega)
          (fun w' h => (hg8.more (h.below (Below.refl _ _) (by simp; omega) hg8.size)).nums) (by omega) hat8 (by simp; omega) (by omega) (by simp; omega) (by simp; omega) (by simp; omega) (unhide HSN) hc8)
        clear hg8 hc8 hat8 hB HNW
        go_wp2_with (go_at_call 13; refine (num_any _ _).mono ?_; rintro e w' ⟨rfl, hw'⟩; obtain rfl := hw'.symm)
        refine (unhide HCA).mono ?_
        rintro e v9 (⟨Q9, wsa9, wsb9, hsb9, rfl, hc9, hr9⟩ | ⟨rfl, hN, hbut⟩)
        · have h1 := hc9.sum hr9 sn (unhide HSN)
          have h2 := hc9.b.u2
          have h3 := hc9.blen
          rw [← unhide HN] at h1
          omega
        · have HEN := hide ((unhide HG8).more (hbut.below (Below.refl _ _) (by simp; omega) (unhide HG8).size)).bel
          clear hN hbut HCA
          go_wp2
          go_ret
          exact ⟨rfl, unhide HEN⟩
end Go.Proofs.Ytdgdnpgjbphgaaa
