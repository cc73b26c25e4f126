/- asked: an Encode. -/
import Derived.Test.YtcnlikojbkegiaaGreatDoorWrp
import Derived.Test.YtcnlikojbkegiaaGreatDoorWhl
import Derived.Test.YtcnlikojbkegiaaGreatDoorHvt
import Derived.Test.YtcnlikojbkegiaaGreatDoorAkb
namespace Go.Proofs.YtcnlikojbkegiaaGreatDoor
open Go.ChangeShapes Go.WideShapes Go.ChangeAt Go.RowKit
set_option linter.unusedVariables false
set_option linter.unusedSimpArgs false
set_option maxRecDepth 20000
set_option maxHeartbeats 4000000

structure E2 (W W2 : World) (C : Array Value) (S : Nat) : Prop where
  bel : Below (W.heap.size + 1) (W.alloc (.cells C 52)) W2
  few : S ≤ 16777216
theorem E2.old {W W2 : World} {C : Array Value} {S : Nat} (h : E2 W W2 C S) : Below W.heap.size W W2 := ((Below.refl W.heap.size W).alloc (Nat.le_refl _) _).trans (h.bel.mono (Nat.le_succ _))
theorem E2.cell {W W2 : World} {C : Array Value} {S : Nat} (h : E2 W W2 C S) (j : Nat) (v : Value) (hv : C[j]? = some v) : W2.cell? ⟨W.heap.size, j, none⟩ = some v := by
  rw [h.bel.cell (Nat.lt_succ_self _), cell_of_row _ _ _ _ _ _ (heap_alloc_new W _)]; exact hv
theorem E2.below {W W2 W3 : World} {C : Array Value} {S : Nat} (h : E2 W W2 C S) (hb : Below W2.heap.size W2 W3) : E2 W W3 C S := ⟨h.bel.trans (hb.mono (by have := h.bel.size; simp at this; omega)), h.few⟩
theorem E2.lt {W W2 : World} {C : Array Value} {S : Nat} (h : E2 W W2 C S) : W.heap.size < W2.heap.size := by
  have := h.bel.size
  simp at this
  omega
/-- behind lent -/
structure E3 (W W2 W3 : World) (C : Array Value) (S d : Nat) (x : Tr d) (u0 u1 u2 u3 : Value) : Prop where
  s2 : E2 W W2 C S
  bel : Below W2.heap.size W2 W3
  ln : LnAt W3 d x W2.heap.size W3.heap.size u0 u1 u2 u3
theorem E3.box {W W2 W3 : World} {C : Array Value} {S d : Nat} {x : Tr d} {u0 u1 u2 u3 : Value} (h : E3 W W2 W3 C S d x u0 u1 u2 u3) : Below W3.heap.size W3 (W3.alloc (.cells #[u0, u1, u2, u3] 31)) := (Below.refl _ _).alloc (Nat.le_refl _) _
theorem E3.now {W W2 W3 : World} {C : Array Value} {S d : Nat} {x : Tr d} {u0 u1 u2 u3 : Value} (h : E3 W W2 W3 C S d x u0 u1 u2 u3) : E2 W (W3.alloc (.cells #[u0, u1, u2, u3] 31)) C S := (h.s2.below h.bel).below h.box
/-- behind Encode -/
structure E4 (W W2 W3 W4 : World) (C : Array Value) (S d : Nat) (x : Tr d) (u0 u1 u2 u3 : Value) (l : List Nat) (v : Value) : Prop where
  s3 : E3 W W2 W3 C S d x u0 u1 u2 u3
  gr : Gro (W3.alloc (.cells #[u0, u1, u2, u3] 31)) W4 (W3.alloc (.cells #[u0, u1, u2, u3] 31)).heap.size v l.length l
theorem E4.now {W W2 W3 W4 : World} {C : Array Value} {S d : Nat} {x : Tr d} {u0 u1 u2 u3 : Value} {l : List Nat} {v : Value} (h : E4 W W2 W3 W4 C S d x u0 u1 u2 u3 l v) : E2 W W4 C S := h.s3.now.below h.gr.bel
/-- behind the document's Encode -/
structure E5 (W W2 W3 W4 W5 : World) (C : Array Value) (S d : Nat) (x : Tr d) (u0 u1 u2 u3 : Value) (l : List Nat) (v : Value) (ra : Option Addr) : Prop where
  s4 : E4 W W2 W3 W4 C S d x u0 u1 u2 u3 l v
  rb : Bytes W5 ra l
  ro : ∀ g off, 0 < l.length → ra = some ⟨g, off, none⟩ → W4.heap.size ≤ g
  bel : Below W4.heap.size W4 W5
theorem E5.now {W W2 W3 W4 W5 : World} {C : Array Value} {S d : Nat} {x : Tr d} {u0 u1 u2 u3 : Value} {l : List Nat} {v : Value} {ra : Option Addr} (h : E5 W W2 W3 W4 W5 C S d x u0 u1 u2 u3 l v ra) : E2 W W5 C S := h.s4.now.below h.bel
theorem E5.three {W W2 W3 W4 W5 : World} {C : Array Value} {S d : Nat} {x : Tr d} {u0 u1 u2 u3 : Value} {l : List Nat} {v : Value} {ra : Option Addr} (h : E5 W W2 W3 W4 W5 C S d x u0 u1 u2 u3 l v ra) : Below (W3.heap.size + 1) (W3.alloc (.cells #[u0, u1, u2, u3] 31)) W5 := by
  have h1 : Below (W3.heap.size + 1) (W3.alloc (.cells #[u0, u1, u2, u3] 31)) W4 := h.s4.gr.bel.mono (by simp)
  exact h1.trans (h.bel.mono (by have := h1.size; simp at this; omega))
theorem E5.row {W W2 W3 W4 W5 : World} {C : Array Value} {S d : Nat} {x : Tr d} {u0 u1 u2 u3 : Value} {l : List Nat} {v : Value} {ra : Option Addr} (h : E5 W W2 W3 W4 W5 C S d x u0 u1 u2 u3 l v ra) : W5.heap[W3.heap.size]? = some (.cells #[u0, u1, u2, u3] 31 (0, 0)) := (h.three.block W3.heap.size (Nat.lt_succ_self _)).trans (heap_alloc_new W3 _)
theorem E5.ln {W W2 W3 W4 W5 : World} {C : Array Value} {S d : Nat} {x : Tr d} {u0 u1 u2 u3 : Value} {l : List Nat} {v : Value} {ra : Option Addr} (h : E5 W W2 W3 W4 W5 C S d x u0 u1 u2 u3 l v ra) : LnAt W5 d x W2.heap.size W3.heap.size u0 u1 u2 u3 := h.s4.s3.ln.same (fun b _ hb => (h.three.block b (by omega)).trans (h.s4.s3.box.block b hb))
theorem E5.after {W W2 W3 W4 W5 W6 : World} {C : Array Value} {S d : Nat} {x : Tr d} {u0 u1 u2 u3 : Value} {l : List Nat} {v : Value} {ra : Option Addr} (h : E5 W W2 W3 W4 W5 C S d x u0 u1 u2 u3 l v ra) (hk : Kept (fun b => W2.heap.size ≤ b ∧ b < W3.heap.size) W5 W6) :
    Below W.heap.size W W6 ∧ Rws W6 5 1 v l.length (byV l) ∧ (∀ g, v.ownBlock = some g → W.heap.size ≤ g) ∧ Bytes W6 ra l := by
  have s2 := h.s4.s3.s2.old.size
  have s23 := h.s4.s3.bel.size
  have s34 := h.s4.gr.bel.size
  have s3' : (W3.alloc (.cells #[u0, u1, u2, u3] 31)).heap.size = W3.heap.size + 1 := by simp
  have s45 := h.bel.size
  have r5 := h.s4.gr.row.below h.bel
  refine ⟨h.now.old.trans ⟨hk.os, hk.tape, hk.output, hk.size, fun b hb => hk.blk b (by omega) (fun q => by omega)⟩, hk.rws r5 (fun g hg q => ?_), fun g hg => ?_, ?_⟩
  · have := h.s4.gr.own g hg
    omega
  · have := h.s4.gr.own g hg
    omega
  · rcases h.rb with e | ⟨b, off, rfl, hb, hc⟩
    · exact .inl e
    · rcases Nat.eq_zero_or_pos l.length with q | q
      · exact .inl (List.eq_nil_of_length_eq_zero q)
      · have hg := h.ro b off q rfl
        refine .inr ⟨b, off, rfl, Nat.lt_of_lt_of_le hb hk.size, fun i hi => ?_⟩
        rw [hk.cell hb (fun q => by omega)]
        exact hc i hi
theorem asked_enc (w0 w1 W : World) (pb t : Nat) (m : Int) (da la : Option Addr) (dn dc n lc d : Nat) (x : Tr d) (L : List (List Nat)) (r0 r1 r2 r3 : Value)
    (hT : Td w1 W pb t m [] []) (h01 : Below w0.heap.size w0 w1) (hp : w0.heap.size ≤ pb) (ht : Tab w0) (hU : UOk w0) (hn : n = L.length) (hA : ArgsW w0 la L) (hR : RpAt w0 d x r0 r1 r2 r3) (hd : dn ≤ 140737488351232) (hl : n ≤ 140737488351232) (htt : t < 1000000) (hm : -4611686018427387904 ≤ m ∧ m ≤ 4611686018427387904) :
    Calls Tryz.prog 9 #[.agg #[.int .i64 3, .slice da dn dc, .slice la n lc, r0, r1, r2, r3], .pointer (some ⟨pb + 1, 0, none⟩)] W fun e w' => e = .returned (.bool true) ∧ ∃ m', Hid (Td w1 w' pb (t + 1) m' [] []) ∧ m - 60000000 ≤ m' ∧ m' ≤ m := by
  have h0W := hT.old h01 hp
  obtain ⟨l, hlE⟩ : ∃ l, l = outE d x := ⟨_, rfl⟩
  obtain ⟨E, hEE⟩ : ∃ E, E = errE d x := ⟨_, rfl⟩
  obtain ⟨ll, hll⟩ : ∃ ll, ll = l.length := ⟨_, rfl⟩
  obtain ⟨S, hS⟩ : ∃ S, S = sz d x := ⟨_, rfl⟩
  have hlen : S ≤ 16777216 → ll ≤ 50331648 := fun h => by
    have := encL_len d x hR.num
    rw [hll, hlE]
    unfold outE
    split
    · omega
    · simp
  have hWB : Below W.heap.size W (W.alloc (.cells #[.int .i64 3, .slice da dn dc, .slice la n lc, r0, r1, r2, r3] 52)) := (Below.refl _ _).alloc (Nat.le_refl _) _
  have CH : Hid (Calls Tryz.prog 13 #[.agg #[.int .i64 3, .slice da dn dc, .slice la n lc, r0, r1, r2, r3]] (W.alloc (.cells #[.int .i64 3, .slice da dn dc, .slice la n lc, r0, r1, r2, r3] 52)) fun e w' => ∃ h : Bool, e = .returned (.bool h) ∧ Hid (Below W.heap.size W w') ∧ (h = false → Hid (E2 W w' #[.int .i64 3, .slice da dn dc, .slice la n lc, r0, r1, r2, r3] S ∧ S ≤ 16777216)) ∧ w'.cell? ⟨W.heap.size, 0, none⟩ = some (.int .i64 3) ∧ w'.cell? ⟨W.heap.size, 3, none⟩ = some r0 ∧ w'.cell? ⟨W.heap.size, 4, none⟩ = some r1 ∧ w'.cell? ⟨W.heap.size, 5, none⟩ = some r2 ∧ w'.cell? ⟨W.heap.size, 6, none⟩ = some r3) := hide (by
    refine (heavy_tree _ 3 da la dn dc n lc d x L _ _ _ _ hn ?_ ((hR.below h0W).below hWB) hd hl).mono ?_
    · rcases hA with h | ⟨b, off, e, hlt, hc⟩
      · exact .inl h
      · have hb0 := h0W.trans (hWB.mono h0W.size)
        refine .inr ⟨b, off, e, Nat.lt_of_lt_of_le hlt hb0.size, fun k T hT => ?_⟩
        obtain ⟨x, c, y1, y2, y3⟩ := hc k T hT
        exact ⟨x, c, (hb0.cell hlt).trans y1, y2.below hb0, y3⟩
    · rintro e w' ⟨h, rfl, kb, kh⟩
      have bb : Below (W.heap.size + 1) (W.alloc (.cells #[.int .i64 3, .slice da dn dc, .slice la n lc, r0, r1, r2, r3] 52)) w' := (unhide kb).mono (by simp)
      have cc : ∀ j v, (#[.int .i64 3, .slice da dn dc, .slice la n lc, r0, r1, r2, r3] : Array Value)[j]? = some v → w'.cell? ⟨W.heap.size, j, none⟩ = some v := fun j v hv => by
        rw [bb.cell (Nat.lt_succ_self _), cell_of_row _ _ _ _ _ _ (heap_alloc_new W _)]; exact hv
      exact ⟨h, rfl, hide (hWB.trans (bb.mono (Nat.le_succ _))), fun e => hide ⟨⟨bb, by rw [hS]; have := kh e; omega⟩, by rw [hS]; have := kh e; omega⟩, cc 0 _ rfl, cc 3 _ rfl, cc 4 _ rfl, cc 5 _ rfl, cc 6 _ rfl⟩)
  have CL : Hid (∀ W2, Hid (E2 W W2 #[.int .i64 3, .slice da dn dc, .slice la n lc, r0, r1, r2, r3] S ∧ S ≤ 16777216) → Calls Tryz.prog 25 #[.agg #[r0, r1, r2, r3]] W2 fun e w' => ∃ (c0 c1 : Int) (a2 : Option Addr) (n2 c2 : Nat) (a3 : Option Addr) (n3 c3 : Nat), e = .returned (.agg #[.int .i64 c0, .int .i64 c1, .slice a2 n2 c2, .slice a3 n3 c3]) ∧ Hid (E3 W W2 w' #[.int .i64 3, .slice da dn dc, .slice la n lc, r0, r1, r2, r3] S d x (.int .i64 c0) (.int .i64 c1) (.slice a2 n2 c2) (.slice a3 n3 c3))) := hide (fun W2 h2 => by
    have h0 := h0W.trans ((unhide h2).1.old.mono h0W.size)
    refine (lent_any d x W2 r0 r1 r2 r3 (hR.below h0) (by rw [← hS]; exact (unhide h2).2)).mono ?_
    rintro e w' ⟨c0, c1, a2, n2, c2, a3, n3, c3, rfl, k⟩
    exact ⟨c0, c1, a2, n2, c2, a3, n3, c3, rfl, hide ⟨(unhide h2).1, (unhide k).1, (unhide k).2⟩⟩)
  have cs : ∀ {W2 : World}, E2 W W2 #[.int .i64 3, .slice da dn dc, .slice la n lc, r0, r1, r2, r3] S → W2.cell? ⟨W.heap.size, 3, none⟩ = some r0 ∧ W2.cell? ⟨W.heap.size, 4, none⟩ = some r1 ∧ W2.cell? ⟨W.heap.size, 5, none⟩ = some r2 ∧ W2.cell? ⟨W.heap.size, 6, none⟩ = some r3 := fun h => ⟨h.cell 3 _ rfl, h.cell 4 _ rfl, h.cell 5 _ rfl, h.cell 6 _ rfl⟩
  have CE : Hid (∀ W2 W3 u0 u1 u2 u3, Hid (E3 W W2 W3 #[.int .i64 3, .slice da dn dc, .slice la n lc, r0, r1, r2, r3] S d x u0 u1 u2 u3) → Calls Tryz.prog 6 #[.agg #[u0, u1, u2, u3]] (W3.alloc (.cells #[u0, u1, u2, u3] 31)) fun e w' => ∃ va vc, e = .returned (.tuple #[.slice va ll vc, .int .i64 E]) ∧ Hid (E4 W W2 W3 w' #[.int .i64 3, .slice da dn dc, .slice la n lc, r0, r1, r2, r3] S d x u0 u1 u2 u3 l (.slice va ll vc)) ∧ w'.cell? ⟨W.heap.size, 3, none⟩ = some r0 ∧ w'.cell? ⟨W.heap.size, 4, none⟩ = some r1 ∧ w'.cell? ⟨W.heap.size, 5, none⟩ = some r2 ∧ w'.cell? ⟨W.heap.size, 6, none⟩ = some r3) := hide (fun W2 W3 u0 u1 u2 u3 h3 => by
    have hb := (unhide h3).now.old
    have h0 := h0W.trans (hb.mono h0W.size)
    have hln : LnAt (W3.alloc (.cells #[u0, u1, u2, u3] 31)) d x W2.heap.size W3.heap.size u0 u1 u2 u3 := (unhide h3).ln.same (fun b _ hb => (unhide h3).box.block b hb)
    have := encode_any (W3.alloc (.cells #[u0, u1, u2, u3] 31)) (ht.below h0) (UOk.below _ _ hU h0) d x u0 u1 u2 u3 (LnAt.rp hR hln) (by rw [← hS]; exact (unhide h3).s2.few)
    rw [← hlE, ← hEE] at this
    refine this.mono ?_
    rintro e w' ⟨va, vc, rfl, k⟩
    have s4 : E4 W W2 W3 w' #[.int .i64 3, .slice da dn dc, .slice la n lc, r0, r1, r2, r3] S d x u0 u1 u2 u3 l (.slice va l.length vc) := ⟨unhide h3, unhide k⟩
    rw [hll]
    exact ⟨va, vc, rfl, hide s4, cs s4.now⟩)
  have CR : Hid (∀ W2 W3 W4 u0 u1 u2 u3 v, Hid (E4 W W2 W3 W4 #[.int .i64 3, .slice da dn dc, .slice la n lc, r0, r1, r2, r3] S d x u0 u1 u2 u3 l v) → Calls Tryz.prog 26 #[.agg #[r0, r1, r2, r3]] W4 fun e w' => ∃ ra rc, e = .returned (.tuple #[.slice ra ll rc, .int .i64 E]) ∧ Hid (E5 W W2 W3 W4 w' #[.int .i64 3, .slice da dn dc, .slice la n lc, r0, r1, r2, r3] S d x u0 u1 u2 u3 l v ra) ∧ (w'.cell? ⟨W.heap.size, 3, none⟩ = some r0 ∧ w'.cell? ⟨W.heap.size, 4, none⟩ = some r1 ∧ w'.cell? ⟨W.heap.size, 5, none⟩ = some r2 ∧ w'.cell? ⟨W.heap.size, 6, none⟩ = some r3) ∧ w'.cell? ⟨W3.heap.size, 0, none⟩ = some u0 ∧ w'.cell? ⟨W3.heap.size, 1, none⟩ = some u1 ∧ w'.cell? ⟨W3.heap.size, 2, none⟩ = some u2 ∧ w'.cell? ⟨W3.heap.size, 3, none⟩ = some u3) := hide (fun W2 W3 W4 u0 u1 u2 u3 v h4 => by
    have h0 := h0W.trans ((unhide h4).now.old.mono h0W.size)
    have := rencode_any W4 d x r0 r1 r2 r3 (hR.below h0) (by rw [← hS]; exact (unhide h4).s3.s2.few)
    rw [← hlE, ← hEE] at this
    refine this.mono ?_
    rintro e w' ⟨ra, rc, rfl, k⟩
    have s5 : E5 W W2 W3 W4 w' #[.int .i64 3, .slice da dn dc, .slice la n lc, r0, r1, r2, r3] S d x u0 u1 u2 u3 l v ra := ⟨unhide h4, (unhide k).1, (unhide k).2.1, (unhide k).2.2⟩
    rw [hll]
    exact ⟨ra, rc, rfl, hide s5, cs s5.now, cell_of_row _ _ _ _ _ _ s5.row, cell_of_row _ _ _ _ _ _ s5.row, cell_of_row _ _ _ _ _ _ s5.row, cell_of_row _ _ _ _ _ _ s5.row⟩)
  have CW : Hid (∀ W2 W3 W4 W5 u0 u1 u2 u3 v ra, Hid (E5 W W2 W3 W4 W5 #[.int .i64 3, .slice da dn dc, .slice la n lc, r0, r1, r2, r3] S d x u0 u1 u2 u3 l v ra) → Calls Tryz.prog 27 #[.agg #[u0, u1, u2, u3], .agg #[r0, r1, r2, r3]] W5 fun e w' => e = .returned (.bool true) ∧ Hid (Below W.heap.size W w' ∧ Rws w' 5 1 v l.length (byV l) ∧ (∀ g, v.ownBlock = some g → W.heap.size ≤ g) ∧ Bytes w' ra l)) := hide (fun W2 W3 W4 W5 u0 u1 u2 u3 v ra h5 => by
    have h0 := h0W.trans ((unhide h5).now.old.mono h0W.size)
    refine (whole_any w0 d x W5 W2.heap.size W3.heap.size u0 u1 u2 u3 r0 r1 r2 r3 (unhide h5).ln (by have := (unhide h5).three.size; simp at this; omega) hR h0 (Nat.le_trans h0W.size (unhide h5).s4.s3.s2.old.size) (by rw [← hS]; exact (unhide h5).s4.s3.s2.few)).mono ?_
    rintro e w' ⟨rfl, k⟩
    exact ⟨rfl, hide ((unhide h5).after (unhide k))⟩)
  have CEQ : Hid (∀ W6 va vc ra rc, S ≤ 16777216 → Hid (Below W.heap.size W W6 ∧ Rws W6 5 1 (.slice va ll vc) l.length (byV l) ∧ (∀ g, (Value.slice va ll vc).ownBlock = some g → W.heap.size ≤ g) ∧ Bytes W6 ra l) → Calls Tryz.prog 12 #[.slice va ll vc, .slice ra ll rc] W6 fun e w' => e = .returned (.bool true) ∧ Hid (Td w1 w' pb t m [(.slice va ll vc, l)] [])) := hide (fun W6 va vc ra rc hs h6 => by
    obtain ⟨b6, r6, o6, y6⟩ := unhide h6
    have hbv := r6.inb'.1
    have hl5 := hlen hs
    rw [hll]
    refine (eq_any (c1 := vc) (c2 := rc) (by omega) (by omega) hbv y6).mono ?_
    rintro e w' ⟨rfl, k⟩
    refine ⟨by simp, hide ?_⟩
    have := hT.more (b6.trans (k.below.mono b6.size)) [(.slice va ll vc, l)] (fun z hz => by
      simp at hz
      subst hz
      exact ⟨r6.below k.below, o6⟩) (List.pairwise_singleton _ _) [] (fun x hx => by cases hx)
    rw [hll] at this
    exact this)
  have CTO : Hid (∀ W7 va vc, S ≤ 16777216 → Hid (Td w1 W7 pb t m [(.slice va ll vc, l)] []) → Calls Tryz.prog 24 #[.pointer (some ⟨pb + 1, 0, none⟩), .slice va ll vc] W7 fun e w' => e = .returned (.tuple #[]) ∧ Hid (Td w1 w' pb (t + 1) (m - ll - 10) [] [])) := hide (fun W7 va vc hs h7 => (unhide h7).told hll htt (by have := hlen hs; omega) hm)
  have CLK : Hid (∀ W8, Hid (Td w1 W8 pb (t + 1) (m - ll - 10) [] []) → Calls Tryz.prog 32 #[.pointer (some ⟨pb + 1, 0, none⟩)] W8 fun e w' => e = .returned (.bool true) ∧ Hid (Td w1 w' pb (t + 1) (m - ll - 10) [] [])) := hide (fun W8 h8 => (unhide h8).looked)
  have TD : Hid (∀ w', Hid (Below W.heap.size W w') → Td w1 w' pb (t + 1) m [] []) := hide (fun w' h => (hT.below (unhide h)).later (Nat.le_succ _))
  have HLEN := hide hlen
  obtain ⟨k0, k1, ta, tn', tc, qa, qn, qc, rfl, rfl, rfl, rfl⟩ : ∃ (k0 k1 : Int) (ta : Option Addr) (tn' tc : Nat) (qa : Option Addr) (qn qc : Nat), r0 = .int .i64 k0 ∧ r1 = .int .i64 k1 ∧ r2 = .slice ta tn' tc ∧ r3 = .slice qa qn qc := by
    obtain ⟨d, rfl⟩ : ∃ d', d = d' + 1 := ⟨d - 1, by have := tr_pos x; omega⟩
    obtain ⟨⟨rfl, -⟩, ⟨rfl, -⟩, ⟨ta, tc, rfl, -⟩, la, lc, rfl, -⟩ := hR
    exact ⟨_, _, _, _, _, _, _, _, rfl, rfl, rfl, rfl⟩
  clear hT h0W hR hA hn ht hll hlen h01 hp hWB hlE hEE hS cs hU
  go_enter Tryz.func9, Tryz.ntmps9
  go_wp2_with (first
    | (go_at_call 13; refine (unhide CH).mono ?_; rintro e W2 ⟨h, rfl, kb, kh, x0, x3, x4, x5, x6⟩; cases h)
    | (go_at_call 25; refine (unhide CL W2 (kh (by first | rfl | trivial))).mono ?_; rintro e W3 ⟨c0, c1, a2, n2, c2, a3, n3, c3, rfl, k3⟩)
    | (go_at_call 6; refine (unhide CE W2 W3 _ _ _ _ k3).mono ?_; rintro e W4 ⟨va, vc, rfl, k4, y3, y4, y5, y6⟩)
    | (go_at_call 26; refine (unhide CR _ _ W4 _ _ _ _ _ k4).mono ?_; rintro e W5 ⟨ra, rc, rfl, k5, ⟨z3, z4, z5, z6⟩, v0, v1, v2, v3⟩)
    | (go_at_call 27; refine (unhide CW _ _ _ W5 _ _ _ _ _ _ k5).mono ?_; rintro e W6 ⟨rfl, k6⟩)
    | (go_at_call 12; refine (unhide CEQ W6 va vc ra rc (unhide k3).s2.few k6).mono ?_; rintro e W7 ⟨rfl, k7⟩)
    | (go_at_call 7; refine (num_any _ _).mono ?_; rintro e W7' ⟨rfl, h7'⟩; subst h7')
    | (go_at_call 24; refine (unhide CTO _ va vc (unhide k3).s2.few k7).mono ?_; rintro e W8 ⟨rfl, k8⟩)
    | (go_at_call 32; refine (unhide CLK W8 k8).mono ?_; rintro e W9 ⟨rfl, k9⟩))
  all_goals go_ret
  all_goals first | exact ⟨rfl, _, k9, by have := unhide HLEN (unhide k3).s2.few; omega, by omega⟩ | exact ⟨rfl, m, hide (unhide TD _ kb), by omega, Int.le_refl _⟩
end Go.Proofs.YtcnlikojbkegiaaGreatDoor
