/- cloned, Places. -/
import Derived.Test.YtfebiemfmiahhabKb
namespace Go.Proofs.Ytfebiemfmiahhab
open Go.ChangeShapes Go.WideShapes Go.ChangeAt Go.RowKit Go.Maps
set_option linter.unusedVariables false
set_option linter.unusedSimpArgs false
set_option maxRecDepth 100000
set_option maxHeartbeats 4000000
theorem clone_any (w : World) (T : List UInt8) (hT : T.length ≤ 281474976710656) : Calls Try.prog 52 #[.string (bs T)] w fun e w' => e = .returned (.string (bs T)) ∧ Hid (Below w.heap.size w w') := by
  have h := Try.stringslite_Clone (bs T) w (by rw [bs_size]; exact hT)
  go_enter Try.func52, Try.ntmps52
  go_wp2_with (go_at_call 59; refine h.mono ?_; rintro e w1 ⟨rfl, h1⟩; have H1 := hide h1; clear h1)
  go_ret
  exact ⟨rfl, H1⟩
theorem info40 : (Try.prog.info? 46).map (fun i => (i.zero, i.size, i.bytes)) = some (some (.agg #[.int .i64 0, .string (bs [])]), 2, 24) := by kernel_rfl
theorem makeP (n : Nat) (hn : n ≤ 5864062014805) (w : World) : (Instr.makeSlice 38 (.int .i64 (n : Nat)) (.int .i64 (n : Nat))).run Try.prog w = .ok (.slice (some ⟨w.heap.size, 0, none⟩) n n) (w.alloc (.cells (madeCells #[.int .i64 0, .string (bs [])] (n * 2)) 46)) := by
  obtain ⟨i, hi, hzz⟩ := Option.map_eq_some_iff.1 info40
  simp only [Prod.mk.injEq] at hzz
  obtain ⟨hz, hs, hb⟩ := hzz
  have hr := run_make (P := Try.prog) w 38 46 i _ Try.underlying38 hi hz .i64 .i64 n n (by omega) (Int.le_refl _) (by rw [hb]; omega) (by omega)
  simp only [Int.toNat_natCast, hs] at hr
  exact hr
/-- the rows under way -/
structure ClAt (w wr : World) (l : List Pl) (i : Nat) : Prop where
  bel : Below w.heap.size w wr
  row : ∃ cur : Array Value, wr.heap[w.heap.size]? = some (.cells cur 46 (0, 0)) ∧ cur.size = l.length * 2 ∧ ∀ (j : Nat) (x : Pl), j < i → l[j]? = some x → cur[j * 2]? = some (Value.int .i64 x.1) ∧ cur[j * 2 + 1]? = some (.string (bs x.2))
theorem ClAt.below {w wr w' : World} {l : List Pl} {i : Nat} (h : ClAt w wr l i) (hb : Below wr.heap.size wr w') : ClAt w w' l i := by
  obtain ⟨cur, h1, r⟩ := h.row
  exact ⟨h.bel.trans (hb.mono h.bel.size), cur, (hb.block _ (blk_lt h1)).trans h1, r⟩
theorem ClAt.lt {w wr : World} {l : List Pl} {i : Nat} (h : ClAt w wr l i) : w.heap.size < wr.heap.size := by
  obtain ⟨cur, h1, r⟩ := h.row
  exact blk_lt h1
theorem ClAt.froz {w wr : World} {l : List Pl} {i : Nat} (h : ClAt w wr l i) (j : Nat) : wr.frozen? ⟨w.heap.size, j * 2, none⟩ = false ∧ wr.frozen? ⟨w.heap.size, j * 2 + 1, none⟩ = false := by
  obtain ⟨cur, h1, r⟩ := h.row
  exact ⟨by simp [World.frozen?, h1], by simp [World.frozen?, h1]⟩
theorem ClAt.there {w wr : World} {l : List Pl} {i j : Nat} (h : ClAt w wr l i) (hj : j < l.length) : ∃ u0 u1, wr.cell? ⟨w.heap.size, j * 2, none⟩ = some u0 ∧ wr.cell? ⟨w.heap.size, j * 2 + 1, none⟩ = some u1 := by
  obtain ⟨cur, h1, h2, r⟩ := h.row
  exact ⟨cur[j * 2], cur[j * 2 + 1], by rw [cell_blk h1]; exact Array.getElem?_eq_getElem (by omega), by rw [cell_blk h1]; exact Array.getElem?_eq_getElem (by omega)⟩
theorem ClAt.set {w wr : World} {l : List Pl} {i : Nat} {x : Pl} (h : ClAt w wr l i) (hx : l[i]? = some x) : ClAt w ((wr.setCell ⟨w.heap.size, i * 2, none⟩ (.int .i64 x.1)).setCell ⟨w.heap.size, i * 2 + 1, none⟩ (.string (bs x.2))) l (i + 1) := by
  obtain ⟨cur, h1, h2, h3⟩ := h.row
  have hil : i < l.length := (List.getElem?_eq_some_iff.1 hx).1
  have s1 := heap_setCell_same wr w.heap.size (i * 2) cur 46 (.int .i64 x.1) h1
  have s2 := heap_setCell_same _ w.heap.size (i * 2 + 1) _ 46 (.string (bs x.2)) s1
  refine ⟨⟨h.bel.os, h.bel.tape, h.bel.output, by have := h.bel.size; simp; omega, fun k hk => ?_⟩, _, s2, by simp [h2], fun j y hj hy => ?_⟩
  · rw [heap_setCell_other _ _ _ _ (by show k ≠ w.heap.size; omega), heap_setCell_other _ _ _ _ (by show k ≠ w.heap.size; omega)]
    exact h.bel.block k hk
  · by_cases e : j = i
    · subst e
      rw [hx] at hy
      cases hy
      refine ⟨?_, ?_⟩
      · rw [Array.getElem?_setIfInBounds_ne (by omega), Array.getElem?_setIfInBounds_self_of_lt (by omega)]
      · rw [Array.getElem?_setIfInBounds_self_of_lt (by simp; omega)]
    · obtain ⟨a0, a1⟩ := h3 j y (by omega) hy
      refine ⟨?_, ?_⟩
      · rw [Array.getElem?_setIfInBounds_ne (by omega), Array.getElem?_setIfInBounds_ne (by omega)]
        exact a0
      · rw [Array.getElem?_setIfInBounds_ne (by omega), Array.getElem?_setIfInBounds_ne (by omega)]
        exact a1
theorem ClAt.done {w wr : World} {l : List Pl} (h : ClAt w wr l l.length) : RowP wr w.heap.size l := by
  obtain ⟨cur, h1, h2, h3⟩ := h.row
  unfold RowP
  rw [h1]
  have he : cur = (l.flatMap plC).toArray := ?_
  · rw [he]
  refine Array.ext_getElem? (fun k => ?_)
  have e9 : (l.flatMap plC).toArray[k]? = (l.flatMap plC)[k]? := by simp
  rw [e9]
  by_cases hk : k < l.length * 2
  · obtain ⟨x, hx⟩ : ∃ x, l[k / 2]? = some x := ⟨_, List.getElem?_eq_getElem (by omega)⟩
    obtain ⟨a0, a1⟩ := h3 (k / 2) x (by omega) hx
    have b0 := flatP_get l (k / 2) x hx (k % 2) (by omega)
    rw [show k / 2 * 2 + k % 2 = k by omega] at b0
    rw [b0]
    have h2 : k % 2 = 0 ∨ k % 2 = 1 := by omega
    rcases h2 with e | e <;> rw [e]
    · rw [show k / 2 * 2 = k by omega] at a0
      rw [a0]; rfl
    · rw [show k / 2 * 2 + 1 = k by omega] at a1
      rw [a1]; rfl
  · rw [List.getElem?_eq_none (by rw [flatP_len]; omega), Array.getElem?_eq_none (by omega)]
theorem keep2 {W : World} {g bx i j : Nat} {u v a b : Value} (h : bx ≠ g) (z : W.cell? ⟨bx, 0, none⟩ = some a ∧ W.cell? ⟨bx, 1, none⟩ = some b) : ((W.setCell ⟨g, i, none⟩ u).setCell ⟨g, j, none⟩ v).cell? ⟨bx, 0, none⟩ = some a ∧ ((W.setCell ⟨g, i, none⟩ u).setCell ⟨g, j, none⟩ v).cell? ⟨bx, 1, none⟩ = some b := by
  have hne : ∀ k m, (⟨bx, k, none⟩ : Addr) ≠ ⟨g, m, none⟩ := fun k m e => h (by injection e)
  constructor
  · rw [World.cell?_setCell_other _ _ _ _ (hne _ _).symm, World.cell?_setCell_other _ _ _ _ (hne _ _).symm]
    exact z.1
  · rw [World.cell?_setCell_other _ _ _ _ (hne _ _).symm, World.cell?_setCell_other _ _ _ _ (hne _ _).symm]
    exact z.2
theorem cloned_any (w : World) (a : Option Addr) (cap : Nat) (l : List Pl) (hl : PlsAt w a l) (hn : l.length ≤ 1000000) (hk : ∀ p ∈ l, p.2.length ≤ 281474976710656) :
    Calls Try.prog 37 #[.slice a l.length cap] w fun e w' => e = .returned (.slice (some ⟨w.heap.size, 0, none⟩) l.length l.length) ∧ Hid (RowP w' w.heap.size l ∧ Below w.heap.size w w') := by
  obtain ⟨n, hnl⟩ : ∃ n, n = l.length := ⟨_, rfl⟩
  rw [← hnl] at hn ⊢
  have m1 := makeP n (by omega)
  have HN := hide hnl
  clear hnl
  go_enter Try.func37, Try.ntmps37
  go_wp2_with fail
  have HS : Hid (ClAt w (w.alloc (.cells (madeCells #[.int .i64 0, .string (bs [])] (n * 2)) 46)) l 0) := hide ⟨(Below.refl _ _).alloc (Nat.le_refl _) _, _, heap_alloc_new _ _, by rw [size_madeCells, unhide HN], fun j x hj => absurd hj (Nat.not_lt_zero _)⟩
  go_loopw [11] (fun iv wr => ∃ i : Nat, iv = .int .i64 ((i : Nat) : Int) ∧ i ≤ n ∧ Hid (ClAt w wr l i)) (fun iv _ => n - (intOf iv).toNat)
  case atStart => exact ⟨0, rfl, Nat.zero_le _, HS⟩
  case round =>
    clear HS
    obtain ⟨i, rfl, hi, HC⟩ := hrel
    by_cases hin : i < n
    · have f1 : decide ((i : Int) < (n : Int)) = true := decide_eq_true (by omega)
      have g1 : (0 : Int) ≤ (i : Int) := by omega
      have g2 : (i : Int) < (n : Int) := by omega
      obtain ⟨x, hx⟩ : ∃ x, l[i]? = some x := ⟨_, List.getElem?_eq_getElem (by have := unhide HN; omega)⟩
      obtain ⟨b, off, rfl, hbl, hcl⟩ : ∃ b off, a = some ⟨b, off, none⟩ ∧ b < w.heap.size ∧ ∀ (i : Nat) (x : Pl), l[i]? = some x → w.cell? ⟨b, off + i * 2, none⟩ = some (.int .i64 x.1) ∧ w.cell? ⟨b, off + i * 2 + 1, none⟩ = some (.string (bs x.2)) := by
        rcases hl with h | h
        · rw [h] at hx; simp at hx
        · exact h
      obtain ⟨p0, p1⟩ := hcl i x hx
      have c0 : wr.cell? ⟨b, off + i * 2, none⟩ = some (.int .i64 x.1) := ((unhide HC).bel.cell (p := ⟨b, off + i * 2, none⟩) hbl).trans p0
      have c1 : wr.cell? ⟨b, off + i * 2 + 1, none⟩ = some (.string (bs x.2)) := ((unhide HC).bel.cell (p := ⟨b, off + i * 2 + 1, none⟩) hbl).trans p1
      have HC1 : Hid (ClAt w (wr.alloc (.cells #[.int .i64 x.1, .string (bs x.2)] 46)).drew l i) := hide ((unhide HC).below (((Below.refl _ _).alloc (Nat.le_refl _) _).drew))
      have hbg : wr.heap.size ≠ w.heap.size := by have := (unhide HC).lt; omega
      have hbo : (wr.alloc (.cells #[.int .i64 x.1, .string (bs x.2)] 46)).drew.cell? ⟨wr.heap.size, 0, none⟩ = some (.int .i64 x.1) ∧ (wr.alloc (.cells #[.int .i64 x.1, .string (bs x.2)] 46)).drew.cell? ⟨wr.heap.size, 1, none⟩ = some (.string (bs x.2)) := by
        have h := heap_alloc_new wr (.cells #[.int .i64 x.1, .string (bs x.2)] 46)
        exact ⟨cell_blk (w := (wr.alloc (.cells #[.int .i64 x.1, .string (bs x.2)] 46)).drew) h 0, cell_blk (w := (wr.alloc (.cells #[.int .i64 x.1, .string (bs x.2)] 46)).drew) h 1⟩
      have CC : Hid (Calls Try.prog 52 #[.string (bs x.2)] (wr.alloc (.cells #[.int .i64 x.1, .string (bs x.2)] 46)).drew fun e w' => e = .returned (.string (bs x.2)) ∧ Hid (ClAt w w' l i) ∧ (w'.cell? ⟨wr.heap.size, 0, none⟩ = some (.int .i64 x.1) ∧ w'.cell? ⟨wr.heap.size, 1, none⟩ = some (.string (bs x.2))) ∧ (w'.frozen? ⟨w.heap.size, i * 2, none⟩ = false ∧ w'.frozen? ⟨w.heap.size, i * 2 + 1, none⟩ = false) ∧ ∃ u0 u1, w'.cell? ⟨w.heap.size, i * 2, none⟩ = some u0 ∧ w'.cell? ⟨w.heap.size, i * 2 + 1, none⟩ = some u1) := hide ((clone_any _ x.2 (hk x (List.mem_of_getElem? hx))).mono (fun e w' ⟨e1, e2⟩ => by
        have hb := unhide e2
        have h1 := (unhide HC1).below hb
        have hlt : wr.heap.size < (wr.alloc (.cells #[.int .i64 x.1, .string (bs x.2)] 46)).drew.heap.size := by show wr.heap.size < (wr.alloc (.cells #[.int .i64 x.1, .string (bs x.2)] 46)).heap.size; simp
        exact ⟨e1, hide h1, ⟨(hb.cell (p := ⟨wr.heap.size, 0, none⟩) hlt).trans hbo.1, (hb.cell (p := ⟨wr.heap.size, 1, none⟩) hlt).trans hbo.2⟩, h1.froz i, h1.there (List.getElem?_eq_some_iff.1 hx).1⟩))
      have HX := hide hx
      clear hl hk hcl p0 p1 hx
      go_wp2_with fail
      go_region_held3 (fun w' => w'.cell? ⟨wr.heap.size, 0, none⟩ = some (.int .i64 x.1) ∧ w'.cell? ⟨wr.heap.size, 1, none⟩ = some (.string (bs x.2))) (first | exact z2 | exact keep2 hbg z2 | go_keep) (first | (go_at_call 52; with_reducible refine (unhide CC).mono ?_; rintro e w2 ⟨rfl, k2, z2, ⟨zf0, zf1⟩, u0, u1, y0, y1⟩))
      have K3 := hide ((unhide k2).set (unhide HX))
      clear z2 zf0 zf1 y0 y1
      go_wp2_with fail
      all_goals go_roundw
      case rel => exact ⟨i + 1, by go_num, by omega, K3⟩
      case measure => simp [intOf]; omega
    · obtain rfl : i = n := by omega
      have f1 : decide ((i : Int) < (i : Int)) = false := decide_eq_false (by omega)
      clear hl hk
      go_wp2_with fail
      go_ret
      exact ⟨rfl, hide ⟨ClAt.done (by rw [← unhide HN]; exact unhide HC), (unhide HC).bel⟩⟩
theorem field3 (a b c d e : Value) (W : World) : (Instr.field 73 (.agg #[a, b, c, d, e]) 3).run Try.prog W = .ok d W := by kernel_rfl
theorem field2 (a b c d e : Value) (W : World) : (Instr.field 73 (.agg #[a, b, c, d, e]) 2).run Try.prog W = .ok c W := by kernel_rfl
/-- Places -/
theorem lookE_mem {E : List En} {c : Int} {e : En} (h : lookE E c = some e) : e ∈ E ∧ (e.x.conn : Int) = c := by
  refine ⟨List.mem_of_find?_eq_some h, ?_⟩
  have := List.find?_some h
  simpa using this
theorem places_any (O : Nat → Prop) (w : World) (p bw bl T : Nat) (E : List En) (c : Int) (h : WAt O w p bw bl T E) (hc : IOk c) :
    Calls Try.prog 15 #[.pointer (some ⟨p, 0, none⟩), .int .i64 c] w fun e w' => e = .returned (.slice (some ⟨w.heap.size, 0, none⟩) (((lookE E c).map (·.x.places)).getD []).length (((lookE E c).map (·.x.places)).getD []).length) ∧ Hid (RowP w' w.heap.size (((lookE E c).map (·.x.places)).getD []) ∧ Below w.heap.size w w') := by
  obtain ⟨-, c1, -⟩ := h.c0
  have hr := h.mw.look (t := 63) (e := 73) Try.underlying63 (zero68 w) (x := c) hc
  change (Instr.lookup 63 (.map (some bw)) (.int .i64 c) false).run Try.prog w = _ at hr
  obtain ⟨v0, v1, v2, v6, v3, v5, l, hl, hv, hpl, hlen, hk⟩ : ∃ (v0 v1 v2 v6 : Int) (v3 : Option Addr) (v5 : Nat) (l : List Pl), ((lookE E c).map (·.x.places)).getD [] = l ∧ ((lookE E c).map enV).getD en0 = .agg #[.int .i64 v0, .int .u64 v1, .int .i64 v2, .slice v3 l.length v5, .int .u64 v6] ∧ PlsAt w v3 l ∧ l.length ≤ 1000000 ∧ ∀ p ∈ l, p.2.length ≤ 281474976710656 := by
    cases hL : lookE E c with
    | none => exact ⟨_, _, _, _, _, _, [], rfl, rfl, .inl rfl, by simp, by simp⟩
    | some e =>
      obtain ⟨he, -⟩ := lookE_mem hL
      have hok := h.ok e he
      exact ⟨_, _, _, _, _, _, e.x.places, rfl, rfl, (h.rows e he).at, by have := hok.many; omega, fun p hp => by have := (hok.places p hp).2; omega⟩
  rw [hv] at hr
  rw [hl]
  have CC := hide (cloned_any w v3 v5 l hpl hlen hk)
  have hf := field3
  clear hv h hl hpl hlen hk
  generalize l.length = n at *
  go_enter Try.func15, Try.ntmps15
  go_wp2_with (first | (go_at_call 37; with_reducible refine (unhide CC).mono ?_; rintro e w1 ⟨rfl, k1⟩))
  go_ret
  exact ⟨rfl, k1⟩
end Go.Proofs.Ytfebiemfmiahhab
