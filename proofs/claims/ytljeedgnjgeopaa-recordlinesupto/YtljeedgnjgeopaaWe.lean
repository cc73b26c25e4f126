/- record: commands, entries written. -/
import Derived.Test.YtljeedgnjgeopaaWd
namespace Go.Proofs.Ytljeedgnjgeopaa
open Go.ChangeShapes Go.WideShapes Go.ChangeAt Go.RowKit
set_option linter.unusedVariables false
set_option linter.unusedSimpArgs false
set_option maxRecDepth 100000
set_option maxHeartbeats 4000000
theorem encA_len {a : Larder.ActP} (h : a.2.length ≤ 128) (ht : ∀ t ∈ a.2, t.length ≤ 4096) : (Larder.encA a).length ≤ 600000 := by
  unfold Larder.encA
  rw [List.length_append, List.length_append, Larder.bigN_len, Larder.bigN_len]
  have h2 := flat_len Larder.encT 4100 a.2 (fun x hx => by rw [encT_len]; have := ht x hx; omega)
  have : a.2.length * 4100 ≤ 128 * 4100 := Nat.mul_le_mul_right _ h
  omega
theorem Nw.lt {w W : World} {v : Value} (h : Nw w W v) : w.heap.size ≤ W.heap.size := h.bel.size
theorem wact (w0 W : World) (v : Value) (l : List Nat) (d : Nat) (xa : Option Addr) (xn xc : Nat) (xs : List (List Nat)) (hd : d < 256) (hx : BL w0 xa xs) (hxn : xn = xs.length) (hlen : xs.length ≤ 128) (hT : ∀ t ∈ xs, t.length ≤ 4096) (hN : Nw w0 W v) (hr : RB W v l) (hl : l.length ≤ 800000000000) :
    Calls Try.prog 54 #[v, .agg #[.int .i64 (d : Nat), .slice xa xn xc]] W (WEnd w0 W v (l ++ Larder.encA (d, xs))) := by
  have hb := (Below.refl W.heap.size W).alloc (Nat.le_refl _) (.cells #[.int .i64 (d : Nat), .slice xa xn xc] 64)
  have hnew := heap_alloc_new W (.cells #[.int .i64 (d : Nat), .slice xa xn xc] 64)
  obtain ⟨w1, hw1⟩ : ∃ w1, W.alloc (.cells #[.int .i64 (d : Nat), .slice xa xn xc] 64) = w1 := ⟨_, rfl⟩
  rw [hw1] at hb hnew
  have x0 : w1.cell? ⟨W.heap.size, 0, none⟩ = some (.int .i64 (d : Nat)) := cell_blk hnew 0
  have q1 : IntKind.u8.wrap (d : Int) = (d : Int) := by rw [IntKind.wrap_u8]; omega
  have q2 : (d : Int) % 256 = (d : Int) := by omega
  have hvW : ∀ g, v.ownBlock = some g → g < W.heap.size := hr.lt
  have C62 : Calls Try.prog 62 #[v, .int .u8 (d : Nat)] w1 fun e W' => ∃ a n c, e = .returned (.slice a n c) ∧ W'.cell? ⟨W.heap.size, 1, none⟩ = some (.slice xa xn xc) ∧ Hid (Nw w0 W' (.slice a n c) ∧ RB W' (.slice a n c) (l ++ Larder.bigN 1 d) ∧ Gq W W' v (.slice a n c)) := by
    refine (w8 w0 w1 v l d hd (hN.on hb) (hr.below hb) (by omega)).mono ?_
    rintro e W' ⟨a, n, c, rfl, e1, H⟩
    have hg := (unhide H).2.2
    have e2 := (hg.block W.heap.size (blk_lt hnew) (fun e => by have := hvW _ e; omega)).trans hnew
    exact ⟨a, n, c, rfl, cell_blk e2 1, hide ⟨(unhide H).1, (unhide H).2.1, (Gq.of hb).trans hg⟩⟩
  have HC : Hid (∀ W2 v2, Nw w0 W2 v2 → RB W2 v2 (l ++ Larder.bigN 1 d) → Calls Try.prog 63 #[v2, .slice xa xn xc, .func (.func 64) #[] #[]] W2 (WEnd w0 W2 v2 (l ++ Larder.encA (d, xs)))) := hide (fun W2 v2 h1 h2 => by
    have := wlist w0 W2 v2 (l ++ Larder.bigN 1 d) xa xn xc xs hx hxn hlen hT h1 h2 (by rw [List.length_append, Larder.bigN_len]; omega)
    rw [List.append_assoc] at this
    exact this)
  clear hx hxn hlen hT hN hr hl hb hnew hd hvW
  unfold WEnd at HC ⊢
  go_enter Try.func54, Try.ntmps54
  go_wp2_with (first
    | (go_at_call 62; refine C62.mono ?_; clear C62; rintro e w2 ⟨a2, n2, c2, rfl, y1, k2⟩)
    | (go_at_call 63; refine ((unhide HC) w2 _ (unhide k2).1 (unhide k2).2.1).mono ?_; rintro e w3 ⟨a3, n3, c3, rfl, e3, k3⟩; replace e3 := hide e3))
  go_ret
  exact ⟨a3, n3, c3, rfl, unhide e3, hide ⟨(unhide k3).1, (unhide k3).2.1, (unhide k2).2.2.trans (unhide k3).2.2⟩⟩
/-- commands in memory -/
def GrpAt (w : World) (a : Option Addr) (g : List Larder.ActP) : Prop := g = [] ∨ ∃ b off, a = some ⟨b, off, none⟩ ∧ b < w.heap.size ∧ ∀ i x, g[i]? = some x → w.cell? ⟨b, off + i * 2, none⟩ = some (.int .i64 (x.1 : Nat)) ∧ ∃ xa xc, w.cell? ⟨b, off + i * 2 + 1, none⟩ = some (.slice xa x.2.length xc) ∧ BL w xa x.2
/-- within the bounds of what may be written -/
def OkG (g : List Larder.ActP) : Prop := g.length ≤ 64 ∧ ∀ a ∈ g, a.1 < 4 ∧ a.2.length ≤ 128 ∧ ∀ t ∈ a.2, t.length ≤ 4096
theorem wgrp (w0 W : World) (v : Value) (l : List Nat) (xa : Option Addr) (xn xc : Nat) (xs : List Larder.ActP) (hx : GrpAt w0 xa xs) (hxn : xn = xs.length) (hok : OkG xs) (hN : Nw w0 W v) (hr : RB W v l) (hl : l.length ≤ 700000000000) :
    Calls Try.prog 53 #[v, .slice xa xn xc, .func (.func 54) #[] #[]] W (WEnd w0 W v (l ++ (Larder.bigN 4 xs.length ++ xs.flatMap Larder.encA))) := by
  have h64 : xn ≤ 64 := by rw [hxn]; exact hok.1
  have C61 := w32 w0 W v l xn (by omega) hN hr (by omega)
  have q1 : IntKind.u32.wrap (xn : Int) = (xn : Int) := by rw [IntKind.wrap_u32]; omega
  have q2 : (xn : Int) % 4294967296 = (xn : Int) := by omega
  have HX := hide hx
  have HXN := hide hxn
  have HTT := hide hok.2
  have hL1 : (l ++ Larder.bigN 4 xn).length ≤ 700000000004 := by rw [List.length_append, Larder.bigN_len]; omega
  have HE : Hid (∀ Y, (l ++ Larder.bigN 4 xn) ++ Y = l ++ (Larder.bigN 4 xs.length ++ Y)) := hide (fun Y => by rw [hxn, List.append_assoc])
  generalize l ++ Larder.bigN 4 xn = L at C61 hL1 HE
  clear hx hxn hok hN hr hl
  unfold WEnd at C61 ⊢
  go_enter Try.func53, Try.ntmps53
  go_wp2_with (go_at_call 61; refine C61.mono ?_; clear C61; rintro e w1 ⟨a1, n1, c1, rfl, e1, k1⟩; replace e1 := hide e1)
  go_loopw [0, 16] (fun bv iv wr => ∃ (i k : Nat) (a' : Option Addr) (c' : Nat), bv = .slice a' k c' ∧ iv = .int .i64 ((i : Nat) : Int) ∧ i ≤ xn ∧ Hid (k = (L ++ (xs.take i).flatMap Larder.encA).length) ∧ Hid (Nw w0 wr (.slice a' k c') ∧ RB wr (.slice a' k c') (L ++ (xs.take i).flatMap Larder.encA) ∧ Gq W wr v (.slice a' k c'))) (fun _ iv _ => xn - (intOf iv).toNat)
  case atStart => exact ⟨0, n1, a1, c1, rfl, rfl, Nat.zero_le _, hide (by rw [List.take_zero, List.flatMap_nil, List.append_nil]; exact unhide e1), hide (by rw [List.take_zero, List.flatMap_nil, List.append_nil]; exact unhide k1)⟩
  case round =>
    clear k1
    obtain ⟨i, k, a', c', rfl, rfl, hi, HK, HR⟩ := hrel
    by_cases hin : i < xn
    · have f1 : decide ((i : Int) < (xn : Int)) = true := decide_eq_true (by omega)
      have f2 : decide (i < xn) = true := decide_eq_true hin
      have g1 : (0 : Int) ≤ (i : Int) := by omega
      have g2 : (i : Int) < (xn : Int) := by omega
      obtain ⟨x, ht⟩ : ∃ x, xs[i]? = some x := ⟨_, List.getElem?_eq_getElem (by have := unhide HXN; omega)⟩
      obtain ⟨b, off, rfl, hb, u1, ya, yc, u2, uB⟩ : ∃ b off, xa = some ⟨b, off, none⟩ ∧ b < w0.heap.size ∧ wr.cell? ⟨b, off + i * 2, none⟩ = some (.int .i64 (x.1 : Nat)) ∧ ∃ ya yc, wr.cell? ⟨b, off + i * 2 + 1, none⟩ = some (.slice ya x.2.length yc) ∧ BL w0 ya x.2 := by
        rcases unhide HX with h | ⟨b, off, e, hl, hc⟩
        · rw [h] at ht; cases ht
        · obtain ⟨z1, ya, yc, z2, z3⟩ := hc i x ht
          exact ⟨b, off, e, hl, ((unhide HR).1.bel.cell (p := ⟨b, off + i * 2, none⟩) hl).trans z1, ya, yc, ((unhide HR).1.bel.cell (p := ⟨b, off + i * 2 + 1, none⟩) hl).trans z2, z3⟩
      have hxo := (unhide HTT) x (List.mem_of_getElem? ht)
      have hbound : (L ++ (xs.take i).flatMap Larder.encA).length ≤ 700100000000 := by
        have h2 := flat_len Larder.encA 600000 (xs.take i) (fun x hx => by have := (unhide HTT) x (List.mem_of_mem_take hx); exact encA_len this.2.1 this.2.2)
        rw [List.length_take] at h2
        rw [List.length_append]
        have : min i xs.length * 600000 ≤ 64 * 600000 := Nat.mul_le_mul_right _ (by omega)
        omega
      have hal := (Below.refl wr.heap.size wr).alloc (Nat.le_refl _) (.cells #[.int .i64 (x.1 : Nat), .slice ya x.2.length yc] 64)
      have hnew := heap_alloc_new wr (.cells #[.int .i64 (x.1 : Nat), .slice ya x.2.length yc] 64)
      have C54 := wact w0 (wr.alloc (.cells #[.int .i64 (x.1 : Nat), .slice ya x.2.length yc] 64)) (.slice a' k c') (L ++ (xs.take i).flatMap Larder.encA) x.1 ya x.2.length yc x.2 (by omega) uB rfl hxo.2.1 hxo.2.2 ((unhide HR).1.on hal) ((unhide HR).2.1.below hal) (by omega)
      have HS : Hid ((L ++ (xs.take i).flatMap Larder.encA) ++ Larder.encA (x.1, x.2) = L ++ (xs.take (i + 1)).flatMap Larder.encA) := hide (by rw [List.take_add_one, ht]; simp [List.flatMap_append, List.append_assoc])
      rw [unhide HS] at C54
      unfold WEnd at C54
      have HGq := hide ((unhide HR).2.2.trans (Gq.of hal))
      have y0 : (wr.alloc (.cells #[.int .i64 (x.1 : Nat), .slice ya x.2.length yc] 64)).cell? ⟨wr.heap.size, 0, none⟩ = some (.int .i64 (x.1 : Nat)) := cell_blk hnew 0
      have y1 : (wr.alloc (.cells #[.int .i64 (x.1 : Nat), .slice ya x.2.length yc] 64)).cell? ⟨wr.heap.size, 1, none⟩ = some (.slice ya x.2.length yc) := cell_blk hnew 1
      clear ht uB hbound hxo hal hnew
      go_wp2_with (go_at_call 54; refine C54.mono ?_; clear C54; rintro e w2 ⟨a2, n2, c2, rfl, e2, k2⟩; replace e2 := hide e2)
      all_goals go_roundw
      case rel => exact ⟨i + 1, n2, a2, c2, rfl, by go_num, by omega, e2, hide ⟨(unhide k2).1, (unhide k2).2.1, (unhide HGq).trans (unhide k2).2.2⟩⟩
      case measure => simp [intOf]; omega
    · obtain rfl : i = xn := by omega
      have f1 : decide ((i : Int) < (i : Int)) = false := decide_eq_false (by omega)
      have f2 : decide (i < i) = false := decide_eq_false (by omega)
      have ht : xs.take i = xs := List.take_of_length_le (by have := unhide HXN; omega)
      rw [ht] at HK HR
      clear ht
      go_wp2_with fail
      go_ret
      exact ⟨a', k, c', rfl, by rw [← unhide HE]; exact unhide HK, by rw [← unhide HE]; exact HR⟩
end Go.Proofs.Ytljeedgnjgeopaa
