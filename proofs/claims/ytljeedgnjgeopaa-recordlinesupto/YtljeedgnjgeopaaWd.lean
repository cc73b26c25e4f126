/- record: lists of texts, commands. -/
import Derived.Test.YtljeedgnjgeopaaWc
namespace Go.Proofs.Ytljeedgnjgeopaa
open Go.ChangeShapes Go.WideShapes Go.ChangeAt Go.RowKit
set_option linter.unusedVariables false
set_option linter.unusedSimpArgs false
set_option maxRecDepth 100000
set_option maxHeartbeats 4000000
theorem BL.at {w W : World} {a : Option Addr} {l : List (List Nat)} {i : Nat} {T : List Nat} (h : BL w a l) (hT : l[i]? = some T) (hb : Below w.heap.size w W) : ∃ b off ai ci, a = some ⟨b, off, none⟩ ∧ b < w.heap.size ∧ W.cell? ⟨b, off + i, none⟩ = some (.slice ai T.length ci) ∧ Bytes w ai T := by
  rcases h with h | ⟨b, off, e, hl, hc⟩
  · rw [h] at hT; cases hT
  · obtain ⟨ai, ci, q1, q2⟩ := hc i T hT
    exact ⟨b, off, ai, ci, e, hl, (hb.cell (p := ⟨b, off + i, none⟩) hl).trans q1, q2⟩
theorem encT_len (t : List Nat) : (Larder.encT t).length = t.length + 4 := by unfold Larder.encT; rw [List.length_append, Larder.bigN_len]; omega
theorem flat_len {α : Type} (f : α → List Nat) (m : Nat) : ∀ (xs : List α), (∀ x ∈ xs, (f x).length ≤ m) → (xs.flatMap f).length ≤ xs.length * m
  | [], _ => by simp
  | x :: xs, h => by
    rw [List.flatMap_cons, List.length_append, List.length_cons, Nat.succ_mul]
    have h1 := h x (by simp)
    have h2 := flat_len f m xs (fun y hy => h y (by simp [hy]))
    omega
theorem wlist (w0 W : World) (v : Value) (l : List Nat) (xa : Option Addr) (xn xc : Nat) (xs : List (List Nat)) (hx : BL w0 xa xs) (hxn : xn = xs.length) (hlen : xs.length ≤ 128) (hT : ∀ t ∈ xs, t.length ≤ 4096) (hN : Nw w0 W v) (hr : RB W v l) (hl : l.length ≤ 900000000000) :
    Calls Try.prog 63 #[v, .slice xa xn xc, .func (.func 64) #[] #[]] W (WEnd w0 W v (l ++ (Larder.bigN 4 xs.length ++ xs.flatMap Larder.encT))) := by
  have C61 := w32 w0 W v l xn (by omega) hN hr (by omega)
  have q1 : IntKind.u32.wrap (xn : Int) = (xn : Int) := by rw [IntKind.wrap_u32]; omega
  have q2 : (xn : Int) % 4294967296 = (xn : Int) := by omega
  have HX := hide hx
  have HXN := hide hxn
  have HTT := hide hT
  have hx128 : xn ≤ 128 := by omega
  have hL1 : (l ++ Larder.bigN 4 xn).length ≤ 900000000004 := by rw [List.length_append, Larder.bigN_len]; omega
  have HE : Hid (∀ Y, (l ++ Larder.bigN 4 xn) ++ Y = l ++ (Larder.bigN 4 xs.length ++ Y)) := hide (fun Y => by rw [hxn, List.append_assoc])
  generalize l ++ Larder.bigN 4 xn = L at C61 hL1 HE
  clear hx hxn hlen hT hN hr hl
  unfold WEnd at C61 ⊢
  go_enter Try.func63, Try.ntmps63
  go_wp2_with (go_at_call 61; refine C61.mono ?_; clear C61; rintro e w1 ⟨a1, n1, c1, rfl, e1, k1⟩; replace e1 := hide e1)
  go_loopw [0, 16] (fun bv iv wr => ∃ (i k : Nat) (a' : Option Addr) (c' : Nat), bv = .slice a' k c' ∧ iv = .int .i64 ((i : Nat) : Int) ∧ i ≤ xn ∧ Hid (k = (L ++ (xs.take i).flatMap Larder.encT).length) ∧ Hid (Nw w0 wr (.slice a' k c') ∧ RB wr (.slice a' k c') (L ++ (xs.take i).flatMap Larder.encT) ∧ Gq W wr v (.slice a' k c'))) (fun _ iv _ => xn - (intOf iv).toNat)
  case atStart => exact ⟨0, n1, a1, c1, rfl, rfl, Nat.zero_le _, hide (by rw [List.take_zero, List.flatMap_nil, List.append_nil]; exact unhide e1), hide (by rw [List.take_zero, List.flatMap_nil, List.append_nil]; exact unhide k1)⟩
  case round =>
    clear k1
    obtain ⟨i, k, a', c', rfl, rfl, hi, HK, HR⟩ := hrel
    by_cases hin : i < xn
    · have f1 : decide ((i : Int) < (xn : Int)) = true := decide_eq_true (by omega)
      have f2 : decide (i < xn) = true := decide_eq_true hin
      have g1 : (0 : Int) ≤ (i : Int) := by omega
      have g2 : (i : Int) < (xn : Int) := by omega
      obtain ⟨t, ht⟩ : ∃ t, xs[i]? = some t := ⟨_, List.getElem?_eq_getElem (by have := unhide HXN; omega)⟩
      obtain ⟨b, off, ta, tc, rfl, hb, u1, uB⟩ := (unhide HX).at ht (unhide HR).1.bel
      have htl := (unhide HTT) t (List.mem_of_getElem? ht)
      have hbound : (L ++ (xs.take i).flatMap Larder.encT).length ≤ 900001000000 := by
        have h2 := flat_len Larder.encT 4100 (xs.take i) (fun x hx => by rw [encT_len]; have := (unhide HTT) x (List.mem_of_mem_take hx); omega)
        rw [List.length_take] at h2
        rw [List.length_append]
        have : min i xs.length * 4100 ≤ 128 * 4100 := Nat.mul_le_mul_right _ (by omega)
        omega
      have C64 := wtext w0 wr (.slice a' k c') (L ++ (xs.take i).flatMap Larder.encT) ta t.length tc t uB rfl htl (unhide HR).1 (unhide HR).2.1 (by omega)
      have HS : Hid ((L ++ (xs.take i).flatMap Larder.encT) ++ Larder.encT t = L ++ (xs.take (i + 1)).flatMap Larder.encT) := hide (by rw [List.take_add_one, ht]; simp [List.flatMap_append, List.append_assoc])
      rw [unhide HS] at C64
      unfold WEnd at C64
      have HGq := hide (unhide HR).2.2
      clear ht uB hbound
      go_wp2_with (first
        | (go_at_call 64; refine C64.mono ?_; clear C64; rintro e w2 ⟨a2, n2, c2, rfl, e2, k2⟩; replace e2 := hide e2))
      all_goals go_roundw
      case rel => exact ⟨i + 1, n2, a2, c2, rfl, by go_num, by omega, e2, hide ⟨(unhide k2).1, (unhide k2).2.1, (unhide HGq).trans (unhide k2).2.2⟩⟩
      case measure => simp [intOf]; omega
    · obtain rfl : i = xn := by omega
      have f1 : decide ((i : Int) < (i : Int)) = false := decide_eq_false (by omega)
      have f2 : decide (i < i) = false := decide_eq_false (by omega)
      have ht : xs.take i = xs := List.take_of_length_le (by have := unhide HXN; omega)
      rw [ht] at HK HR
      clear ht
      go_wp2_with fail
      go_ret
      exact ⟨a', k, c', rfl, by rw [← unhide HE]; exact unhide HK, by rw [← unhide HE]; exact HR⟩
end Go.Proofs.Ytljeedgnjgeopaa
