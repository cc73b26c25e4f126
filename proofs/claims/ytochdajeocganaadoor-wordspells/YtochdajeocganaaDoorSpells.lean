/- Spelling and reading. -/
import Derived.Test.YtochdajeocganaaDoorNumber
import Derived.Test.YtochdajeocganaaDoorText
import Derived.Test.YtochdajeocganaaDoorAdd
import Derived.Deep.RegionHeld3
namespace Go.Proofs.YtochdajeocganaaDoor
open Go.ChangeShapes Go.WideShapes Go.ChangeAt Go.RowKit
set_option linter.unusedVariables false

theorem OwnB.out {w : World} {base : Nat} {v : Value} {l : List Nat} (h : OwnB w base v l) :
    ∃ a cap, v = .slice a l.length cap ∧ Bytes w a l ∧ l.length ≤ cap ∧ cap ≤ 9223372036854775807 := by
  have h' := h
  obtain ⟨a, cap, hv, hB, -⟩ := h.shape
  refine ⟨a, cap, hv, hB, ?_⟩
  unfold OwnB World.ownsRow at h'
  rcases h'.2 with ⟨e, h0⟩ | ⟨g', cap', cur, e, _, _, hn, hm, _⟩
  · rw [hv] at e
    injection e with e1 e2 e3
    omega
  · rw [hv] at e; cases e
    have : maxLen = 9223372036854775807 := rfl
    exact ⟨hn, by omega⟩
theorem text_out (i : Int) (h0 : -9223372036854775808 ≤ i) (h1 : i ≤ 9223372036854775807) (w : World) (ht : Tab w) :
    Calls Tryd.prog 5 #[.int .i64 i] w fun e w' => ∃ a c, e = .returned (.slice a (Larder.spellI i).length c) ∧ Bytes w' a (Larder.spellI i) ∧ ((Larder.spellI i).length ≤ c ∧ c ≤ 9223372036854775807) ∧ Below w.heap.size w w' := by
  refine (text_any i h0 h1 w ht).mono ?_
  rintro e w' ⟨v, he, hown, hb⟩
  obtain ⟨a, c, hv, hB, hc⟩ := hown.out
  exact ⟨a, c, by rw [he, hv], hB, hc, hb⟩
theorem digits_out (u : Nat) (hu : u < 18446744073709551616) (w : World) (ht : Tab w) :
    Calls Tryd.prog 9 #[.int .u64 u] w fun e w' => ∃ a c, e = .returned (.slice a (Larder.spell u).length c) ∧ Bytes w' a (Larder.spell u) ∧ Below w.heap.size w w' := by
  refine (digits_any u hu w ht).mono ?_
  rintro e w' ⟨v, he, hown, hb⟩
  obtain ⟨a, c, hv, hB, hc⟩ := hown.out
  exact ⟨a, c, by rw [he, hv], hB, hb⟩
theorem same_yes (a a' : Option Addr) (cap cap' : Nat) (w : World) (l : List Nat) (hB : Bytes w a l) (hB' : Bytes w a' l) (hs : Small l) :
    Calls Tryd.prog 7 #[.slice a l.length cap, .slice a' l.length cap'] w fun e w' => e = .returned (.bool true) ∧ w' = w := by
  have h := same_any a a' cap cap' w l l hB hB' hs hs
  rwa [decide_eq_true rfl] at h

/-- a number spelt and read -/
theorem int_text (i : Int) (h0 : -9223372036854775808 ≤ i) (h1 : i ≤ 9223372036854775807) (a : Option Addr) (c : Nat) (w : World) (hB : Bytes w a (Larder.spellI i)) (hc : (Larder.spellI i).length ≤ c ∧ c ≤ 9223372036854775807) :
    Calls Tryd.prog 4 #[.slice a (Larder.spellI i).length c] w fun e w' => e = .returned (.tuple #[.int .i64 i, .int .i64 0]) ∧ w' = w := by
  have h := int_any a c w (Larder.spellI i) (by have := Lib.itoa_length_le i h0 h1; unfold Larder.spellI; rw [Larder.nums_length]; omega) (fun j hj => Larder.nums_small _ j hj) hc.1 hc.2 hB
  rw [Larder.int_spell i h0 h1] at h
  exact h
theorem uint_text (u : Nat) (hu : u < 18446744073709551616) (a : Option Addr) (c : Nat) (w : World) (hB : Bytes w a (Larder.spell u)) :
    Calls Tryd.prog 8 #[.slice a (Larder.spell u).length c] w fun e w' => e = .returned (.tuple #[.int .u64 u, .int .i64 0]) ∧ w' = w := by
  have h := uint_any a c w (Larder.spell u) (by have := Lib.nDigits_le20 u hu; unfold Larder.spell; rw [Larder.nums_length, Lib.decDigits_length]; omega) (fun j hj => Larder.nums_small _ j hj) hB
  rw [Larder.uint_spell u hu] at h
  exact h

theorem field_at {w w1 : World} {vs : Array Value} {t : TypeId} (hb : Below (w.alloc (.cells vs t)).heap.size (w.alloc (.cells vs t)) w1) (j : Nat) : w1.cell? ⟨w.heap.size, j, none⟩ = vs[j]? := by
  rw [hb.cell (p := ⟨w.heap.size, j, none⟩) (by simp)]
  exact World.cell?_alloc_new ..
theorem chain {B : Nat} {a b c : World} (h : Below B a b) (k : Below b.heap.size b c) (hB : B ≤ b.heap.size) : Below B a c := h.trans (k.mono hB)
theorem keep_call {w0 wx w1 : World} {b j : Nat} {v : Value} (hlt : b < w0.heap.size) (h12 : wx.cell? ⟨b, j, none⟩ = some v ∧ Below w0.heap.size w0 wx) (h3 : Below wx.heap.size wx w1) :
    w1.cell? ⟨b, j, none⟩ = some v ∧ Below w0.heap.size w0 w1 :=
  ⟨(h3.cell (p := ⟨b, j, none⟩) (Nat.lt_of_lt_of_le hlt h12.2.size)).trans h12.1, h12.2.trans (h3.mono h12.2.size)⟩
theorem keep_drew {w0 wx : World} {b j : Nat} {v : Value} (h1 : wx.cell? ⟨b, j, none⟩ = some v) (h2 : Below w0.heap.size w0 wx) : wx.drew.cell? ⟨b, j, none⟩ = some v ∧ Below w0.heap.size w0 wx.drew :=
  ⟨h1, h2.trans ⟨rfl, rfl, rfl, Nat.le_refl _, fun _ _ => rfl⟩⟩

theorem below_draws (w : World) (n : Nat) : Below w.heap.size w (w.drewN n) := ⟨rfl, rfl, rfl, Nat.le_refl _, fun _ _ => rfl⟩
theorem wrap_u64_small (k : Nat) (h : k < 18446744073709551616) : IntKind.u64.wrap (k : Int) = (k : Int) := by
  show ((k : Int) % 18446744073709551616) = _
  omega

end Go.Proofs.YtochdajeocganaaDoor
