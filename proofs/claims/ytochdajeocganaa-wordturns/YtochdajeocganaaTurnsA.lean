/- The law WordTurns, out of the contracts. -/
import Derived.Test.YtochdajeocganaaUnpack
import Derived.Test.YtochdajeocganaaOpen
import Derived.Deep.DeepCutAuto
namespace Go.Proofs.Ytochdajeocganaa.WordTurns
open Go.ChangeShapes Go.WideShapes Go.ChangeAt Go.RowKit Go.Joins
set_option linter.unusedVariables false

theorem fields6 {w wx : World} {v0 v1 v2 v3 v4 v5 : Value} {t : TypeId} (hb : Below (w.alloc (.cells #[v0, v1, v2, v3, v4, v5] t)).heap.size (w.alloc (.cells #[v0, v1, v2, v3, v4, v5] t)) wx) :
    wx.cell? ⟨w.heap.size, 0, none⟩ = some v0 ∧ wx.cell? ⟨w.heap.size, 1, none⟩ = some v1 ∧ wx.cell? ⟨w.heap.size, 2, none⟩ = some v2 ∧ wx.cell? ⟨w.heap.size, 3, none⟩ = some v3 ∧ wx.cell? ⟨w.heap.size, 4, none⟩ = some v4 ∧ wx.cell? ⟨w.heap.size, 5, none⟩ = some v5 := by
  refine ⟨?_, ?_, ?_, ?_, ?_, ?_⟩
  all_goals (rw [hb.cell (by simp)]; simp)

theorem chain {B : Nat} {a b c : World} (h : Below B a b) (k : Below b.heap.size b c) (hB : B ≤ b.heap.size) : Below B a c := h.trans (k.mono hB)

theorem head_any (k r s : Int) (w : World) : Calls Try.prog 14 #[.int .i64 k, .int .i64 r, .int .i64 s] w fun e w' => w' = w ∧ ∃ v c : Int, e = .returned (.tuple #[.int .u64 v, .int .i64 c]) ∧ (c = 0 ∧ Fits k r s ∧ v = k + 256 * r + 4294967296 * s ∨ c = 10) := by
  by_cases h : Fits k r s
  · refine (head_yes k r s w h).mono ?_
    rintro e w' ⟨he, hw⟩
    exact ⟨hw, _, _, he, .inl ⟨rfl, h, rfl⟩⟩
  · refine (head_no k r s w h).mono ?_
    rintro e w' ⟨he, hw⟩
    exact ⟨hw, _, _, he, .inr rfl⟩

theorem split_two (x : Nat) (w : World) (hx : x < 18446744073709551616) : Calls Try.prog 16 #[.int .u64 x] w fun e w' => Below w.heap.size w w' ∧ ∃ k r s c : Int, e = .returned (.tuple #[.int .i64 k, .int .i64 r, .int .i64 s, .int .i64 c]) ∧ (c = 0 ∧ Fits k r s ∧ k + 256 * r + 4294967296 * s = (x : Int) ∨ c = 10) := by
  refine (split_any x w hx).mono ?_
  rintro e w' ⟨hb, h⟩
  refine ⟨hb, ?_⟩
  rcases h with ⟨h, he⟩ | ⟨_, he⟩
  · exact ⟨_, _, _, _, he, .inl ⟨rfl, h.1, by have := h.2; omega⟩⟩
  · exact ⟨_, _, _, _, he, .inr rfl⟩

theorem split_back (k r s : Int) (w : World) (h : Fits k r s) : Calls Try.prog 16 #[.int .u64 (k + 256 * r + 4294967296 * s)] w fun e w' => Below w.heap.size w w' ∧ e = .returned (.tuple #[.int .i64 k, .int .i64 r, .int .i64 s, .int .i64 0]) := by
  have hf := h
  obtain ⟨h1, h2, h3, h4, h5, h6⟩ := h
  obtain ⟨k, rfl⟩ := Int.eq_ofNat_of_zero_le (show 0 ≤ k by omega)
  obtain ⟨r, rfl⟩ := Int.eq_ofNat_of_zero_le h3
  obtain ⟨s, rfl⟩ := Int.eq_ofNat_of_zero_le h5
  have e : (k : Int) + 256 * r + 4294967296 * s = ((k + 256 * r + 4294967296 * s : Nat) : Int) := by omega
  rw [e]
  have a1 : (k + 256 * r + 4294967296 * s) % 256 = k := by omega
  have a2 : (k + 256 * r + 4294967296 * s) / 256 % 16777216 = r := by omega
  have a3 : (k + 256 * r + 4294967296 * s) / 4294967296 % 16777216 = s := by omega
  refine (split_any (k + 256 * r + 4294967296 * s) w (by omega)).mono ?_
  rintro e w' ⟨hb, h⟩
  refine ⟨hb, ?_⟩
  rcases h with ⟨_, he⟩ | ⟨hn, _⟩
  · rw [a1, a2, a3] at he; exact he
  · exfalso
    apply hn
    refine ⟨?_, by omega⟩
    rw [a1, a2, a3]; exact hf

theorem unpack_take (ws : List Nat) (m n : Nat) (h : n ≤ m) : Larder.unpackL ws n = (Larder.unpackL ws m).take n := by
  unfold Larder.unpackL
  rw [← List.map_take, List.take_range, Nat.min_eq_left h]

theorem bytes_take {w : World} {a : Option Addr} {l : List Nat} (h : Bytes w a l) (n : Nat) : Bytes w a (l.take n) := by
  rcases h with rfl | ⟨b, off, rfl, hb, hc⟩
  · left; simp
  · right
    refine ⟨b, off, rfl, hb, fun i hi => ?_⟩
    have hi2 : i < n ∧ i < l.length := by rw [List.length_take] at hi; omega
    rw [hc i hi2.2, List.getD_eq_getElem?_getD, List.getD_eq_getElem?_getD, List.getElem?_take, if_pos hi2.1]

theorem small_take {l : List Nat} (h : Small l) (n : Nat) : Small (l.take n) := by
  intro i hi
  have hi2 : i < n ∧ i < l.length := by rw [List.length_take] at hi; omega
  have := h i hi2.2
  rw [List.getD_eq_getElem?_getD] at this ⊢
  rwa [List.getElem?_take, if_pos hi2.1]

theorem own_cap {w : World} {base : Nat} {a : Option Addr} {n cap : Nat} {l : List Nat} (h : OwnB w base (.slice a n cap) l) (hn : l.length = n := by rfl) : l.length ≤ cap := by
  subst hn
  rcases h.2 with ⟨h1, h0⟩ | ⟨g, cap', cur, h1, hb, hg, hnc, _⟩
  · omega
  · cases h1; exact hnc

end Go.Proofs.Ytochdajeocganaa.WordTurns
