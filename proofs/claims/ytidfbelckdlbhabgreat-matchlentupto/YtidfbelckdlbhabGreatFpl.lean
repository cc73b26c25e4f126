/- What Fill answers, in plain words. -/
import Derived.Lib.IndexMore
import Derived.Lib.IndexLaws
import Derived.Lib.Bytes
namespace Larder
/-- an arrow at j -/
def Arr (P : List Nat) (j : Nat) : Prop := P.getD j 0 = 45 ∧ P.getD (j + 1) 0 = 62
/-- what Fill answers -/
def FillIs (P T K F : List Nat) (s : Bool) : Prop :=
  (s = false ∧ K = [] ∧ F = [] ∧ ∀ j, j < P.length → P.getD j 0 ≠ 42) ∨
  ∃ p, p < P.length ∧ P.getD p 0 = 42 ∧ (∀ j, j < p → P.getD j 0 ≠ 42) ∧ s = true ∧
    ((∃ i, p < i ∧ i + 2 < P.length ∧ Arr P i ∧ (∀ j, p < j → j < i → ¬ Arr P j) ∧ K = P.take p ++ T ++ (P.take i).drop (p + 1) ∧ F = P.drop (i + 2)) ∨
     ((∀ j, p < j → j + 2 < P.length → ¬ Arr P j) ∧ K = P.take p ++ T ++ P.drop (p + 1) ∧ F = []))
theorem FillIs.one {P T K F K' F' : List Nat} {s s' : Bool} (h : FillIs P T K F s) (h' : FillIs P T K' F' s') : K = K' ∧ F = F' ∧ s = s' := by
  rcases h with ⟨rfl, rfl, rfl, h⟩ | ⟨p, h1, h2, h3, rfl, h⟩
  · rcases h' with ⟨rfl, rfl, rfl, _⟩ | ⟨p, h1, h2, _⟩
    · exact ⟨rfl, rfl, rfl⟩
    · exact absurd h2 (h p h1)
  · rcases h' with ⟨_, _, _, h'⟩ | ⟨p', h1', h2', h3', rfl, h'⟩
    · exact absurd h2 (h' p h1)
    · have e : p = p' := by
        rcases Nat.lt_trichotomy p p' with q | q | q
        · exact absurd h2 (h3' p q)
        · exact q
        · exact absurd h2' (h3 p' q)
      subst e
      rcases h with ⟨i, g1, g2, g3, g4, rfl, rfl⟩ | ⟨g, rfl, rfl⟩
      · rcases h' with ⟨i', g1', g2', g3', g4', rfl, rfl⟩ | ⟨g', rfl, rfl⟩
        · have e : i = i' := by
            rcases Nat.lt_trichotomy i i' with q | q | q
            · exact absurd g3 (g4' i g1 q)
            · exact q
            · exact absurd g3' (g4 i' g1' q)
          subst e
          exact ⟨rfl, rfl, rfl⟩
        · exact absurd g3 (g' i g1 g2)
      · rcases h' with ⟨i', g1', g2', g3', g4', rfl, rfl⟩ | ⟨g', rfl, rfl⟩
        · exact absurd g3' (g i' g1' g2')
        · exact ⟨rfl, rfl, rfl⟩

theorem byte_same {a b : Nat} (ha : a < 256) (hb : b < 256) : UInt8.ofNat a = UInt8.ofNat b ↔ a = b := by
  constructor
  · intro e
    have e2 := congrArg UInt8.toNat e
    simp only [UInt8.toNat_ofNat'] at e2
    omega
  · intro e; rw [e]
/-- the bytes of a list of numbers -/
theorem bytes_at (l : List Nat) (k : Nat) (hk : k < l.length) : (Go.Lib.bytesOf (l.map Int.ofNat))[k]? = some (UInt8.ofNat (l.getD k 0)) := by
  unfold Go.Lib.bytesOf
  rw [List.map_map, List.getElem?_map, List.getD_eq_getElem?_getD, List.getElem?_eq_getElem hk]
  rfl
theorem bytes_len (l : List Nat) : (Go.Lib.bytesOf (l.map Int.ofNat)).length = l.length := by rw [Go.Lib.bytesOf_length, List.length_map]
theorem star_none {l : List Nat} (h : Go.Lib.indexByte (Go.Lib.bytesOf (l.map Int.ofNat)) (42 : Int).toNat.toUInt8 = -1) : ∀ j, j < l.length → l.getD j 0 ≠ 42 := by
  intro j hj e
  refine Go.Lib.indexByte_none h j ?_
  rw [bytes_at l j hj, e]
  rfl
theorem star_some {l : List Nat} {o : Nat} (hs : ∀ i, i < l.length → l.getD i 0 < 256) (h : Go.Lib.indexByte (Go.Lib.bytesOf (l.map Int.ofNat)) (42 : Int).toNat.toUInt8 = o) : o < l.length ∧ l.getD o 0 = 42 ∧ ∀ j, j < o → l.getD j 0 ≠ 42 := by
  obtain ⟨h1, h2⟩ := Go.Lib.indexByte_some h
  have ho : o < l.length := by
    have := (List.getElem?_eq_some_iff.1 h1).1
    rwa [bytes_len] at this
  refine ⟨ho, ?_, fun j hj e => h2 j hj ?_⟩
  · rw [bytes_at l o ho] at h1
    exact (byte_same (hs o ho) (by decide)).1 (Option.some.inj h1)
  · rw [bytes_at l j (by omega), e]
    rfl
theorem star_range (l : List UInt8) (c : UInt8) : Go.Lib.indexByte l c = -1 ∨ ∃ o : Nat, Go.Lib.indexByte l c = o := by
  induction l with
  | nil => exact .inl rfl
  | cons b l ih =>
    unfold Go.Lib.indexByte
    split
    · exact .inr ⟨0, rfl⟩
    · split
      · exact .inl rfl
      · rename_i _ h
        rcases ih with q | ⟨o, q⟩
        · rw [q] at h; simp at h
        · exact .inr ⟨o + 1, by rw [q]; omega⟩
theorem occ_arr {l : List Nat} (hs : ∀ i, i < l.length → l.getD i 0 < 256) (i : Nat) : Go.Lib.occAt (Go.Lib.bytesOf (l.map Int.ofNat)) (Go.Lib.bytesOf [45, 62]) i = true ↔ i + 1 < l.length ∧ Arr l i := by
  unfold Go.Lib.occAt
  rw [List.isPrefixOf_iff_prefix]
  constructor
  · rintro ⟨t, ht⟩
    have hlen : i + 1 < l.length := by
      have := congrArg List.length ht
      rw [List.length_drop, bytes_len] at this
      simp [Go.Lib.bytesOf] at this
      omega
    have q0 : (Go.Lib.bytesOf (l.map Int.ofNat))[i]? = some (UInt8.ofNat 45) := by
      have : ((Go.Lib.bytesOf (l.map Int.ofNat)).drop i)[0]? = some (UInt8.ofNat 45) := by rw [← ht]; rfl
      rwa [List.getElem?_drop] at this
    have q1 : (Go.Lib.bytesOf (l.map Int.ofNat))[i + 1]? = some (UInt8.ofNat 62) := by
      have : ((Go.Lib.bytesOf (l.map Int.ofNat)).drop i)[1]? = some (UInt8.ofNat 62) := by rw [← ht]; rfl
      rwa [List.getElem?_drop] at this
    rw [bytes_at l i (by omega)] at q0
    rw [bytes_at l (i + 1) hlen] at q1
    exact ⟨hlen, (byte_same (hs i (by omega)) (by decide)).1 (Option.some.inj q0), (byte_same (hs (i + 1) hlen) (by decide)).1 (Option.some.inj q1)⟩
  · rintro ⟨hlen, h0, h1⟩
    refine ⟨(Go.Lib.bytesOf (l.map Int.ofNat)).drop (i + 2), ?_⟩
    refine List.ext_getElem? (fun j => ?_)
    match j with
    | 0 =>
      rw [List.getElem?_drop, show i + 0 = i from rfl, bytes_at l i (by omega), h0]
      rfl
    | 1 =>
      rw [List.getElem?_drop, bytes_at l (i + 1) hlen, h1]
      rfl
    | j + 2 =>
      rw [List.getElem?_drop, List.getElem?_append_right (by show 2 ≤ j + 2; omega), List.getElem?_drop]
      congr 1
      show i + 2 + (j + 2 - 2) = i + (j + 2)
      omega
/-- where the first arrow stands -/
theorem arrow_of {l : List Nat} (hs : ∀ i, i < l.length → l.getD i 0 < 256) :
    (Go.Lib.index (Go.Lib.bytesOf (l.map Int.ofNat)) (Go.Lib.bytesOf [45, 62]) = -1 ∧ ∀ j, j + 1 < l.length → ¬ Arr l j) ∨
    ∃ i : Nat, Go.Lib.index (Go.Lib.bytesOf (l.map Int.ofNat)) (Go.Lib.bytesOf [45, 62]) = i ∧ i + 1 < l.length ∧ Arr l i ∧ ∀ j, j < i → ¬ Arr l j := by
  rcases Go.Lib.index_spec (Go.Lib.bytesOf (l.map Int.ofNat)) (Go.Lib.bytesOf [45, 62]) with ⟨h, hn⟩ | ⟨i, h, h1, h2, h3⟩
  · refine .inl ⟨h, fun j hj ha => ?_⟩
    have := hn j (by rw [bytes_len]; omega)
    rw [(occ_arr hs j).2 ⟨hj, ha⟩] at this
    cases this
  · obtain ⟨g1, g2⟩ := (occ_arr hs i).1 h2
    refine .inr ⟨i, h, g1, g2, fun j hj ha => ?_⟩
    have := h3 j hj
    rw [(occ_arr hs j).2 ⟨by omega, ha⟩] at this
    cases this
/-- the same of the part behind p -/
theorem arr_drop (P : List Nat) (p j : Nat) : Arr (P.drop (p + 1)) j ↔ Arr P (p + 1 + j) := by
  unfold Arr
  simp only [List.getD_eq_getElem?_getD, List.getElem?_drop]
  rw [show p + 1 + (j + 1) = p + 1 + j + 1 by omega]
theorem fill_star {P T : List Nat} (h : ∀ j, j < P.length → P.getD j 0 ≠ 42) : FillIs P T [] [] false := .inl ⟨rfl, rfl, rfl, h⟩
theorem fill_plain {P T : List Nat} {p : Nat} (h1 : p < P.length) (h2 : P.getD p 0 = 42) (h3 : ∀ j, j < p → P.getD j 0 ≠ 42) (h : ∀ j, j + 2 < (P.drop (p + 1)).length → ¬ Arr (P.drop (p + 1)) j) : FillIs P T (P.take p ++ T ++ P.drop (p + 1)) [] true := by
  refine .inr ⟨p, h1, h2, h3, rfl, .inr ⟨fun j hj hj2 ha => ?_, rfl, rfl⟩⟩
  refine h (j - (p + 1)) (by rw [List.length_drop]; omega) ?_
  rw [arr_drop, show p + 1 + (j - (p + 1)) = j by omega]
  exact ha
theorem fill_field {P T : List Nat} {p i : Nat} (h1 : p < P.length) (h2 : P.getD p 0 = 42) (h3 : ∀ j, j < p → P.getD j 0 ≠ 42) (hi : i + 2 < (P.drop (p + 1)).length) (ha : Arr (P.drop (p + 1)) i) (h : ∀ j, j < i → ¬ Arr (P.drop (p + 1)) j) : FillIs P T (P.take p ++ T ++ (P.drop (p + 1)).take i) ((P.drop (p + 1)).drop (i + 2)) true := by
  rw [List.length_drop] at hi
  refine .inr ⟨p, h1, h2, h3, rfl, .inl ⟨p + 1 + i, by omega, by omega, (arr_drop P p i).1 ha, fun j hj hj2 hb => ?_, ?_, ?_⟩⟩
  · refine h (j - (p + 1)) (by omega) ?_
    rw [arr_drop, show p + 1 + (j - (p + 1)) = j by omega]
    exact hb
  · rw [List.drop_take, show p + 1 + i - (p + 1) = i by omega]
  · rw [List.drop_drop, show p + 1 + (i + 2) = p + 1 + i + 2 by omega]
end Larder
