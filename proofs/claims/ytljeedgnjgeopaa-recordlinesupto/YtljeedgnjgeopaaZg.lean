/- record, plainly: a log's row; a torn log's row. -/
import Derived.Test.YtljeedgnjgeopaaZe
import Derived.Test.YtljeedgnjgeopaaZc
namespace Larder
set_option linter.unusedVariables false
set_option linter.unusedSimpArgs false
theorem okE_of {wr : Int → Int} {e : EntP} (h : OkE e) (hw : wr (e.seq : Int) = (e.seq : Int)) : okE (e.toI wr) = true := by
  unfold okE EntP.toI
  simp only [Bool.and_eq_true, decide_eq_true_eq, List.all_eq_true, hw]
  refine ⟨by have := h.seq.1; omega, h.now, ?_, ?_, ?_⟩
  · rw [List.length_map]
    intro e0
    exact h.some (List.length_eq_zero_iff.1 e0)
  · rw [List.length_map]
    exact h.len
  · intro a ha
    obtain ⟨x, hx, rfl⟩ := List.mem_map.1 ha
    have hA := h.each x hx
    unfold okA okT
    simp only [Bool.and_eq_true, decide_eq_true_eq, List.all_eq_true]
    exact ⟨by omega, by have := hA.db; omega, fun e0 => hA.some (List.length_eq_zero_iff.1 e0), hA.len, fun t ht => (hA.each t ht).len⟩
theorem drop_full (es : List EntP) (t : List Nat) (q : Nat) : (es.flatMap recE ++ t).drop (offR es q) = (es.drop q).flatMap recE ++ t := by
  have h1 : es.flatMap recE = (es.take q).flatMap recE ++ (es.drop q).flatMap recE := by rw [← List.flatMap_append, List.take_append_drop]
  rw [h1, List.append_assoc]
  unfold offR
  exact List.drop_left
theorem row_pre {wr : Int → Int} {f s : Nat} {es : List EntP} {t : List Nat} (h : Numd f s es) (hw : ∀ e ∈ es, wr (e.seq : Int) = (e.seq : Int)) (ht : fstR wr t = none) : Row wr (es.flatMap recE ++ t) es := by
  refine ⟨fun q e he => ?_, fun q e a he ha => ?_, .inl ?_⟩
  · have hq := (List.getElem?_eq_some_iff.1 he).1
    have hm := List.mem_of_getElem? he
    rw [drop_full]
    have hd : es.drop q = e :: es.drop (q + 1) := by rw [List.drop_eq_getElem_cons hq, (List.getElem?_eq_some_iff.1 he).2]
    rw [hd, List.flatMap_cons, List.append_assoc]
    have hO := (h.each q e he).2.2
    exact fst_of hO (okE_of hO (hw e hm)) ⟨_, rfl⟩
  · obtain ⟨h1, h2, -⟩ := h.each (q + 1) e he
    obtain ⟨h3, h4, -⟩ := h.each q a ha
    unfold folB
    rw [h1, h2, h3, h4, decide_eq_true (by omega : f + (q + 1) = f + q + 1), decide_eq_true (Nat.mul_le_mul_right s (by omega : q ≤ q + 1))]
    rfl
  · rw [drop_full, List.drop_length]
    exact ht
theorem Numd.take {f s : Nat} {es : List EntP} (h : Numd f s es) (k : Nat) : Numd f s (es.take k) := by
  refine ⟨by rw [List.length_take]; have := h.few; omega, fun i e he => ?_⟩
  rw [List.getElem?_take] at he
  split at he
  · exact h.each i e he
  · cases he
theorem frame_nine (b r : List Nat) : (frame b ++ r).take 9 = headB b := by
  unfold frame
  have := headB_len b
  rw [List.append_assoc, List.take_append_of_le_length (by omega), List.take_of_length_le (by omega)]
theorem headB_inj {b b' : List Nat} (h1 : b.length < 256 ^ 8) (h2 : b'.length < 256 ^ 8) (h : headB b = headB b') : b.length = b'.length := by
  unfold headB at h
  have h3 := congrArg ofBig (List.cons.inj h).2
  rwa [ofBig_bigN 8 _ h1, ofBig_bigN 8 _ h2] at h3
theorem frame_last (b : List Nat) : (frame b)[b.length + 25]? = some 85 := by
  have e : frame b = (headB b ++ (bigBytes (sumOf (headB b)) ++ (b ++ bigBytes (sumOf b)))) ++ [85] := by unfold frame; simp only [List.append_assoc]
  have hl : (headB b ++ (bigBytes (sumOf (headB b)) ++ (b ++ bigBytes (sumOf b)))).length = b.length + 25 := by
    simp only [List.length_append, headB_len, bigBytes_len]
    omega
  rw [e, List.getElem?_append_right (by omega), hl, Nat.sub_self]
  rfl
/-- a record that is cut, with zeros behind it, is none -/
theorem torn_not {e e' : EntP} {j z : Nat} (hj : j < (recE e).length) (hb : (body e).length < 256 ^ 8) (hz : j + z < 256 ^ 8) : ¬ recE e' <+: (recE e).take j ++ List.replicate z 0 := by
  rintro ⟨r, hr⟩
  have hl' : (recE e').length = (body e').length + 26 := frame_len _
  have hl : (recE e).length = (body e).length + 26 := frame_len _
  have hlen := congrArg List.length hr
  rw [List.length_append, List.length_append, List.length_take, List.length_replicate] at hlen
  have h85 : (recE e')[(body e').length + 25]? = some 85 := frame_last _
  have h1 : ((recE e).take j ++ List.replicate z 0)[(body e').length + 25]? = some 85 := by rw [← hr, List.getElem?_append_left (by omega)]; exact h85
  have hjl : (recE e').length ≤ j := by
    rcases Nat.lt_or_ge ((body e').length + 25) j with h | h
    · omega
    · rw [List.getElem?_append_right (by rw [List.length_take]; omega), List.getElem?_replicate] at h1
      split at h1 <;> cases h1
  have h9 := congrArg (List.take 9) hr
  rw [show recE e' = frame (body e') from rfl, frame_nine, List.take_append_of_le_length (by rw [List.length_take]; omega), List.take_take, Nat.min_eq_left (by omega)] at h9
  have h10 := frame_nine (body e) []
  rw [List.append_nil] at h10
  rw [show recE e = frame (body e) from rfl, h10] at h9
  have := headB_inj (by omega) hb h9
  omega
theorem zeros_not {e' : EntP} {z : Nat} : ¬ recE e' <+: List.replicate z 0 := by
  rintro ⟨r, hr⟩
  have h1 : (recE e')[0]? = some 170 := rfl
  have hl' : (recE e').length = (body e').length + 26 := frame_len _
  have h2 : (List.replicate z 0)[0]? = some 170 := by rw [← hr, List.getElem?_append_left (by omega)]; exact h1
  rw [List.getElem?_replicate] at h2
  split at h2 <;> cases h2
/-- the places where the records end -/
def endsL (es : List EntP) : List Nat := (List.range es.length).map fun k => offR es (k + 1)
theorem endsL_get {es : List EntP} {k : Nat} (h : k < es.length) : (endsL es)[k]? = some (offR es (k + 1)) := by
  unfold endsL
  rw [List.getElem?_map, List.getElem?_range h]
  rfl
theorem endsL_len (es : List EntP) : (endsL es).length = es.length := by unfold endsL; simp
theorem offR_full (es : List EntP) (q : Nat) : offR (es.take q) (es.take q).length = offR es q := by
  unfold offR
  rw [List.take_length]
/-- a torn log -/
theorem torn_row {wr : Int → Int} {f s : Nat} {es : List EntP} (h : Numd f s es) (hw : ∀ e ∈ es, wr (e.seq : Int) = (e.seq : Int)) (n z k : Nat) (hn : n ≤ (es.flatMap recE).length) (hz : z < 1099511627776) (hk : k ≤ es.length) (h1 : offR es k ≤ n) (h2 : k < es.length → n < offR es (k + 1)) :
    Row wr ((es.flatMap recE).take n ++ List.replicate z 0) (es.take k) := by
  have hlog := h.log
  have hs : es.flatMap recE = (es.take k).flatMap recE ++ (es.drop k).flatMap recE := by rw [← List.flatMap_append, List.take_append_drop]
  have ho : ((es.take k).flatMap recE).length = offR es k := rfl
  rw [hs, List.take_append, ho, List.take_of_length_le (by omega), List.append_assoc]
  refine row_pre (h.take k) (fun e he => hw e (List.mem_of_mem_take he)) ?_
  cases hx : fstR wr (((es.drop k).flatMap recE).take (n - offR es k) ++ List.replicate z 0) with
  | none => rfl
  | some e' =>
    have hp := (of_fst hx).2
    exfalso
    rcases Nat.lt_or_ge k es.length with hlt | hge
    · have hd : es.drop k = es[k] :: es.drop (k + 1) := List.drop_eq_getElem_cons hlt
      have hek : es[k]? = some es[k] := List.getElem?_eq_getElem hlt
      have hO := (h.each k _ hek).2.2
      have h3 := offR_succ hek
      have h4 := h2 hlt
      have h5 := recE_le hO
      have h6 : (recE es[k]).length = (body es[k]).length + 26 := frame_len _
      rw [hd, List.flatMap_cons, List.take_append_of_le_length (by omega)] at hp
      refine torn_not (e := es[k]) (by omega) ?_ ?_ hp
      · exact Nat.lt_of_le_of_lt (show _ ≤ 33587566 by omega) (by decide)
      · exact Nat.lt_of_le_of_lt (show _ ≤ 2000000000000 by omega) (by decide)
    · rw [List.drop_of_length_le hge, List.flatMap_nil, List.take_nil, List.nil_append] at hp
      exact zeros_not hp
end Larder
namespace Go.Proofs.Ytljeedgnjgeopaa
open Go.ChangeShapes Go.WideShapes Go.ChangeAt Go.RowKit Go.Shelf
theorem OkN.ofE {e : Larder.EntP} (H : Larder.OkE e) : OkN e := ⟨by have := H.seq.2; omega, by have := H.now; omega, ⟨H.len, fun a ha => ⟨(H.each a ha).db, (H.each a ha).len, fun t ht => ((H.each a ha).each t ht).len⟩⟩, fun a ha t ht => ((H.each a ha).each t ht).small⟩
theorem BdA.ofE {e : Larder.EntP} (H : Larder.OkE e) : BdA e.group := ⟨by have := H.len; omega, fun a ha => ⟨by have := (H.each a ha).len; omega, fun t ht => by have := ((H.each a ha).each t ht).len; omega⟩⟩
theorem Numd.small {f s : Nat} {es : List Larder.EntP} (h : Larder.Numd f s es) : ∀ c ∈ es.flatMap Larder.recE, c < 256 := fun c hc => by
  obtain ⟨e, he, hc2⟩ := List.mem_flatMap.1 hc
  obtain ⟨i, hi⟩ := List.getElem?_of_mem he
  exact recE_small (OkN.ofE (h.each i e hi).2.2) c hc2
theorem Numd.wraps {f s : Nat} {es : List Larder.EntP} (h : Larder.Numd f s es) : ∀ e ∈ es, w64i (e.seq : Int) = (e.seq : Int) := fun e he => by
  obtain ⟨i, hi⟩ := List.getElem?_of_mem he
  have := (h.each i e hi).2.2.seq.2
  show IntKind.i64.wrap (e.seq : Int) = _
  rw [IntKind.wrap_i64]
  omega
theorem Numd.bd {f s : Nat} {es : List Larder.EntP} (h : Larder.Numd f s es) : ∀ e ∈ es, BdA e.group := fun e he => by
  obtain ⟨i, hi⟩ := List.getElem?_of_mem he
  exact BdA.ofE (h.each i e hi).2.2
theorem Bytes.take {w : World} {a : Option Addr} {l : List Nat} (h : Bytes w a l) (n : Nat) : Bytes w a (l.take n) := by
  rcases h with h | ⟨b, off, e, hl, hc⟩
  · exact .inl (by rw [h, List.take_nil])
  · refine .inr ⟨b, off, e, hl, fun i hi => ?_⟩
    rw [List.length_take] at hi
    rw [hc i (by omega), List.getD_eq_getElem?_getD, List.getD_eq_getElem?_getD, List.getElem?_take, if_pos (by omega)]
theorem wholeK_spec (l : List Nat) (n : Nat) : (∀ i x, i < wholeK l n → l[i]? = some x → x ≤ n) ∧ ∀ x, l[wholeK l n]? = some x → n < x := by
  unfold wholeK
  induction l with
  | nil => exact ⟨fun i x h => by simp at h, fun x h => by simp at h⟩
  | cons a l ih =>
    by_cases ha : a ≤ n
    · rw [List.takeWhile_cons_of_pos (by simpa using ha), List.length_cons]
      refine ⟨fun i x hi hx => ?_, fun x hx => ?_⟩
      · cases i with
        | zero => simp at hx; omega
        | succ i => rw [List.getElem?_cons_succ] at hx; exact ih.1 i x (by omega) hx
      · rw [List.getElem?_cons_succ] at hx
        exact ih.2 x hx
    · rw [List.takeWhile_cons_of_neg (by simpa using ha)]
      refine ⟨fun i x hi hx => by simp at hi, fun x hx => ?_⟩
      simp at hx
      omega
end Go.Proofs.Ytljeedgnjgeopaa
