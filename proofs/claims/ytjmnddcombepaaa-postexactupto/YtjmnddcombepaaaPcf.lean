/- texts: what a Post's names are, sorted, each once. -/
import Derived.Test.YtjmnddcombepaaaPce
import Derived.Sort.OwnSorted
import Derived.Shelf.Abstract
import Derived.Maps.AppendAt
import Derived.OwnWalk
import Derived.Sort.KeysCollected
namespace Go.Proofs.Ytjmnddcombepaaa
open Go.ChangeShapes Go.WideShapes Go.ChangeAt Go.RowKit Go.Maps Go.Sort
set_option linter.unusedVariables false
set_option linter.unusedSimpArgs false
set_option maxRecDepth 100000
set_option maxHeartbeats 4000000

/-- a list of texts that lies in memory of its own -/
def OwnS (w : World) (base : Nat) (v : Value) (l : List (List UInt8)) : Prop := w.ownsRow base 9 1 v l.length (l.map encStr)
theorem OwnS.nil (w : World) (base : Nat) : OwnS w base (.slice none 0 0) [] := World.ownsRow_nil w base 9 1
theorem OwnS.kept {w w' : World} {base : Nat} {v : Value} {l : List (List UInt8)} {row : Option Nat} (h : OwnS w base v l) (hg : w.grownBy w' row) (hr : ∀ g, v.ownBlock = some g → row ≠ some g) : OwnS w' base v l := by
  cases hv : v.ownBlock with
  | none => exact World.ownsRow.kept h hg (.inl hv)
  | some g => exact World.ownsRow.kept h hg (.inr (by rw [hv]; exact (hr g hv).symm))
theorem grown_of {w w' : World} (h : Below w.heap.size w w') : w.grownBy w' none := ⟨h.os, h.tape, h.output, h.size, fun i hi _ => h.block i hi⟩
theorem OwnS.below {w w' : World} {base : Nat} {v : Value} {l : List (List UInt8)} (h : OwnS w base v l) (hb : Below w.heap.size w w') : OwnS w' base v l := h.kept (grown_of hb) (fun g _ => by simp)
theorem OwnS.ge {w : World} {base : Nat} {v : Value} {l : List (List UInt8)} (h : OwnS w base v l) : ∀ g, v.ownBlock = some g → base ≤ g ∧ g < w.heap.size := fun g hg => World.ownsRow.lt h g hg
theorem OwnS.shape {w : World} {base : Nat} {v : Value} {l : List (List UInt8)} (h : OwnS w base v l) : ∃ a cap, v = .slice a l.length cap := by
  rcases h.2 with ⟨rfl, h0⟩ | ⟨g, cap, cur, rfl, _⟩
  · exact ⟨none, 0, by rw [h0]⟩
  · exact ⟨_, _, rfl⟩
theorem OwnS.cell {w : World} {base : Nat} {a : Option Addr} {n cap : Nat} {l : List (List UInt8)} (h : OwnS w base (.slice a n cap) l) {i : Nat} (hi : i < l.length) : ∃ g, a = some ⟨g, 0, none⟩ ∧ n = l.length ∧ g < w.heap.size ∧ w.cell? ⟨g, i, none⟩ = some (.string (bs (l.getD i []))) := by
  rcases h.2 with ⟨e, h0⟩ | ⟨g, cap, cur, e, hb, hg, h1, h2, h3, h4⟩
  · rw [h0] at hi
    exact absurd hi (Nat.not_lt_zero _)
  · cases e
    refine ⟨g, rfl, rfl, (Array.getElem?_eq_some_iff.1 hg).1, ?_⟩
    have := (holds_of_block hg (by simpa using h4) : Holds encStr w g 0 l.toArray) i (by simpa using hi)
    rw [Nat.zero_add] at this
    rw [this.1]
    simp [bs, encStr, List.getD, List.getElem?_eq_getElem hi]
theorem info9 : (Try.prog.info? 9).map (fun i => (i.zero, i.size, i.bytes)) = some (some (.string ⟨#[]⟩), 1, 16) := by kernel_rfl
theorem below_grown' {B base : Nat} {w W w' : World} {row : Option Nat} (h : W.grownBy w' row) (hr : ∀ k, row = some k → base ≤ k) : Below base W w' ∨ W.heap.size < base := by
  by_cases hb : base ≤ W.heap.size
  · exact .inl ((Below.refl base W).grown h hb hr)
  · exact .inr (by omega)
theorem sort_own (W : World) (base : Nat) (a : Option Addr) (n cap : Nat) (l : List (List UInt8)) (h : OwnS W base (.slice a n cap) l) (hl : l.length < 4611686018427387904) :
    Calls Try.prog 64 #[.slice a n cap] W fun e w' => e = .returned (.tuple #[]) ∧ Hid (OwnS w' base (.slice a n cap) (l.mergeSort (fun x y => decide (x ≤ y))) ∧ Below base W w') := by
  rcases h.2 with ⟨e, h0⟩ | ⟨g, cap', cur, e, hbase, hb, h1, h2, h3, h4⟩
  · cases e
    refine (Try.slices_Sort_string_none none 0 W).mono ?_
    rintro e w' ⟨rfl, rfl⟩
    have hn : l = [] := List.eq_nil_of_length_eq_zero h0
    rw [hn]
    exact ⟨rfl, hide ⟨by simpa using OwnS.nil w' base, Below.refl _ _⟩⟩
  · cases e
    have hgl : g < W.heap.size := (Array.getElem?_eq_some_iff.1 hb).1
    refine (Try.slices_Sort_string g 0 cap l W (holds_of_block hb (by simpa using h4)) hgl hl).mono ?_
    rintro e w' ⟨rfl, m, os, rfl⟩
    refine ⟨rfl, hide ⟨?_, (Below.refl base W).grown (grownBy_sorted _) (by omega) (fun k hk => by cases hk; exact hbase)⟩⟩
    have := ownsRow_sorted (n := m) (os := os) (ss := l) (ts := l.mergeSort (fun x y => decide (x ≤ y))) (by simp) hbase hb h1 h2 h3
    unfold OwnS
    rw [List.length_mergeSort]
    exact this
theorem compact_nil : Lib.compact ([] : List (List UInt8)) = [] := rfl
theorem compact_own (W : World) (base : Nat) (a : Option Addr) (n cap : Nat) (l : List (List UInt8)) (h : OwnS W base (.slice a n cap) l) (hl : l.length < 4611686018427387904) :
    Calls Try.prog 65 #[.slice a n cap] W fun e w' => ∃ n', e = .returned (.slice a n' cap) ∧ Hid (OwnS w' base (.slice a n' cap) (Lib.compact l) ∧ Below base W w' ∧ n' = (Lib.compact l).length) := by
  rcases h.2 with ⟨e, h0⟩ | ⟨g, cap', cur, e, hbase, hb, h1, h2, h3, h4⟩
  · cases e
    refine (Try.slices_Compact_string_empty none 0 W).mono ?_
    rintro e w' ⟨rfl, rfl⟩
    have hn : l = [] := List.eq_nil_of_length_eq_zero h0
    rw [hn]
    exact ⟨0, rfl, hide ⟨OwnS.nil w' base, Below.refl _ _, rfl⟩⟩
  · cases e
    have hgl : g < W.heap.size := (Array.getElem?_eq_some_iff.1 hb).1
    have hle : (Lib.compact l).length ≤ l.length := by
      unfold Lib.compact Lib.compactUpTo
      rw [List.length_map]
      exact Nat.le_trans (List.length_filter_le _ _) (by simp)
    refine (Try.slices_Compact_string g 0 cap l W (holds_of_block hb (by simpa using h4)) (by omega) h1).mono ?_
    rintro e w' ⟨rfl, q, rfl⟩
    have hw : ∀ d : Array (List UInt8), putRow encStr (Sort.ahead W q) g 0 d = grow (putRow encStr (Sort.ahead W q) g 0 d) #[] := fun d => (grow_empty _).symm
    rw [hw]
    refine ⟨_, rfl, hide ⟨?_, (Below.refl base W).grown (grownBy_sorted _) (by omega) (fun k hk => by cases hk; exact hbase), rfl⟩⟩
    have hlen : (Lib.compact l ++ List.replicate (l.length - (Lib.compact l).length) []).length = l.length := by simp; omega
    have := ownsRow_sorted (n := q) (os := #[]) (ss := l) (ts := Lib.compact l ++ List.replicate (l.length - (Lib.compact l).length) []) hlen hbase hb h1 h2 h3
    rcases this.2 with ⟨e, _⟩ | ⟨g', cap2, cur2, e, k1, k2, k3, k4, k5, k6⟩
    · cases e
    · cases e
      refine ⟨by simp, .inr ⟨g, cap, cur2, rfl, k1, k2, by omega, k4, k5, ?_⟩⟩
      rw [Nat.mul_one] at k6 ⊢
      have e1 : cur2.toList.take (Lib.compact l).length = (cur2.toList.take l.length).take (Lib.compact l).length := by rw [List.take_take, Nat.min_eq_left hle]
      rw [e1, k6]
      simp
/-- the texts of the names that are wanted, sorted, each once -/
def textsL (S : List Key) (pr : Key → Bool) : List (List UInt8) := Lib.compact (((S.filter pr).map (fun k => k.2.1)).mergeSort (fun x y => decide (x ≤ y)))
/-- a closure that tells of a name whether it is wanted -/
def PredK (w : World) (g : Nat) (lb : Array Value) (pr : Key → Bool) : Prop := ∀ (W : World) (kc : Int) (kt : List UInt8) (kp : Bool), Below w.heap.size w W → Calls Try.prog g (#[.agg #[.int .i64 kc, .string (bs kt), .bool kp]] ++ lb) W fun e w' => e = .returned (.bool (pr (kc, kt, kp))) ∧ Hid (Below W.heap.size W w')
/-- the loop of texts -/
structure TxAt (w wr : World) (S : List Key) (pr : Key → Bool) (v : Value) (left : Lit → Bool) (L : List Key) : Prop where
  met : Met S left L
  bel : Below w.heap.size w wr
  row : OwnS wr (w.heap.size + 1) v ((L.filter pr).map (fun k => k.2.1))
theorem texts_any (w : World) (p b : Nat) (D : Dt) (S : List Key) (g : Nat) (lb : Array Value) (pr : Key → Bool) (h : PostAt w p b D S) (hS : S.length ≤ 1099511627776) (hl : ∀ k ∈ S, k.2.1.length ≤ 281474976710656) (eg : ∀ args w, (callFunc g args).run Try.prog w = .ok (.enter g args) w) (hp : PredK w g lb pr) :
    Calls Try.prog 44 #[.pointer (some ⟨p, 0, none⟩), .func (.func g) #[] lb] w fun e w' => ∃ (a : Option Addr) (n cap : Nat), e = .returned (.slice a n cap) ∧ Hid (OwnS w' (w.heap.size + 1) (.slice a n cap) (textsL S pr) ∧ Below w.heap.size w w' ∧ n = (textsL S pr).length) := by
  have hown := h.map.own
  have hm := h.m
  have hbl := h.map.lt
  have ME := hide (Met.start h.map)
  have MA := hide h.map
  have HP := hide hp
  have HL := hide hl
  obtain ⟨i0, hi, hz0, hz1, hz2⟩ := info_parts info9
  clear h hp hl
  go_enter Try.func44, Try.ntmps44
  go_wp2_with (first
    | (at_range; refine wpList_range_own _ rfl _ 69 rfl 77 74 lawK Try.underlying69 _ b S.length D rfl hown ?_; intro w0 hrg0 hg0 hs0))
  go_frame
  go_loopw [5] (fun v wr => ∃ (L : List Key) (left : Lit → Bool) (cnt : Nat), Hid (TxAt w wr S pr v left L) ∧ wr.ranges Try.prog 77 unitElem b w.heap.size S.length D left cnt) (fun _ wr => wr.rangeLeft b w.heap.size)
  case atStart => exact ⟨[], _, _, hide ⟨unhide ME, (Below.refl _ _).grown hg0 (Nat.le_refl _) (fun j hj => by cases hj), OwnS.nil _ _⟩, hrg0⟩
  case round =>
    obtain ⟨L, left, cnt, HT, hrg⟩ := hrel
    have hLS := (unhide HT).met.len
    have hws : w.heap.size + 1 ≤ wr.heap.size := by have := hrg.lt; omega
    clear hs0 hrg0 hg0 hown
    go_wp2_with (first
      | (at_next; refine wpList_next_post _ rfl _ rfl b w.heap.size S.length _ _ _ rfl hrg ?_ ?_))
    · intro hl0
      obtain ⟨a, cap, rfl⟩ := (unhide HT).row.shape
      have hpm := (unhide HT).met.perm (unhide MA).nd (unhide MA).ok (unhide hl0)
      have hfl : (List.map (fun k : Key => k.2.1) (L.filter pr)).length ≤ L.length := by rw [List.length_map]; exact List.length_filter_le _ _
      obtain ⟨l, hll⟩ : ∃ l, l = List.map (fun k : Key => k.2.1) (L.filter pr) := ⟨_, rfl⟩
      have HE : Hid (l.mergeSort (fun x y => decide (x ≤ y)) = ((S.filter pr).map (fun k => k.2.1)).mergeSort (fun x y => decide (x ≤ y))) := hide (by
        rw [hll]
        exact mergeSort_of_perm ((hpm.filter pr).map _))
      have HR : Hid (OwnS wr (w.heap.size + 1) (.slice a (List.map (fun k : Key => k.2.1) (L.filter pr)).length cap) l) := hide (by rw [hll]; exact (unhide HT).row)
      have hl2 : l.length < 4611686018427387904 := by rw [hll]; omega
      generalize (List.map (fun k : Key => k.2.1) (L.filter pr)).length = n at HR ⊢
      have HB := hide (unhide HT).bel
      have CS := hide (sort_own wr _ a n cap l (unhide HR) hl2)
      have CP : Hid (∀ W, Hid (OwnS W (w.heap.size + 1) (.slice a n cap) (l.mergeSort (fun x y => decide (x ≤ y))) ∧ Below (w.heap.size + 1) wr W) → Calls Try.prog 65 #[.slice a n cap] W fun e w' => ∃ n', e = .returned (.slice a n' cap) ∧ Hid (OwnS w' (w.heap.size + 1) (.slice a n' cap) (textsL S pr) ∧ Below w.heap.size w w' ∧ n' = (textsL S pr).length)) := hide (fun W hW => by
        refine (compact_own W _ a n cap _ (unhide hW).1 (by rw [List.length_mergeSort]; exact hl2)).mono ?_
        rintro e w' ⟨n', rfl, k⟩
        refine ⟨n', rfl, ?_⟩
        rw [unhide HE] at k
        exact hide ⟨(unhide k).1, (unhide HB).trans (((unhide hW).2.trans (unhide k).2.1).mono (Nat.le_succ _)), (unhide k).2.2⟩)
      clear hll hfl hpm HT
      go_wp2_with (first
        | (go_at_call 64; with_reducible refine (unhide CS).mono ?_; rintro e w2 ⟨rfl, k2⟩)
        | (go_at_call 65; with_reducible refine (unhide CP w2 k2).mono ?_; rintro e w3 ⟨n3, rfl, k3⟩))
      go_ret
      exact ⟨a, n3, cap, rfl, k3⟩
    · intro kc kt kp w1 cnt1 hk hrg1 hlt hen
      have HS := hide ((unhide HT).met.step (unhide hk).1 (unhide hk).2.1)
      have HB1 := hide ((unhide HT).bel.grown (unhide hk).2.2 (unhide HT).bel.size (fun j hj => by cases hj; exact Nat.le_refl _))
      have hL1 := (unhide HS).1.len
      rw [List.length_append] at hL1
      simp only [List.length_cons, List.length_nil] at hL1
      have hkl := unhide HL _ (unhide HS).2.1
      have hw1 : w.heap.size + 1 ≤ w1.heap.size := Nat.le_trans hws (unhide hk).2.2.size
      have HV := hide (((unhide HT).row.kept (unhide hk).2.2 (fun g hg e => by cases e; have := (unhide HT).row.ge _ hg; omega)).below ((Below.refl _ _).alloc (Nat.le_refl _) (.cells #[.int .i64 kc, .string (bs kt), .bool kp.b] 77)))
      have hrgA := (unhide hrg1).alloc (.cells #[.int .i64 kc, .string (bs kt), .bool kp.b] 77)
      have HBA := hide ((unhide HB1).alloc (unhide HB1).size (.cells #[.int .i64 kc, .string (bs kt), .bool kp.b] 77))
      have hbx : (w1.alloc (.cells #[.int .i64 kc, .string (bs kt), .bool kp.b] 77)).heap[w1.heap.size]? = some (.cells #[.int .i64 kc, .string (bs kt), .bool kp.b] 77 (0, 0)) := heap_alloc_new _ _
      have hwA : w.heap.size + 1 ≤ (w1.alloc (.cells #[.int .i64 kc, .string (bs kt), .bool kp.b] 77)).heap.size := by simp; omega
      have CG : Hid (Calls Try.prog g (#[.agg #[.int .i64 kc, .string (bs kt), .bool kp.b]] ++ lb) (w1.alloc (.cells #[.int .i64 kc, .string (bs kt), .bool kp.b] 77)) fun e w' => e = .returned (.bool (pr (kc, kt, kp.b))) ∧ Hid (Below w.heap.size w w' ∧ OwnS w' (w.heap.size + 1) _ _ ∧ w'.ranges Try.prog 77 unitElem b w.heap.size S.length D (fun z => left z && !z.sameKey (lit (kc, kt, kp.b))) cnt1 ∧ w.heap.size + 1 ≤ w'.heap.size) ∧ w'.cell? ⟨w1.heap.size, 1, none⟩ = some (.string (bs kt))) := hide ((unhide HP _ kc kt kp.b (unhide HBA)).mono (fun e w' ⟨h1, h2⟩ => ⟨h1, hide ⟨(unhide HBA).trans ((unhide h2).mono (unhide HBA).size), (unhide HV).below (unhide h2), hrgA.kept (grown_of (unhide h2)) (by simp) (by simp), Nat.le_trans hwA (unhide h2).size⟩, by rw [(unhide h2).cell (p := ⟨w1.heap.size, 1, none⟩) (blk_lt hbx), cell_blk hbx]; rfl⟩))
      have CN : Hid (∀ W v l, Hid (Below w.heap.size w W ∧ OwnS W (w.heap.size + 1) v l ∧ W.ranges Try.prog 77 unitElem b w.heap.size S.length D (fun z => left z && !z.sameKey (lit (kc, kt, kp.b))) cnt1 ∧ w.heap.size + 1 ≤ W.heap.size) → Calls Try.prog 32 #[.string (bs kt)] W fun e w' => e = .returned (.string (bs kt)) ∧ Hid (Below w.heap.size w w' ∧ OwnS w' (w.heap.size + 1) v l ∧ w'.ranges Try.prog 77 unitElem b w.heap.size S.length D (fun z => left z && !z.sameKey (lit (kc, kt, kp.b))) cnt1 ∧ w.heap.size + 1 ≤ w'.heap.size)) := hide (fun W v l hW => (clone_any W kt hkl).mono (fun e w' ⟨h1, h2⟩ => ⟨h1, hide ⟨(unhide hW).1.trans ((unhide h2).mono (unhide hW).1.size), (unhide hW).2.1.below (unhide h2), (unhide hW).2.2.1.kept (grown_of (unhide h2)) (by simp) (by simp), Nat.le_trans (unhide hW).2.2.2 (unhide h2).size⟩⟩))
      have hfl : ((L.filter pr).map (fun k : Key => k.2.1)).length ≤ L.length := by rw [List.length_map]; exact List.length_filter_le _ _
      have hmet := (unhide HS).1
      have HF : Hid ((L ++ [(kc, kt, kp.b)]).filter pr = L.filter pr ++ (if pr (kc, kt, kp.b) = true then [(kc, kt, kp.b)] else [])) := hide (by
        rw [List.filter_append]
        cases hq : pr (kc, kt, kp.b) <;> simp [hq])
      clear hrgA hbx hwA HV HBA HB1 hrg1 hw1 hkl
      cases hq : pr (kc, kt, kp.b) with
      | false =>
        rw [hq] at CG HF
        have HMt := hide hmet
        clear hmet hq
        go_wp2_with (first
          | (go_at_fn g; with_reducible refine (unhide CG).mono ?_; rintro e w2 ⟨rfl, k2, x2⟩))
        all_goals go_roundw
        case rel => exact ⟨L ++ [(kc, kt, kp.b)], _, cnt1, hide ⟨unhide HMt, (unhide k2).1, by rw [unhide HF]; simpa using (unhide k2).2.1⟩, (unhide k2).2.2.1⟩
        case measure => rw [(unhide k2).2.2.1.left_eq, hrg.left_eq]; exact hlt
      | true =>
        rw [hq] at CG HF
        have HMt := hide hmet
        clear hmet hq
        go_wp2_with (first
          | (go_at_fn g; with_reducible refine (unhide CG).mono ?_; rintro e w2 ⟨rfl, k2, x2⟩)
          | (go_at_call 32; with_reducible refine (unhide CN w2 _ _ k2).mono ?_; rintro e w3 ⟨rfl, k3⟩; have hrw3 := (unhide k3).2.1; have hsz3 := (unhide k3).2.2.2)
          | (at_builtin; refine wpList_append_own _ rfl _ _ 47 rfl (w.heap.size + 1) 9 i0 (.string ⟨#[]⟩) 1 16 Try.underlying47 hi hz0 hz1 hz2 rfl (by decide) _ _ _ rfl (World.ownsRow.alloc hrw3 _) ⟨w3.heap.size, 0, none⟩ 1 1 [.string (bs kt)] rfl rfl (cell_one_new _ _ _) (by simp [Value.oneCell']) (by unfold maxLen; omega) (by omega) (by simp; omega) ?_; intro v' w4 hown' hg4 hnil4; go_frame))
        all_goals go_roundw
        case rel =>
          refine ⟨L ++ [(kc, kt, kp.b)], _, cnt1, hide ⟨unhide HMt, ?_, ?_⟩, ((unhide k3).2.2.1.alloc _).kept hg4 (row_ne_low hrw3 (by omega)) (row_ne_low hrw3 (Nat.lt_succ_self _))⟩
          · exact ((unhide k3).1.alloc (unhide k3).1.size _).grown hg4 (by simp; omega) (fun j hj => by have := hrw3.lt j hj; omega)
          · rw [unhide HF]
            unfold OwnS
            simpa [bs, encStr] using hown'
        case measure => rw [(((unhide k3).2.2.1.alloc _).kept hg4 (row_ne_low hrw3 (by omega)) (row_ne_low hrw3 (Nat.lt_succ_self _))).left_eq, hrg.left_eq]; exact hlt
end Go.Proofs.Ytjmnddcombepaaa
