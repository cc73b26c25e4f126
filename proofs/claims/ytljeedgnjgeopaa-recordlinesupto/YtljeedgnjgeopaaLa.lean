/- record: the law's Lend, Intact, Other, Into. -/
import Derived.Test.YtljeedgnjgeopaaUe
import Derived.Laws.OwnMore
namespace Go.Proofs.Ytljeedgnjgeopaa.Ld
open Go.ChangeShapes Go.WideShapes Go.ChangeAt Go.RowKit Go.Shelf
set_option linter.unusedVariables false
set_option linter.unusedSimpArgs false
set_option maxRecDepth 100000
theorem conv_any (a : Option Addr) (cap : Nat) (w : World) (l : List Nat) (hB : Bytes w a l) :
    (convert 27 9 (.slice a l.length cap)).run Try.prog w = .ok (.string (strOfNums (l.map Int.ofNat))) w := by
  rcases hB with rfl | ⟨b, off, rfl, hb, hc⟩
  · cases a with
    | none => exact run_convert_bytes_nil w 27 5 Try.underlying27 Try.underlying5 0 cap 9 Try.underlying9
    | some x =>
      show (convert 27 9 (.slice (some x) 0 cap)).run Try.prog w = _
      rw [run_convert_bytes_string w 27 9 5 _ _ cap Try.underlying27 Try.underlying5 Try.underlying9, run_bytesToString w x 0 cap [] rfl]; rfl
  · refine run_convert_bytes_arg w 27 5 Try.underlying27 Try.underlying5 b off l.length cap (l.map Int.ofNat) (by simp) (fun i hi => ?_) 9 Try.underlying9
    rw [hc i hi]
    simp [List.getD_eq_getElem?_getD, hi]

theorem toList_mk1 (x : List UInt8) : (ByteArray.mk x.toArray).toList = x := by
  exact ByteArray.toList_mk x

theorem strs_eq (l l' : List Nat) (hs : Small l) (hs' : Small l') : ((strOfNums (l.map Int.ofNat)).toList == (strOfNums (l'.map Int.ofNat)).toList) = decide (l = l') := by
  have key : ∀ m m' : List Nat, (∀ c ∈ m, c < 256) → (∀ c ∈ m', c < 256) → ((m.map fun c => UInt8.ofNat c) = (m'.map fun c => UInt8.ofNat c) ↔ m = m') := by
    intro m
    induction m with
    | nil => intro m' _ _; cases m' <;> simp
    | cons c m ih =>
      intro m' h h'
      cases m' with
      | nil => simp
      | cons d m' =>
        simp only [List.map_cons, List.cons.injEq]
        rw [ih m' (fun x hx => h x (List.mem_cons_of_mem _ hx)) (fun x hx => h' x (List.mem_cons_of_mem _ hx))]
        have hc := h c (List.mem_cons_self ..)
        have hd := h' d (List.mem_cons_self ..)
        have : UInt8.ofNat c = UInt8.ofNat d ↔ c = d := by
          constructor
          · intro e
            have e2 := congrArg UInt8.toNat e
            simp only [UInt8.toNat_ofNat'] at e2
            omega
          · intro e; rw [e]
        rw [this]
  have sm : ∀ m : List Nat, Small m → ∀ c ∈ m, c < 256 := by
    intro m hm c hc
    obtain ⟨i, hi, rfl⟩ := List.mem_iff_getElem.1 hc
    have := hm i hi
    rwa [List.getD_eq_getElem?_getD, List.getElem?_eq_getElem hi] at this
  unfold strOfNums
  rw [toList_mk1, toList_mk1, List.map_map, List.map_map]
  have h := key l l' (sm l hs) (sm l' hs')
  rw [Bool.eq_iff_iff, beq_iff_eq, decide_eq_true_iff]
  exact h

theorem inf5 : (Try.prog.info? 5).map (fun i => (i.zero, i.size, i.bytes)) = some (some (.int .u8 0), 1, 1) := by kernel_rfl

/-- bytes as cells -/
def cellsOf (l : List Nat) : List Value := l.map (fun c : Nat => Value.int .u8 (c : Int))
theorem cellsOf_length (l : List Nat) : (cellsOf l).length = l.length := by simp [cellsOf]
theorem cellsOf_one (l : List Nat) : ∀ u ∈ cellsOf l, u.oneCell' = true := by
  intro u hu
  obtain ⟨c, _, rfl⟩ := List.mem_map.1 hu
  rfl
theorem cellsOf_get (l : List Nat) (j : Nat) (u : Value) (h : (cellsOf l)[j]? = some u) : j < l.length ∧ u = .int .u8 (l.getD j 0 : Nat) := by
  unfold cellsOf at h
  rw [List.getElem?_map] at h
  rw [List.getD_eq_getElem?_getD]
  cases hg : l[j]? with
  | none => rw [hg] at h; simp at h
  | some c =>
    rw [hg] at h
    simp at h
    exact ⟨(List.getElem?_eq_some_iff.1 hg).1, by rw [← h]; rfl⟩
theorem cellsOf_at (l : List Nat) (j : Nat) (h : j < l.length) : (cellsOf l)[j]? = some (.int .u8 (l.getD j 0 : Nat)) := by
  unfold cellsOf
  rw [List.getElem?_map, List.getD_eq_getElem?_getD, List.getElem?_eq_getElem h]; rfl

/-- v owns the bytes l among the blocks from 'base' on -/
def OwnB (w : World) (base : Nat) (v : Value) (l : List Nat) : Prop := w.ownsRow base 5 1 v l.length (cellsOf l)

theorem OwnB.shape {w : World} {base : Nat} {v : Value} {l : List Nat} (h : OwnB w base v l) :
    ∃ a cap, v = .slice a l.length cap ∧ Bytes w a l ∧ (a = none → cap = 0) := by
  rcases h.2 with ⟨rfl, h0⟩ | ⟨g, cap, cur, rfl, hb, hg, hn, hm, hs, ht⟩
  · exact ⟨none, 0, by rw [h0], .inl (List.eq_nil_of_length_eq_zero h0), fun _ => rfl⟩
  · refine ⟨_, cap, rfl, .inr ⟨g, 0, rfl, (Array.getElem?_eq_some_iff.1 hg).1, fun i hi => ?_⟩, fun h => by cases h⟩
    rw [Nat.zero_add, h.cellAt i (by omega), cellsOf_at l i hi]

theorem OwnB.below {w w' : World} {base : Nat} {v : Value} {l : List Nat} (h : OwnB w base v l) (hb : Below w.heap.size w w') : OwnB w' base v l := by
  refine ⟨h.1, ?_⟩
  rcases h.2 with hn | ⟨g, cap, cur, rfl, hbb, hg, rest⟩
  · exact .inl hn
  · exact .inr ⟨g, cap, cur, rfl, hbb, by rw [hb.block g (Array.getElem?_eq_some_iff.1 hg).1]; exact hg, rest⟩

theorem cellsOf_set' (l : List Nat) (q v : Nat) : cellsOf (l.set q v) = (cellsOf l).set q (.int .u8 (v : Int)) := by
  unfold cellsOf; rw [List.map_set]

theorem own_put {w : World} {base g cap n : Nat} {l : List Nat} {j v : Nat} (hn : l.length = n) (h : OwnB w base (.slice (some ⟨g, 0, none⟩) n cap) l) :
    OwnB (w.setCell ⟨g, j, none⟩ (.int .u8 (v : Int))) base (.slice (some ⟨g, 0, none⟩) n cap) (l.set j v) := by
  subst hn
  unfold OwnB
  rw [List.length_set, cellsOf_set']
  exact (h.stored j _).1

/-- a list that was lent: the bytes l, the marks behind them in its spare room -/
def Lent (w : World) (base g cap : Nat) (l : List Nat) : Prop := OwnB w base (.slice (some ⟨g, 0, none⟩) (l ++ [165, 90, 165]).length cap) (l ++ [165, 90, 165])

theorem Lent.bytes {w : World} {base g cap : Nat} {l : List Nat} (h : Lent w base g cap l) : Bytes w (some ⟨g, 0, none⟩) l := by
  obtain ⟨a, c, e, hB, _⟩ := OwnB.shape h
  cases e
  rcases hB with h0 | ⟨b, off, e, hb, hc⟩
  · simp at h0
  · cases e
    refine .inr ⟨g, 0, rfl, hb, fun i hi => ?_⟩
    rw [hc i (by simp; omega), List.getD_eq_getElem?_getD, List.getD_eq_getElem?_getD, List.getElem?_append_left hi]

theorem Lent.below {w w' : World} {base g cap : Nat} {l : List Nat} (h : Lent w base g cap l) (hb : Below w.heap.size w w') : Lent w' base g cap l := OwnB.below h hb

theorem Lent.marks {w : World} {base g cap : Nat} {l : List Nat} (h : Lent w base g cap l) : l.length + 3 ≤ cap ∧ w.cell? ⟨g, l.length, none⟩ = some (.int .u8 165) ∧ w.cell? ⟨g, l.length + 1, none⟩ = some (.int .u8 90) ∧ w.cell? ⟨g, l.length + 2, none⟩ = some (.int .u8 165) := by
  have hlen : (l ++ [165, 90, 165]).length = l.length + 3 := by simp
  have h' := h
  unfold Lent OwnB at h'
  have hc : ∀ j, j < l.length + 3 → w.cell? ⟨g, j, none⟩ = (cellsOf (l ++ [165, 90, 165]))[j]? := fun j hj => by
    exact h'.cellAt j (by omega)
  refine ⟨?_, ?_, ?_, ?_⟩
  · rcases h'.2 with ⟨e, _⟩ | ⟨g', c', cur, e, _, _, hn, _⟩
    · cases e
    · cases e; omega
  · rw [hc _ (by omega), cellsOf_at _ _ (by omega), List.getD_eq_getElem?_getD, List.getElem?_append_right (Nat.le_refl _)]; simp
  · rw [hc _ (by omega), cellsOf_at _ _ (by omega), List.getD_eq_getElem?_getD, List.getElem?_append_right (by omega)]; simp
  · rw [hc _ (by omega), cellsOf_at _ _ (by omega), List.getD_eq_getElem?_getD, List.getElem?_append_right (by omega)]; simp

set_option maxRecDepth 100000 in
set_option maxHeartbeats 1000000 in
theorem lend_any (a : Option Addr) (cap : Nat) (w : World) (l : List Nat) (hl : l.length ≤ 140737488351232) (hB : Bytes w a l) (hnil : a = none → cap = 0) :
    Calls Try.prog 24 #[.slice a l.length cap] w fun e w' => ∃ g c, e = .returned (.slice (some ⟨g, 0, none⟩) l.length c) ∧ Lent w' w.heap.size g c l ∧ Below w.heap.size w w' := by
  obtain ⟨i0, hi, hz0, hz1, hz2⟩ := info_parts4 inf5
  cases a with
  | none =>
    obtain rfl := hnil rfl
    have hl0 : l = [] := by
      rcases hB with h | ⟨b, off, h, _⟩
      · exact h
      · cases h
    subst hl0
    go_enter Try.func24, Try.ntmps24
    go_wp2_with (first | (at_builtin; refine wpList_append_own_none rfl (.tmp 4) (.tmp 5) 27 rfl w.heap.size 5 i0 1 Try.underlying27 hi _ 0 [] rfl (World.ownsRow_nil _ _ _ _) rfl ?_) | (at_builtin; refine wpList_append_own _ rfl (.tmp 7) (.tmp 8) 27 rfl w.heap.size 5 i0 (.int .u8 0) 1 1 Try.underlying27 hi hz0 hz1 hz2 rfl (by decide) _ 0 [] rfl (World.ownsRow_nil _ _ _ _) ⟨w.heap.size, 0, none⟩ 3 3 [.int .u8 165, .int .u8 90, .int .u8 165] rfl rfl ?c1 ?c2 ?c3 ?c4 ?c5 ?_))
    case c2 => exact ⟨rfl, rfl, rfl⟩
    case c3 => simp [maxLen]
    · intro v' w2 hown2 hgrow2 hnn
      have hne : v' ≠ .slice none 0 0 := by first | exact fun h => hnn h | exact fun h => absurd (hnn.1 h).2 (by omega)
      have hb2 : Below w.heap.size w w2 := ((Below.refl _ _).alloc (Nat.le_refl _) _).grown hgrow2 (by simp) (fun k h => by simp [Value.ownBlock] at h)
      rcases hown2.2 with ⟨h, _⟩ | ⟨g, cap', cur, rfl, hbb, hg, hnc, hrest⟩
      · exact absurd h hne
      · have HO : Hid (Lent w2 w.heap.size g cap' []) := hown2
        have hnc2 : 3 ≤ cap' := hnc
        clear hown2 hgrow2 hnn hne hrest hg hnc
        go_wp2
        go_ret
        exact ⟨g, cap', rfl, unhide HO, hb2⟩
  | some x =>
    have hnews : ∀ j u, (cellsOf l)[j]? = some u → w.cell? (x.add j) = some u := by
      intro j u hu
      obtain ⟨hj, rfl⟩ := cellsOf_get l j u hu
      rcases hB with rfl | ⟨b, off, h, hb, hc⟩
      · simp at hj
      · cases h
        rw [add_plain]; exact hc j hj
    clear hB hnil
    go_enter Try.func24, Try.ntmps24
    go_wp2_with (at_builtin; refine wpList_append_own _ rfl (.tmp 4) (.tmp 5) 27 rfl w.heap.size 5 i0 (.int .u8 0) 1 1 Try.underlying27 hi hz0 hz1 hz2 rfl (by decide) _ 0 [] rfl (World.ownsRow_nil _ _ _ _) x l.length cap (cellsOf l) rfl ?e0 ?e1 ?e2 ?e3 ?e4 ?e5 ?_)
    case e0 => simp [cellsOf]
    case e1 => exact hnews
    case e2 => exact cellsOf_one l
    case e3 => simp [maxLen]; omega
    case e4 => omega
    case e5 => exact Nat.le_refl _
    · intro v1 w1 hown1 hgrow1 _
      have hb1 : Below w.heap.size w w1 := (Below.refl _ _).grown hgrow1 (Nat.le_refl _) (fun k h => by simp [Value.ownBlock] at h)
      have hown1' : w1.ownsRow w.heap.size 5 1 v1 l.length (cellsOf l) := by simpa using hown1
      have hlt1 := hown1'.lt
      have hsz1 := hb1.size
      clear hnews hown1 hgrow1
      go_wp2_with (at_builtin; refine wpList_append_own _ rfl (.tmp 7) (.tmp 8) 27 rfl w.heap.size 5 i0 (.int .u8 0) 1 1 Try.underlying27 hi hz0 hz1 hz2 rfl (by decide) _ _ _ rfl (hown1'.alloc _) ⟨w1.heap.size, 0, none⟩ 3 3 [.int .u8 165, .int .u8 90, .int .u8 165] rfl rfl ?d1 ?d2 ?d3 ?d4 ?d5 ?_)
      case d1 =>
        intro j u hj
        match j, hj with
        | 0, hj => simp at hj; subst hj; simp [Addr.add]
        | 1, hj => simp at hj; subst hj; simp [Addr.add]
        | 2, hj => simp at hj; subst hj; simp [Addr.add]
      case d2 => first | exact ⟨rfl, rfl, rfl⟩ | (intro u hu; simp at hu; rcases hu with rfl | rfl | rfl <;> rfl)
      case d3 => simp [maxLen]; omega
      case d4 => omega
      case d5 => simp; omega
      · intro v' w2 hown2 hgrow2 hnn
        have hne : v' ≠ .slice none 0 0 := by first | exact fun h => hnn h | exact fun h => absurd (hnn.1 h).2 (by omega)
        have hb2 : Below w.heap.size w w2 := (hb1.alloc hsz1 _).grown hgrow2 (by simp; omega) (fun k h => (hlt1 k h).1)
        rcases hown2.2 with ⟨h, _⟩ | ⟨g, cap', cur, rfl, hbb, hg, hnc, hrest⟩
        · exact absurd h hne
        · have HO : Hid (Lent w2 w.heap.size g cap' l) := by
            show OwnB _ _ _ _
            unfold OwnB
            have e1 : (l ++ [165, 90, 165]).length = l.length + 3 := by simp
            have e2 : cellsOf (l ++ [165, 90, 165]) = cellsOf l ++ [.int .u8 165, .int .u8 90, .int .u8 165] := by simp [cellsOf]
            rw [e1, e2]; exact hown2
          have hnc2 : l.length + 3 ≤ cap' := hnc
          clear hown2 hgrow2 hnn hne hrest hg hnc hown1' hlt1
          go_wp2
          go_ret
          exact ⟨g, cap', rfl, unhide HO, hb2⟩
set_option maxRecDepth 100000 in
set_option maxHeartbeats 400000 in
theorem intact_yes (a : Option Addr) (cap g c base : Nat) (w : World) (l : List Nat) (hl : l.length ≤ 140737488351232) (hB : Bytes w a l) (hL : Lent w base g c l) :
    Calls Try.prog 27 #[.slice (some ⟨g, 0, none⟩) l.length c, .slice a l.length cap] w fun e w' => e = .returned (.bool true) ∧ w' = w := by
  have h1 := conv_any (some ⟨g, 0, none⟩) c w l hL.bytes
  have h2 := conv_any a cap w l hB
  obtain ⟨hc, m0, m1, m2⟩ := hL.marks
  generalize strOfNums (l.map Int.ofNat) = S at *
  clear hB hL
  go_enter Try.func27, Try.ntmps27
  go_wp2
  go_ret
  exact ⟨rfl, rfl⟩
theorem other_nil (a : Option Addr) (cap : Nat) (w : World) :
    Calls Try.prog 21 #[.slice a 0 cap] w fun e w' => e = .returned (.slice none 0 0) ∧ w' = w := by
  go_enter Try.func21, Try.ntmps21
  go_wp2_with fail
  go_loop [3, 4] (fun v i => v = .slice none 0 0 ∧ i = .int .i64 (-1)) (fun _ _ => 0)
  case atStart => exact ⟨rfl, rfl⟩
  case round =>
    obtain ⟨rfl, rfl⟩ := hrel
    go_wp2
    go_ret
    exact ⟨rfl, rfl⟩

theorem small_snoc {m : List Nat} {c : Nat} (hm : Small m) (hc : c < 256) : Small (m ++ [c]) := by
  intro i hi
  by_cases h : i < m.length
  · rw [List.getD_eq_getElem?_getD, List.getElem?_append_left h, ← List.getD_eq_getElem?_getD]; exact hm i h
  · rw [List.length_append, List.length_singleton] at hi
    obtain rfl : i = m.length := by omega
    rw [List.getD_eq_getElem?_getD]; simp; exact hc
theorem small_set {m : List Nat} {j c : Nat} (hm : Small m) (hc : c < 256) : Small (m.set j c) := by
  intro i hi
  rw [List.length_set] at hi
  rw [List.getD_eq_getElem?_getD, List.getElem?_set]
  by_cases h : j = i
  · subst h; simp [hi]; exact hc
  · rw [if_neg h, ← List.getD_eq_getElem?_getD]; exact hm i hi

set_option maxHeartbeats 1000000 in
theorem other_some (b off : Nat) (cap : Nat) (w : World) (l : List Nat) (hpos : 0 < l.length) (hl : l.length ≤ 140737488351232) (hb : b < w.heap.size) (hc : ∀ i, i < l.length → w.cell? ⟨b, off + i, none⟩ = some (.int .u8 (l.getD i 0 : Nat))) (hs : Small l) :
    Calls Try.prog 21 #[.slice (some ⟨b, off, none⟩) l.length cap] w fun e w' => ∃ v m, e = .returned v ∧ OwnB w' w.heap.size v m ∧ m.length = l.length ∧ Small m ∧ Below w.heap.size w w' := by
  obtain ⟨i0, hi, hy0, hy1, hy2⟩ := info_parts4 inf5
  have HC := hide hc
  have HS := hide hs
  clear hc hs
  go_enter Try.func21, Try.ntmps21
  go_wp2_with fail
  go_loopw [3, 4] (fun v i wr => ∃ (k : Nat) (m : List Nat), k ≤ l.length ∧ i = .int .i64 ((l.length : Int) - 1 - k) ∧ OwnB wr w.heap.size v m ∧ m.length = k ∧ Small m ∧ Below w.heap.size w wr) (fun _ i _ => (intOf i + 1).toNat)
  case atStart => exact ⟨0, [], by omega, by simp, World.ownsRow_nil _ _ _ _, rfl, fun i hi => by simp at hi, Below.refl _ _⟩
  case round =>
    obtain ⟨k, m, hk, rfl, hown, hmk, hms, hbl⟩ := hrel
    by_cases hlt : k < l.length
    · obtain ⟨q, hq⟩ : ∃ q : Nat, (q : Int) = (l.length : Int) - 1 - k := ⟨l.length - 1 - k, by omega⟩
      have hql : q < l.length := by omega
      obtain ⟨cv, hcv⟩ : ∃ c, c = l.getD q 0 := ⟨_, rfl⟩
      have hc0 : wr.cell? ⟨b, off + q, none⟩ = some (.int .u8 (cv : Nat)) := by rw [hcv]; exact (hbl.cell (p := ⟨b, off + q, none⟩) hb).trans (unhide HC q hql)
      have hc256 : cv < 256 := by rw [hcv]; exact unhide HS q hql
      rw [← hq]
      have HM := hide hms
      have hge : decide (0 ≤ (q : Int)) = true := decide_eq_true (by omega)
      have hst : Hid ((q : Int) - 1 = (l.length : Int) - 1 - ((k + 1 : Nat) : Int)) := hide (by omega)
      have HQ := hide hq
      clear hcv hms hq
      go_wp2_with (at_builtin; refine wpList_append_own _ rfl _ _ 27 rfl w.heap.size 5 i0 (.int .u8 0) 1 1 Try.underlying27 hi hy0 hy1 hy2 rfl (by decide) _ _ _ rfl (hown.alloc _) ⟨wr.heap.size, 0, none⟩ 1 1 [.int .u8 (cv : Int)] rfl rfl ?c1 ?c2 ?c3 ?c4 ?c5 ?_)
      case c1 =>
        intro j u hj
        match j, hj with
        | 0, hj => simp at hj; subst hj; simp [Addr.add]
      case c2 => intro u hu; simp at hu; subst hu; rfl
      case c3 => simp [maxLen]; omega
      case c4 => simp; omega
      case c5 => have := hbl.size; simp; omega
      · intro v' w5 hown' hgrow _
        have hown5 : OwnB w5 w.heap.size v' (m ++ [cv]) := by
          unfold OwnB
          have e1 : (m ++ [cv]).length = m.length + 1 := by simp
          have e2 : cellsOf (m ++ [cv]) = cellsOf m ++ [.int .u8 (cv : Int)] := by simp [cellsOf]
          rw [e1, e2, hmk]; exact hown'
        have hbl5 : Below w.heap.size w w5 := by
          have hlt2 := hown.lt
          exact (hbl.alloc hbl.size _).grown hgrow (by have := hbl.size; simp; omega) (fun j hj => (hlt2 j hj).1)
        clear hown' hgrow hown hbl
        go_wp2
        go_roundw
        case rel => exact ⟨k + 1, m ++ [cv], by omega, by have := unhide hst; rw [← this], hown5, by simp; omega, small_snoc (unhide HM) hc256, hbl5⟩
        case measure =>
          have := unhide HQ
          first | (simp [intOf]; done) | (simp [intOf]; omega)
    · have hk2 : k = l.length := by omega
      subst hk2
      have hge : decide (0 ≤ (l.length : Int) - 1 - (l.length : Int)) = false := decide_eq_false (by omega)
      have hgt : decide (0 < (l.length : Int)) = true := decide_eq_true (by omega)
      obtain ⟨a1, c1, hv, hB1, hn1⟩ := hown.shape
      have hex : ∃ g, a1 = some ⟨g, 0, none⟩ ∧ w.heap.size ≤ g := by
        rcases hown.2 with ⟨hv0, h0⟩ | ⟨g, cc, cur, hv0, hbg, _⟩
        · omega
        · rw [hv0] at hv; cases hv; exact ⟨g, rfl, hbg⟩
      obtain ⟨g, rfl, hbg⟩ := hex
      rw [hv] at hown ⊢
      have hB2 : Bytes wr (some ⟨b, off, none⟩) l := .inr ⟨b, off, rfl, Nat.lt_of_lt_of_le hb hbl.size, fun i hi => (hbl.cell (p := ⟨b, off + i, none⟩) hb).trans (unhide HC i hi)⟩
      have h1 := conv_any (some ⟨g, 0, none⟩) c1 wr m hB1
      have h2 := conv_any (some ⟨b, off, none⟩) cap wr l hB2
      have HQ := hide (strs_eq m l hms (unhide HS))
      have HO := hide hown
      have HMS := hide hms
      rw [hmk] at h1 ⊢
      generalize strOfNums (m.map Int.ofNat) = S at *
      generalize strOfNums (l.map Int.ofNat) = S' at *
      have hwn2 : wr.ownsRow w.heap.size 5 1 (.slice (some ⟨g, 0, none⟩) l.length c1) l.length (cellsOf m) := by
        have := hown; unfold OwnB at this; rw [hmk] at this; exact this
      by_cases hml : m = l
      · have hq := unhide HQ
        rw [decide_eq_true hml] at hq
        obtain ⟨c, hcc⟩ : ∃ c, c = m.getD (l.length - 1) 0 := ⟨_, rfl⟩
        have hc256 : c < 256 := by rw [hcc]; exact hms _ (by omega)
        have hcl : wr.cell? ⟨g, l.length - 1, none⟩ = some (.int .u8 (c : Nat)) := by
          rw [hwn2.cellAt _ (by omega), cellsOf_at _ _ (by omega), hcc]
        have hfz : wr.frozen? ⟨g, l.length - 1, none⟩ = false := hwn2.frozenAt _
        have hxv := u8_xor_nat c 1 hc256 (by decide)
        have hx256 : c ^^^ 1 < 256 := Nat.xor_lt_two_pow (n := 8) (by omega) (by omega)
        have HW : Hid (OwnB (wr.setCell ⟨g, l.length - 1, none⟩ (.int .u8 (bits BinOp.xor IntKind.u8 (c : Int) 1))) w.heap.size (.slice (some ⟨g, 0, none⟩) l.length c1) (m.set (l.length - 1) (c ^^^ 1))) := by
          have e : bits BinOp.xor IntKind.u8 (c : Int) 1 = ((c ^^^ 1 : Nat) : Int) := hxv
          rw [e]; rw [hmk] at hown; exact own_put hmk hown
        have HL : Hid ((m.set (l.length - 1) (c ^^^ 1)).length = l.length) := hide (by rw [List.length_set]; exact hmk)
        have HM2 := hide (small_set (j := l.length - 1) hms hx256)
        clear hown hwn2 hms hB1 hB2 HQ HO hml hmk hcc hxv hx256 hn1
        go_wp2
        go_ret
        exact ⟨_, _, rfl, unhide HW, unhide HL, unhide HM2, hbl.setCell (p := ⟨g, l.length - 1, none⟩) hbg _⟩
      · have hq := unhide HQ
        rw [decide_eq_false hml] at hq
        clear hwn2 hB1 hB2 HQ hml hn1 hown hms
        go_wp2
        go_ret
        have hm := hmk
        refine ⟨_, m, rfl, ?_, hm, unhide HMS, hbl⟩
        have := unhide HO
        rw [hmk] at this
        exact this

theorem other_any (a : Option Addr) (cap : Nat) (w : World) (l : List Nat) (hl : l.length ≤ 140737488351232) (hB : Bytes w a l) (hs : Small l) :
    Calls Try.prog 21 #[.slice a l.length cap] w fun e w' => ∃ v m, e = .returned v ∧ OwnB w' w.heap.size v m ∧ m.length = l.length ∧ Small m ∧ Below w.heap.size w w' := by
  by_cases h0 : l.length = 0
  · obtain rfl := List.eq_nil_of_length_eq_zero h0
    refine (other_nil a cap w).mono ?_
    rintro e w' ⟨he, rfl⟩
    exact ⟨_, [], he, World.ownsRow_nil _ _ _ _, rfl, fun i hi => by simp at hi, Below.refl _ _⟩
  · rcases hB with rfl | ⟨b, off, rfl, hb, hc⟩
    · simp at h0
    · exact other_some b off cap w l (by omega) hl hb hc hs

/-- the two worlds part in block g alone -/
structure Only (g : Nat) (w w' : World) : Prop where
  os : w'.os = w.os
  tape : w'.tape = w.tape
  output : w'.output = w.output
  size : w'.heap.size = w.heap.size
  block : ∀ j, j ≠ g → w'.heap[j]? = w.heap[j]?
theorem Only.refl (g : Nat) (w : World) : Only g w w := ⟨rfl, rfl, rfl, rfl, fun _ _ => rfl⟩
theorem Only.set {g : Nat} {w w' : World} (h : Only g w w') (j : Nat) (v : Value) : Only g w (w'.setCell ⟨g, j, none⟩ v) :=
  ⟨h.os, h.tape, h.output, by rw [← h.size]; simp, fun k hk => (Below.heap_setCell w' ⟨g, j, none⟩ v k hk).trans (h.block k hk)⟩
theorem Only.drew {g : Nat} {w w' : World} (h : Only g w w') : Only g w w'.drew := ⟨h.os, h.tape, h.output, h.size, h.block⟩
theorem Only.cell {g : Nat} {w w' : World} (h : Only g w w') {p : Addr} (hp : p.block ≠ g) : w'.cell? p = w.cell? p := by
  unfold World.cell?; rw [h.block _ hp]
theorem Only.bytes {g b off : Nat} {w w' : World} {l : List Nat} (h : Only g w w') (hbg : b ≠ g) (hB : Bytes w (some ⟨b, off, none⟩) l) : Bytes w' (some ⟨b, off, none⟩) l := by
  rcases hB with h0 | ⟨b', off', e, hb, hc⟩
  · exact .inl h0
  · cases e
    exact .inr ⟨b, off, rfl, by rw [h.size]; exact hb, fun i hi => (h.cell (p := ⟨b, off + i, none⟩) hbg).trans (hc i hi)⟩
theorem Only.below {B g : Nat} {w0 w w' : World} (h : Only g w w') (hb : Below B w0 w) (hBg : B ≤ g) : Below B w0 w' :=
  ⟨h.os.trans hb.os, h.tape.trans hb.tape, h.output.trans hb.output, by rw [h.size]; exact hb.size, fun j hj => (h.block j (by omega)).trans (hb.block j hj)⟩

/-- the list while its bytes are laid anew -/
def mid (l m : List Nat) (k : Nat) : List Nat := m.take k ++ l.drop k ++ [165, 90, 165]
theorem mid_length (l m : List Nat) (h : m.length = l.length) (k : Nat) (hk : k ≤ l.length) : (mid l m k).length = l.length + 3 := by
  unfold mid; simp; omega
theorem mid_step (l m : List Nat) (h : m.length = l.length) (k : Nat) (hk : k < l.length) : mid l m (k + 1) = (mid l m k).set k (m.getD k 0) := by
  unfold mid
  have e1 : m.take (k + 1) = m.take k ++ [m.getD k 0] := by
    rw [List.take_add_one, List.getElem?_eq_getElem (by omega), List.getD_eq_getElem?_getD, List.getElem?_eq_getElem (by omega)]; rfl
  have e2 : l.drop k = l.getD k 0 :: l.drop (k + 1) := by
    rw [List.drop_eq_getElem_cons hk, List.getD_eq_getElem?_getD, List.getElem?_eq_getElem hk]; rfl
  rw [e1, e2, List.append_assoc, List.append_assoc, List.append_assoc]
  have hl : (m.take k).length = k := by rw [List.length_take]; omega
  rw [List.set_append_right _ _ (by omega), hl, Nat.sub_self]
  simp
theorem mid_zero (l m : List Nat) : mid l m 0 = l ++ [165, 90, 165] := by unfold mid; simp
theorem mid_end (l m : List Nat) (h : m.length = l.length) : mid l m l.length = m ++ [165, 90, 165] := by
  unfold mid; rw [List.drop_length, ← h, List.take_length]; simp

set_option maxHeartbeats 1000000 in
theorem into_any (g c base : Nat) (b off cap : Nat) (w : World) (l m : List Nat) (hm : m.length = l.length) (hl : l.length ≤ 140737488351232) (hL : Lent w base g c l) (hB : Bytes w (some ⟨b, off, none⟩) m) (hbg : b ≠ g) :
    Calls Try.prog 20 #[.slice (some ⟨g, 0, none⟩) l.length c, .slice (some ⟨b, off, none⟩) l.length cap] w fun e w' => e = .returned (.tuple #[]) ∧ Lent w' base g c m ∧ Only g w w' := by
  have hL0 : OwnB w base (.slice (some ⟨g, 0, none⟩) (l.length + 3) c) (mid l m 0) := by
    have e : (l ++ [165, 90, 165]).length = l.length + 3 := by simp
    have h := hL
    unfold Lent at h
    rw [e] at h
    rw [mid_zero]
    exact h
  have hcap : l.length + 3 ≤ c := hL.marks.1
  have HB := hide hB
  have HM := hide hm
  clear hB hL
  go_enter Try.func20, Try.ntmps20
  go_wp2_with fail
  go_loopw [4] (fun i wr => ∃ k : Nat, k ≤ l.length ∧ i = .int .i64 k ∧ OwnB wr base (.slice (some ⟨g, 0, none⟩) (l.length + 3) c) (mid l m k) ∧ Only g w wr) (fun i _ => l.length - (intOf i).toNat)
  case atStart => exact ⟨0, by omega, rfl, hL0, Only.refl _ _⟩
  case round =>
    obtain ⟨k, hk, rfl, hown, ho⟩ := hrel
    clear hL0
    by_cases hlt : k < l.length
    · have hlen := mid_length l m hm k hk
      obtain ⟨cv, hcv⟩ : ∃ x, x = m.getD k 0 := ⟨_, rfl⟩
      have hc0 : wr.cell? ⟨b, off + k, none⟩ = some (.int .u8 (cv : Nat)) := by
        rcases ho.bytes hbg (unhide HB) with h0 | ⟨b', off', e, hb', hc'⟩
        · rw [h0] at hm; simp at hm; omega
        · cases e; rw [hcv]; exact hc' k (by omega)
      have hwn2 : wr.ownsRow base 5 1 (.slice (some ⟨g, 0, none⟩) (l.length + 3) c) (l.length + 3) (cellsOf (mid l m k)) := by
        have := hown; unfold OwnB at this; rw [hlen] at this; exact this
      have hcl : ∃ x, wr.cell? ⟨g, k, none⟩ = some x := ⟨_, by rw [hwn2.cellAt _ (by omega), cellsOf_at _ _ (by omega)]⟩
      obtain ⟨x, hcl⟩ := hcl
      have hfz : wr.frozen? ⟨g, k, none⟩ = false := hwn2.frozenAt _
      have HW : Hid (OwnB (wr.setCell ⟨g, k, none⟩ (.int .u8 (cv : Int))) base (.slice (some ⟨g, 0, none⟩) (l.length + 3) c) (mid l m (k + 1))) := by
        rw [mid_step l m hm k hlt, ← hcv]; exact own_put hlen hown
      clear hown hwn2 hlen hcv
      go_wp2
      go_roundw
      case rel => exact ⟨k + 1, by omega, by go_num, unhide HW, ho.set _ _⟩
      case measure => simp [intOf]; omega
    · have hk2 : k = l.length := by omega
      subst hk2
      go_wp2
      go_end0
      refine ⟨rfl, ?_, ho⟩
      unfold Lent
      rw [← mid_end l m (unhide HM), mid_length l m (unhide HM) _ (Nat.le_refl _)]
      exact hown

theorem into_none (a : Option Addr) (c : Nat) (v : Value) (w : World) :
    Calls Try.prog 20 #[.slice a 0 c, v] w fun e w' => e = .returned (.tuple #[]) ∧ w' = w := by
  go_enter Try.func20, Try.ntmps20
  go_wp2_with fail
  go_loop [4] (fun i => i = .int .i64 0) (fun _ => 0)
  case atStart => rfl
  case round =>
    obtain rfl := hrel
    go_wp2
    go_end0
    exact ⟨rfl, rfl⟩

/-- Into, of a list that holds as many bytes -/
theorem into_both (g c base : Nat) (a : Option Addr) (cap : Nat) (w : World) (l m : List Nat) (hm : m.length = l.length) (hl : l.length ≤ 140737488351232) (hL : Lent w base g c l) (hB : Bytes w a m) (hbg : ∀ b off, a = some ⟨b, off, none⟩ → b ≠ g) :
    Calls Try.prog 20 #[.slice (some ⟨g, 0, none⟩) l.length c, .slice a l.length cap] w fun e w' => e = .returned (.tuple #[]) ∧ Lent w' base g c m ∧ Only g w w' := by
  by_cases h0 : l.length = 0
  · obtain rfl := List.eq_nil_of_length_eq_zero h0
    obtain rfl := List.eq_nil_of_length_eq_zero hm
    refine (into_none _ c _ w).mono ?_
    rintro e w' ⟨he, rfl⟩
    exact ⟨he, hL, Only.refl _ _⟩
  · rcases hB with rfl | ⟨b, off, rfl, hb, hc⟩
    · simp at hm; omega
    · exact into_any g c base b off cap w l m hm hl hL (.inr ⟨b, off, rfl, hb, hc⟩) (hbg b off rfl)
end Go.Proofs.Ytljeedgnjgeopaa.Ld
