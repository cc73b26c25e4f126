/- Other and Into. -/
import Derived.Test.YtochdajeocganaaLend
import Derived.Test.YtochdajeocganaaChanged
import Derived.Test.YtochdajeocganaaHead
namespace Go.Proofs.Ytochdajeocganaa
open Go.ChangeShapes Go.WideShapes Go.ChangeAt Go.RowKit
set_option linter.unusedVariables false
set_option maxRecDepth 100000

theorem other_nil (a : Option Addr) (cap : Nat) (w : World) :
    Calls Try.prog 23 #[.slice a 0 cap] w fun e w' => e = .returned (.slice none 0 0) ∧ w' = w := by
  go_enter Try.func23, Try.ntmps23
  go_wp2_with fail
  go_loop [3, 4] (fun v i => v = .slice none 0 0 ∧ i = .int .i64 (-1)) (fun _ _ => 0)
  case atStart => exact ⟨rfl, rfl⟩
  case round =>
    obtain ⟨rfl, rfl⟩ := hrel
    go_wp2
    go_ret
    exact ⟨rfl, rfl⟩

theorem small_snoc {m : List Nat} {c : Nat} (hm : Small m) (hc : c < 256) : Small (m ++ [c]) := by
  intro i hi
  by_cases h : i < m.length
  · rw [List.getD_eq_getElem?_getD, List.getElem?_append_left h, ← List.getD_eq_getElem?_getD]; exact hm i h
  · rw [List.length_append, List.length_singleton] at hi
    obtain rfl : i = m.length := by omega
    rw [List.getD_eq_getElem?_getD]; simp; exact hc
theorem small_set {m : List Nat} {j c : Nat} (hm : Small m) (hc : c < 256) : Small (m.set j c) := by
  intro i hi
  rw [List.length_set] at hi
  rw [List.getD_eq_getElem?_getD, List.getElem?_set]
  by_cases h : j = i
  · subst h; simp [hi]; exact hc
  · rw [if_neg h, ← List.getD_eq_getElem?_getD]; exact hm i hi

set_option maxHeartbeats 1000000 in
theorem other_some (b off : Nat) (cap : Nat) (w : World) (l : List Nat) (hpos : 0 < l.length) (hl : l.length ≤ 140737488351232) (hb : b < w.heap.size) (hc : ∀ i, i < l.length → w.cell? ⟨b, off + i, none⟩ = some (.int .u8 (l.getD i 0 : Nat))) (hs : Small l) :
    Calls Try.prog 23 #[.slice (some ⟨b, off, none⟩) l.length cap] w fun e w' => ∃ v m, e = .returned v ∧ OwnB w' w.heap.size v m ∧ m.length = l.length ∧ Small m ∧ Below w.heap.size w w' := by
  obtain ⟨i0, hi, hy0, hy1, hy2⟩ := info_parts Try.info5
  have HC := hide hc
  have HS := hide hs
  clear hc hs
  go_enter Try.func23, Try.ntmps23
  go_wp2_with fail
  go_loopw [3, 4] (fun v i wr => ∃ (k : Nat) (m : List Nat), k ≤ l.length ∧ i = .int .i64 ((l.length : Int) - 1 - k) ∧ OwnB wr w.heap.size v m ∧ m.length = k ∧ Small m ∧ Below w.heap.size w wr) (fun _ i _ => (intOf i + 1).toNat)
  case atStart => exact ⟨0, [], by omega, by simp, World.ownsRow_nil _ _ _ _, rfl, fun i hi => by simp at hi, Below.refl _ _⟩
  case round =>
    obtain ⟨k, m, hk, rfl, hown, hmk, hms, hbl⟩ := hrel
    by_cases hlt : k < l.length
    · obtain ⟨q, hq⟩ : ∃ q : Nat, (q : Int) = (l.length : Int) - 1 - k := ⟨l.length - 1 - k, by omega⟩
      have hql : q < l.length := by omega
      obtain ⟨cv, hcv⟩ : ∃ c, c = l.getD q 0 := ⟨_, rfl⟩
      have hc0 : wr.cell? ⟨b, off + q, none⟩ = some (.int .u8 (cv : Nat)) := by rw [hcv]; exact (hbl.cell (p := ⟨b, off + q, none⟩) hb).trans (unhide HC q hql)
      have hc256 : cv < 256 := by rw [hcv]; exact unhide HS q hql
      rw [← hq]
      have HM := hide hms
      have hge : decide (0 ≤ (q : Int)) = true := decide_eq_true (by omega)
      have hst : Hid ((q : Int) - 1 = (l.length : Int) - 1 - ((k + 1 : Nat) : Int)) := hide (by omega)
      have HQ := hide hq
      clear hcv hms hq
      go_wp2_with (at_builtin; refine wpList_append_own _ rfl _ _ 26 rfl w.heap.size 5 i0 (.int .u8 0) 1 1 Try.underlying26 hi hy0 hy1 hy2 rfl (by decide) _ _ _ rfl (hown.alloc _) ⟨wr.heap.size, 0, none⟩ 1 1 [.int .u8 (cv : Int)] rfl rfl ?c1 ?c2 ?c3 ?c4 ?c5 ?_)
      case c1 =>
        intro j u hj
        match j, hj with
        | 0, hj => simp at hj; subst hj; simp [Addr.add]
      case c2 => intro u hu; simp at hu; subst hu; rfl
      case c3 => simp [maxLen]; omega
      case c4 => simp; omega
      case c5 => have := hbl.size; simp; omega
      · intro v' w5 hown' hgrow _
        have hown5 : OwnB w5 w.heap.size v' (m ++ [cv]) := by
          unfold OwnB
          have e1 : (m ++ [cv]).length = m.length + 1 := by simp
          have e2 : cellsOf (m ++ [cv]) = cellsOf m ++ [.int .u8 (cv : Int)] := by simp [cellsOf]
          rw [e1, e2, hmk]; exact hown'
        have hbl5 : Below w.heap.size w w5 := by
          have hlt2 := hown.lt
          exact (hbl.alloc hbl.size _).grown hgrow (by have := hbl.size; simp; omega) (fun j hj => (hlt2 j hj).1)
        clear hown' hgrow hown hbl
        go_wp2
        go_roundw
        case rel => exact ⟨k + 1, m ++ [cv], by omega, by have := unhide hst; rw [← this], hown5, by simp; omega, small_snoc (unhide HM) hc256, hbl5⟩
        case measure =>
          have := unhide HQ
          first | (simp [intOf]; done) | (simp [intOf]; omega)
    · have hk2 : k = l.length := by omega
      subst hk2
      have hge : decide (0 ≤ (l.length : Int) - 1 - (l.length : Int)) = false := decide_eq_false (by omega)
      have hgt : decide (0 < (l.length : Int)) = true := decide_eq_true (by omega)
      obtain ⟨a1, c1, hv, hB1, hn1⟩ := hown.shape
      have hex : ∃ g, a1 = some ⟨g, 0, none⟩ ∧ w.heap.size ≤ g := by
        rcases hown.2 with ⟨hv0, h0⟩ | ⟨g, cc, cur, hv0, hbg, _⟩
        · omega
        · rw [hv0] at hv; cases hv; exact ⟨g, rfl, hbg⟩
      obtain ⟨g, rfl, hbg⟩ := hex
      rw [hv] at hown ⊢
      have hB2 : Bytes wr (some ⟨b, off, none⟩) l := .inr ⟨b, off, rfl, Nat.lt_of_lt_of_le hb hbl.size, fun i hi => (hbl.cell (p := ⟨b, off + i, none⟩) hb).trans (unhide HC i hi)⟩
      have h1 := conv_any (some ⟨g, 0, none⟩) c1 wr m hB1
      have h2 := conv_any (some ⟨b, off, none⟩) cap wr l hB2
      have HQ := hide (strs_eq m l hms (unhide HS))
      have HO := hide hown
      have HMS := hide hms
      rw [hmk] at h1 ⊢
      generalize strOfNums (m.map Int.ofNat) = S at *
      generalize strOfNums (l.map Int.ofNat) = S' at *
      have hwn2 : wr.ownsRow w.heap.size 5 1 (.slice (some ⟨g, 0, none⟩) l.length c1) l.length (cellsOf m) := by
        have := hown; unfold OwnB at this; rw [hmk] at this; exact this
      by_cases hml : m = l
      · have hq := unhide HQ
        rw [decide_eq_true hml] at hq
        obtain ⟨c, hcc⟩ : ∃ c, c = m.getD (l.length - 1) 0 := ⟨_, rfl⟩
        have hc256 : c < 256 := by rw [hcc]; exact hms _ (by omega)
        have hcl : wr.cell? ⟨g, l.length - 1, none⟩ = some (.int .u8 (c : Nat)) := by
          rw [hwn2.cellAt _ (by omega), cellsOf_at _ _ (by omega), hcc]
        have hfz : wr.frozen? ⟨g, l.length - 1, none⟩ = false := hwn2.frozenAt _
        have hxv := u8_xor_nat c 1 hc256 (by decide)
        have hx256 : c ^^^ 1 < 256 := Nat.xor_lt_two_pow (n := 8) (by omega) (by omega)
        have HW : Hid (OwnB (wr.setCell ⟨g, l.length - 1, none⟩ (.int .u8 (bits BinOp.xor IntKind.u8 (c : Int) 1))) w.heap.size (.slice (some ⟨g, 0, none⟩) l.length c1) (m.set (l.length - 1) (c ^^^ 1))) := by
          have e : bits BinOp.xor IntKind.u8 (c : Int) 1 = ((c ^^^ 1 : Nat) : Int) := hxv
          rw [e]; rw [hmk] at hown; exact own_put hmk hown
        have HL : Hid ((m.set (l.length - 1) (c ^^^ 1)).length = l.length) := hide (by rw [List.length_set]; exact hmk)
        have HM2 := hide (small_set (j := l.length - 1) hms hx256)
        clear hown hwn2 hms hB1 hB2 HQ HO hml hmk hcc hxv hx256 hn1
        go_wp2
        go_ret
        exact ⟨_, _, rfl, unhide HW, unhide HL, unhide HM2, hbl.setCell (p := ⟨g, l.length - 1, none⟩) hbg _⟩
      · have hq := unhide HQ
        rw [decide_eq_false hml] at hq
        clear hwn2 hB1 hB2 HQ hml hn1 hown hms
        go_wp2
        go_ret
        have hm := hmk
        refine ⟨_, m, rfl, ?_, hm, unhide HMS, hbl⟩
        have := unhide HO
        rw [hmk] at this
        exact this

theorem other_any (a : Option Addr) (cap : Nat) (w : World) (l : List Nat) (hl : l.length ≤ 140737488351232) (hB : Bytes w a l) (hs : Small l) :
    Calls Try.prog 23 #[.slice a l.length cap] w fun e w' => ∃ v m, e = .returned v ∧ OwnB w' w.heap.size v m ∧ m.length = l.length ∧ Small m ∧ Below w.heap.size w w' := by
  by_cases h0 : l.length = 0
  · obtain rfl := List.eq_nil_of_length_eq_zero h0
    refine (other_nil a cap w).mono ?_
    rintro e w' ⟨he, rfl⟩
    exact ⟨_, [], he, World.ownsRow_nil _ _ _ _, rfl, fun i hi => by simp at hi, Below.refl _ _⟩
  · rcases hB with rfl | ⟨b, off, rfl, hb, hc⟩
    · simp at h0
    · exact other_some b off cap w l (by omega) hl hb hc hs

/-- the two worlds part in block g alone -/
structure Only (g : Nat) (w w' : World) : Prop where
  os : w'.os = w.os
  tape : w'.tape = w.tape
  output : w'.output = w.output
  size : w'.heap.size = w.heap.size
  block : ∀ j, j ≠ g → w'.heap[j]? = w.heap[j]?
theorem Only.refl (g : Nat) (w : World) : Only g w w := ⟨rfl, rfl, rfl, rfl, fun _ _ => rfl⟩
theorem Only.set {g : Nat} {w w' : World} (h : Only g w w') (j : Nat) (v : Value) : Only g w (w'.setCell ⟨g, j, none⟩ v) :=
  ⟨h.os, h.tape, h.output, by rw [← h.size]; simp, fun k hk => (Below.heap_setCell w' ⟨g, j, none⟩ v k hk).trans (h.block k hk)⟩
theorem Only.drew {g : Nat} {w w' : World} (h : Only g w w') : Only g w w'.drew := ⟨h.os, h.tape, h.output, h.size, h.block⟩
theorem Only.cell {g : Nat} {w w' : World} (h : Only g w w') {p : Addr} (hp : p.block ≠ g) : w'.cell? p = w.cell? p := by
  unfold World.cell?; rw [h.block _ hp]
theorem Only.bytes {g b off : Nat} {w w' : World} {l : List Nat} (h : Only g w w') (hbg : b ≠ g) (hB : Bytes w (some ⟨b, off, none⟩) l) : Bytes w' (some ⟨b, off, none⟩) l := by
  rcases hB with h0 | ⟨b', off', e, hb, hc⟩
  · exact .inl h0
  · cases e
    exact .inr ⟨b, off, rfl, by rw [h.size]; exact hb, fun i hi => (h.cell (p := ⟨b, off + i, none⟩) hbg).trans (hc i hi)⟩
theorem Only.below {B g : Nat} {w0 w w' : World} (h : Only g w w') (hb : Below B w0 w) (hBg : B ≤ g) : Below B w0 w' :=
  ⟨h.os.trans hb.os, h.tape.trans hb.tape, h.output.trans hb.output, by rw [h.size]; exact hb.size, fun j hj => (h.block j (by omega)).trans (hb.block j hj)⟩

/-- the list while its bytes are laid anew -/
def mid (l m : List Nat) (k : Nat) : List Nat := m.take k ++ l.drop k ++ [165, 90, 165]
theorem mid_length (l m : List Nat) (h : m.length = l.length) (k : Nat) (hk : k ≤ l.length) : (mid l m k).length = l.length + 3 := by
  unfold mid; simp; omega
theorem mid_step (l m : List Nat) (h : m.length = l.length) (k : Nat) (hk : k < l.length) : mid l m (k + 1) = (mid l m k).set k (m.getD k 0) := by
  unfold mid
  have e1 : m.take (k + 1) = m.take k ++ [m.getD k 0] := by
    rw [List.take_add_one, List.getElem?_eq_getElem (by omega), List.getD_eq_getElem?_getD, List.getElem?_eq_getElem (by omega)]; rfl
  have e2 : l.drop k = l.getD k 0 :: l.drop (k + 1) := by
    rw [List.drop_eq_getElem_cons hk, List.getD_eq_getElem?_getD, List.getElem?_eq_getElem hk]; rfl
  rw [e1, e2, List.append_assoc, List.append_assoc, List.append_assoc]
  have hl : (m.take k).length = k := by rw [List.length_take]; omega
  rw [List.set_append_right _ _ (by omega), hl, Nat.sub_self]
  simp
theorem mid_zero (l m : List Nat) : mid l m 0 = l ++ [165, 90, 165] := by unfold mid; simp
theorem mid_end (l m : List Nat) (h : m.length = l.length) : mid l m l.length = m ++ [165, 90, 165] := by
  unfold mid; rw [List.drop_length, ← h, List.take_length]; simp

set_option maxHeartbeats 1000000 in
theorem into_any (g c base : Nat) (b off cap : Nat) (w : World) (l m : List Nat) (hm : m.length = l.length) (hl : l.length ≤ 140737488351232) (hL : Lent w base g c l) (hB : Bytes w (some ⟨b, off, none⟩) m) (hbg : b ≠ g) :
    Calls Try.prog 25 #[.slice (some ⟨g, 0, none⟩) l.length c, .slice (some ⟨b, off, none⟩) l.length cap] w fun e w' => e = .returned (.tuple #[]) ∧ Lent w' base g c m ∧ Only g w w' := by
  have hL0 : OwnB w base (.slice (some ⟨g, 0, none⟩) (l.length + 3) c) (mid l m 0) := by
    have e : (l ++ [165, 90, 165]).length = l.length + 3 := by simp
    have h := hL
    unfold Lent at h
    rw [e] at h
    rw [mid_zero]
    exact h
  have hcap : l.length + 3 ≤ c := hL.marks.1
  have HB := hide hB
  have HM := hide hm
  clear hB hL
  go_enter Try.func25, Try.ntmps25
  go_wp2_with fail
  go_loopw [4] (fun i wr => ∃ k : Nat, k ≤ l.length ∧ i = .int .i64 k ∧ OwnB wr base (.slice (some ⟨g, 0, none⟩) (l.length + 3) c) (mid l m k) ∧ Only g w wr) (fun i _ => l.length - (intOf i).toNat)
  case atStart => exact ⟨0, by omega, rfl, hL0, Only.refl _ _⟩
  case round =>
    obtain ⟨k, hk, rfl, hown, ho⟩ := hrel
    clear hL0
    by_cases hlt : k < l.length
    · have hlen := mid_length l m hm k hk
      obtain ⟨cv, hcv⟩ : ∃ x, x = m.getD k 0 := ⟨_, rfl⟩
      have hc0 : wr.cell? ⟨b, off + k, none⟩ = some (.int .u8 (cv : Nat)) := by
        rcases ho.bytes hbg (unhide HB) with h0 | ⟨b', off', e, hb', hc'⟩
        · rw [h0] at hm; simp at hm; omega
        · cases e; rw [hcv]; exact hc' k (by omega)
      have hwn2 : wr.ownsRow base 5 1 (.slice (some ⟨g, 0, none⟩) (l.length + 3) c) (l.length + 3) (cellsOf (mid l m k)) := by
        have := hown; unfold OwnB at this; rw [hlen] at this; exact this
      have hcl : ∃ x, wr.cell? ⟨g, k, none⟩ = some x := ⟨_, by rw [hwn2.cellAt _ (by omega), cellsOf_at _ _ (by omega)]⟩
      obtain ⟨x, hcl⟩ := hcl
      have hfz : wr.frozen? ⟨g, k, none⟩ = false := hwn2.frozenAt _
      have HW : Hid (OwnB (wr.setCell ⟨g, k, none⟩ (.int .u8 (cv : Int))) base (.slice (some ⟨g, 0, none⟩) (l.length + 3) c) (mid l m (k + 1))) := by
        rw [mid_step l m hm k hlt, ← hcv]; exact own_put hlen hown
      clear hown hwn2 hlen hcv
      go_wp2
      go_roundw
      case rel => exact ⟨k + 1, by omega, by go_num, unhide HW, ho.set _ _⟩
      case measure => simp [intOf]; omega
    · have hk2 : k = l.length := by omega
      subst hk2
      go_wp2
      go_end0
      refine ⟨rfl, ?_, ho⟩
      unfold Lent
      rw [← mid_end l m (unhide HM), mid_length l m (unhide HM) _ (Nat.le_refl _)]
      exact hown

theorem into_none (a : Option Addr) (c : Nat) (v : Value) (w : World) :
    Calls Try.prog 25 #[.slice a 0 c, v] w fun e w' => e = .returned (.tuple #[]) ∧ w' = w := by
  go_enter Try.func25, Try.ntmps25
  go_wp2_with fail
  go_loop [4] (fun i => i = .int .i64 0) (fun _ => 0)
  case atStart => rfl
  case round =>
    obtain rfl := hrel
    go_wp2
    go_end0
    exact ⟨rfl, rfl⟩

/-- Into, of a list that holds as many bytes -/
theorem into_both (g c base : Nat) (a : Option Addr) (cap : Nat) (w : World) (l m : List Nat) (hm : m.length = l.length) (hl : l.length ≤ 140737488351232) (hL : Lent w base g c l) (hB : Bytes w a m) (hbg : ∀ b off, a = some ⟨b, off, none⟩ → b ≠ g) :
    Calls Try.prog 25 #[.slice (some ⟨g, 0, none⟩) l.length c, .slice a l.length cap] w fun e w' => e = .returned (.tuple #[]) ∧ Lent w' base g c m ∧ Only g w w' := by
  by_cases h0 : l.length = 0
  · obtain rfl := List.eq_nil_of_length_eq_zero h0
    obtain rfl := List.eq_nil_of_length_eq_zero hm
    refine (into_none _ c _ w).mono ?_
    rintro e w' ⟨he, rfl⟩
    exact ⟨he, hL, Only.refl _ _⟩
  · rcases hB with rfl | ⟨b, off, rfl, hb, hc⟩
    · simp at hm; omega
    · exact into_any g c base b off cap w l m hm hl hL (.inr ⟨b, off, rfl, hb, hc⟩) (hbg b off rfl)
end Go.Proofs.Ytochdajeocganaa
