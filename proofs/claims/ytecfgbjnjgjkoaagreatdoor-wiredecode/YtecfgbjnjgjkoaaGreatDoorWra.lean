/- wire: what writes a request. -/
import Derived.Shelf.LaysM
import Derived.Shelf.Strconv.AppendIntPublic10
import Derived.Test.YtecfgbjnjgjkoaaGreatDoorProg
import Derived.Test.YtecfgbjnjgjkoaaGreatDoorRows
import Derived.Test.YtecfgbjnjgjkoaaGreatDoorSame
import Derived.Test.YtecfgbjnjgjkoaaGreatDoorTextMath
import Derived.Lib.ItoaLen
import Derived.Lib.Hide
import Derived.Test.YtecfgbjnjgjkoaaGreatDoorApb
namespace Go.Proofs
open Go.Shelf
def Tryz.laysM176_ren : Go.Shelf.Ren := ⟨fun | 176 => 84 | 249 => 115 | 288 => 130 | 283 => 134 | 284 => 135 | 285 => 136 | 286 => 137 | 129 => 139 | 317 => 138 | 318 => 140 | 319 => 141 | 320 => 142 | 337 => 143 | 338 => 144 | n => n, fun | 37 => 25 | 2 => 2 | 3 => 3 | 53 => 153 | 4 => 4 | 9 => 9 | 171 => 190 | 0 => 0 | 173 => 193 | 212 => 196 | 51 => 179 | 5 => 5 | 20 => 20 | 213 => 197 | 46 => 143 | 232 => 200 | 233 => 201 | n => n, fun | 17 => 3 | 18 => 4 | 19 => 5 | n => n⟩
theorem Tryz.laysM176 : Go.Proofs.LaysM.n176 Tryz.prog Tryz.laysM176_ren := {
  mixed := by kernel_rfl
  f129 := Tryz.func139.trans (congrArg some (by kernel_rfl))
  f176 := Tryz.func84.trans (congrArg some (by kernel_rfl))
  f249 := Tryz.func115.trans (congrArg some (by kernel_rfl))
  f283 := Tryz.func134.trans (congrArg some (by kernel_rfl))
  f284 := Tryz.func135.trans (congrArg some (by kernel_rfl))
  f285 := Tryz.func136.trans (congrArg some (by kernel_rfl))
  f286 := Tryz.func137.trans (congrArg some (by kernel_rfl))
  f288 := Tryz.func130.trans (congrArg some (by kernel_rfl))
  f317 := Tryz.func138.trans (congrArg some (by kernel_rfl))
  f318 := Tryz.func140.trans (congrArg some (by kernel_rfl))
  f319 := Tryz.func141.trans (congrArg some (by kernel_rfl))
  f320 := Tryz.func142.trans (congrArg some (by kernel_rfl))
  f337 := Tryz.func143.trans (congrArg some (by kernel_rfl))
  f338 := Tryz.func144.trans (congrArg some (by kernel_rfl))
  t0 := Tryz.underlying0
  a0 := Tryz.isAgg0
  z0 := Tryz.sizeOf0
  v0 := Tryz.zeroValue0
  t2 := Tryz.underlying2
  a2 := Tryz.isAgg2
  z2 := Tryz.sizeOf2
  v2 := Tryz.zeroValue2
  t3 := Tryz.underlying3
  a3 := Tryz.isAgg3
  z3 := Tryz.sizeOf3
  v3 := Tryz.zeroValue3
  t4 := Tryz.underlying4
  a4 := Tryz.isAgg4
  z4 := Tryz.sizeOf4
  v4 := Tryz.zeroValue4
  t5 := Tryz.underlying5
  a5 := Tryz.isAgg5
  z5 := Tryz.sizeOf5
  v5 := Tryz.zeroValue5
  t9 := Tryz.underlying9
  a9 := Tryz.isAgg9
  z9 := Tryz.sizeOf9
  v9 := Tryz.zeroValue9
  t20 := Tryz.underlying20
  a20 := Tryz.isAgg20
  z20 := Tryz.sizeOf20
  v20 := Tryz.zeroValue20
  t37 := Tryz.underlying25
  a37 := Tryz.isAgg25
  z37 := Tryz.sizeOf25
  v37 := Tryz.zeroValue25
  t46 := Tryz.underlying143
  a46 := Tryz.isAgg143
  z46 := Tryz.sizeOf143
  v46 := Tryz.zeroValue143
  t51 := Tryz.underlying179
  a51 := Tryz.isAgg179
  z51 := Tryz.sizeOf179
  v51 := Tryz.zeroValue179
  t53 := Tryz.underlying153
  a53 := Tryz.isAgg153
  z53 := Tryz.sizeOf153
  v53 := Tryz.zeroValue153
  t171 := Tryz.underlying190
  a171 := Tryz.isAgg190
  z171 := Tryz.sizeOf190
  v171 := Tryz.zeroValue190
  t173 := Tryz.underlying193
  a173 := Tryz.isAgg193
  z173 := Tryz.sizeOf193
  v173 := Tryz.zeroValue193
  t212 := Tryz.underlying196
  a212 := Tryz.isAgg196
  z212 := Tryz.sizeOf196
  v212 := Tryz.zeroValue196
  t213 := Tryz.underlying197
  a213 := Tryz.isAgg197
  z213 := Tryz.sizeOf197
  t232 := Tryz.underlying200
  a232 := Tryz.isAgg200
  z232 := Tryz.sizeOf200
  v232 := Tryz.zeroValue200
  t233 := Tryz.underlying201
  a233 := Tryz.isAgg201
  z233 := Tryz.sizeOf201
  v233 := Tryz.zeroValue201
  g17 := by kernel_rfl
  g18 := by kernel_rfl
  g19 := by kernel_rfl
  i0 := by kernel_rfl
  i2 := by kernel_rfl
  i3 := by kernel_rfl
  i4 := by kernel_rfl
  i5 := by kernel_rfl
  i9 := by kernel_rfl
  i20 := by kernel_rfl
  i37 := by kernel_rfl
  i46 := by kernel_rfl
  i51 := by kernel_rfl
  i53 := by kernel_rfl
  i171 := by kernel_rfl
  i173 := by kernel_rfl
  i212 := by kernel_rfl
  i232 := by kernel_rfl
  i233 := by kernel_rfl
  m17 := by kernel_rfl
  m18 := by kernel_rfl
  m19 := by kernel_rfl }
end Go.Proofs
namespace Go.Proofs.YtecfgbjnjgjkoaaGreatDoor
open Go.ChangeShapes Go.WideShapes Go.ChangeAt Go.RowKit Go.Shelf
set_option linter.unusedVariables false

/-- the name of the table that strconv reads -/
def tabName : String := (Rows.wireDecodeRow.laid.map (fun x => x.1)).getD 2 ""
/-- the table reads as it is laid -/
def Tab (w : World) : Prop := Lib.TabIs Tryz.prog w tabName .u64 Lib.pow10Tab

theorem Tab.below {w w' : World} (h : Tab w) (hb : Below w.heap.size w w') : Tab w' := Lib.tabBelow_of_tabIs h w' hb

theorem byteCells_nums (l : List UInt8) : Lib.byteCells l = cellsOf (Larder.nums l) := by
  unfold Lib.byteCells cellsOf Larder.nums; rw [List.map_map]; rfl

theorem own_nums {w : World} {B : Nat} {v : Value} {l : List UInt8} (h : w.ownsRow B 5 1 v (0 + l.length) ([] ++ Lib.byteCells l)) : OwnB w B v (Larder.nums l) := by
  unfold OwnB
  rw [Nat.zero_add, List.nil_append, byteCells_nums] at h
  rw [Larder.nums_length]; exact h

theorem appendInt (i : Int) (h0 : -9223372036854775808 ≤ i) (h1 : i ≤ 9223372036854775807) (w : World) (ht : Tab w) :
    Calls Tryz.prog 84 #[.slice none 0 0, .int .i64 i, .int .i64 10] w fun e w' => ∃ v, e = .returned v ∧ OwnB w' w.heap.size v (Larder.spellI i) ∧ Below w.heap.size w w' := by
  refine (Any.strconv_AppendInt_10 Tryz.laysM176 w.heap.size 0 i h0 h1 (.slice none 0 0) [] w (World.ownsRow_nil _ _ _ _) (Nat.le_refl _) (by omega) (Lib.tabBelow_of_tabIs ht)).mono ?_
  rintro e w' ⟨v, he, hown, hb, -⟩
  exact ⟨v, he, own_nums hown, hb⟩

theorem text_any (i : Int) (h0 : -9223372036854775808 ≤ i) (h1 : i ≤ 9223372036854775807) (w : World) (ht : Tab w) :
    Calls Tryz.prog 58 #[.int .i64 i] w fun e w' => ∃ v, e = .returned v ∧ OwnB w' w.heap.size v (Larder.spellI i) ∧ Below w.heap.size w w' := by
  have HC := hide (appendInt i h0 h1 w ht)
  clear ht
  go_enter Tryz.func58, Tryz.ntmps58
  go_wp2_with fail
  refine (unhide HC).mono ?_
  rintro e w1 ⟨v, rfl, hown, hb⟩
  go_wp2
  go_ret
  exact ⟨v, rfl, hown, hb⟩

end Go.Proofs.YtecfgbjnjgjkoaaGreatDoor
namespace Go.Proofs.YtecfgbjnjgjkoaaGreatDoor
open Go.ChangeShapes Go.WideShapes Go.ChangeAt Go.RowKit
set_option linter.unusedVariables false
set_option linter.unusedSimpArgs false
set_option maxRecDepth 20000
set_option maxHeartbeats 4000000

theorem Tryz.info5s : (Tryz.prog.info? 5).map (fun i => (i.zero, i.size, i.bytes)) = some (some (.int .u8 0), 1, 1) := by kernel_rfl
theorem info_partsS {P : Program} {e : TypeId} {z : Value} {s b : Nat} (h : (P.info? e).map (fun i => (i.zero, i.size, i.bytes)) = some (some z, s, b)) : ∃ ie, P.info? e = some ie ∧ ie.zero = some z ∧ ie.size = s ∧ ie.bytes = b := by
  obtain ⟨ie, h1, h2⟩ := Option.map_eq_some_iff.1 h
  injection h2 with h3 h4
  injection h4 with h5 h6
  exact ⟨ie, h1, h3, h5, h6⟩
/-- a row of bytes that grows, from B on; all below B is as in w -/
structure Gro (w W : World) (B : Nat) (v : Value) (n : Nat) (l : List Nat) : Prop where
  bel : Below B w W
  sz : B ≤ W.heap.size
  row : Rws W 5 1 v n (byV l)
  own : ∀ g, v.ownBlock = some g → B ≤ g
  len : n = l.length
theorem Gro.below {w W W' : World} {B n : Nat} {v : Value} {l : List Nat} (h : Gro w W B v n l) (hb : Below W.heap.size W W') : Gro w W' B v n l :=
  ⟨h.bel.trans (hb.mono h.sz), Nat.le_trans h.sz hb.size, h.row.below hb, h.own, h.len⟩
theorem Gro.app {w W w' : World} {B n : Nat} {v v' : Value} {l m : List Nat} (h : Gro w W B v n l) (hR : Rws w' 5 1 v' (n + m.length) (fun k => if k < n then byV l k else byV m (k - n))) (hG : Gw W w' v v') : Gro w w' B v' (n + m.length) (l ++ m) := by
  refine ⟨h.bel.trans ⟨hG.os, hG.tape, hG.output, hG.size, fun b hb => hG.oth b (Nat.lt_of_lt_of_le hb h.sz) (fun e => by have := h.own b e; omega)⟩, Nat.le_trans h.sz hG.size, hR.congr (fun k hk => ?_), fun g hg => ?_, by rw [List.length_append, h.len]⟩
  · have hn := h.len
    unfold byV
    by_cases q : k < n
    · rw [if_pos q, List.getD_eq_getElem?_getD, List.getD_eq_getElem?_getD, List.getElem?_append_left (by omega)]
    · rw [if_neg q, List.getD_eq_getElem?_getD, List.getD_eq_getElem?_getD, List.getElem?_append_right (by omega), hn]
  · rcases hG.own g hg with q | q
    · exact h.own g q
    · exact Nat.le_trans h.sz q
/-- bytes elsewhere -/
theorem Gw.bytes {W w' : World} {v v' : Value} {a : Option Addr} {l : List Nat} (hG : Gw W w' v v') (hB : Bytes W a l) (hn : ∀ g off, 0 < l.length → a = some ⟨g, off, none⟩ → v.ownBlock ≠ some g) : Bytes w' a l := by
  rcases hB with e | ⟨b, off, rfl, hb, hc⟩
  · exact .inl e
  · rcases Nat.eq_zero_or_pos l.length with q | q
    · exact .inl (List.eq_nil_of_length_eq_zero q)
    · have hblk := hG.oth b hb (hn b off q rfl)
      refine .inr ⟨b, off, rfl, Nat.lt_of_lt_of_le hb hG.size, fun i hi => ?_⟩
      rw [← hc i hi]
      unfold World.cell?
      rw [hblk]
theorem made_bytes (w : World) (l : List Nat) : Bytes (w.alloc (.cells (cellsOf l).toArray 5)) (some ⟨w.heap.size, 0, none⟩) l := .inr ⟨w.heap.size, 0, rfl, by simp, fun i hi => by
  rw [Nat.zero_add, cell_of_row _ _ _ _ _ _ (heap_alloc_new w _), List.getElem?_toArray, cellsOf_at l i hi]⟩
theorem addline_any (w0 w : World) (B : Nat) (va a : Option Addr) (n vc c mk : Nat) (l T : List Nat) (h : Gro w0 w B (.slice va n vc) n l) (hT : Bytes w a T) (ho : ∀ g off, 0 < T.length → a = some ⟨g, off, none⟩ → (Value.slice va n vc).ownBlock ≠ some g) (hl : n + T.length ≤ 1073741824) :
    Calls Tryz.prog 35 #[.slice va n vc, .int .u8 (mk : Nat), .slice a T.length c] w fun e w' => ∃ va' vc', e = .returned (.slice va' (n + 1 + T.length + 2) vc') ∧ Hid (Gro w0 w' B (.slice va' (n + 1 + T.length + 2) vc') (n + 1 + T.length + 2) (l ++ [mk] ++ T ++ [13, 10])) := by
  obtain ⟨i5, hi5, hz5, hs5, hb5⟩ := info_partsS Tryz.info5s
  have H := hide h
  have HT := hide hT
  have HO := hide ho
  clear h hT ho
  have al1 : Hid (Below w.heap.size w (w.alloc (.cells #[.int .u8 (mk : Nat)] 5))) := hide ((Below.refl _ _).alloc (Nat.le_refl _) _)
  have mb1 : Hid (Bytes (w.alloc (.cells #[.int .u8 (mk : Nat)] 5)) (some ⟨w.heap.size, 0, none⟩) [mk]) := hide (made_bytes w [mk])
  go_enter Tryz.func35, Tryz.ntmps35
  have AL : Hid (∀ W : World, ∀ o, Below W.heap.size W (W.alloc o)) := hide (fun W o => (Below.refl _ _).alloc (Nat.le_refl _) _)
  have MB : Hid (∀ W : World, Bytes (W.alloc (.cells #[.int .u8 13, .int .u8 10] 5)) (some ⟨W.heap.size, 0, none⟩) [13, 10]) := hide (fun W => made_bytes W [13, 10])
  have ST : Hid (∀ v1 w1, Rws w1 5 1 v1 (n + [mk].length) (fun k => if k < n then byV l k else byV [mk] (k - n)) → Gw (w.alloc (.cells #[.int .u8 (mk : Nat)] 5)) w1 (.slice va n vc) v1 → Gro w0 w1 B v1 (n + 1) (l ++ [mk]) ∧ Bytes w1 a T) := hide (fun v1 w1 h1 g1 => ⟨((unhide H).below (unhide al1)).app h1 g1, g1.bytes ((unhide HT).below (unhide al1)) (unhide HO)⟩)
  go_wp2_with (first
    | (at_builtin; refine append_bytes rfl _ _ 25 rfl i5 Tryz.underlying25 hi5 hz5 hs5 hb5 (.slice va n vc) n (byV l) rfl ((unhide H).row.below (unhide al1)) (some ⟨w.heap.size, 0, none⟩) 1 [mk] rfl (unhide mb1) (by simp; omega) ?_; intro v1 w1 h1 g1; have HG1 := hide (unhide ST _ _ h1 g1); obtain ⟨a1, c1, rfl⟩ := h1.shape; clear h1 g1)
    | (at_builtin; refine append_bytes rfl _ _ 25 rfl i5 Tryz.underlying25 hi5 hz5 hs5 hb5 (.slice a1 (n + 1) c1) (n + 1) (byV (l ++ [mk])) rfl (unhide HG1).1.row a c T rfl (unhide HG1).2 (by omega) ?_; intro v2 w2 h2 g2; have HG2 := hide ((unhide HG1).1.app h2 g2); obtain ⟨a2, c2, rfl⟩ := h2.shape; clear h2 g2)
    | (at_builtin; refine append_bytes rfl _ _ 25 rfl i5 Tryz.underlying25 hi5 hz5 hs5 hb5 (.slice a2 (n + 1 + T.length) c2) (n + 1 + T.length) (byV (l ++ [mk] ++ T)) rfl ((unhide HG2).row.below (unhide AL _ _)) (some ⟨w2.heap.size, 0, none⟩) 2 [13, 10] rfl (unhide MB w2) (by simp; omega) ?_; intro v3 w3 h3 g3; have HG3 := hide (((unhide HG2).below (unhide AL _ _)).app h3 g3); obtain ⟨a3, c3, rfl⟩ := h3.shape; clear h3 g3))
  go_ret
  exact ⟨_, _, rfl, HG3⟩
theorem Gro.start (w : World) (B : Nat) (hB : B ≤ w.heap.size) : Gro w w B (.slice none 0 0) 0 [] := ⟨Below.refl _ _, hB, .inl ⟨rfl, rfl⟩, fun g hg => by simp [Value.ownBlock] at hg, rfl⟩
theorem spell_short (n : Int) (h1 : -9223372036854775808 ≤ n) (h2 : n ≤ 9223372036854775807) : (Larder.spellI n).length ≤ 21 := by
  unfold Larder.spellI
  rw [Larder.nums_length]
  exact Lib.itoa_length_le n h1 h2
def numL (mk : Nat) (n : Int) : List Nat := [mk] ++ Larder.spellI n ++ [13, 10]
theorem addnum_any (w0 w : World) (B : Nat) (va : Option Addr) (n vc mk : Nat) (l : List Nat) (x : Int) (h : Gro w0 w B (.slice va n vc) n l) (ht : Tab w) (hx : -9223372036854775808 ≤ x ∧ x ≤ 9223372036854775807) (hl : n ≤ 536870912) :
    Calls Tryz.prog 36 #[.slice va n vc, .int .u8 (mk : Nat), .int .i64 x] w fun e w' => ∃ va' n' vc', e = .returned (.slice va' n' vc') ∧ Hid (Gro w0 w' B (.slice va' n' vc') n' (l ++ numL mk x)) := by
  have CT : Hid (Calls Tryz.prog 58 #[.int .i64 x] w fun e w' => ∃ a c, e = .returned (.slice a (Larder.spellI x).length c) ∧ Hid (Bytes w' a (Larder.spellI x) ∧ Below w.heap.size w w' ∧ ∀ g off, 0 < (Larder.spellI x).length → a = some ⟨g, off, none⟩ → w.heap.size ≤ g)) := hide ((text_any x (by omega) (by omega) w ht).mono (fun e w' ⟨v, h1, h2, h3⟩ => by
    obtain ⟨a, c, rfl, hb, hz⟩ := h2.shape
    refine ⟨a, c, h1, hide ⟨hb, h3, fun g off hp e => h2.ge g ?_⟩⟩
    rcases h2.rws with ⟨q, q0⟩ | ⟨b', cap, cur, q, _⟩
    · omega
    · cases q; cases e; rfl))
  have sp : (Larder.spellI x).length ≤ 21 := spell_short x (by omega) (by omega)
  have H := hide h
  clear h ht
  obtain ⟨S, hS⟩ : ∃ S, S = Larder.spellI x := ⟨_, rfl⟩
  unfold numL
  rw [← hS] at CT sp ⊢
  clear hS
  go_enter Tryz.func36, Tryz.ntmps36
  go_wp2_with (go_at_call 58; refine (unhide CT).mono ?_; rintro e w1 ⟨a1, c1, rfl, k1⟩)
  refine (addline_any w0 w1 B va a1 n vc c1 mk l S ((unhide H).below (unhide k1).2.1) (unhide k1).1 (fun g off hp e e2 => ?_) (by omega)).mono ?_
  · have h1 := (unhide k1).2.2 g off hp e
    have h2 := (unhide H).row.lt g e2
    omega
  · rintro e w2 ⟨a2, c2, rfl, k2⟩
    go_wp2
    go_ret
    exact ⟨_, _, _, rfl, by simpa using k2⟩
end Go.Proofs.YtecfgbjnjgjkoaaGreatDoor
