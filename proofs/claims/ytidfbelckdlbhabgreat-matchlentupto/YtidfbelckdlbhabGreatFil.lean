/- Fill. -/
import Derived.Shelf.LaysM
import Derived.Shelf.Bytes.SlCut
import Derived.Shelf.Bytes.IndexByte
import Derived.Shelf.Bytes.SlIndexAt
import Derived.Test.YtidfbelckdlbhabGreatProg
import Derived.Test.YtidfbelckdlbhabGreatCnc
import Derived.Test.YtidfbelckdlbhabGreatFpl
import Derived.Test.YtidfbelckdlbhabGreatPcs
import Derived.Test.YtidfbelckdlbhabGreatCpE
import Derived.Lib.SlBytesConst
import Derived.OwnWalk
namespace Go.Proofs
open Go.Shelf
def Tryz.lays187_ren : Go.Shelf.Ren := ⟨fun | 187 => 36 | 255 => 62 | n => n, fun | 37 => 34 | 5 => 5 | 3 => 3 | n => n, fun | n => n⟩
theorem Tryz.lays187 : Go.Proofs.Lays.n187 Tryz.prog Tryz.lays187_ren := {
  mixed := by kernel_rfl
  f187 := Tryz.func36.trans (congrArg some (by kernel_rfl))
  f255 := Tryz.func62.trans (congrArg some (by kernel_rfl))
  t3 := Tryz.underlying3
  a3 := Tryz.isAgg3
  z3 := Tryz.sizeOf3
  v3 := Tryz.zeroValue3
  t5 := Tryz.underlying5
  a5 := Tryz.isAgg5
  z5 := Tryz.sizeOf5
  v5 := Tryz.zeroValue5
  t37 := Tryz.underlying34
  a37 := Tryz.isAgg34
  z37 := Tryz.sizeOf34
  v37 := Tryz.zeroValue34 }
def Tryz.laysM185_ren : Go.Shelf.Ren := ⟨fun | 185 => 63 | 187 => 36 | 115 => 89 | 253 => 90 | 224 => 91 | 254 => 92 | 255 => 62 | 291 => 104 | n => n, fun | 37 => 34 | 3 => 3 | 4 => 4 | 0 => 0 | 5 => 5 | 46 => 133 | 9 => 9 | 146 => 166 | 51 => 165 | n => n, fun | 1 => 0 | n => n⟩
theorem Tryz.laysM185 : Go.Proofs.LaysM.n185 Tryz.prog Tryz.laysM185_ren := {
  mixed := by kernel_rfl
  f115 := Tryz.func89.trans (congrArg some (by kernel_rfl))
  f185 := Tryz.func63.trans (congrArg some (by kernel_rfl))
  f187 := Tryz.func36.trans (congrArg some (by kernel_rfl))
  f224 := Tryz.func91.trans (congrArg some (by kernel_rfl))
  f253 := Tryz.func90.trans (congrArg some (by kernel_rfl))
  f254 := Tryz.func92.trans (congrArg some (by kernel_rfl))
  f255 := Tryz.func62.trans (congrArg some (by kernel_rfl))
  f291 := Tryz.func104.trans (congrArg some (by kernel_rfl))
  t0 := Tryz.underlying0
  a0 := Tryz.isAgg0
  z0 := Tryz.sizeOf0
  v0 := Tryz.zeroValue0
  t3 := Tryz.underlying3
  a3 := Tryz.isAgg3
  z3 := Tryz.sizeOf3
  v3 := Tryz.zeroValue3
  t4 := Tryz.underlying4
  a4 := Tryz.isAgg4
  z4 := Tryz.sizeOf4
  v4 := Tryz.zeroValue4
  t5 := Tryz.underlying5
  a5 := Tryz.isAgg5
  z5 := Tryz.sizeOf5
  v5 := Tryz.zeroValue5
  t9 := Tryz.underlying9
  a9 := Tryz.isAgg9
  z9 := Tryz.sizeOf9
  v9 := Tryz.zeroValue9
  t37 := Tryz.underlying34
  a37 := Tryz.isAgg34
  z37 := Tryz.sizeOf34
  v37 := Tryz.zeroValue34
  t46 := Tryz.underlying133
  a46 := Tryz.isAgg133
  z46 := Tryz.sizeOf133
  v46 := Tryz.zeroValue133
  t51 := Tryz.underlying165
  a51 := Tryz.isAgg165
  z51 := Tryz.sizeOf165
  v51 := Tryz.zeroValue165
  t146 := Tryz.underlying166
  a146 := Tryz.isAgg166
  z146 := Tryz.sizeOf166
  v146 := Tryz.zeroValue166
  g1 := by kernel_rfl
  i0 := by kernel_rfl
  i3 := by kernel_rfl
  i4 := by kernel_rfl
  i5 := by kernel_rfl
  i9 := by kernel_rfl
  i37 := by kernel_rfl
  i46 := by kernel_rfl
  i51 := by kernel_rfl
  i146 := by kernel_rfl
  m1 := by kernel_rfl
  s1_3 := fun w h => Go.Proofs.cell_of_shapedOpen_int (zero := #[.int .i64 0]) (t := 3) h (of_decide_eq_true (by kernel_rfl)) (by kernel_rfl) rfl (by kernel_rfl) (by kernel_rfl) Tryz.underlying3 }
def Tryz.laysSlT4_ren : Go.Shelf.Ren := ⟨fun | 4 => 37 | 5 => 63 | 6 => 36 | 7 => 89 | 8 => 90 | 9 => 91 | 10 => 92 | 11 => 62 | 12 => 104 | n => n, fun | 22 => 34 | 4 => 4 | 3 => 3 | 0 => 0 | 5 => 5 | 29 => 133 | 9 => 9 | 31 => 166 | 30 => 165 | n => n, fun | 0 => 0 | n => n⟩
theorem Tryz.laysSlT4 : Go.Proofs.SlLaysT.n4 Tryz.prog Tryz.laysSlT4_ren := {
  mixed := by kernel_rfl
  f4 := Tryz.func37.trans (congrArg some (by kernel_rfl))
  f5 := Tryz.func63.trans (congrArg some (by kernel_rfl))
  f6 := Tryz.func36.trans (congrArg some (by kernel_rfl))
  f7 := Tryz.func89.trans (congrArg some (by kernel_rfl))
  f8 := Tryz.func90.trans (congrArg some (by kernel_rfl))
  f9 := Tryz.func91.trans (congrArg some (by kernel_rfl))
  f10 := Tryz.func92.trans (congrArg some (by kernel_rfl))
  f11 := Tryz.func62.trans (congrArg some (by kernel_rfl))
  f12 := Tryz.func104.trans (congrArg some (by kernel_rfl))
  t0 := Tryz.underlying0
  a0 := Tryz.isAgg0
  z0 := Tryz.sizeOf0
  v0 := Tryz.zeroValue0
  t3 := Tryz.underlying3
  a3 := Tryz.isAgg3
  z3 := Tryz.sizeOf3
  v3 := Tryz.zeroValue3
  t4 := Tryz.underlying4
  a4 := Tryz.isAgg4
  z4 := Tryz.sizeOf4
  v4 := Tryz.zeroValue4
  t5 := Tryz.underlying5
  a5 := Tryz.isAgg5
  z5 := Tryz.sizeOf5
  v5 := Tryz.zeroValue5
  t9 := Tryz.underlying9
  a9 := Tryz.isAgg9
  z9 := Tryz.sizeOf9
  v9 := Tryz.zeroValue9
  t22 := Tryz.underlying34
  a22 := Tryz.isAgg34
  z22 := Tryz.sizeOf34
  v22 := Tryz.zeroValue34
  t29 := Tryz.underlying133
  a29 := Tryz.isAgg133
  z29 := Tryz.sizeOf133
  v29 := Tryz.zeroValue133
  t30 := Tryz.underlying165
  a30 := Tryz.isAgg165
  z30 := Tryz.sizeOf165
  v30 := Tryz.zeroValue165
  t31 := Tryz.underlying166
  a31 := Tryz.isAgg166
  z31 := Tryz.sizeOf166
  v31 := Tryz.zeroValue166
  g0 := by kernel_rfl }
open Go.RowKit Go.Lib in
theorem Tryz.bytes_IndexByte_at (a : Addr) (n c : Nat) (xs : List Int) (cv : Int) (w : World) (hx : xs.length = n) (hc : ∀ i, i < n → w.cell? (a.add i) = some (.int .u8 (xs.getD i 0))) :
    Calls Tryz.prog 36 #[.slice (some a) n c, .int .u8 cv] w fun e w' => e = .returned (.int .i64 (Lib.indexByte (Lib.bytesOf xs) cv.toNat.toUInt8)) ∧ w' = w := Any.bytes_IndexByte_at Tryz.lays187 a n c xs cv w hx hc
theorem Tryz.bytes_Cut_all (p1 p2 : Option Addr) (n c1 k c2 : Nat) (xs ys : List Int) (m : Int) (w : World) (hx : xs.length = n) (hy : ys.length = k) (hr1 : ∀ x ∈ xs, 0 ≤ x ∧ x < 256) (hr2 : ∀ y ∈ ys, 0 ≤ y ∧ y < 256) (h1 : Lib.BytesIn w p1 n xs) (h2 : Lib.BytesIn w p2 k ys) (hp1 : p1 = none → c1 = 0) (hcap : n ≤ c1) (hs : n < 4294967281) (hk : k ≤ 9223372036854775807) (hm : w.cell? ⟨0, 0, none⟩ = some (.int .i64 m)) :
    Calls Tryz.prog 37 #[.slice p1 n c1, .slice p2 k c2] w fun e w' => e = .returned (Lib.cutV p1 n c1 k (Lib.index (Lib.bytesOf xs) (Lib.bytesOf ys))) ∧ ∃ q, w' = w.drewN q := Any.bytes_Cut_all Tryz.laysSlT4 p1 p2 n c1 k c2 xs ys m w hx hy hr1 hr2 h1 h2 hp1 hcap hs hk hm
theorem Tryz.bytes_IndexByte_nil (cv : Int) (w : World) :
    Calls Tryz.prog 36 #[.slice none 0 0, .int .u8 cv] w fun e w' => e = .returned (.int .i64 (-1)) ∧ w' = w := Any.bytes_IndexByte_nil Tryz.lays187 cv w
end Go.Proofs
namespace Go.Proofs.YtidfbelckdlbhabGreat
open Go.ChangeShapes Go.WideShapes Go.ChangeAt Go.RowKit
set_option linter.unusedVariables false
set_option maxRecDepth 20000
set_option maxHeartbeats 1000000

theorem Bytes.take {w : World} {a : Option Addr} {l : List Nat} (h : Bytes w a l) (k : Nat) : Bytes w a (l.take k) := by
  rcases h with rfl | ⟨b, off, rfl, hb, hc⟩
  · exact .inl (by simp)
  · refine .inr ⟨b, off, rfl, hb, fun i hi => ?_⟩
    rw [List.length_take] at hi
    rw [hc i (by omega), List.getD_eq_getElem?_getD, List.getD_eq_getElem?_getD, List.getElem?_take, if_pos (by omega)]
theorem Bytes.drop {w : World} {x : Addr} {l : List Nat} (h : Bytes w (some x) l) (k : Nat) : Bytes w (some (x.add k)) (l.drop k) := by
  rcases h with rfl | ⟨b, off, h, hb, hc⟩
  · exact .inl (by simp)
  · cases h
    refine .inr ⟨b, off + k, by rw [add_plain], hb, fun i hi => ?_⟩
    rw [List.length_drop] at hi
    rw [Nat.add_assoc, hc (k + i) (by omega), List.getD_eq_getElem?_getD, List.getD_eq_getElem?_getD, List.getElem?_drop]
theorem Bytes.plain {w : World} {x : Addr} {l : List Nat} (h : Bytes w (some x) l) (i : Nat) (hi : i < l.length) : w.cell? (x.add i) = some (.int .u8 ((l.map Int.ofNat).getD i 0)) := by
  rcases h with rfl | ⟨b, off, h, hb, hc⟩
  · simp at hi
  · cases h
    rw [add_plain, hc i hi]
    simp [List.getD_eq_getElem?_getD, hi]

/-- Fill's answer -/
def FillEnd (P T : List Nat) (w : World) (e : Ending) (w' : World) : Prop := ∃ a1 c1 a2 c2 K F s, e = .returned (.tuple #[.slice a1 K.length c1, .slice a2 F.length c2, .bool s]) ∧ Larder.FillIs P T K F s ∧ Bytes w' a1 K ∧ Bytes w' a2 F ∧ Below w.heap.size w w'

/-- the same, with whose memory it is -/
def FillEndO (P T : List Nat) (w : World) (e : Ending) (w' : World) : Prop := ∃ a1 c1 a2 c2 K F s, e = .returned (.tuple #[.slice a1 K.length c1, .slice a2 F.length c2, .bool s]) ∧ Larder.FillIs P T K F s ∧ Bytes w' a1 K ∧ Bytes w' a2 F ∧ Below w.heap.size w w' ∧ OwnB w' w.heap.size (.slice a1 K.length c1) K ∧ OwnB w' w.heap.size (.slice a2 F.length c2) F ∧ ∀ g, (Value.slice a1 K.length c1).ownBlock = some g → (Value.slice a2 F.length c2).ownBlock ≠ some g
theorem FillEndO.end {P T : List Nat} {w : World} {e : Ending} {w' : World} (h : FillEndO P T w e w') : FillEnd P T w e w' := by
  obtain ⟨a1, c1, a2, c2, K, F, s, h1, h2, h3, h4, h5, -⟩ := h
  exact ⟨a1, c1, a2, c2, K, F, s, h1, h2, h3, h4, h5⟩
theorem ownB_nil (w : World) (b : Nat) : OwnB w b (.slice none 0 0) [] := ⟨rfl, .inl ⟨rfl, rfl⟩⟩
theorem OwnB.lt' {w : World} {b : Nat} {v : Value} {l : List Nat} (h : OwnB w b v l) : ∀ g, v.ownBlock = some g → b ≤ g ∧ g < w.heap.size := fun g hg => by
  rcases h.2 with ⟨rfl, h2⟩ | ⟨g', cap, cur, rfl, h2, h3, _⟩
  · simp [Value.ownBlock] at hg
  · simp [Value.ownBlock] at hg
    subst hg
    exact ⟨h2, (Array.getElem?_eq_some_iff.1 h3).1⟩
theorem fill_some (x : Addr) (b : Option Addr) (n n2 c d : Nat) (w : World) (P T : List Nat) (m : Int) (hn : n = P.length) (hn2 : n2 = T.length) (hP : P.length ≤ 1048576) (hT : T.length ≤ 1048576) (hs : Small P) (hB : Bytes w (some x) P) (hB2 : Bytes w b T) (hc : P.length ≤ c) (hc2 : c ≤ 9223372036854775807) (hz2 : b = none → d = 0) (hm : w.cell? ⟨0, 0, none⟩ = some (.int .i64 m)) (h00 : 0 < w.heap.size) :
    Calls Tryz.prog 16 #[.slice (some x) n c, .slice b n2 d] w (FillEndO P T w) := by
  have I1 : Hid (Calls Tryz.prog 36 #[.slice (some x) n c, .int .u8 42] w fun e w' => e = .returned (.int .i64 (Lib.indexByte (Lib.bytesOf (P.map Int.ofNat)) (42 : Int).toNat.toUInt8)) ∧ w' = w) := hide (Tryz.bytes_IndexByte_at x n c (P.map Int.ofNat) 42 w (by simp [hn]) (fun i hi => hB.plain i (by omega)))
  have HN := hide hn
  have HN2 := hide hn2
  rw [← hn] at hP hc
  rw [← hn2] at hT
  rcases Larder.star_range (Lib.bytesOf (P.map Int.ofNat)) (42 : Int).toNat.toUInt8 with hi | ⟨o, hi⟩
  · rw [hi] at I1
    have hF : Hid (Larder.FillIs P T [] [] false) := hide (Larder.fill_star (Larder.star_none hi))
    clear hi hB hB2 hm hn hn2
    go_enter Tryz.func16, Tryz.ntmps16
    go_wp2_with (go_at_call 36; refine (unhide I1).mono ?_; rintro e w1 ⟨rfl, rfl⟩)
    all_goals go_ret3
    all_goals exact ⟨none, 0, none, 0, [], [], false, rfl, unhide hF, .inl rfl, .inl rfl, Below.refl _ _, ownB_nil _ _, ownB_nil _ _, fun g hg => by simp [Value.ownBlock] at hg⟩
  · rw [hi] at I1
    obtain ⟨g1, g2, g3⟩ := Larder.star_some hs hi
    obtain ⟨g0, off, hx, hlt, hcel⟩ := hB.at (by omega)
    cases hx
    clear hcel
    have hlen : (P.drop (o + 1)).length = n - (o + 1) := by rw [List.length_drop, ← hn]
    have hsR : Small (P.drop (o + 1)) := fun i hi => by
      rw [List.length_drop] at hi
      have := hs (o + 1 + i) (by omega)
      rw [List.getD_eq_getElem?_getD] at this
      rw [List.getD_eq_getElem?_getD, List.getElem?_drop]
      exact this
    have hTk : (P.take o).length = o := by rw [List.length_take]; omega
    have hW2 : Below w.heap.size w (w.alloc (.cells #[.int .u8 45, .int .u8 62] 5 (2, 3))).drew := ((Below.refl _ _).alloc (Nat.le_refl _) _).drew
    have hcut : ∀ ar cr, Bytes w ar (P.drop (o + 1)) → n - (o + 1) ≤ cr → (ar = none → cr = 0) → Calls Tryz.prog 37 #[.slice ar (n - (o + 1)) cr, .slice (some ⟨w.heap.size, 0, none⟩) 2 2] (w.alloc (.cells #[.int .u8 45, .int .u8 62] 5 (2, 3))).drew fun e w' => e = .returned (Lib.cutV ar (n - (o + 1)) cr 2 (Lib.index (Lib.bytesOf ((P.drop (o + 1)).map Int.ofNat)) (Lib.bytesOf [45, 62]))) ∧ Hid (Below w.heap.size w w') := fun ar cr hR hcr hzr => by
      refine (Tryz.bytes_Cut_all ar (some ⟨w.heap.size, 0, none⟩) (n - (o + 1)) cr 2 2 ((P.drop (o + 1)).map Int.ofNat) [45, 62] m (w.alloc (.cells #[.int .u8 45, .int .u8 62] 5 (2, 3))).drew (by rw [List.length_map, hlen]) rfl (fun y hy => ?_) (by decide) (fun h0 => ?_) (fun _ => ⟨w.heap.size, 0, rfl, fun i hi => ?_⟩) hzr hcr (by omega) (by decide) ?_).mono ?_
      · obtain ⟨z, hz, rfl⟩ := List.mem_map.1 hy
        obtain ⟨i, hi, rfl⟩ := List.mem_iff_getElem.1 hz
        have := hsR i hi
        rw [List.getD_eq_getElem?_getD, List.getElem?_eq_getElem hi] at this
        simp only [Option.getD_some] at this
        exact ⟨Int.natCast_nonneg _, Int.ofNat_lt.2 this⟩
      · obtain ⟨bb, oo, e, _, hcc⟩ := (hR.below hW2).at (by omega)
        refine ⟨bb, oo, e, fun i hi => ?_⟩
        rw [hcc i (by omega)]
        simp [List.getD_eq_getElem?_getD, show o + 1 + i < P.length by omega]
      · show (w.alloc (.cells #[.int .u8 45, .int .u8 62] 5 (2, 3))).cell? _ = _
        rw [World.cell?_alloc_mark]
        match i, hi with
        | 0, _ => rfl
        | 1, _ => rfl
      · show (w.alloc (.cells #[.int .u8 45, .int .u8 62] 5 (2, 3))).cell? _ = _
        exact Lib.cell?_alloc_marked _ hm
      · rintro e w' ⟨h1, q, rfl⟩
        exact ⟨h1, hide ⟨rfl, rfl, rfl, hW2.size, hW2.block⟩⟩
    have hcat : ∀ ar k cr (R : List Nat), k = R.length → R.length ≤ 1048576 → Bytes w ar R → (ar = none → cr = 0) → Hid (∀ W, Hid (Below w.heap.size w W) → Calls Tryz.prog 38 #[.slice (some ⟨W.heap.size, 0, none⟩) 3 3] (W.alloc (.cells #[.slice (some ⟨g0, off, none⟩) o c, .slice b n2 d, .slice ar k cr] 34)) fun e w' => ∃ v, e = .returned v ∧ Hid (OwnB w' W.heap.size v (P.take o ++ T ++ R) ∧ Below W.heap.size W w')) := fun ar k cr R hk hR1 hR hzr => hide (fun W hW => by
      have hb := unhide hW
      have hb2 : Below W.heap.size W (W.alloc (.cells #[.slice (some ⟨g0, off, none⟩) o c, .slice b n2 d, .slice ar k cr] 34)) := (Below.refl _ _).alloc (Nat.le_refl _) _
      have hrow := heap_alloc_new W (.cells #[.slice (some ⟨g0, off, none⟩) o c, .slice b n2 d, .slice ar k cr] 34)
      have hbw := chain hb hb2 (Nat.le_refl _)
      refine (concat3 _ W.heap.size (some ⟨g0, off, none⟩) b ar c d cr (P.take o) T R (by omega) ?_ ?_ ?_ ((hB.take o).below hbw) (hB2.below hbw) (hR.below hbw) (by simp) (fun h => by cases h) hz2 hzr).mono ?_
      · rw [cell_of_row _ _ _ _ _ _ hrow, hTk]; rfl
      · rw [cell_of_row _ _ _ _ _ _ hrow, ← hn2]; rfl
      · rw [cell_of_row _ _ _ _ _ _ hrow, ← hk]; rfl
      · rintro e w' ⟨v, h1, h2, h3⟩
        exact ⟨v, h1, hide ⟨h2.mono (by simp), chain hb2 h3 (Nat.le_refl _)⟩⟩)
    have kcv : (convert 34 34 (.slice (some ⟨w.heap.size, 0, none⟩) 2 2)).run Tryz.prog (w.alloc (.cells #[.int .u8 45, .int .u8 62] 5)).drew = .ok (.slice (some ⟨w.heap.size, 0, none⟩) 2 2) (w.alloc (.cells #[.int .u8 45, .int .u8 62] 5 (2, 3))).drew := Lib.run_convert_bytes_const (P := Tryz.prog) w.drew 34 5 #[.int .u8 45, .int .u8 62] 2 2 Tryz.underlying34 Tryz.underlying5
    have k1 : decide ((o : Int) < 0) = false := decide_eq_false (by omega)
    have k2 : IntKind.i64.wrap ((o : Int) + 1) = ((o + 1 : Nat) : Int) := by rw [IntKind.wrap_i64]; omega
    rw [← hn] at g1
    have hPl : n - (o + 1) = (P.drop (o + 1)).length := hlen.symm
    by_cases hco : c = o + 1
    · have hnil : P.drop (o + 1) = [] := List.eq_nil_of_length_eq_zero (by omega)
      have C2 := hide (hcut (some ⟨g0, off, none⟩) 0 (by rw [hnil]; exact .inl rfl) (by omega) (fun h => by cases h))
      have C4 := hcat (some ⟨g0, off, none⟩) 0 0 [] rfl (by simp) (.inl rfl) (fun h => by cases h)
      have hF : Hid (Larder.FillIs P T (P.take o ++ T ++ []) [] true) := hide (by
        have := Larder.fill_plain (T := T) (by omega) g2 g3 (fun j hj => by rw [hnil] at hj; simp at hj)
        rwa [hnil] at this)
      have hi0 : Lib.index (Lib.bytesOf ((P.drop (o + 1)).map Int.ofNat)) (Lib.bytesOf [45, 62]) = -1 := by rw [hnil]; rfl
      rw [hi0, show n - (o + 1) = 0 by omega] at C2
      have e2 : Lib.cutV (some ⟨g0, off, none⟩) 0 0 2 (-1) = .tuple #[.slice (some ⟨g0, off, none⟩) 0 0, .slice none 0 0, .bool false] := rfl
      rw [e2] at C2
      subst hco
      clear hcut hcat hW2 hsR hlen hTk hi hB hB2 hm hs g2 g3 hn hn2 hPl hlt hnil hi0 e2
      go_enter Tryz.func16, Tryz.ntmps16
      go_wp2_with (first | (go_at_call 36; refine (unhide I1).mono ?_; rintro e w1 ⟨rfl, hw1⟩; cases hw1) | fail)
      go_region
      all_goals go_wp2_with (first | (go_at_call 37; refine (unhide C2).mono ?_; rintro e w2 ⟨rfl, hb2⟩) | (go_at_call 38; refine (unhide C4 _ hb2).mono ?_; rintro e w4 ⟨v4, rfl, h4⟩) | fail)
      all_goals go_ret3
      all_goals obtain ⟨a4, c4, rfl, b4, _⟩ := (unhide h4).1.shape
      all_goals exact ⟨a4, c4, none, 0, _, [], true, rfl, unhide hF, b4, .inl rfl, chain (unhide hb2) (unhide h4).2 (Nat.le_refl _), (unhide h4).1.mono (unhide hb2).size, ownB_nil _ _, fun g _ hg => by simp [Value.ownBlock] at hg⟩
    · have hR : Bytes w (some ⟨g0, off + (o + 1), none⟩) (P.drop (o + 1)) := by
        have := hB.drop (o + 1)
        rwa [add_plain] at this
      have C2 := hide (hcut (some ⟨g0, off + (o + 1), none⟩) (c - (o + 1)) hR (by omega) (fun h => by cases h))
      rcases Larder.arrow_of hsR with ⟨hi0, hno⟩ | ⟨i, hi0, hi1, hi2, hi3⟩
      · rw [hi0] at C2
        have e2 : ∀ p q r, Lib.cutV p q r 2 (-1) = .tuple #[.slice p q r, .slice none 0 0, .bool false] := fun _ _ _ => rfl
        rw [e2] at C2
        have C4 := hcat (some ⟨g0, off + (o + 1), none⟩) (n - (o + 1)) (c - (o + 1)) (P.drop (o + 1)) hPl (by omega) hR (fun h => by cases h)
        have hF : Hid (Larder.FillIs P T (P.take o ++ T ++ P.drop (o + 1)) [] true) := hide (Larder.fill_plain (by omega) g2 g3 (fun j hj => hno j (by omega)))
        clear hcut hcat hW2 hsR hlen hTk hi hB hB2 hm hs g2 g3 hn hn2 hPl hlt hR hi0 hno e2
        go_enter Tryz.func16, Tryz.ntmps16
        go_wp2_with (first | (go_at_call 36; refine (unhide I1).mono ?_; rintro e w1 ⟨rfl, hw1⟩; cases hw1) | fail)
        go_region
        all_goals go_wp2_with (first | (go_at_call 37; refine (unhide C2).mono ?_; rintro e w2 ⟨rfl, hb2⟩) | (go_at_call 38; refine (unhide C4 _ hb2).mono ?_; rintro e w4 ⟨v4, rfl, h4⟩) | fail)
        all_goals go_ret3
        all_goals obtain ⟨a4, c4, rfl, b4, _⟩ := (unhide h4).1.shape
        all_goals exact ⟨a4, c4, none, 0, _, [], true, rfl, unhide hF, b4, .inl rfl, chain (unhide hb2) (unhide h4).2 (Nat.le_refl _), (unhide h4).1.mono (unhide hb2).size, ownB_nil _ _, fun g _ hg => by simp [Value.ownBlock] at hg⟩
      · rw [hi0] at C2
        have e2 : ∀ p q r, Lib.cutV p q r 2 (i : Int) = .tuple #[.slice p i r, Lib.fromV p q r (i + 2), .bool true] := fun p q r => by
          unfold Lib.cutV
          rw [if_pos (by omega)]
          simp
        rw [e2] at C2
        by_cases hlast : i + 2 = n - (o + 1)
        · have C4 := hcat (some ⟨g0, off + (o + 1), none⟩) (n - (o + 1)) (c - (o + 1)) (P.drop (o + 1)) hPl (by omega) hR (fun h => by cases h)
          have hF : Hid (Larder.FillIs P T (P.take o ++ T ++ P.drop (o + 1)) [] true) := hide (Larder.fill_plain (by omega) g2 g3 (fun j hj => hi3 j (by omega)))
          obtain ⟨an, cn, e3⟩ : ∃ an cn, Lib.fromV (some ⟨g0, off + (o + 1), none⟩) (n - (o + 1)) (c - (o + 1)) (i + 2) = .slice an 0 cn := ⟨_, _, by unfold Lib.fromV; rw [hlast, Nat.sub_self]⟩
          rw [e3] at C2
          clear hcut hcat hW2 hsR hlen hTk hi hB hB2 hm hs g2 g3 hn hn2 hPl hlt hR hi0 hi1 hi2 hi3 e2 e3 hlast
          go_enter Tryz.func16, Tryz.ntmps16
          go_wp2_with (first | (go_at_call 36; refine (unhide I1).mono ?_; rintro e w1 ⟨rfl, hw1⟩; cases hw1) | fail)
          go_region
          all_goals go_wp2_with (first | (go_at_call 37; refine (unhide C2).mono ?_; rintro e w2 ⟨rfl, hb2⟩) | (go_at_call 38; refine (unhide C4 _ hb2).mono ?_; rintro e w4 ⟨v4, rfl, h4⟩) | fail)
          all_goals go_ret3
          all_goals obtain ⟨a4, c4, rfl, b4, _⟩ := (unhide h4).1.shape
          all_goals exact ⟨a4, c4, none, 0, _, [], true, rfl, unhide hF, b4, .inl rfl, chain (unhide hb2) (unhide h4).2 (Nat.le_refl _), (unhide h4).1.mono (unhide hb2).size, ownB_nil _ _, fun g _ hg => by simp [Value.ownBlock] at hg⟩
        · have hlt2 : i + 2 < n - (o + 1) := by omega
          have C4 := hcat (some ⟨g0, off + (o + 1), none⟩) i (c - (o + 1)) ((P.drop (o + 1)).take i) (by rw [List.length_take]; omega) (by rw [List.length_take]; omega) (hR.take i) (fun h => by cases h)
          have hF : Hid (Larder.FillIs P T (P.take o ++ T ++ (P.drop (o + 1)).take i) ((P.drop (o + 1)).drop (i + 2)) true) := hide (Larder.fill_field (by omega) g2 g3 (by omega) hi2 hi3)
          obtain ⟨nn, enn⟩ : ∃ nn, nn = n - (o + 1) - (i + 2) := ⟨_, rfl⟩
          obtain ⟨an, cn, e3, hRn⟩ : ∃ an cn, Lib.fromV (some ⟨g0, off + (o + 1), none⟩) (n - (o + 1)) (c - (o + 1)) (i + 2) = .slice an nn cn ∧ Bytes w an ((P.drop (o + 1)).drop (i + 2)) := by
            have hd := hR.drop (i + 2)
            refine ⟨_, _, by unfold Lib.fromV; rw [if_neg (by omega), enn], ?_⟩
            exact hd
          rw [e3] at C2
          have C3 : Hid (∀ W, Hid (Below w.heap.size w W) → Calls Tryz.prog 29 #[.slice an nn cn] W fun e w' => ∃ v, e = .returned v ∧ Hid (OwnB w' w.heap.size v ((P.drop (o + 1)).drop (i + 2)) ∧ Below w.heap.size w w')) := hide (fun W hW => by
            have h := clone_any an cn W ((P.drop (o + 1)).drop (i + 2)) (by rw [List.length_drop]; omega) (hRn.below (unhide hW))
            rw [List.length_drop, hlen, ← enn] at h
            exact h.mono (fun e w' ⟨v, q1, q2, q3⟩ => ⟨v, q1, hide ⟨q2.mono (unhide hW).size, chain (unhide hW) q3 (Nat.le_refl _)⟩⟩))
          have hnn : 0 < nn := by omega
          clear hcut hcat hW2 hsR hlen hTk hi hB hB2 hm hs g2 g3 hn hn2 hPl hlt hR hi0 hi1 hi2 hi3 e2 e3 hRn enn
          go_enter Tryz.func16, Tryz.ntmps16
          go_wp2_with (first | (go_at_call 36; refine (unhide I1).mono ?_; rintro e w1 ⟨rfl, hw1⟩; cases hw1) | fail)
          go_region
          all_goals go_wp2_with (first | (go_at_call 37; refine (unhide C2).mono ?_; rintro e w2 ⟨rfl, hb2⟩) | (go_at_call 29; refine (unhide C3 _ hb2).mono ?_; rintro e w3 ⟨v3, rfl, hb3⟩) | (go_at_call 38; refine (unhide C4 _ (hide (unhide hb3).2)).mono ?_; rintro e w4 ⟨v4, rfl, h4⟩) | fail)
          all_goals go_ret3
          all_goals obtain ⟨a4, c4, rfl, b4, _⟩ := (unhide h4).1.shape
          all_goals obtain ⟨a3, c3, rfl, b3, _⟩ := (unhide hb3).1.shape
          all_goals exact ⟨a4, c4, a3, c3, _, _, true, rfl, unhide hF, b4, b3.below (unhide h4).2, chain (unhide hb3).2 (unhide h4).2 (Nat.le_refl _), (unhide h4).1.mono (unhide hb3).2.size, own_below (unhide hb3).1 (unhide h4).2, fun g h1 h2 => by have q1 := ((unhide h4).1.lt' g h1).1; have q2 := ((unhide hb3).1.lt' g h2).2; omega⟩
end Go.Proofs.YtidfbelckdlbhabGreat
