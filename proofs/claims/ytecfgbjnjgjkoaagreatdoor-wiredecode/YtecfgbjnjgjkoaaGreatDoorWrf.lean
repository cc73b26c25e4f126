/- The document's Command: the walk. -/
import Derived.Test.YtecfgbjnjgjkoaaGreatDoorSame
import Derived.Test.YtecfgbjnjgjkoaaGreatDoorTextMath
import Derived.Laws.IdiomStrings
import Derived.Laws.Concat
import Derived.Lib.ConvBytes
import Derived.Lib.SmallJoins
import Derived.Lib.ItoaLen
import Derived.Lib.SlBytesConst
import Derived.Test.YtecfgbjnjgjkoaaGreatDoorWrb
import Derived.Lib.FrozenHead
namespace Go.Proofs.YtecfgbjnjgjkoaaGreatDoor
open Go.ChangeShapes Go.WideShapes Go.ChangeAt Go.RowKit
set_option linter.unusedVariables false
theorem one_digit (u : Nat) (wr : World) :
    (convert 25 9 (.slice (some ⟨wr.heap.size, 0, none⟩) 1 1)).run Tryz.prog (wr.alloc (.cells #[.int .u8 (48 + (u : Int) % 10)] 5)) = .ok (.string ⟨[UInt8.ofNat (48 + u % 10)].toArray⟩) (wr.alloc (.cells #[.int .u8 (48 + (u : Int) % 10)] 5)) := by
  refine run_convert_bytes_back (P := Tryz.prog) _ 25 9 5 ⟨wr.heap.size, 0, none⟩ 1 [UInt8.ofNat (48 + u % 10)] Tryz.underlying25 Tryz.underlying5 Tryz.underlying9 (fun j hj => ?_)
  obtain rfl : j = 0 := by simp at hj; exact hj
  rw [add_plain, Nat.add_zero, World.cell?_alloc_new]
  have e : (UInt8.ofNat (48 + u % 10)).toNat = 48 + u % 10 := by rw [UInt8.toNat_ofNat']; omega
  have e2 : ((48 + u % 10 : Nat) : Int) = 48 + (u : Int) % 10 := by omega
  simp only [List.getElem_cons_zero, e, e2]
  rfl

theorem nums_at (S : List UInt8) (i : Nat) (hi : i < S.length) : (Larder.nums S).getD i 0 = (S.getD i 0).toNat := by
  unfold Larder.nums
  rw [List.getD_eq_getElem?_getD, List.getD_eq_getElem?_getD, List.getElem?_map, List.getElem?_eq_getElem hi]; rfl

/-- a text's bytes in new memory -/
theorem text_bytes (S : List UInt8) (T : ByteArray) (hT : T = ⟨S.toArray⟩) (w : World) :
    ∃ c w', (convert 9 25 (.string T)).run Tryz.prog w = .ok (.slice (some ⟨w.heap.size, 0, none⟩) S.length c) w' ∧ Bytes w' (some ⟨w.heap.size, 0, none⟩) (Larder.nums S) ∧ Below w.heap.size w w' := by
  have hsz : T.size = S.length := by rw [hT]; show S.toArray.size = _; simp
  have h := Lib.run_convert_string_bytes (P := Tryz.prog) w 9 25 5 T Tryz.underlying9 Tryz.underlying25 Tryz.underlying5
  rw [hsz] at h
  refine ⟨_, _, h, .inr ⟨w.heap.size, 0, rfl, ?_, fun i hi => ?_⟩, Go.Joins.below_bytesWorld _ w 5 T (Nat.le_refl _)⟩
  · rw [Lib.bytesWorld_size]; omega
  · rw [Larder.nums_length] at hi
    rw [Nat.zero_add, Lib.bytesWorld_cell w 5 T i (by omega), hT]
    exact congrArg (fun x : Nat => some (Value.int .u8 (x : Int))) (nums_at S i hi).symm

set_option maxRecDepth 100000 in
theorem rtext_pos (n : Int) (h0 : 0 < n) (h1 : n ≤ 9223372036854775807) (w : World) :
    Calls Tryz.prog 65 #[.int .i64 n] w fun e w' => ∃ a c, e = .returned (.slice a (Larder.spellI n).length c) ∧ Bytes w' a (Larder.spellI n) ∧ Below w.heap.size w w' := by
  have hlen : (Larder.pre n.toNat).length ≤ 20 := by
    rw [Larder.pre_pos _ (by omega), Lib.decDigits_length]; exact Lib.nDigits_le20 _ (by omega)
  have HL := hide hlen
  clear hlen
  have HP : Hid (Larder.spellI n = Larder.nums (Larder.pre n.toNat)) := hide (by rw [Larder.spellI_pos n (by omega), Larder.pre_pos _ (by omega)]; rfl)
  go_enter Tryz.func65, Tryz.ntmps65
  go_wp2
  go_loopw [3, 4] (fun m s wr => ∃ (u : Nat) (S : List UInt8) (T : ByteArray), (u : Int) ≤ n ∧ m = .int .i64 (-(u : Int)) ∧ s = .string T ∧ T = ⟨S.toArray⟩ ∧ Larder.pre u ++ S = Larder.pre n.toNat ∧ Below w.heap.size w wr) (fun m _ _ => (-(intOf m)).toNat)
  case atStart => exact ⟨n.toNat, [], _, by omega, by congr 1; omega, rfl, rfl, by simp, Below.refl _ _⟩
  case round =>
    obtain ⟨u, S, T, hu, rfl, rfl, hT, hS, hb⟩ := hrel
    have HS := hide hS
    have HT := hide hT
    by_cases hz : u = 0
    · subst hz
      have e2 : decide (n < 0) = false := by simp; omega
      obtain ⟨c, w', hcv, hB, hbl⟩ := text_bytes S T hT wr
      clear hS hT
      go_wp2
      go_ret
      have hS := unhide HS
      rw [Larder.pre_zero, List.nil_append] at hS
      rw [unhide HP, ← hS, Larder.nums_length]
      exact ⟨_, _, rfl, hB, hb.trans (hbl.mono hb.size)⟩
    · have hs : Larder.pre u = Larder.pre (u / 10) ++ [UInt8.ofNat (48 + u % 10)] := Larder.pre_step u (by omega)
      have Hs := hide hs
      have hsz : S.length ≤ 20 := by
        have h := congrArg List.length hS
        rw [List.length_append] at h
        have := unhide HL
        omega
      have hcv := one_digit u wr
      obtain ⟨D, hD⟩ : ∃ D : ByteArray, D = ⟨[UInt8.ofNat (48 + u % 10)].toArray⟩ := ⟨_, rfl⟩
      obtain ⟨T', hT'⟩ : ∃ T' : ByteArray, T' = ⟨(UInt8.ofNat (48 + u % 10) :: S).toArray⟩ := ⟨_, rfl⟩
      have hadd : ∀ w', (Op.stringOp .add D T).run Tryz.prog w' = .ok (.string T') w' := by
        intro w'
        rw [hD, hT, hT', run_string_add_lists w' _ S (by simp) (by omega)]; rfl
      rw [← hD] at hcv
      have HT' := hide hT'
      clear hD hT hT' hS hs
      go_wp2
      go_roundw
      case rel => 
        refine ⟨u / 10, _, T', by omega, ?_, rfl, unhide HT', ?_, ?_⟩
        · congr 1
        · have hS := unhide HS
          rw [unhide Hs, List.append_assoc] at hS
          exact hS
        · exact hb.alloc hb.size _
      case measure => 
        simp [intOf]; omega

set_option maxRecDepth 100000 in
theorem rtext_neg (n : Int) (h0 : n < 0) (h1 : -9223372036854775808 ≤ n) (w : World) :
    Calls Tryz.prog 65 #[.int .i64 n] w fun e w' => ∃ a c, e = .returned (.slice a (Larder.spellI n).length c) ∧ Bytes w' a (Larder.spellI n) ∧ Below w.heap.size w w' := by
  have hlen : (Larder.pre n.natAbs).length ≤ 20 := by
    rw [Larder.pre_pos _ (by omega), Lib.decDigits_length]; exact Lib.nDigits_le20 _ (by omega)
  have HL := hide hlen
  clear hlen
  have HP : Hid (Larder.spellI n = Larder.nums (45 :: Larder.pre n.natAbs)) := hide (by rw [Larder.spellI_neg n (by omega), Larder.pre_pos _ (by omega)]; rfl)
  go_enter Tryz.func65, Tryz.ntmps65
  go_wp2
  go_loopw [3, 4] (fun m s wr => ∃ (u : Nat) (S : List UInt8) (T : ByteArray), (u : Int) ≤ -n ∧ m = .int .i64 (-(u : Int)) ∧ s = .string T ∧ T = ⟨S.toArray⟩ ∧ Larder.pre u ++ S = Larder.pre n.natAbs ∧ Below w.heap.size w wr) (fun m _ _ => (-(intOf m)).toNat)
  case atStart => exact ⟨n.natAbs, [], _, by omega, by congr 1; omega, rfl, rfl, by simp, Below.refl _ _⟩
  case round =>
    obtain ⟨u, S, T, hu, rfl, rfl, hT, hS, hb⟩ := hrel
    have HS := hide hS
    have HT := hide hT
    by_cases hz : u = 0
    · subst hz
      have hsz : S.length ≤ 20 := by
        have h := congrArg List.length hS
        rw [List.length_append] at h
        have := unhide HL
        omega
      obtain ⟨T', hT'⟩ : ∃ T' : ByteArray, T' = ⟨(45 :: S).toArray⟩ := ⟨_, rfl⟩
      have hadd : ∀ w', (Op.stringOp .add ⟨#[45]⟩ T).run Tryz.prog w' = .ok (.string T') w' := by
        intro w'
        rw [hT, hT']
        exact run_string_add_lists w' [45] S (by simp) (by omega)
      obtain ⟨c, w', hcv, hB, hbl⟩ := text_bytes (45 :: S) T' hT' wr
      clear hT'
      clear hS hT
      go_wp2
      go_ret
      have hS := unhide HS
      rw [Larder.pre_zero, List.nil_append] at hS
      rw [unhide HP, ← hS, Larder.nums_length]
      exact ⟨_, _, rfl, hB, hb.trans (hbl.mono hb.size)⟩
    · have hs : Larder.pre u = Larder.pre (u / 10) ++ [UInt8.ofNat (48 + u % 10)] := Larder.pre_step u (by omega)
      have Hs := hide hs
      have hsz : S.length ≤ 20 := by
        have h := congrArg List.length hS
        rw [List.length_append] at h
        have := unhide HL
        omega
      have hcv := one_digit u wr
      obtain ⟨D, hD⟩ : ∃ D : ByteArray, D = ⟨[UInt8.ofNat (48 + u % 10)].toArray⟩ := ⟨_, rfl⟩
      obtain ⟨T', hT'⟩ : ∃ T' : ByteArray, T' = ⟨(UInt8.ofNat (48 + u % 10) :: S).toArray⟩ := ⟨_, rfl⟩
      have hadd : ∀ w', (Op.stringOp .add D T).run Tryz.prog w' = .ok (.string T') w' := by
        intro w'
        rw [hD, hT, hT', run_string_add_lists w' _ S (by simp) (by omega)]; rfl
      rw [← hD] at hcv
      have HT' := hide hT'
      clear hD hT hT' hS hs
      go_wp2
      go_roundw
      case rel => 
        refine ⟨u / 10, _, T', by omega, ?_, rfl, unhide HT', ?_, ?_⟩
        · congr 1
        · have hS := unhide HS
          rw [unhide Hs, List.append_assoc] at hS
          exact hS
        · exact hb.alloc hb.size _
      case measure => 
        simp [intOf]; omega

set_option maxRecDepth 100000 in
theorem rtext_zero (w : World) :
    Calls Tryz.prog 65 #[.int .i64 0] w fun e w' => ∃ a c, e = .returned (.slice a (Larder.spellI 0).length c) ∧ Bytes w' a (Larder.spellI 0) ∧ Below w.heap.size w w' := by
  have HP : Hid (Larder.spellI 0 = Larder.nums [48]) := hide (by rw [Larder.spellI_pos 0 (by omega)]; unfold Larder.spell; rw [Lib.decDigits_one (by decide)]; rfl)
  have kc := fun (w : World) (C : Array Value) (n c : Nat) => Lib.run_convert_bytes_const (P := Tryz.prog) w 25 5 C n c Tryz.underlying25 Tryz.underlying5
  go_enter Tryz.func65, Tryz.ntmps65
  go_wp2
  go_ret
  rw [unhide HP, Larder.nums_length]
  refine ⟨_, _, rfl, .inr ⟨w.heap.size, 0, rfl, by simp, fun i hi => ?_⟩, (Below.refl _ w).alloc (Nat.le_refl _) _⟩
  obtain rfl : i = 0 := by rw [Larder.nums_length] at hi; simp at hi; exact hi
  rw [World.cell?_alloc_mark]; rfl

theorem rtext_any (n : Int) (h0 : -9223372036854775808 ≤ n) (h1 : n ≤ 9223372036854775807) (w : World) :
    Calls Tryz.prog 65 #[.int .i64 n] w fun e w' => ∃ a c, e = .returned (.slice a (Larder.spellI n).length c) ∧ Bytes w' a (Larder.spellI n) ∧ Below w.heap.size w w' := by
  by_cases hp : 0 < n
  · exact rtext_pos n hp h1 w
  · by_cases hn : n < 0
    · exact rtext_neg n hn h0 w
    · obtain rfl : n = 0 := by omega
      exact rtext_zero w

end Go.Proofs.YtecfgbjnjgjkoaaGreatDoor
namespace Go.Proofs.YtecfgbjnjgjkoaaGreatDoor
open Go.ChangeShapes Go.WideShapes Go.ChangeAt Go.RowKit
set_option linter.unusedVariables false
set_option linter.unusedSimpArgs false
set_option maxRecDepth 20000
set_option maxHeartbeats 4000000

/-- bytes as a text -/
def sB (l : List Nat) : ByteArray := strOfNums (l.map Int.ofNat)
theorem sB_add (w : World) (x y : List Nat) (hx : x.length ≤ 8388608) (hy : y.length ≤ 8388608) : (Op.stringOp .add (sB x) (sB y)).run Tryz.prog w = .ok (.string (sB (x ++ y))) w := by
  have h := run_string_add_lists (P := Tryz.prog) w ((x.map Int.ofNat).map fun n => UInt8.ofNat n.toNat) ((y.map Int.ofNat).map fun n => UInt8.ofNat n.toNat) (by simp; omega) (by simp; omega)
  unfold sB strOfNums
  rw [List.map_append, List.map_append]
  exact h
theorem texted_any (n : Int) (h0 : -9223372036854775808 ≤ n) (h1 : n ≤ 9223372036854775807) (w : World) :
    Calls Tryz.prog 46 #[.int .i64 n] w fun e w' => e = .returned (.string (sB (Larder.spellI n))) ∧ Below w.heap.size w w' := by
  have CT : Hid (Calls Tryz.prog 65 #[.int .i64 n] w fun e w' => ∃ a c, e = .returned (.slice a (Larder.spellI n).length c) ∧ Hid (Below w.heap.size w w') ∧ (convert 25 9 (.slice a (Larder.spellI n).length c)).run Tryz.prog w' = .ok (.string (sB (Larder.spellI n))) w') := hide ((rtext_any n h0 h1 w).mono (fun e w' ⟨a, c, h1, h2, h3⟩ => ⟨a, c, h1, hide h3, conv_any a c w' _ h2⟩))
  generalize sB (Larder.spellI n) = R at *
  generalize (Larder.spellI n).length = ln at *
  go_enter Tryz.func46, Tryz.ntmps46
  go_wp2_with (go_at_call 65; refine (unhide CT).mono ?_; rintro e w1 ⟨a1, c1, rfl, k1, x1⟩)
  go_ret
  exact ⟨rfl, unhide k1⟩
theorem bulk_any (a : Option Addr) (c : Nat) (T : List Nat) (w : World) (hB : Bytes w a T) (hl : T.length ≤ 4194304) :
    Calls Tryz.prog 47 #[.slice a T.length c] w fun e w' => e = .returned (.string (sB (textL T))) ∧ Below w.heap.size w w' := by
  have sp := spell_short (T.length : Nat) (by omega) (by omega)
  have CT : Hid (Calls Tryz.prog 46 #[.int .i64 (T.length : Nat)] w fun e w' => e = .returned (.string (sB (Larder.spellI T.length))) ∧ Hid (Below w.heap.size w w') ∧ (convert 25 9 (.slice a T.length c)).run Tryz.prog w' = .ok (.string (sB T)) w') := hide ((texted_any (T.length : Nat) (by omega) (by omega) w).mono (fun e w' h => ⟨h.1, hide h.2, conv_any a c w' T (hB.below h.2)⟩))
  have A1 : ∀ W, (Op.stringOp .add ⟨#[36]⟩ (sB (Larder.spellI T.length))).run Tryz.prog W = .ok (.string (sB ([36] ++ Larder.spellI T.length))) W := fun W => sB_add W [36] _ (by simp) (by omega)
  have A2 : ∀ W, (Op.stringOp .add (sB ([36] ++ Larder.spellI T.length)) ⟨#[13, 10]⟩).run Tryz.prog W = .ok (.string (sB ([36] ++ Larder.spellI T.length ++ [13, 10]))) W := fun W => sB_add W _ [13, 10] (by simp; omega) (by simp)
  have A3 : ∀ W, (Op.stringOp .add (sB ([36] ++ Larder.spellI T.length ++ [13, 10])) (sB T)).run Tryz.prog W = .ok (.string (sB ([36] ++ Larder.spellI T.length ++ [13, 10] ++ T))) W := fun W => sB_add W _ T (by simp; omega) (by omega)
  have A4 : ∀ W, (Op.stringOp .add (sB ([36] ++ Larder.spellI T.length ++ [13, 10] ++ T)) ⟨#[13, 10]⟩).run Tryz.prog W = .ok (.string (sB ([36] ++ Larder.spellI T.length ++ [13, 10] ++ T ++ [13, 10]))) W := fun W => sB_add W _ [13, 10] (by simp; omega) (by simp)
  have HE : Hid (sB (textL T) = sB ([36] ++ Larder.spellI T.length ++ [13, 10] ++ T ++ [13, 10])) := hide rfl
  generalize sB (textL T) = R at *
  generalize sB ([36] ++ Larder.spellI T.length ++ [13, 10] ++ T ++ [13, 10]) = R4 at *
  generalize sB ([36] ++ Larder.spellI T.length ++ [13, 10] ++ T) = R3 at *
  generalize sB ([36] ++ Larder.spellI T.length ++ [13, 10]) = R2 at *
  generalize sB ([36] ++ Larder.spellI T.length) = R1 at *
  generalize sB (Larder.spellI T.length) = R0 at *
  generalize sB T = RT at *
  clear hB
  go_enter Tryz.func47, Tryz.ntmps47
  go_wp2_with (go_at_call 46; refine (unhide CT).mono ?_; rintro e w1 ⟨rfl, k1, x1⟩)
  go_ret
  exact ⟨by rw [unhide HE]; rfl, unhide k1⟩
end Go.Proofs.YtecfgbjnjgjkoaaGreatDoor
namespace Go.Proofs.YtecfgbjnjgjkoaaGreatDoor
open Go.ChangeShapes Go.WideShapes Go.ChangeAt Go.RowKit
set_option linter.unusedVariables false
set_option linter.unusedSimpArgs false
set_option maxRecDepth 20000
set_option maxHeartbeats 4000000

theorem store_free (P : Program) (g : Nat) (t : TypeId) (fz : Nat × Nat) (o : Nat) : ∀ (vs : List Value) (i : Nat) (cur : Array Value) (w : World), w.heap[g]? = some (.cells cur t fz) → (∀ k, k < cur.size → (decide (fz.1 ≤ k) && decide (k < fz.2)) = false) → o + i + vs.length ≤ cur.size → (∀ v ∈ vs, v.oneCell' = true) →
    ∃ cur' : Array Value, (storeCells ⟨g, o, none⟩ vs i).run P w = .ok () (w.setRow g cur') ∧ cur'.size = cur.size ∧ ∀ k, cur'[k]? = if o + i ≤ k ∧ k < o + i + vs.length then vs[k - (o + i)]? else cur[k]? := by
  intro vs
  induction vs with
  | nil =>
    intro i cur w hg _ _ _
    refine ⟨cur, ?_, rfl, fun k => ?_⟩
    · rw [setRow_self w g cur t fz hg]
      rfl
    · rw [if_neg (by simp)]
  | cons v rest ih =>
    intro i cur w hg hf hl h1
    rw [List.length_cons] at hl
    have hi : o + i < cur.size := by omega
    have hcell : w.cell? ⟨g, o + i, none⟩ = some cur[o + i] := by simp [World.cell?, hg, hi]
    have hfro : w.frozen? ⟨g, o + i, none⟩ = false := by
      have := hf (o + i) hi
      obtain ⟨x, y⟩ := fz
      simp only [World.frozen?, hg]
      exact this
    have hst : (store ((⟨g, o, none⟩ : Addr).add i) v).run P w = .ok () (w.setRow g (cur.setIfInBounds (o + i) v)) := by
      rw [add_plain, run_store P w _ v _ (h1 v (List.mem_cons_self ..)), hcell]
      simp [hfro, setCell_eq_setRow w g (o + i) cur t fz v hg]
    obtain ⟨cur', r1, r2, r3⟩ := ih (i + 1) (cur.setIfInBounds (o + i) v) (w.setRow g (cur.setIfInBounds (o + i) v)) (setRow_heap w g cur _ t _ hg) (fun k hk => hf k (by simpa using hk)) (by simp; omega) (fun x hx => h1 x (List.mem_cons_of_mem _ hx))
    refine ⟨cur', ?_, by simpa using r2, fun k => ?_⟩
    · simp only [storeCells, Sem.run_bind, hst, Result.andThen_ok, r1, setRow_setRow]
    · rw [r3 k, List.length_cons]
      by_cases q : k = o + i
      · subst q
        rw [if_neg (by omega), if_pos (by omega), Nat.sub_self]
        simp [hi]
      · by_cases p : o + i ≤ k ∧ k < o + i + (rest.length + 1)
        · rw [if_pos (by omega), if_pos p, show k - (o + i) = (k - (o + (i + 1))) + 1 by omega]
          rfl
        · rw [if_neg (by omega), if_neg p, Array.getElem?_setIfInBounds_ne (by omega)]
/-- a row of bytes, none of whose own cells is frozen -/
def RwF (w : World) (v : Value) (n : Nat) (l : List Nat) : Prop := ∃ g cap cur fz, v = .slice (some ⟨g, 0, none⟩) n cap ∧ w.heap[g]? = some (.cells cur 5 fz) ∧ n ≤ cap ∧ cap = cur.size ∧ cap ≤ maxLen ∧ (∀ k, k < cur.size → (decide (fz.1 ≤ k) && decide (k < fz.2)) = false) ∧ n = l.length ∧ ∀ k, k < n → cur[k]? = some (byV l k)
theorem sB_size (m : List Nat) : (sB m).size = m.length := by unfold sB; rw [strOfNums_size, List.length_map]
theorem strCells_sB (m : List Nat) (hs : Small m) (k : Nat) (hk : k < m.length) : (Lib.strCells (sB m))[k]? = some (byV m k) := by
  have h := hs k hk
  rw [List.getD_eq_getElem?_getD, List.getElem?_eq_getElem hk] at h
  unfold Lib.strCells byV sB
  rw [List.getElem?_map, strOfNums_data, List.getElem?_map, List.getElem?_map, List.getElem?_eq_getElem hk, List.getD_eq_getElem?_getD, List.getElem?_eq_getElem hk]
  simp only [Option.map_some, Option.getD_some] at h ⊢
  congr 2
  simp
  omega
theorem run_app_text (w : World) (v : Value) (n : Nat) (l m : List Nat) (h : RwF w v n l) (hm : Small m) (hl : n + m.length ≤ 140737488355328) :
    ∃ v' w', (Builtin.append_ #[25, 9] 25 #[v, .string (sB m)]).run Tryz.prog w = .ok v' w' ∧ RwF w' v' (n + m.length) (l ++ m) ∧ Gw w w' v v' := by
  obtain ⟨i5, hi5, hz5, hs5, hb5⟩ := info_partsS Tryz.info5s
  obtain ⟨g, cap, cur, fz, rfl, hg, hn, hc, hm', hf, hlen, hat⟩ := h
  have hz := sB_size m
  have hcl : (Lib.strCells (sB m)).length = m.length := by rw [Lib.strCells_length, hz]
  have join : ∀ k, k < n + m.length → some (byV (l ++ m) k) = if k < n then some (byV l k) else some (byV m (k - n)) := fun k hk => by
    unfold byV
    by_cases q : k < n
    · rw [if_pos q, List.getD_eq_getElem?_getD, List.getD_eq_getElem?_getD, List.getElem?_append_left (by omega)]
    · rw [if_neg q, List.getD_eq_getElem?_getD, List.getD_eq_getElem?_getD, List.getElem?_append_right (by omega), hlen]
  by_cases room : n + m.length ≤ cap
  · have key : ∃ cur' : Array Value, (storeCells ⟨g, n, none⟩ (Lib.strCells (sB m)) 0).run Tryz.prog w = .ok () (w.setRow g cur') ∧ cur'.size = cur.size ∧ ∀ k, cur'[k]? = if n ≤ k ∧ k < n + m.length then (Lib.strCells (sB m))[k - n]? else cur[k]? := by
      obtain ⟨cur', r1, r2, r3⟩ := store_free Tryz.prog g 5 fz n (Lib.strCells (sB m)) 0 cur w hg hf (by omega) (Lib.strCells_oneCell _)
      refine ⟨cur', r1, r2, fun k => ?_⟩
      rw [r3 k, hcl]
      rfl
    obtain ⟨cur', r1, r2, r3⟩ := key
    refine ⟨.slice (some ⟨g, 0, none⟩) (n + m.length) cap, w.setRow g cur', ?_, ⟨g, cap, cur', fz, rfl, setRow_heap w g cur _ 5 _ hg, room, by omega, hm', fun k hk => hf k (by omega), by rw [List.length_append, hlen], fun k hk => ?_⟩, ?_⟩
    · have hf1 := Lib.run_firstCells_string (P := Tryz.prog) w 1 (sB m)
      rw [hz] at hf1
      simp [Builtin.append_, run_underlying Tryz.underlying25, run_underlying Tryz.underlying9, sizeOf, typeInfo, hi5, hs5, Builtin.lenOf, hz, room, hf1, Addr.add_lit, r1]
    · rw [r3 k, join k hk]
      by_cases q : k < n
      · rw [if_neg (by omega), if_pos q, hat k q]
      · rw [if_pos (by omega), if_neg q, strCells_sB m hm _ (by omega)]
    · refine ⟨rfl, rfl, rfl, by simp [World.setRow], fun k hk hv => ?_, fun q hq => .inl hq⟩
      have hne : k ≠ g := fun e => hv (by rw [e]; rfl)
      simp [World.setRow, Array.getElem?_modify, Ne.symm hne]
  · have hgrow := Lib.run_append_grow_string (P := Tryz.prog) w 25 9 25 5 i5 (.int .u8 0) Tryz.underlying25 Tryz.underlying9 hi5 hz5 ⟨g, 0, none⟩ n cap (cur.toList.take n) (by rw [hs5, List.length_take, Array.length_toList]; omega) (fun j u hu => by
      rw [List.getElem?_take] at hu
      split at hu
      · rw [add_plain, Nat.zero_add, cell_of_row _ _ _ _ _ _ hg]; simpa using hu
      · cases hu) (sB m) (by omega) (by omega) (growslice_fits (by omega) (by rw [hb5]; omega))
    rw [hz] at hgrow
    have hlast := heap_alloc_new w.drew (.cells ((cur.toList.take n).toArray ++ (Lib.strCells (sB m)).toArray ++ Builtin.zeroCells (Value.int .u8 0).cells (grownCap w (n + m.length) cap 5 - (n + m.length))) 5)
    have hge := grownCap_ge w (n + m.length) cap 5
    have htl : (cur.toList.take n).length = n := by rw [List.length_take, Array.length_toList]; omega
    refine ⟨_, _, hgrow, ⟨w.heap.size, _, _, (0, 0), rfl, hlast, hge, ?_, grownCap_le_maxLen w (n + m.length) cap 5 (by simp only [maxLen]; omega), fun k hk => by simp, by rw [List.length_append, hlen], fun k hk => ?_⟩, ⟨rfl, rfl, rfl, by simp, fun k hk _ => Below.heap_alloc w.drew _ k hk, fun q hq => .inr (by simp [Value.ownBlock] at hq; omega)⟩⟩
    · have zc : ∀ j, (Builtin.zeroCells (Value.int .u8 0).cells j).size = j := fun j => by simp [Builtin.zeroCells, Value.cells]
      simp only [Array.size_append, List.size_toArray, htl, hcl, zc]
      omega
    · rw [Array.getElem?_append, if_pos (by simp only [Array.size_append, List.size_toArray, htl, hcl]; exact hk), Array.getElem?_append, join k hk]
      by_cases q : k < n
      · rw [if_pos (by rw [List.size_toArray, htl]; exact q), if_pos q, List.getElem?_toArray, List.getElem?_take, if_pos q]
        simpa using hat k q
      · rw [if_neg (by rw [List.size_toArray, htl]; exact q), if_neg q, List.getElem?_toArray, List.size_toArray, htl, strCells_sB m hm _ (by omega)]
end Go.Proofs.YtecfgbjnjgjkoaaGreatDoor
namespace Go.Proofs.YtecfgbjnjgjkoaaGreatDoor
open Go.ChangeShapes Go.WideShapes Go.ChangeAt Go.RowKit
set_option linter.unusedVariables false
set_option linter.unusedSimpArgs false
set_option maxRecDepth 20000
set_option maxHeartbeats 4000000

theorem spell_smallI (n : Int) : Small (Larder.spellI n) := fun i hi => Larder.nums_small _ i hi
theorem small_app {x y : List Nat} (hx : Small x) (hy : Small y) : Small (x ++ y) := fun i hi => by
  rw [List.length_append] at hi
  rw [List.getD_eq_getElem?_getD]
  by_cases q : i < x.length
  · rw [List.getElem?_append_left q, ← List.getD_eq_getElem?_getD]; exact hx i q
  · rw [List.getElem?_append_right (by omega), ← List.getD_eq_getElem?_getD]; exact hy _ (by omega)
theorem small_of {l : List Nat} (h : l.all (fun c => decide (c < 256)) = true) : Small l := fun i hi => by
  have := List.all_eq_true.1 h _ (List.getElem_mem hi)
  rw [List.getD_eq_getElem?_getD, List.getElem?_eq_getElem hi]
  simpa using this
theorem numL_small (mk : Nat) (n : Int) (h : mk < 256) : Small (numL mk n) := small_app (small_app (small_of (by simp [h])) (spell_smallI n)) (small_of (by decide))
theorem textL_small (T : List Nat) (h : Small T) : Small (textL T) := small_app (small_app (numL_small 36 _ (by decide)) h) (small_of (by decide))
structure Grf (w W : World) (B : Nat) (v : Value) (n : Nat) (l : List Nat) : Prop where
  bel : Below B w W
  sz : B ≤ W.heap.size
  row : RwF W v n l
  own : ∀ g, v.ownBlock = some g → B ≤ g
theorem RwF.below {w w' : World} {v : Value} {n : Nat} {l : List Nat} (h : RwF w v n l) (hb : Below w.heap.size w w') : RwF w' v n l := by
  obtain ⟨g, cap, cur, fz, h1, h2, h3⟩ := h
  exact ⟨g, cap, cur, fz, h1, (hb.block g (block_lt h2)).trans h2, h3⟩
theorem Grf.below {w W W' : World} {B n : Nat} {v : Value} {l : List Nat} (h : Grf w W B v n l) (hb : Below W.heap.size W W') : Grf w W' B v n l :=
  ⟨h.bel.trans (hb.mono h.sz), Nat.le_trans h.sz hb.size, h.row.below hb, h.own⟩
theorem Grf.app {w W w' : World} {B n : Nat} {v v' : Value} {l m : List Nat} (h : Grf w W B v n l) (hR : RwF w' v' (n + m.length) (l ++ m)) (hG : Gw W w' v v') : Grf w w' B v' (n + m.length) (l ++ m) := by
  refine ⟨h.bel.trans ⟨hG.os, hG.tape, hG.output, hG.size, fun b hb => hG.oth b (Nat.lt_of_lt_of_le hb h.sz) (fun e => by have := h.own b e; omega)⟩, Nat.le_trans h.sz hG.size, hR, fun g hg => ?_⟩
  rcases hG.own g hg with q | q
  · exact h.own g q
  · exact Nat.le_trans h.sz q
theorem RwF.len {w : World} {v : Value} {n : Nat} {l : List Nat} (h : RwF w v n l) : n = l.length := by
  obtain ⟨g, cap, cur, fz, _, _, _, _, _, _, h7, _⟩ := h
  exact h7
theorem RwF.shape {w : World} {v : Value} {n : Nat} {l : List Nat} (h : RwF w v n l) : ∃ a c, v = .slice a n c := by
  obtain ⟨g, cap, cur, fz, h1, _⟩ := h
  exact ⟨_, _, h1⟩
theorem conv_text' (w : World) (m : List Nat) (hs : Small m) (hl : m.length ≤ 140737488355328) :
    ∃ c w', (convert 9 25 (.string (sB m))).run Tryz.prog w = .ok (.slice (some ⟨w.heap.size, 0, none⟩) m.length c) w' ∧ Grf w w' w.heap.size (.slice (some ⟨w.heap.size, 0, none⟩) m.length c) m.length m := by
  have h := Lib.run_convert_string_bytes (P := Tryz.prog) w 9 25 5 (sB m) Tryz.underlying9 Tryz.underlying25 Tryz.underlying5
  have hz := sB_size m
  rw [hz] at h
  have hb := Go.Joins.below_bytesWorld _ w 5 (sB m) (Nat.le_refl w.heap.size)
  have hge := grownCap_ge w m.length 0 5
  have hsz : (Lib.bytesCells w 5 (sB m)).size = grownCap w m.length 0 5 := by
    unfold Lib.bytesCells
    rw [Array.size_append, Array.size_map, Array.size_replicate, hz]
    have : (sB m).data.size = m.length := hz
    omega
  refine ⟨_, _, h, hb, hb.size, ⟨w.heap.size, _, _, _, rfl, Lib.bytesWorld_at_new w 5 (sB m), hge, hsz.symm, grownCap_le_maxLen w m.length 0 5 (by simp only [maxLen]; omega), fun k hk => ?_, rfl, fun k hk => ?_⟩, fun g hg => by simp [Value.ownBlock] at hg; omega⟩
  · rw [decide_eq_false (show ¬ (Lib.bytesCells w 5 (sB m)).size ≤ k by omega)]; rfl
  · have h1 := Lib.bytesWorld_cell w 5 (sB m) k (by rw [hz]; exact hk)
    rw [cell_of_row _ _ _ _ _ _ (Lib.bytesWorld_at_new w 5 (sB m))] at h1
    rw [h1]
    have h2 := strCells_sB m hs k hk
    unfold Lib.strCells at h2
    rw [List.getElem?_map] at h2
    have hlt : k < (sB m).data.toList.length := by rw [Array.length_toList]; show k < (sB m).size; omega
    rw [List.getElem?_eq_getElem hlt] at h2
    rw [List.getD_eq_getElem?_getD, List.getElem?_eq_getElem hlt]
    simpa using h2
theorem app_text {w : World} {ops : Array Oper} {rest : List Oper} {o : Oper} {act : Act} {Q : Exit → Act → World → Prop} (hgd : o.guard = none) (so x : Operand) (ho : o.op = .call { callee := .builtin .append, args := #[so, x], argTypes := #[25, 9] }) (hty : o.type = 25)
    (v : Value) (n : Nat) (l m : List Nat) (hs : act.eval so = v) (h : RwF w v n l) (hx : act.eval x = .string (sB m)) (hm : Small m) (hl : n + m.length ≤ 140737488355328)
    (hk : ∀ v' w', RwF w' v' (n + m.length) (l ++ m) → Gw w w' v v' → wpList Tryz.prog ops Q rest (act.put o.dst v') w') : wpList Tryz.prog ops Q (o :: rest) act w := by
  obtain ⟨v', w', h1, h2, h3⟩ := run_app_text w v n l m h hm hl
  refine wpList_plain hgd fun K hK => ?_
  unfold Oper.wp execOp
  simp only [ho, resolve, invoke, builtin, Sem.run_bind, Sem.run_pure, Result.andThen_ok, List.map_toArray, List.map_cons, List.map_nil, hs, hx, hty, h1]
  exact hK _ _ (hk v' w' h2 h3)
end Go.Proofs.YtecfgbjnjgjkoaaGreatDoor
namespace Go.Proofs.YtecfgbjnjgjkoaaGreatDoor
open Go.ChangeShapes Go.WideShapes Go.ChangeAt Go.RowKit
set_option linter.unusedVariables false
set_option linter.unusedSimpArgs false
set_option maxRecDepth 20000
set_option maxHeartbeats 4000000

theorem rcommand_any (w : World) (b off cap : Nat) (L : List (List Nat)) (hA : ArgsAt w b off L) (hS : ∀ T ∈ L, Small T) :
    Calls Tryz.prog 22 #[.slice (some ⟨b, off, none⟩) L.length cap] w fun e w' => (cmdBad L ∧ e = .returned (.tuple #[.slice none 0 0, .int .i64 87]) ∧ Below w.heap.size w w') ∨ (¬ cmdBad L ∧ ∃ va n vc, e = .returned (.tuple #[.slice va n vc, .int .i64 0]) ∧ Hid (Grf w w' w.heap.size (.slice va n vc) n (cmdL L))) := by
  by_cases h0 : L.length = 0
  · have HB : Hid (cmdBad L) := hide (.inl h0)
    rw [h0]
    go_enter Tryz.func22, Tryz.ntmps22
    go_wp2
    all_goals go_ret2
    all_goals exact .inl ⟨unhide HB, rfl, Below.refl _ _⟩
  by_cases h1 : 128 < L.length
  · have HB : Hid (cmdBad L) := hide (.inr (.inl h1))
    have z1 : decide (((L.length : Nat) : Int) < 1) = false := decide_eq_false (by omega)
    have d1 : decide ((128 : Int) < (L.length : Int)) = true := decide_eq_true (by omega)
    generalize L.length = m at *
    go_enter Tryz.func22, Tryz.ntmps22
    go_wp2
    all_goals go_ret2
    all_goals exact .inl ⟨unhide HB, rfl, Below.refl _ _⟩
  have z1 : decide (((L.length : Nat) : Int) < 1) = false := decide_eq_false (by omega)
  have d1 : decide ((128 : Int) < (L.length : Int)) = false := decide_eq_false (by omega)
  obtain ⟨m, hm⟩ : ∃ m, m = L.length := ⟨_, rfl⟩
  have spl := spell_short (m : Nat) (by omega) (by omega)
  have CN : Hid (Calls Tryz.prog 46 #[.int .i64 (m : Nat)] w fun e w' => e = .returned (.string (sB (Larder.spellI m))) ∧ ∃ c w2, (convert 9 25 (.string (sB (numL 42 m)))).run Tryz.prog w' = .ok (.slice (some ⟨w'.heap.size, 0, none⟩) (numL 42 m).length c) w2 ∧ Hid (Grf w w2 w.heap.size (.slice (some ⟨w'.heap.size, 0, none⟩) (numL 42 m).length c) (numL 42 m).length (numL 42 m))) := hide ((texted_any (m : Nat) (by omega) (by omega) w).mono (fun e w' h => ⟨h.1, by
    obtain ⟨c, w2, h3, h4⟩ := conv_text' w' (numL 42 m) (numL_small 42 _ (by decide)) (by unfold numL; simp; omega)
    exact ⟨c, w2, h3, hide ⟨h.2.trans (h4.bel.mono h.2.size), Nat.le_trans h.2.size h4.sz, h4.row, fun g hg => Nat.le_trans h.2.size (h4.own g hg)⟩⟩⟩))
  have A1 : ∀ W, (Op.stringOp .add ⟨#[42]⟩ (sB (Larder.spellI m))).run Tryz.prog W = .ok (.string (sB ([42] ++ Larder.spellI m))) W := fun W => sB_add W [42] _ (by simp) (by omega)
  have A2 : ∀ W, (Op.stringOp .add (sB ([42] ++ Larder.spellI m)) ⟨#[13, 10]⟩).run Tryz.prog W = .ok (.string (sB (numL 42 m))) W := fun W => sB_add W _ [13, 10] (by simp; omega) (by simp)
  generalize sB ([42] ++ Larder.spellI m) = R1 at *
  generalize sB (Larder.spellI m) = R0 at *
  generalize sB (numL 42 m) = R2 at *
  have HM := hide hm
  have HA := hide hA
  have HS := hide hS
  rw [← hm] at z1 d1 h0 h1 ⊢
  clear hm hA hS
  have sp : Hid ((numL 42 m).length ≤ 24) := hide (by
    unfold numL
    simp only [List.length_append, List.length_cons, List.length_nil]
    omega)
  obtain ⟨n0, hn0⟩ : ∃ n0, n0 = (numL 42 m).length := ⟨_, rfl⟩
  rw [← hn0] at CN sp
  clear hn0 spl
  go_enter Tryz.func22, Tryz.ntmps22
  go_wp2_with (go_at_call 46; refine (unhide CN).mono ?_; rintro e w1 ⟨rfl, c1, w2, x1, HG1⟩)
  go_loopw [5, 6] (fun bv kv wr => ∃ (k : Nat) (va : Option Addr) (n vc : Nat), bv = .slice va n vc ∧ kv = .int .i64 (k : Nat) ∧ k ≤ m ∧ n ≤ 24 + k * 4125 ∧ Hid ((∀ T ∈ L.take k, T.length ≤ 4096) ∧ Grf w wr w.heap.size (.slice va n vc) n (numL 42 m ++ ((L.take k).map textL).flatten))) (fun _ kv _ => m - (intOf kv).toNat)
  case atStart => exact ⟨0, _, _, _, rfl, rfl, Nat.zero_le _, by have := unhide sp; omega, hide ⟨by simp, by simpa using unhide HG1⟩⟩
  case round =>
    obtain ⟨k, va, n, vc, rfl, rfl, hk, hn, p⟩ := hrel
    rcases Nat.lt_or_ge k m with hkm | hkm
    · have f1 : decide ((k : Int) < (m : Int)) = true := decide_eq_true (by omega)
      obtain ⟨T, hT⟩ : ∃ T, L[k]? = some T := ⟨_, List.getElem?_eq_getElem (by have := unhide HM; omega)⟩
      obtain ⟨a, c, x1, x2, x3⟩ := (unhide HA).2 k T hT
      have y1 : wr.cell? ⟨b, off + k, none⟩ = some (.slice a T.length c) := ((unhide p).2.bel.cell (p := ⟨b, off + k, none⟩) (unhide HA).1).trans x1
      have hmem : T ∈ L := List.mem_of_getElem? hT
      have htk : L.take (k + 1) = L.take k ++ [T] := by rw [List.take_add_one, hT]; rfl
      have g1 : (0 : Int) ≤ (k : Int) := by omega
      have g2 : (k : Int) < (m : Int) := by omega
      by_cases hb : 4096 < T.length
      · have f2 : decide ((4096 : Int) < (T.length : Int)) = true := decide_eq_true (by omega)
        have HBad : Hid (cmdBad L) := hide (.inr (.inr ⟨T, hmem, hb⟩))
        clear hT x1 x2 hmem htk
        go_wp2
        all_goals go_ret2
        all_goals exact .inl ⟨unhide HBad, rfl, (unhide p).2.bel⟩
      · have f2 : decide ((4096 : Int) < (T.length : Int)) = false := decide_eq_false (by omega)
        have CA : Hid (Calls Tryz.prog 47 #[.slice a T.length c] wr fun e w' => e = .returned (.string (sB (textL T))) ∧ Hid (Below wr.heap.size wr w')) := hide ((bulk_any a c T wr (x2.below (unhide p).2.bel) (by omega)).mono (fun e w' h => ⟨h.1, hide h.2⟩))
        have HTK := hide htk
        have tl := textL_len T (by omega)
        have TS : Hid (Small (textL T)) := hide (textL_small T (unhide HS T hmem))
        clear hT x1 x2 hmem htk
        go_wp2_with (first
          | (go_at_call 47; refine (unhide CA).mono ?_; rintro e w2 ⟨rfl, k2⟩)
          | (at_builtin; refine app_text rfl _ _ rfl rfl (.slice va n vc) n _ (textL T) rfl ((unhide p).2.below (unhide k2)).row rfl (unhide TS) (by omega) ?_; intro v3 w3 h3 g3; have HG3 := hide (((unhide p).2.below (unhide k2)).app h3 g3); obtain ⟨a3, c3, rfl⟩ := h3.shape; clear h3 g3))
        go_roundw
        case rel =>
          refine ⟨k + 1, a3, _, c3, rfl, by go_num, by omega, by omega, hide ⟨fun T' h' => ?_, ?_⟩⟩
          · rw [unhide HTK] at h'
            rcases List.mem_append.1 h' with h' | h'
            · exact (unhide p).1 T' h'
            · obtain rfl := List.mem_singleton.1 h'
              omega
          · rw [unhide HTK, List.map_append, List.flatten_append]
            simpa using unhide HG3
        case measure => simp [intOf]; omega
    · obtain rfl : k = m := by omega
      have f1 : decide ((k : Int) < (k : Int)) = false := decide_eq_false (by omega)
      go_wp2
      all_goals go_ret2
      all_goals refine .inr ⟨fun hbad => ?_, _, _, _, rfl, ?_⟩
      all_goals have hm := unhide HM
      · rcases hbad with q | q | ⟨T, q1, q2⟩
        · omega
        · omega
        · have := (unhide p).1 T (by rw [hm, List.take_length]; exact q1)
          omega
      · have := (unhide p).2
        rw [hm, List.take_length] at this
        exact hide (by unfold cmdL; exact this)
end Go.Proofs.YtecfgbjnjgjkoaaGreatDoor
