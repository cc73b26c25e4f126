/- Decode: numbers and their beginnings. -/
import Derived.Test.YtfgemcmiilbodaaDoorWrb
import Derived.Test.YtfgemcmiilbodaaDoorWra
import Derived.Lib.FrozenHead
import Derived.Lib.ConvBytes
import Derived.Test.YtfgemcmiilbodaaDoorNumber
import Derived.Test.YtfgemcmiilbodaaDoorDcM
namespace Go.Proofs.YtfgemcmiilbodaaDoor
open Go.ChangeShapes Go.WideShapes Go.ChangeAt Go.RowKit
set_option linter.unusedVariables false
set_option linter.unusedSimpArgs false
set_option maxRecDepth 20000
set_option maxHeartbeats 4000000

/-- bytes as a text -/
def sB (l : List Nat) : ByteArray := strOfNums (l.map Int.ofNat)
theorem sB_add (w : World) (x y : List Nat) (hx : x.length ≤ 8388608) (hy : y.length ≤ 8388608) : (Op.stringOp .add (sB x) (sB y)).run Tryd.prog w = .ok (.string (sB (x ++ y))) w := by
  have h := run_string_add_lists (P := Tryd.prog) w ((x.map Int.ofNat).map fun n => UInt8.ofNat n.toNat) ((y.map Int.ofNat).map fun n => UInt8.ofNat n.toNat) (by simp; omega) (by simp; omega)
  unfold sB strOfNums
  rw [List.map_append, List.map_append]
  exact h
end Go.Proofs.YtfgemcmiilbodaaDoor
namespace Go.Proofs.YtfgemcmiilbodaaDoor
open Go.ChangeShapes Go.WideShapes Go.ChangeAt Go.RowKit
set_option linter.unusedVariables false
set_option linter.unusedSimpArgs false
set_option maxRecDepth 20000
set_option maxHeartbeats 4000000

theorem store_free (P : Program) (g : Nat) (t : TypeId) (fz : Nat × Nat) (o : Nat) : ∀ (vs : List Value) (i : Nat) (cur : Array Value) (w : World), w.heap[g]? = some (.cells cur t fz) → (∀ k, k < cur.size → (decide (fz.1 ≤ k) && decide (k < fz.2)) = false) → o + i + vs.length ≤ cur.size → (∀ v ∈ vs, v.oneCell' = true) →
    ∃ cur' : Array Value, (storeCells ⟨g, o, none⟩ vs i).run P w = .ok () (w.setRow g cur') ∧ cur'.size = cur.size ∧ ∀ k, cur'[k]? = if o + i ≤ k ∧ k < o + i + vs.length then vs[k - (o + i)]? else cur[k]? := by
  intro vs
  induction vs with
  | nil =>
    intro i cur w hg _ _ _
    refine ⟨cur, ?_, rfl, fun k => ?_⟩
    · rw [setRow_self w g cur t fz hg]
      rfl
    · rw [if_neg (by simp)]
  | cons v rest ih =>
    intro i cur w hg hf hl h1
    rw [List.length_cons] at hl
    have hi : o + i < cur.size := by omega
    have hcell : w.cell? ⟨g, o + i, none⟩ = some cur[o + i] := by simp [World.cell?, hg, hi]
    have hfro : w.frozen? ⟨g, o + i, none⟩ = false := by
      have := hf (o + i) hi
      obtain ⟨x, y⟩ := fz
      simp only [World.frozen?, hg]
      exact this
    have hst : (store ((⟨g, o, none⟩ : Addr).add i) v).run P w = .ok () (w.setRow g (cur.setIfInBounds (o + i) v)) := by
      rw [add_plain, run_store P w _ v _ (h1 v (List.mem_cons_self ..)), hcell]
      simp [hfro, setCell_eq_setRow w g (o + i) cur t fz v hg]
    obtain ⟨cur', r1, r2, r3⟩ := ih (i + 1) (cur.setIfInBounds (o + i) v) (w.setRow g (cur.setIfInBounds (o + i) v)) (setRow_heap w g cur _ t _ hg) (fun k hk => hf k (by simpa using hk)) (by simp; omega) (fun x hx => h1 x (List.mem_cons_of_mem _ hx))
    refine ⟨cur', ?_, by simpa using r2, fun k => ?_⟩
    · simp only [storeCells, Sem.run_bind, hst, Result.andThen_ok, r1, setRow_setRow]
    · rw [r3 k, List.length_cons]
      by_cases q : k = o + i
      · subst q
        rw [if_neg (by omega), if_pos (by omega), Nat.sub_self]
        simp [hi]
      · by_cases p : o + i ≤ k ∧ k < o + i + (rest.length + 1)
        · rw [if_pos (by omega), if_pos p, show k - (o + i) = (k - (o + (i + 1))) + 1 by omega]
          rfl
        · rw [if_neg (by omega), if_neg p, Array.getElem?_setIfInBounds_ne (by omega)]
/-- a row of bytes, none of whose own cells is frozen -/
def RwF (w : World) (v : Value) (n : Nat) (l : List Nat) : Prop := ∃ g cap cur fz, v = .slice (some ⟨g, 0, none⟩) n cap ∧ w.heap[g]? = some (.cells cur 5 fz) ∧ n ≤ cap ∧ cap = cur.size ∧ cap ≤ maxLen ∧ (∀ k, k < cur.size → (decide (fz.1 ≤ k) && decide (k < fz.2)) = false) ∧ n = l.length ∧ ∀ k, k < n → cur[k]? = some (byV l k)
theorem sB_size (m : List Nat) : (sB m).size = m.length := by unfold sB; rw [strOfNums_size, List.length_map]
theorem strCells_sB (m : List Nat) (hs : Small m) (k : Nat) (hk : k < m.length) : (Lib.strCells (sB m))[k]? = some (byV m k) := by
  have h := hs k hk
  rw [List.getD_eq_getElem?_getD, List.getElem?_eq_getElem hk] at h
  unfold Lib.strCells byV sB
  rw [List.getElem?_map, strOfNums_data, List.getElem?_map, List.getElem?_map, List.getElem?_eq_getElem hk, List.getD_eq_getElem?_getD, List.getElem?_eq_getElem hk]
  simp only [Option.map_some, Option.getD_some] at h ⊢
  congr 2
  simp
  omega
theorem run_app_text (w : World) (v : Value) (n : Nat) (l m : List Nat) (h : RwF w v n l) (hm : Small m) (hl : n + m.length ≤ 140737488355328) :
    ∃ v' w', (Builtin.append_ #[22, 9] 22 #[v, .string (sB m)]).run Tryd.prog w = .ok v' w' ∧ RwF w' v' (n + m.length) (l ++ m) ∧ Gw w w' v v' := by
  obtain ⟨i5, hi5, hz5, hs5, hb5⟩ := info_partsS Tryd.info5s
  obtain ⟨g, cap, cur, fz, rfl, hg, hn, hc, hm', hf, hlen, hat⟩ := h
  have hz := sB_size m
  have hcl : (Lib.strCells (sB m)).length = m.length := by rw [Lib.strCells_length, hz]
  have join : ∀ k, k < n + m.length → some (byV (l ++ m) k) = if k < n then some (byV l k) else some (byV m (k - n)) := fun k hk => by
    unfold byV
    by_cases q : k < n
    · rw [if_pos q, List.getD_eq_getElem?_getD, List.getD_eq_getElem?_getD, List.getElem?_append_left (by omega)]
    · rw [if_neg q, List.getD_eq_getElem?_getD, List.getD_eq_getElem?_getD, List.getElem?_append_right (by omega), hlen]
  by_cases room : n + m.length ≤ cap
  · have key : ∃ cur' : Array Value, (storeCells ⟨g, n, none⟩ (Lib.strCells (sB m)) 0).run Tryd.prog w = .ok () (w.setRow g cur') ∧ cur'.size = cur.size ∧ ∀ k, cur'[k]? = if n ≤ k ∧ k < n + m.length then (Lib.strCells (sB m))[k - n]? else cur[k]? := by
      obtain ⟨cur', r1, r2, r3⟩ := store_free Tryd.prog g 5 fz n (Lib.strCells (sB m)) 0 cur w hg hf (by omega) (Lib.strCells_oneCell _)
      refine ⟨cur', r1, r2, fun k => ?_⟩
      rw [r3 k, hcl]
      rfl
    obtain ⟨cur', r1, r2, r3⟩ := key
    refine ⟨.slice (some ⟨g, 0, none⟩) (n + m.length) cap, w.setRow g cur', ?_, ⟨g, cap, cur', fz, rfl, setRow_heap w g cur _ 5 _ hg, room, by omega, hm', fun k hk => hf k (by omega), by rw [List.length_append, hlen], fun k hk => ?_⟩, ?_⟩
    · have hf1 := Lib.run_firstCells_string (P := Tryd.prog) w 1 (sB m)
      rw [hz] at hf1
      simp [Builtin.append_, run_underlying Tryd.underlying22, run_underlying Tryd.underlying9, sizeOf, typeInfo, hi5, hs5, Builtin.lenOf, hz, room, hf1, Addr.add_lit, r1]
    · rw [r3 k, join k hk]
      by_cases q : k < n
      · rw [if_neg (by omega), if_pos q, hat k q]
      · rw [if_pos (by omega), if_neg q, strCells_sB m hm _ (by omega)]
    · refine ⟨rfl, rfl, rfl, by simp [World.setRow], fun k hk hv => ?_, fun q hq => .inl hq⟩
      have hne : k ≠ g := fun e => hv (by rw [e]; rfl)
      simp [World.setRow, Array.getElem?_modify, Ne.symm hne]
  · have hgrow := Lib.run_append_grow_string (P := Tryd.prog) w 22 9 22 5 i5 (.int .u8 0) Tryd.underlying22 Tryd.underlying9 hi5 hz5 ⟨g, 0, none⟩ n cap (cur.toList.take n) (by rw [hs5, List.length_take, Array.length_toList]; omega) (fun j u hu => by
      rw [List.getElem?_take] at hu
      split at hu
      · rw [add_plain, Nat.zero_add, cell_of_row _ _ _ _ _ _ hg]; simpa using hu
      · cases hu) (sB m) (by omega) (by omega) (growslice_fits (by omega) (by rw [hb5]; omega))
    rw [hz] at hgrow
    have hlast := heap_alloc_new w.drew (.cells ((cur.toList.take n).toArray ++ (Lib.strCells (sB m)).toArray ++ Builtin.zeroCells (Value.int .u8 0).cells (grownCap w (n + m.length) cap 5 - (n + m.length))) 5)
    have hge := grownCap_ge w (n + m.length) cap 5
    have htl : (cur.toList.take n).length = n := by rw [List.length_take, Array.length_toList]; omega
    refine ⟨_, _, hgrow, ⟨w.heap.size, _, _, (0, 0), rfl, hlast, hge, ?_, grownCap_le_maxLen w (n + m.length) cap 5 (by simp only [maxLen]; omega), fun k hk => by simp, by rw [List.length_append, hlen], fun k hk => ?_⟩, ⟨rfl, rfl, rfl, by simp, fun k hk _ => Below.heap_alloc w.drew _ k hk, fun q hq => .inr (by simp [Value.ownBlock] at hq; omega)⟩⟩
    · have zc : ∀ j, (Builtin.zeroCells (Value.int .u8 0).cells j).size = j := fun j => by simp [Builtin.zeroCells, Value.cells]
      simp only [Array.size_append, List.size_toArray, htl, hcl, zc]
      omega
    · rw [Array.getElem?_append, if_pos (by simp only [Array.size_append, List.size_toArray, htl, hcl]; exact hk), Array.getElem?_append, join k hk]
      by_cases q : k < n
      · rw [if_pos (by rw [List.size_toArray, htl]; exact q), if_pos q, List.getElem?_toArray, List.getElem?_take, if_pos q]
        simpa using hat k q
      · rw [if_neg (by rw [List.size_toArray, htl]; exact q), if_neg q, List.getElem?_toArray, List.size_toArray, htl, strCells_sB m hm _ (by omega)]
end Go.Proofs.YtfgemcmiilbodaaDoor
namespace Go.Proofs.YtfgemcmiilbodaaDoor
open Go.ChangeShapes Go.WideShapes Go.ChangeAt Go.RowKit
set_option linter.unusedVariables false
set_option linter.unusedSimpArgs false
set_option maxRecDepth 20000
set_option maxHeartbeats 4000000

/-- number -/
theorem dnumber_any (w : World) (a : Option Addr) (n cp : Nat) (T : List Nat) (lo hi : Int) (hn : n = T.length) (hB : Bytes w a T) (hs : Small T) (hc : n ≤ cp ∧ cp ≤ 9223372036854775807) (hl : n ≤ 140737488355328) (hlo : -9223372036854775808 ≤ lo ∧ lo ≤ 9223372036854775807) (hhi : -9223372036854775808 ≤ hi ∧ hi ≤ 9223372036854775807) :
    Calls Tryd.prog 32 #[.slice a n cp, .int .i64 lo, .int .i64 hi] w fun e w' => e = .returned (.tuple #[.int .i64 ((Larder8.numV lo hi T).getD 0), .bool (Larder8.numV lo hi T).isSome]) ∧ w' = w := by
  subst hn
  have CI := hide (int_any a cp w T hl hs hc.1 hc.2 hB)
  obtain ⟨v, hv⟩ : ∃ v, v = (Larder.intRes T).1 := ⟨_, rfl⟩
  obtain ⟨er, her⟩ : ∃ er, er = (Larder.intRes T).2 := ⟨_, rfl⟩
  have E : Larder8.numV lo hi T = if er = 0 ∧ lo ≤ v ∧ v ≤ hi then some v else none := by rw [hv, her]; rfl
  rw [← hv, ← her] at CI
  rw [E]
  clear hv her E hB hs
  by_cases h0 : er = 0
  · subst h0
    by_cases h1 : lo ≤ v
    · have f1 : decide (v < lo) = false := decide_eq_false (by omega)
      by_cases h2 : v ≤ hi
      · have f2 : decide (hi < v) = false := decide_eq_false (by omega)
        have f2' : decide (v > hi) = false := f2
        rw [if_pos ⟨rfl, h1, h2⟩]
        go_enter Tryd.func32, Tryd.ntmps32
        go_wp2_with (go_at_call 42; refine (unhide CI).mono ?_; rintro e w5 ⟨rfl, h5⟩; subst h5)
        go_ret2
        exact ⟨rfl, rfl⟩
      · have f2 : decide (hi < v) = true := decide_eq_true (by omega)
        have f2' : decide (v > hi) = true := f2
        rw [if_neg (by omega)]
        go_enter Tryd.func32, Tryd.ntmps32
        go_wp2_with (go_at_call 42; refine (unhide CI).mono ?_; rintro e w5 ⟨rfl, h5⟩; subst h5)
        go_ret2
        exact ⟨rfl, rfl⟩
    · have f1 : decide (v < lo) = true := decide_eq_true (by omega)
      rw [if_neg (by omega)]
      go_enter Tryd.func32, Tryd.ntmps32
      go_wp2_with (go_at_call 42; refine (unhide CI).mono ?_; rintro e w5 ⟨rfl, h5⟩; subst h5)
      go_ret2
      exact ⟨rfl, rfl⟩
  · have t0 : ((er : Int) == 0) = false := by rw [beq_eq_false_iff_ne]; omega
    have t0' : ((er : Int) != 0) = true := by rw [bne, t0]; rfl
    rw [if_neg (by omega)]
    go_enter Tryd.func32, Tryd.ntmps32
    go_wp2_with (go_at_call 42; refine (unhide CI).mono ?_; rintro e w5 ⟨rfl, h5⟩; subst h5)
    go_ret2
    exact ⟨rfl, rfl⟩
/-- begun -/
theorem dbegun_any (w : World) (a : Option Addr) (n cp : Nat) (T : List Nat) (lo hi : Int) (hn : n = T.length) (hB : Bytes w a T) (hs : Small T) (hc : n ≤ cp ∧ cp ≤ 9223372036854775807) (hl : n ≤ 140737488355328) (hlo : -9223372036854775808 ≤ lo ∧ lo ≤ 9223372036854775807) (hhi : -9223372036854775808 ≤ hi ∧ hi ≤ 9223372036854775807) :
    Calls Tryd.prog 31 #[.slice a n cp, .int .i64 lo, .int .i64 hi] w fun e w' => e = .returned (.bool (Larder8.begunP lo hi T)) ∧ w' = w := by
  have CN := hide (dnumber_any w a n cp T lo hi hn hB hs hc hl hlo hhi)
  have hcv : (convert 22 9 (.slice a n cp)).run Tryd.prog w = .ok (.string (strOfNums (T.map Int.ofNat))) w := by rw [hn]; exact conv_any a cp w T hB
  have e1 := strs_eq T [] hs (fun i hi => by simp at hi)
  have e2 := strs_eq T [45] hs (fun i hi => by simp at hi; subst hi; decide)
  obtain ⟨S, hS⟩ : ∃ S, S = strOfNums (T.map Int.ofNat) := ⟨_, rfl⟩
  rw [← hS] at hcv e1 e2
  obtain ⟨v, hv⟩ : ∃ v, v = (Larder8.numV lo hi T).getD 0 := ⟨_, rfl⟩
  obtain ⟨q, hq⟩ : ∃ q, q = (Larder8.numV lo hi T).isSome := ⟨_, rfl⟩
  rw [← hv, ← hq] at CN
  have E : Larder8.begunP lo hi T = if T = [] then true else if T = [45] then decide (lo < 0) else q := by rw [hq]; rfl
  rw [E]
  clear E hS hv hq hB hs hn
  have z1 : (strOfNums (([] : List Nat).map Int.ofNat)).toList = [] := by unfold strOfNums; rw [toList_mk1]; rfl
  have z2 : (strOfNums (([45] : List Nat).map Int.ofNat)).toList = [45] := by unfold strOfNums; rw [toList_mk1]; rfl
  rw [z1] at e1
  rw [z2] at e2
  have e1' : S.toList.isEmpty = decide (T = []) := by
    rw [← e1]
    cases S.toList <;> rfl
  clear z1 z2 e1
  by_cases h0 : T = []
  · rw [if_pos h0]
    rw [decide_eq_true h0] at e1'
    clear e2 h0
    go_enter Tryd.func31, Tryd.ntmps31
    go_wp2
    go_ret
    exact ⟨rfl, rfl⟩
  · rw [if_neg h0]
    rw [decide_eq_false h0] at e1'
    by_cases h1 : T = [45]
    · rw [if_pos h1]
      rw [decide_eq_true h1] at e2
      clear h0 h1
      go_enter Tryd.func31, Tryd.ntmps31
      go_wp2
      go_ret
      exact ⟨rfl, rfl⟩
    · rw [if_neg h1]
      rw [decide_eq_false h1] at e2
      clear h0 h1
      go_enter Tryd.func31, Tryd.ntmps31
      go_wp2_with (go_at_call 32; refine (unhide CN).mono ?_; rintro e w5 ⟨rfl, h5⟩; subst h5)
      go_ret
      exact ⟨rfl, rfl⟩
end Go.Proofs.YtfgemcmiilbodaaDoor
