/- Rows of bytes. -/
import Derived.Test.YtfgemcmiilbodaaDoorRw
import Derived.Deep.RegionHeld3
import Derived.Deep.MidRow
import Derived.Test.YtfgemcmiilbodaaDoorCpE
import Derived.Lib.ConvBytes
import Derived.Lib.SmallJoins
import Derived.Test.YtfgemcmiilbodaaDoorLine
namespace Go.Proofs.YtfgemcmiilbodaaDoor
open Go.ChangeShapes Go.WideShapes Go.ChangeAt Go.RowKit
set_option linter.unusedVariables false
set_option maxRecDepth 20000
set_option maxHeartbeats 2000000

/-- byte k of the mark of list n -/
def sgN (n k : Nat) : Nat := if k % 2 = 0 then 1 + n % 251 else 1 + (7 * n + n / 251) % 251
theorem sgN_lt (n k : Nat) : sgN n k < 256 := by unfold sgN; split <;> omega
def sgV (n k : Nat) : Value := .int .u8 (sgN n k : Nat)
theorem block_lt {w : World} {b : Nat} {o : Obj} (h : w.heap[b]? = some o) : b < w.heap.size := (Array.getElem?_eq_some_iff.1 h).1
/-- a spread that holds lists of bytes alone -/
def SpAt (W : World) (py : Nat) (yv : Value) : Prop := W.heap[py]? = some (.cells #[yv, .slice none 0 0, .slice none 0 0, .slice none 0 0] 107 (0, 0))
/-- its lists: each in memory of its own; the first i are written full, of list i the first k -/
structure Mk (W : World) (py : Nat) (yv : Value) (n : Nat) (F : Nat → Value) (L : Nat → Nat) (i k : Nat) : Prop where
  at' : SpAt W py yv
  row : Rws W 22 1 yv n F
  ent : ∀ j, j < n → ∃ f, Rws W 5 1 (F j) (L j) f ∧ ∀ q, q < L j → (j < i ∨ (j = i ∧ q < k)) → f q = sgV j q
  one : ∀ i j g, i < n → j < n → (F i).ownBlock = some g → (F j).ownBlock = some g → i = j
  len : ∀ j, j < n → L j ≤ 8388608
/-- only the lists' own memory has changed, and memory has been made -/
structure Tch (n : Nat) (F : Nat → Value) (w w' : World) : Prop where
  os : w'.os = w.os
  tape : w'.tape = w.tape
  output : w'.output = w.output
  size : w.heap.size ≤ w'.heap.size
  blk : ∀ b, b < w.heap.size → (∀ j, j < n → (F j).ownBlock ≠ some b) → w'.heap[b]? = w.heap[b]?
theorem Tch.refl (n : Nat) (F : Nat → Value) (w : World) : Tch n F w w := ⟨rfl, rfl, rfl, Nat.le_refl _, fun _ _ _ => rfl⟩
theorem Tch.trans {n : Nat} {F : Nat → Value} {a b c : World} (h : Tch n F a b) (k : Tch n F b c) : Tch n F a c :=
  ⟨k.os.trans h.os, k.tape.trans h.tape, k.output.trans h.output, Nat.le_trans h.size k.size, fun x hx hF => (k.blk x (Nat.lt_of_lt_of_le hx h.size) hF).trans (h.blk x hx hF)⟩
theorem Tch.below {n : Nat} {F : Nat → Value} {w w' : World} (h : Below w.heap.size w w') : Tch n F w w' := ⟨h.os, h.tape, h.output, h.size, fun b hb _ => h.block b hb⟩
theorem Mk.next {W : World} {py : Nat} {yv : Value} {n : Nat} {F : Nat → Value} {L : Nat → Nat} {i k : Nat} (h : Mk W py yv n F L i k) (hk : L i ≤ k) : Mk W py yv n F L (i + 1) 0 :=
  ⟨h.at', h.row, fun j hj => by
    obtain ⟨f, h1, h2⟩ := h.ent j hj
    refine ⟨f, h1, fun q hq hh => h2 q hq ?_⟩
    rcases Nat.lt_trichotomy j i with e | e | e
    · exact .inl e
    · subst e; exact .inr ⟨rfl, by omega⟩
    · omega, h.one, h.len⟩
theorem Mk.below {W W' : World} {py : Nat} {yv : Value} {n : Nat} {F : Nat → Value} {L : Nat → Nat} {i k : Nat} (h : Mk W py yv n F L i k) (hb : Below W.heap.size W W') : Mk W' py yv n F L i k :=
  ⟨by unfold SpAt; rw [hb.block _ (block_lt h.at')]; exact h.at', h.row.below hb, fun j hj => by
    obtain ⟨f, h1, h2⟩ := h.ent j hj
    exact ⟨f, h1.below hb, h2⟩, h.one, h.len⟩
theorem setCell_block (w : World) (g k : Nat) (u : Value) (cur : Array Value) (e : TypeId) (fr : Nat × Nat) (hg : w.heap[g]? = some (.cells cur e fr)) : (w.setCell ⟨g, k, none⟩ u).heap[g]? = some (.cells (cur.setIfInBounds k u) e fr) := by
  simp only [World.setCell, Array.getElem?_modify, if_true, hg, Option.map_some]
  rfl
theorem setCell_else (w : World) (g k j : Nat) (u : Value) (h : j ≠ g) : (w.setCell ⟨g, k, none⟩ u).heap[j]? = w.heap[j]? := by
  simp [World.setCell, Array.getElem?_modify, Ne.symm h]
theorem Rws.put {w : World} {t : TypeId} {v : Value} {n : Nat} {f : Nat → Value} (h : Rws w t 1 v n f) {g : Nat} (hg : v.ownBlock = some g) (k : Nat) (u : Value) : Rws (w.setCell ⟨g, k, none⟩ u) t 1 v n (fun j => if j = k then u else f j) := by
  rcases h with ⟨rfl, h0⟩ | ⟨g', cap, cur, rfl, hg', hn, hc, hs, hh⟩
  · simp [Value.ownBlock] at hg
  · simp [Value.ownBlock] at hg
    subst hg
    refine .inr ⟨g', cap, cur.setIfInBounds k u, rfl, setCell_block w g' k u cur t _ hg', hn, hc, by simpa using hs, fun j hj => ?_⟩
    have hj' : j < n * 1 := hj
    rw [Array.getElem?_setIfInBounds]
    show _ = some (if j = k then u else f j)
    by_cases e1 : k = j
    · subst e1
      rw [if_pos rfl, if_pos (by omega), if_pos rfl]
    · rw [if_neg e1, if_neg (fun h => e1 h.symm), hh j hj]
/-- a byte of list i is written -/
theorem Mk.put {W : World} {py : Nat} {yv : Value} {n : Nat} {F : Nat → Value} {L : Nat → Nat} {i k g : Nat} (h : Mk W py yv n F L i k) (hi : i < n) (hg : (F i).ownBlock = some g) :
    Mk (W.setCell ⟨g, k, none⟩ (sgV i k)) py yv n F L i (k + 1) ∧ Tch n F W (W.setCell ⟨g, k, none⟩ (sgV i k)) := by
  obtain ⟨f0, r0, _⟩ := h.ent i hi
  obtain ⟨c0, hc0⟩ := r0.type g hg
  have hpy : py ≠ g := fun e => by
    have := h.at'
    unfold SpAt at this
    rw [e, hc0] at this
    cases this
  refine ⟨⟨?_, ?_, fun j hj => ?_, h.one, h.len⟩, ⟨rfl, rfl, rfl, by simp [World.setCell], fun b hb hF => setCell_else _ _ _ _ _ (fun e => hF i hi (by rw [hg, e]))⟩⟩
  · unfold SpAt; rw [setCell_else _ _ _ _ _ hpy]; exact h.at'
  · refine h.row.same (fun x hx => setCell_else _ _ _ _ _ (fun e => ?_))
    obtain ⟨c, hc⟩ := h.row.type x hx
    rw [e, hc0] at hc
    cases hc
  · obtain ⟨f, h1, h2⟩ := h.ent j hj
    by_cases e : (F j).ownBlock = some g
    · have hij := h.one j i g hj hi e hg
      subst hij
      refine ⟨_, h1.put e k (sgV j k), fun q hq hh => ?_⟩
      by_cases eq : q = k
      · subst eq; simp
      · simp only [if_neg eq]
        exact h2 q hq (by omega)
    · refine ⟨f, h1.same (fun x hx => setCell_else _ _ _ _ _ (fun e2 => e (by rw [← e2]; exact hx))), fun q hq hh => h2 q hq ?_⟩
      rcases hh with hh | ⟨hh, _⟩
      · exact .inl hh
      · subst hh; exact absurd hg e
end Go.Proofs.YtfgemcmiilbodaaDoor
namespace Go.Proofs.YtfgemcmiilbodaaDoor
open Go.ChangeShapes Go.WideShapes Go.ChangeAt Go.RowKit
set_option linter.unusedVariables false
set_option maxRecDepth 100000
set_option maxHeartbeats 2000000

theorem eq_any {w : World} {a b : Option Addr} {c1 c2 : Nat} {la lb : List Nat} (hA : la.length ≤ 140737488355328) (hB : lb.length ≤ 140737488355328) (h1 : Bytes w a la) (h2 : Bytes w b lb) :
    Calls Tryd.prog 8 #[.slice a la.length c1, .slice b lb.length c2] w fun e w' => e = .returned (.bool (decide (la = lb))) ∧ Still w w' := by
  have H1 := hide (cmp_any (c1 := c1) (c2 := c2) hA hB h1 h2)
  have H2 : Hid ((Larder.cmpL la lb == 0) = decide (la = lb)) := hide (by
    by_cases h : la = lb
    · rw [decide_eq_true h, h, Larder.cmpL_self]; rfl
    · rw [decide_eq_false h, beq_eq_false_iff_ne]; exact fun z => h (Larder.cmpL_zero _ _ z))
  clear h1 h2 hA hB
  generalize Larder.cmpL la lb = R at *
  generalize la.length = n1 at *
  generalize lb.length = n2 at *
  generalize decide (la = lb) = D at *
  go_enter Tryd.func8, Tryd.ntmps8
  go_wp2_with fail
  refine (unhide H1).mono ?_
  rintro e w1 ⟨rfl, h1⟩
  go_wp2
  go_ret
  exact ⟨ret_bool (unhide H2), h1⟩

/-- a text's bytes in new memory -/
theorem text_conv (S : ByteArray) (w : World) :
    ∃ c w', (convert 9 22 (.string S)).run Tryd.prog w = .ok (.slice (some ⟨w.heap.size, 0, none⟩) S.size c) w' ∧ (∀ j, j < S.size → w'.cell? ⟨w.heap.size, j, none⟩ = some (.int .u8 (S.data.toList.getD j 0).toNat)) ∧ Below w.heap.size w w' ∧ w'.heap.size = w.heap.size + 1 := by
  have h := Lib.run_convert_string_bytes (P := Tryd.prog) w 9 22 5 S Tryd.underlying9 Tryd.underlying22 Tryd.underlying5
  exact ⟨_, _, h, fun j hj => Lib.bytesWorld_cell w 5 S j hj, Go.Joins.below_bytesWorld _ w 5 S (Nat.le_refl _), Lib.bytesWorld_size w 5 S⟩

/-- bytes as the model's own -/
def ints (l : List Nat) : List Int := l.map fun (c : Nat) => (c : Int)
def cmpI (a b : List Nat) : Int := Lib.compareBytes (Lib.bytesOf (ints a)) (Lib.bytesOf (ints b))
theorem cmpI_eq : ∀ (a b : List Nat), Small a → Small b → cmpI a b = Larder.cmpL a b
  | [], [], _, _ => rfl
  | [], _ :: _, _, _ => rfl
  | _ :: _, [], _, _ => rfl
  | x :: a, y :: b, ha, hb => by
    have ih := cmpI_eq a b (fun i hi => ha (i + 1) (by simpa using hi)) (fun i hi => hb (i + 1) (by simpa using hi))
    have hx : x < 256 := ha 0 (by simp)
    have hy : y < 256 := hb 0 (by simp)
    have lt : ∀ p q : Nat, p < 256 → q < 256 → ((UInt8.ofNat p < UInt8.ofNat q) ↔ p < q) := fun p q hp hq => by
      rw [UInt8.lt_iff_toNat_lt, UInt8.toNat_ofNat', UInt8.toNat_ofNat', Nat.mod_eq_of_lt hp, Nat.mod_eq_of_lt hq]
    have e : cmpI (x :: a) (y :: b) = if UInt8.ofNat x < UInt8.ofNat y then -1 else if UInt8.ofNat y < UInt8.ofNat x then 1 else cmpI a b := rfl
    have e2 : Larder.cmpL (x :: a) (y :: b) = if x < y then -1 else if y < x then 1 else Larder.cmpL a b := rfl
    rw [e, ih, e2]
    simp only [lt x y hx hy, lt y x hy hx]
theorem load_any {w : World} {a : Option Addr} {cap : Nat} {l : List Nat} (hB : Bytes w a l) : (Extern.Bytes.bytesOf (.slice a l.length cap)).run Tryd.prog w = .ok ⟨(Lib.bytesOf (ints l)).toArray⟩ w := by
  cases a with
  | none =>
    have : l = [] := by
      rcases hB with z | ⟨_, _, z, _⟩
      · exact z
      · cases z
    subst this
    rfl
  | some x =>
    have hc : ∀ j y, (ints l)[j]? = some y → w.cell? (x.add j) = some (.int .u8 y) := fun j y hj => by
      have hjl : j < l.length := by
        have := (List.getElem?_eq_some_iff.1 hj).1
        simpa [ints] using this
      rcases hB with z | ⟨b, off, e, hb, hcc⟩
      · rw [z] at hjl; cases hjl
      · cases e
        have e : (⟨b, off, none⟩ : Addr).add j = ⟨b, off + j, none⟩ := by unfold Addr.add; split <;> simp_all
        rw [e, hcc j hjl]
        unfold ints at hj
        rw [List.getElem?_map, List.getElem?_eq_getElem hjl] at hj
        cases hj
        rw [List.getD_eq_getElem?_getD, List.getElem?_eq_getElem hjl]
        rfl
    have := Lib.run_loadBytesX (P := Tryd.prog) w (ints l) x .empty hc
    rw [show (ints l).length = l.length from List.length_map ..] at this
    show (Extern.Bytes.loadBytes x l.length .empty).run Tryd.prog w = _
    rw [this]
    congr 1
    apply ByteArray.ext
    simp
end Go.Proofs.YtfgemcmiilbodaaDoor
namespace Go.Proofs.YtfgemcmiilbodaaDoor
open Go.ChangeShapes Go.WideShapes Go.ChangeAt Go.RowKit
set_option linter.unusedVariables false
set_option linter.unusedSimpArgs false
set_option maxRecDepth 20000
set_option maxHeartbeats 4000000
def byV (l : List Nat) (q : Nat) : Value := .int .u8 (l.getD q 0 : Nat)
theorem Rws.bytes {W : World} {v : Value} {l : List Nat} (h : Rws W 5 1 v l.length (byV l)) : ∃ a c, v = .slice a l.length c ∧ Bytes W a l ∧ (a = none → c = 0) := by
  rcases h with ⟨rfl, h0⟩ | ⟨b, cap, cur, rfl, hg, hn, hm, hs, hh⟩
  · exact ⟨none, 0, by rw [h0], .inl (List.eq_nil_of_length_eq_zero h0), fun _ => rfl⟩
  · refine ⟨_, cap, rfl, .inr ⟨b, 0, rfl, block_lt hg, fun i hi => ?_⟩, fun h => by cases h⟩
    rw [Nat.zero_add, cell_of_row _ _ _ _ _ _ hg, hh i (by omega)]
    rfl
theorem OwnB.rws {w : World} {b : Nat} {v : Value} {l : List Nat} (h : OwnB w b v l) : Rws w 5 1 v l.length (byV l) := by
  rcases h.2 with ⟨h1, h2⟩ | ⟨g, cap, cur, h1, _, h3, h4, h5, h6, h7⟩
  · exact .inl ⟨h1, h2⟩
  · refine .inr ⟨g, cap, cur, h1, h3, h4, h5, h6, fun k hk => ?_⟩
    have e : cur[k]? = (cellsOf l)[k]? := by rw [← h7, List.getElem?_take, if_pos hk]; simp
    have hk' : k < l.length := by omega
    rw [e]
    unfold cellsOf byV
    rw [List.getElem?_map, List.getElem?_eq_getElem hk', List.getD_eq_getElem?_getD, List.getElem?_eq_getElem hk']
    rfl
theorem OwnB.ge {w : World} {b : Nat} {v : Value} {l : List Nat} (h : OwnB w b v l) : ∀ g, v.ownBlock = some g → b ≤ g := fun g hg => by
  rcases h.2 with ⟨rfl, h2⟩ | ⟨g', cap, cur, rfl, h2, _⟩
  · simp [Value.ownBlock] at hg
  · simp [Value.ownBlock] at hg
    omega
theorem Rws.inb' {W : World} {a : Option Addr} {n c : Nat} {l : List Nat} (h : Rws W 5 1 (.slice a n c) l.length (byV l)) : Bytes W a l ∧ l.length ≤ c ∧ c ≤ 9223372036854775807 ∧ (a = none → c = 0) := by
  rcases h with ⟨e, h0⟩ | ⟨b, cap, cur, e, hg, hn, hm, hs, hh⟩
  · simp only [Value.slice.injEq] at e
    obtain ⟨rfl, h1, rfl⟩ := e
    exact ⟨.inl (List.eq_nil_of_length_eq_zero h0), by omega, by omega, fun _ => rfl⟩
  · simp only [Value.slice.injEq] at e
    obtain ⟨rfl, h1, rfl⟩ := e
    refine ⟨.inr ⟨b, 0, rfl, block_lt hg, fun i hi => ?_⟩, hn, hm, fun h => by cases h⟩
    rw [Nat.zero_add, cell_of_row _ _ _ _ _ _ hg, hh i (by omega)]
    rfl
theorem Rws.take {w : World} {t : TypeId} {a : Option Addr} {n c m : Nat} {f : Nat → Value} (h : Rws w t 1 (.slice a n c) n f) (hm : m ≤ n) (f' : Nat → Value) (hf : ∀ k, k < m → f k = f' k) : Rws w t 1 (.slice a m c) m f' := by
  rcases h with ⟨e, h0⟩ | ⟨b, cap, cur, e, h1, h2, h3, h4, h5⟩
  · cases e
    obtain rfl : m = 0 := by omega
    exact .inl ⟨rfl, rfl⟩
  · cases e
    exact .inr ⟨b, c, cur, rfl, h1, by omega, h3, h4, fun k hk => by rw [h5 k (by omega), hf k (by omega)]⟩
theorem Rws.line {w : World} {t : TypeId} {v : Value} {n : Nat} {f : Nat → Value} (h : Rws w t 1 v n f) : Bk.Line w t v n f := by
  rcases h with h | ⟨b, cap, cur, h1, h2, h3, h4, h5, h6⟩
  · exact .inl h
  · exact .inr ⟨b, cap, cur, h1, h2, h3, h4, by omega, fun j hj => h6 j (by omega)⟩
end Go.Proofs.YtfgemcmiilbodaaDoor
