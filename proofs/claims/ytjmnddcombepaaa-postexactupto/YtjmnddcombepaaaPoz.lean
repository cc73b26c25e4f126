/- PostOrder: a seat put behind; the letter z. -/
import Derived.Test.YtjmnddcombepaaaPos
namespace Go.Proofs.Ytjmnddcombepaaa
open Go.ChangeShapes Go.WideShapes Go.ChangeAt Go.RowKit Go.Maps Go.Sort
set_option linter.unusedVariables false
set_option linter.unusedSimpArgs false
set_option maxRecDepth 100000
set_option maxHeartbeats 8000000
/-- a seat's number and its name's length are Go's -/
def Bnd (l : List Sv) : Prop := ∀ x ∈ l, (-9223372036854775808 ≤ x.1.1 ∧ x.1.1 ≤ 9223372036854775807) ∧ x.1.2.1.length ≤ x.2.2 ∧ x.1.2.1.length ≤ 9223372036854775807
theorem Bnd.un {l : List Sv} (h : Bnd l) (k : Nat) : Bnd (unV (l.take k)) := by
  refine unV_all _ (fun x hx => ?_)
  have h1 := h x (List.mem_of_mem_take hx)
  have h2 := fitV_ok x
  refine ⟨⟨by omega, by omega⟩, ?_, by omega⟩
  show (x.1.2.1.take 64).length ≤ x.2.2
  rw [List.length_take]
  omega
/-- a seat list of its own -/
structure LAt (W wr : World) (base : Nat) (v : Value) (l : List Sv) : Prop where
  bel : Below W.heap.size W wr
  own : OwnV wr base v l
  hb : W.heap.size ≤ base
  nam : ∀ x ∈ l, Named wr x
  bnd : Bnd l
theorem LAt.below {W wr w' : World} {base : Nat} {v : Value} {l : List Sv} (h : LAt W wr base v l) (hb : Below wr.heap.size wr w') : LAt W w' base v l :=
  ⟨h.bel.trans (hb.mono h.bel.size), h.own.below hb, h.hb, fun x hx => (h.nam x hx).below hb, h.bnd⟩
/-- where an unlike list's names lie: below its own block -/
def Near (base : Nat) (x : Sv) : Prop := x.1.2.1 = [] ∨ ∃ b off, x.2.1 = some ⟨b, off, none⟩ ∧ b < base
theorem Named.near {w : World} {x : Sv} (h : Named w x) {base : Nat} (hb : w.heap.size ≤ base) : Near base x := by
  rcases h with h | ⟨b, off, e, hlt, -⟩
  · exact .inl (List.eq_nil_of_length_eq_zero (by rw [← nb_len, h]; rfl))
  · exact .inr ⟨b, off, e, Nat.lt_of_lt_of_le hlt hb⟩
/-- unlike of what came in -/
theorem seats_in (W wr : World) (a : Option Addr) (n cap : Nat) (l : List Sv) (hw : Below W.heap.size W wr) (hl : SvAt wr a l) (hn : n = l.length) (hN : ∀ x ∈ l, Named wr x) (hB : Bnd l) :
    Calls Try.prog 17 #[.slice a n cap] wr fun e w' => ∃ v, e = .returned v ∧ Hid (LAt W w' (wr.heap.size + 1) v (unV (l.take 1000)) ∧ ∀ x ∈ unV (l.take 1000), Near wr.heap.size x) ∧ Hid (Below wr.heap.size wr w') := by
  refine (seats_any wr a n cap l hl hn hN hB).mono (fun e w' ⟨a', n', c', e1, _, h⟩ => ?_)
  obtain ⟨h1, h2⟩ := unhide h
  have hU : ∀ x ∈ unV (l.take 1000), Named wr x := unV_all (P := Named wr) _ (fun y hy => (hN y (List.mem_of_mem_take hy)).fit)
  exact ⟨_, e1, hide ⟨⟨hw.trans (h1.mono hw.size), h2, by have := hw.size; omega, fun x hx => (hU x hx).below h1, hB.un 1000⟩, fun x hx => (hU x hx).near (Nat.le_refl _)⟩, hide h1⟩
/-- unlike of a list of its own -/
theorem seats_own (W wr : World) (base : Nat) (v : Value) (l : List Sv) (h : LAt W wr base v l) :
    Calls Try.prog 17 #[v] wr fun e w' => ∃ v', e = .returned v' ∧ Hid (LAt W w' (wr.heap.size + 1) v' (unV (l.take 1000)) ∧ ∀ x ∈ unV (l.take 1000), Near wr.heap.size x) ∧ Hid (Below wr.heap.size wr w') := by
  obtain ⟨a, n, cp, rfl, hn⟩ := h.own.slice
  exact seats_in W wr a n cp l h.bel h.own.at hn h.nam h.bnd
/-- joined of a list of its own, every seat once -/
theorem joined_own (W wr : World) (base : Nat) (v : Value) (l : List Sv) (h : LAt W wr base v l) (hu : Unl l) (hl : l.length ≤ 1000) :
    Calls Try.prog 18 #[v] wr fun e w' => ∃ p b, e = .returned (.pointer (some ⟨p, 0, none⟩)) ∧ Hid ((∃ D, PostAt w' p b D (l.map (·.1)).reverse) ∧ wr.heap.size ≤ b ∧ Below wr.heap.size wr w') := by
  obtain ⟨a, n, cp, rfl, hn⟩ := h.own.slice
  refine (joined_any wr a n cp l h.own.at hn h.nam hu.ok hl hu.nodup hu.cnt).mono (fun e w' ⟨p, b, D, e1, h2⟩ => ?_)
  obtain ⟨h3, h4, h5⟩ := unhide h2
  exact ⟨p, b, e1, hide ⟨⟨D, h4⟩, h5, h3⟩⟩
/-- alike over a list of its own: two Posts with the same keys -/
theorem alike_own (G : List UInt8 → List UInt8 → Bool) (hG : GlobIs G) (W wr : World) (base p q bp bq : Nat) (v : Value) (l : List Sv) (S S' : List Key) (C : List UInt8) (h : LAt W wr base v l) (hu : Unl l) (hl : l.length ≤ 1000) (hp : ∃ D, PostAt wr p bp D S) (hq : ∃ D, PostAt wr q bq D S') (hS : S.Perm (l.map (·.1))) (hS' : S'.Perm (l.map (·.1))) (hC : C.length ≤ 140737488355328) :
    Calls Try.prog 23 #[.pointer (some ⟨p, 0, none⟩), .pointer (some ⟨q, 0, none⟩), v, .string (bs C)] wr fun e w' => e = .returned (.bool true) ∧ Hid (Below wr.heap.size wr w') := by
  obtain ⟨a, n, cp, rfl, hn⟩ := h.own.slice
  obtain ⟨D, hp⟩ := hp
  obtain ⟨D', hq⟩ := hq
  have hk : ∀ k ∈ l.map (·.1), k.2.1.length ≤ 4096 := fun k hk => by
    obtain ⟨x, hx, rfl⟩ := List.mem_map.1 hk
    have := (hu.ok x hx).2
    omega
  exact alike_any G hG wr p q bp bq D D' S S' a n cp (l.map (·.1)) C hp hq (hS.trans hS'.symm) (by rw [hS.length_eq, List.length_map]; omega) (fun k h => hk k (hS.mem_iff.1 h)) (h.own.at.seats h.nam) (by rw [hn, List.length_map]) hk (by omega) hC
end Go.Proofs.Ytjmnddcombepaaa
namespace Go.Proofs.Ytjmnddcombepaaa
open Go.ChangeShapes Go.WideShapes Go.ChangeAt Go.RowKit Go.Maps Go.Sort
set_option linter.unusedVariables false
set_option linter.unusedSimpArgs false
set_option maxRecDepth 100000
set_option maxHeartbeats 8000000
theorem conv_cap (w : World) (T : List UInt8) : ∃ c w', (convert 9 23 (.string (bs T))).run Try.prog w = .ok (.slice (some ⟨w.heap.size, 0, none⟩) T.length c) w' ∧ T.length ≤ c ∧ Hid (Named w' (((0 : Int), T, false), some ⟨w.heap.size, 0, none⟩, c) ∧ Below w.heap.size w w' ∧ w'.heap.size = w.heap.size + 1) := by
  have h := Lib.run_convert_string_bytes (P := Try.prog) w 9 23 5 (bs T) Try.underlying9 Try.underlying23 Try.underlying5
  have hz := bs_size T
  refine ⟨_, _, by rw [← hz]; exact h, ?_, hide ⟨bytes_of (by rw [Lib.bytesWorld_size]; omega) (fun j hj => ?_), Go.Joins.below_bytesWorld _ w 5 (bs T) (Nat.le_refl _), Lib.bytesWorld_size w 5 (bs T)⟩⟩
  · rw [← hz]
    exact grownCap_ge w _ 0 5
  · have hj' : j < T.length := hj
    rw [Lib.bytesWorld_cell w 5 (bs T) j (by omega), bs_list, nb_getD]
/-- a seat is put behind -/
theorem LAt.push {W wr w' : World} {base : Nat} {v v' : Value} {l : List Sv} {o : Obj} {z : Sv} (h : LAt W wr base v l) (hg : (wr.alloc o).grownBy w' v.ownBlock) (ho : w'.ownsRow base 40 3 v' (l.length + 1) (l.flatMap seatC ++ seatC z)) (hz : Named wr z) (hzb : (-9223372036854775808 ≤ z.1.1 ∧ z.1.1 ≤ 9223372036854775807) ∧ z.1.2.1.length ≤ z.2.2 ∧ z.1.2.1.length ≤ 9223372036854775807) (hap : ∀ x, x ∈ l ∨ x = z → ∀ g, v.ownBlock = some g → x.1.2.1 = [] ∨ ∃ b off, x.2.1 = some ⟨b, off, none⟩ ∧ b ≠ g) : LAt W w' base v' (l ++ [z]) := by
  have ha := h.below ((Below.refl _ _).alloc (Nat.le_refl _) o)
  have hn : ∀ x, (x ∈ l ∨ x = z) → Named (wr.alloc o) x := fun x hx => by
    rcases hx with hx | rfl
    · exact ha.nam x hx
    · exact hz.below ((Below.refl _ _).alloc (Nat.le_refl _) o)
  refine ⟨ha.bel.grown hg ha.bel.size (fun k hk => by have := (ha.own.ge k hk).1; have := ha.hb; omega), ?_, h.hb, fun x hx => ?_, fun x hx => ?_⟩
  · unfold OwnV
    simpa [List.flatMap_append] using ho
  · have hx' : x ∈ l ∨ x = z := by simpa using hx
    rcases hn x hx' with h0 | ⟨b, off, e, hb, hc⟩
    · exact .inl h0
    · by_cases hnil : x.1.2.1 = []
      · exact .inl (by rw [hnil]; rfl)
      · refine .inr ⟨b, off, e, Nat.lt_of_lt_of_le hb hg.size, fun i hi => hg.cell (hc i hi) (fun e2 => ?_)⟩
        rcases hap x hx' b e2.symm with h1 | ⟨b', off', e', hne⟩
        · exact hnil h1
        · rw [e] at e'
          cases e'
          exact hne rfl
  · rcases List.mem_append.1 hx with h1 | h1
    · exact h.bnd x h1
    · rw [List.mem_singleton.1 h1]; exact hzb
def zed (g cz : Nat) : Sv := (((1 : Int), [122], false), some ⟨g, 0, none⟩, cz)
/-- the world behind the letter z -/
def zw (w : World) : World := (w.alloc (.cells #[.int .u8 122] 5)).freeze ⟨w.heap.size, 1, none⟩ 1
theorem zw_old (w : World) (j : Nat) (hj : j < w.heap.size) : (zw w).heap[j]? = w.heap[j]? := by
  have h1 : w.heap.size ≠ j := by omega
  simp [zw, World.freeze, World.alloc, -World.alloc_eq, Array.getElem?_modify, Array.getElem?_push, h1, Ne.symm h1]
theorem zw_new (w : World) : (zw w).heap[w.heap.size]? = some (.cells #[.int .u8 122] 5 (1, 2)) := by
  simp [zw, World.freeze, World.alloc, -World.alloc_eq]
  rw [Array.getElem_modify_self]
  simp
theorem zw_size (w : World) : (zw w).heap.size = w.heap.size + 1 := by
  simp [zw, World.freeze, World.alloc, -World.alloc_eq]
theorem zw_below (w : World) : Below w.heap.size w (zw w) := ⟨rfl, rfl, rfl, by rw [zw_size]; omega, fun k hk => zw_old w k hk⟩
theorem conv_self (w : World) : (convert 23 23 (.slice (some ⟨w.heap.size, 0, none⟩) 1 1)).run Try.prog (w.alloc (.cells #[.int .u8 122] 5)) = .ok (.slice (some ⟨w.heap.size, 0, none⟩) 1 1) (zw w) := by
  have hsh : ∀ c : Array Value, (w.alloc (.cells c 5)).shape? w.heap.size = some (5, c.size) := by
    intro c
    simp [World.shape?, World.alloc, -World.alloc_eq]
  simp [convert, run_underlying Try.underlying23, markStringish, Question.forced, hsh, Result.andThen, zw]
theorem z_laid (w w0 w1 : World) (v1 : Value) (U : List Sv) (k1 : LAt w w1 (w0.heap.size + 1) v1 U) (hN : ∀ x ∈ U, Near w0.heap.size x) (b1 : Below w0.heap.size w0 w1) :
    ((zw w1).alloc (.cells #[.int .i64 1, .slice (some ⟨w1.heap.size, 0, none⟩) 1 1, .bool false] 40)).ownsRow (w0.heap.size + 1) 40 3 v1 U.length (U.flatMap seatC) ∧ w0.heap.size + 1 ≤ (zw w1).heap.size ∧ Hid (∀ v4 w4, w4.ownsRow (w0.heap.size + 1) 40 3 v4 (U.length + 1) (U.flatMap seatC ++ [.int .i64 1, .slice (some ⟨w1.heap.size, 0, none⟩) 1 1, .bool false]) → ((zw w1).alloc (.cells #[.int .i64 1, .slice (some ⟨w1.heap.size, 0, none⟩) 1 1, .bool false] 40)).grownBy w4 v1.ownBlock → LAt w w4 (w0.heap.size + 1) v4 (U ++ [zed w1.heap.size 1])) := by
  have hh := zw_new w1
  have k1z := k1.below (zw_below w1)
  refine ⟨World.ownsRow.alloc k1z.own _, by have h2 := b1.size; rw [zw_size]; omega, hide (fun v4 w4 h h4 => ?_)⟩
  refine k1z.push (z := zed w1.heap.size 1) h4 h (bytes_of (T := [122]) (by rw [zw_size]; omega) (fun j hj => ?_)) ⟨⟨by show (-9223372036854775808 : Int) ≤ 1; decide, by show (1 : Int) ≤ 9223372036854775807; decide⟩, Nat.le_refl 1, by show 1 ≤ 9223372036854775807; decide⟩ (fun x hx g hg => ?_)
  · obtain rfl : j = 0 := by simpa using hj
    simp [World.cell?, hh]
    rfl
  have hge := k1.own.ge g hg
  rcases hx with hx | rfl
  · rcases hN x hx with h0 | ⟨b, off, e, hb⟩
    · exact .inl h0
    · exact .inr ⟨b, off, e, by omega⟩
  · exact .inr ⟨_, _, rfl, by omega⟩
end Go.Proofs.Ytjmnddcombepaaa
