/- WaitLent: an append to a block that has room for it. -/
import Derived.Test.YtfebiemfmiahhabRk
import Derived.Deep.RegionHeld3
namespace Go.Proofs.Ytfebiemfmiahhab
open Go.ChangeShapes Go.WideShapes Go.ChangeAt Go.RowKit Go.Maps
set_option linter.unusedVariables false
set_option linter.unusedSimpArgs false
set_option maxRecDepth 100000
set_option maxHeartbeats 8000000
/-- a block of places, whose first cells are known -/
def Blk (w : World) (g cap : Nat) (os : List Value) : Prop := ∃ cur, w.heap[g]? = some (.cells cur 46 (0, 0)) ∧ cur.size = cap * 2 ∧ ∀ (j : Nat) (v : Value), os[j]? = some v → cur[j]? = some v
/-- only that block has changed -/
structure One (g : Nat) (w w' : World) : Prop where
  os : w'.os = w.os
  tape : w'.tape = w.tape
  output : w'.output = w.output
  size : w'.heap.size = w.heap.size
  other : ∀ k, k ≠ g → w'.heap[k]? = w.heap[k]?
theorem run_room {w : World} (g n cap : Nat) (os : List Value) (h : Blk w g cap os) (ho : os.length = n * 2) (a : Option Addr) (m c : Nat) (news : List Value) (hl : news.length = m * 2) (hnil : a = none → m = 0) (hn : ∀ ad, a = some ad → ∀ (j : Nat) (u : Value), news[j]? = some u → w.cell? (ad.add j) = some u) (h1 : ∀ u ∈ news, u.oneCell' = true) (hroom : n + m ≤ cap) (ty : TypeId) :
    ∃ w', (Builtin.append_ #[38, 38] ty #[.slice (some ⟨g, 0, none⟩) n cap, .slice a m c]).run Try.prog w = .ok (.slice (some ⟨g, 0, none⟩) (n + m) cap) w' ∧ Blk w' g cap (os ++ news) ∧ One g w w' := by
  obtain ⟨i, hi, hzz⟩ := Option.map_eq_some_iff.1 info46
  simp only [Prod.mk.injEq] at hzz
  obtain ⟨hz, hs, hb⟩ := hzz
  obtain ⟨cur, q1, q2, q3⟩ := h
  cases a with
  | none =>
    obtain rfl := hnil rfl
    obtain rfl : news = [] := List.eq_nil_of_length_eq_zero (by omega)
    refine ⟨w, ?_, by rw [List.append_nil]; exact ⟨cur, q1, q2, q3⟩, rfl, rfl, rfl, rfl, fun _ _ => rfl⟩
    have hroom2 : n ≤ cap := by omega
    simp [Builtin.append_, run_underlying Try.underlying38, sizeOf, typeInfo, hi, Builtin.lenOf, Builtin.firstCells, storeCells, hroom2]
  | some ad =>
    have hr := run_append_room (P := Try.prog) w 38 ty 46 i Try.underlying38 hi g n cap cur q1 ad m c news (by rw [hs]; exact hl) (hn ad rfl) h1 hroom (by rw [hs, q2, hl]; omega)
    rw [hs] at hr
    refine ⟨_, hr, ⟨_, setRow_heap w g cur _ 46 _ q1, ?_, fun j v hj => ?_⟩, rfl, rfl, rfl, by simp [World.setRow], fun k hk => setRow_other w g k _ hk⟩
    · simp only [List.size_toArray, List.length_append, List.length_take, List.length_drop, Array.length_toList]
      omega
    · have hlt : (cur.toList.take (n * 2)).length = n * 2 := by simp; omega
      rw [List.getElem?_toArray]
      by_cases z : j < n * 2
      · rw [List.getElem?_append_left (by omega)] at hj
        rw [List.append_assoc, List.getElem?_append_left (by omega), List.getElem?_take, if_pos z]
        simpa using q3 j v hj
      · rw [List.getElem?_append_right (by omega), ho] at hj
        have := (List.getElem?_eq_some_iff.1 hj).1
        rw [List.append_assoc, List.getElem?_append_right (by omega), hlt, List.getElem?_append_left this]
        exact hj
/-- room for one more than a list has -/
theorem make_room (n : Nat) (hn : n ≤ 5864062014805) (w : World) : (Instr.makeSlice 38 (.int .i64 0) (.int .i64 ((n : Int) + 1))).run Try.prog w = .ok (.slice (some ⟨w.heap.size, 0, none⟩) 0 (n + 1)) (w.alloc (.cells (madeCells #[.int .i64 0, .string (bs [])] ((n + 1) * 2)) 46)) := by
  obtain ⟨i, hi, hzz⟩ := Option.map_eq_some_iff.1 info46
  simp only [Prod.mk.injEq] at hzz
  obtain ⟨hz, hs, hb⟩ := hzz
  have hr := run_make (P := Try.prog) w 38 46 i _ Try.underlying38 hi hz .i64 .i64 0 ((n : Int) + 1) (Int.le_refl _) (by omega) (by rw [hb]; omega) (by omega)
  have e : ((n : Int) + 1).toNat = n + 1 := by omega
  simp only [e, hs] at hr
  exact hr
theorem blk_made (w : World) (k : Nat) : Blk (w.alloc (.cells (madeCells #[.int .i64 0, .string (bs [])] (k * 2)) 46)) w.heap.size k [] :=
  ⟨_, heap_alloc_new _ _, by rw [size_madeCells], fun j v hj => by cases hj⟩
/-- at a step of a region that draws -/
theorem step_room {ops : Array Oper} {o : Oper} {a : Act} {w : World} {K : Act → World → Prop} {Q : Exit → Act → World → Prop} {E : Prop} (hg : o.guard = none) (so x : Operand) (ho : o.op = .call { callee := .builtin .append, args := #[so, x], argTypes := #[38, 38] })
    (g n cap : Nat) (os : List Value) (h : Blk w g cap os) (hos : os.length = n * 2) (hs : a.eval so = .slice (some ⟨g, 0, none⟩) n cap) (ad : Option Addr) (m c : Nat) (hx : a.eval x = .slice ad m c) (news : List Value) (hl : news.length = m * 2) (hnil : ad = none → m = 0) (hn : ∀ b, ad = some b → ∀ (j : Nat) (u : Value), news[j]? = some u → w.cell? (b.add j) = some u) (h1 : ∀ u ∈ news, u.oneCell' = true) (hroom : n + m ≤ cap)
    (k : ∀ w', Blk w' g cap (os ++ news) → One g w w' → K (a.put o.dst (.slice (some ⟨g, 0, none⟩) (n + m) cap)) w') : if Region.wanted o (yielded ops a.tmps) = true then Oper.wp Try.prog o a w K Q else E := by
  have hw : Region.wanted o (yielded ops a.tmps) = true := by simp [Region.wanted, hg]
  rw [if_pos hw]
  obtain ⟨w', hr, h2, h3⟩ := run_room (w := w) g n cap os h hos ad m c news hl hnil hn h1 hroom o.type
  exact wp_appended so x 38 ho _ _ hs hx _ _ hr (k w' h2 h3)
theorem list_room {w : World} {ops : Array Oper} {rest : List Oper} {o : Oper} {a : Act} {Q : Exit → Act → World → Prop} (hgd : o.guard = none) (so x : Operand) (ho : o.op = .call { callee := .builtin .append, args := #[so, x], argTypes := #[38, 38] })
    (g n cap : Nat) (os : List Value) (h : Blk w g cap os) (hos : os.length = n * 2) (hs : a.eval so = .slice (some ⟨g, 0, none⟩) n cap) (ad : Option Addr) (m c : Nat) (hx : a.eval x = .slice ad m c) (news : List Value) (hl : news.length = m * 2) (hnil : ad = none → m = 0) (hn : ∀ b, ad = some b → ∀ (j : Nat) (u : Value), news[j]? = some u → w.cell? (b.add j) = some u) (h1 : ∀ u ∈ news, u.oneCell' = true) (hroom : n + m ≤ cap)
    (k : ∀ w', Blk w' g cap (os ++ news) → One g w w' → wpList Try.prog ops Q rest (a.put o.dst (.slice (some ⟨g, 0, none⟩) (n + m) cap)) w') : wpList Try.prog ops Q (o :: rest) a w := by
  refine wpList_plain hgd fun _ hK => ?_
  obtain ⟨w', hr, h2, h3⟩ := run_room (w := w) g n cap os h hos ad m c news hl hnil hn h1 hroom o.type
  exact wp_appended so x 38 ho _ _ hs hx _ _ hr (hK _ _ (k w' h2 h3))
end Go.Proofs.Ytfebiemfmiahhab
