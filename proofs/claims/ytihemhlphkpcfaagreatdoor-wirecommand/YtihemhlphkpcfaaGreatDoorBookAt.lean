/- A book in memory. -/
import Derived.Test.YtihemhlphkpcfaaGreatDoorBook
namespace Go.Proofs.YtihemhlphkpcfaaGreatDoor.Bk
open Go.ChangeShapes Go.WideShapes Go.ChangeAt Go.RowKit
set_option linter.unusedVariables false
set_option maxRecDepth 100000
set_option maxHeartbeats 4000000

structure BookSt where
  b : HalfSt
  u : HalfSt
  turn : Nat
  done : Nat
  used : Nat
def nilS : Value := .slice none 0 0
def BookSt.flds (S : BookSt) : List Value := [S.b.v, S.b.o, intV S.b.n, nilS, nilS, intV 0, S.u.v, S.u.o, intV S.u.n, nilS, nilS, intV 0, nilS, nilS, intV 0, nilS, nilS, intV 0, nilS, nilS, intV 0, nilS, nilS, intV 0, nilS, nilS, intV 0, nilS, nilS, intV 0, intV S.turn, intV S.done, intV S.used]
/-- the fields of a struct from o on -/
structure Flds (w : World) (pb o : Nat) (l : List Value) : Prop where
  c : ∀ i, i < 33 → w.cell? ⟨pb, o + i, none⟩ = some (l.getD i undef)
  f : ∀ i, i < 33 → w.frozen? ⟨pb, o + i, none⟩ = false
  lt : pb < w.heap.size
theorem Flds.set {w : World} {pb o : Nat} {l : List Value} (h : Flds w pb o l) (i : Nat) (hi : i < 33) (hl : l.length = 33) (v : Value) : Flds (w.setCell ⟨pb, o + i, none⟩ v) pb o (l.set i v) := by
  refine ⟨fun j hj => ?_, fun j hj => by rw [World.frozen?_setCell]; exact h.f j hj, by simpa using h.lt⟩
  by_cases e : j = i
  · subst e
    rw [World.cell?_setCell_same _ _ _ (h.c j hj)]
    simp [List.getD_eq_getElem?_getD, hl, hi]
  · rw [World.cell?_setCell_other _ _ _ _ (fun e' => e (by injection e' with e1 e2; omega)), h.c j hj]
    simp [List.getD_eq_getElem?_getD, Ne.symm e]
theorem Flds.same {w w' : World} {pb o : Nat} {l : List Value} (h : Flds w pb o l) (hb : w'.heap[pb]? = w.heap[pb]?) (hs : w.heap.size ≤ w'.heap.size) : Flds w' pb o l :=
  ⟨fun i hi => (World.cell?_of_block (a := ⟨pb, o + i, none⟩) hb).trans (h.c i hi), fun i hi => (World.frozen?_of_block (a := ⟨pb, o + i, none⟩) hb).trans (h.f i hi), Nat.lt_of_lt_of_le h.lt hs⟩
def bmk (m k : Nat) : Value := .int .u8 (atN m k : Nat)
def wmk (m k : Nat) : Value := .int .u64 (wmN m : Nat)
structure BookAt (w : World) (pb o : Nat) (tag : Nat → Nat) (S : BookSt) : Prop where
  fl : Flds w pb o S.flds
  hb : Half 0 5 25 bmk w tag S.turn S.b
  hu : Half 1 153 152 wmk w tag S.turn S.u
  un : Under w tag
  tp : tag pb = 0
  eb : S.b.L.length = S.b.M.length
  eu : S.u.L.length = S.u.M.length
  nb : S.b.n ≤ S.b.M.length
  nu : S.u.n ≤ S.u.M.length
  cnt : 1200 * S.b.M.length + 1200 * S.u.M.length ≤ S.used + 1080 * S.b.n + 1080 * S.u.n
  us : S.used ≤ 16777216
  tn : S.turn ≤ 1000000
/-- what a call of the book's leaves alone -/
structure Noted (pb o : Nat) (tag tag' : Nat → Nat) (w w' : World) : Prop where
  os : w'.os = w.os
  tape : w'.tape = w.tape
  output : w'.output = w.output
  size : w.heap.size ≤ w'.heap.size
  tg : ∀ g, g < w.heap.size → tag' g = tag g
  blk : ∀ g, g < w.heap.size → tag g = 0 → g ≠ pb → w'.heap[g]? = w.heap[g]?
  rest : ∀ j, (j < o ∨ o + 33 ≤ j) → w'.cell? ⟨pb, j, none⟩ = w.cell? ⟨pb, j, none⟩ ∧ w'.frozen? ⟨pb, j, none⟩ = w.frozen? ⟨pb, j, none⟩
theorem Noted.refl (pb o : Nat) (tag : Nat → Nat) (w : World) : Noted pb o tag tag w w := ⟨rfl, rfl, rfl, Nat.le_refl _, fun _ _ => rfl, fun _ _ _ _ => rfl, fun _ _ => ⟨rfl, rfl⟩⟩
theorem Noted.trans {pb o : Nat} {t t' t'' : Nat → Nat} {w w' w'' : World} (h : Noted pb o t t' w w') (k : Noted pb o t' t'' w' w'') : Noted pb o t t'' w w'' := by
  have hs := h.size
  exact ⟨k.os.trans h.os, k.tape.trans h.tape, k.output.trans h.output, Nat.le_trans h.size k.size, fun g hg => (k.tg g (by omega)).trans (h.tg g hg), fun g h1 h2 h3 => (k.blk g (by omega) (by rw [h.tg g h1]; exact h2) h3).trans (h.blk g h1 h2 h3), fun j hj => ⟨(k.rest j hj).1.trans (h.rest j hj).1, (k.rest j hj).2.trans (h.rest j hj).2⟩⟩
/-- a field of the book is set -/
theorem Noted.set {pb o : Nat} {tag : Nat → Nat} {w : World} (i : Nat) (hi : i < 33) (v : Value) : Noted pb o tag tag w (w.setCell ⟨pb, o + i, none⟩ v) :=
  ⟨rfl, rfl, rfl, by simp, fun _ _ => rfl, fun g _ _ h => setCell_else w pb (o + i) g v h, fun j hj => ⟨World.cell?_setCell_other _ _ _ _ (fun e => by injection e with e1 e2; omega), World.frozen?_setCell _ _ _ _⟩⟩
/-- something is made anew -/
theorem Noted.alloc {pb o : Nat} {tag : Nat → Nat} {w : World} (hp : pb < w.heap.size) (x : Obj) : Noted pb o tag tag w (w.alloc x) :=
  ⟨rfl, rfl, rfl, by simp, fun _ _ => rfl, fun g h1 _ _ => heap_alloc_old w x h1, fun j hj => ⟨World.cell?_of_block (a := ⟨pb, j, none⟩) (heap_alloc_old w x hp), World.frozen?_of_block (a := ⟨pb, j, none⟩) (heap_alloc_old w x hp)⟩⟩
/-- a list of the book's grows -/
theorem Noted.grew {pb o : Nat} {tag : Nat → Nat} {w w' : World} {e : TypeId} {n k : Nat} {u v v' : Value} (hp : pb < w.heap.size) (htp : tag pb = 0) (hk : k ≠ 0) (hg : Grew e n u w w' v v') (hv : ∀ q, v.ownBlock = some q → tag q = k) : Noted pb o tag (tagAt tag v' k) w w' := by
  have hpb := hg.other pb hp (fun e => by have := hv pb e; omega)
  exact ⟨hg.os, hg.tape, hg.output, hg.size, tagAt_old hg hv, fun g h1 h2 _ => hg.other g h1 (fun e => by have := hv g e; omega), fun j hj => ⟨World.cell?_of_block (a := ⟨pb, j, none⟩) hpb, World.frozen?_of_block (a := ⟨pb, j, none⟩) hpb⟩⟩
theorem tight_any {w : World} {pb o : Nat} {S : BookSt} (h : Flds w pb o S.flds) (n : Nat) (hu : S.used ≤ 16777216) (hn : n ≤ 1152921504606846976) :
    Calls Tryz.prog 64 #[.pointer (some ⟨pb, o, none⟩), .int .i64 n] w fun e w' => (16777216 < S.used + n ∧ e = .returned (.bool true) ∧ w' = w) ∨ (S.used + n ≤ 16777216 ∧ e = .returned (.bool false) ∧ w' = w.setCell ⟨pb, o + 32, none⟩ (intV (S.used + n))) := by
  have c32 : w.cell? ⟨pb, o + 32, none⟩ = some (.int .i64 S.used) := h.c 32 (by decide)
  have f32 := h.f 32 (by decide)
  have e1 : intV (S.used + n) = .int .i64 ((S.used : Int) + (n : Int)) := by unfold intV; rw [show ((S.used + n : Nat) : Int) = (S.used : Int) + (n : Int) by omega]
  rw [e1]
  generalize S.used = u at *
  clear h e1
  by_cases ht : 16777216 < u + n
  · have d1 : decide ((16777216 : Int) < (u : Int) + (n : Int)) = true := decide_eq_true (by omega)
    go_enter Tryz.func64, Tryz.ntmps64
    go_wp2
    go_ret
    exact .inl ⟨ht, rfl, rfl⟩
  · have d1 : decide ((16777216 : Int) < (u : Int) + (n : Int)) = false := decide_eq_false (by omega)
    go_enter Tryz.func64, Tryz.ntmps64
    go_wp2
    go_ret
    exact .inr ⟨by omega, rfl, rfl⟩
end Go.Proofs.YtihemhlphkpcfaaGreatDoor.Bk
