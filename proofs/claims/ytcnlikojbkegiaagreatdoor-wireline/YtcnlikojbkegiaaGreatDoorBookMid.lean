/- A book in the midst of a call. -/
import Derived.Test.YtcnlikojbkegiaaGreatDoorBook
namespace Go.Proofs.YtcnlikojbkegiaaGreatDoor.Bk
open Go.ChangeShapes Go.WideShapes Go.ChangeAt Go.RowKit
set_option linter.unusedVariables false
set_option maxRecDepth 100000
set_option maxHeartbeats 4000000

structure BookSt where
  b : HalfSt
  u : HalfSt
  turn : Nat
  done : Nat
  used : Nat
def nilS : Value := .slice none 0 0
def BookSt.flds (S : BookSt) : List Value := [S.b.v, S.b.o, intV S.b.n, nilS, nilS, intV 0, S.u.v, S.u.o, intV S.u.n, nilS, nilS, intV 0, nilS, nilS, intV 0, nilS, nilS, intV 0, nilS, nilS, intV 0, nilS, nilS, intV 0, nilS, nilS, intV 0, nilS, nilS, intV 0, intV S.turn, intV S.done, intV S.used]
/-- the fields of a struct from o on -/
structure Flds (w : World) (pb o : Nat) (l : List Value) : Prop where
  c : ∀ i, i < 33 → w.cell? ⟨pb, o + i, none⟩ = some (l.getD i undef)
  f : ∀ i, i < 33 → w.frozen? ⟨pb, o + i, none⟩ = false
  lt : pb < w.heap.size
theorem Flds.set {w : World} {pb o : Nat} {l : List Value} (h : Flds w pb o l) (i : Nat) (hi : i < 33) (hl : l.length = 33) (v : Value) : Flds (w.setCell ⟨pb, o + i, none⟩ v) pb o (l.set i v) := by
  refine ⟨fun j hj => ?_, fun j hj => by rw [World.frozen?_setCell]; exact h.f j hj, by simpa using h.lt⟩
  by_cases e : j = i
  · subst e
    rw [World.cell?_setCell_same _ _ _ (h.c j hj)]
    simp [List.getD_eq_getElem?_getD, hl, hi]
  · rw [World.cell?_setCell_other _ _ _ _ (fun e' => e (by injection e' with e1 e2; omega)), h.c j hj]
    simp [List.getD_eq_getElem?_getD, Ne.symm e]
theorem Flds.same {w w' : World} {pb o : Nat} {l : List Value} (h : Flds w pb o l) (hb : w'.heap[pb]? = w.heap[pb]?) (hs : w.heap.size ≤ w'.heap.size) : Flds w' pb o l :=
  ⟨fun i hi => (World.cell?_of_block (a := ⟨pb, o + i, none⟩) hb).trans (h.c i hi), fun i hi => (World.frozen?_of_block (a := ⟨pb, o + i, none⟩) hb).trans (h.f i hi), Nat.lt_of_lt_of_le h.lt hs⟩
def bmk (m k : Nat) : Value := .int .u8 (atN m k : Nat)
def wmk (m k : Nat) : Value := .int .u64 (wmN m : Nat)
structure BookAt (w : World) (pb o : Nat) (tag : Nat → Nat) (S : BookSt) : Prop where
  fl : Flds w pb o S.flds
  hb : Half 0 5 25 bmk w tag S.turn S.b
  hu : Half 1 153 152 wmk w tag S.turn S.u
  un : Under w tag
  tp : tag pb = 0
  eb : S.b.L.length = S.b.M.length
  eu : S.u.L.length = S.u.M.length
  nb : S.b.n ≤ S.b.M.length
  nu : S.u.n ≤ S.u.M.length
  cnt : 1200 * S.b.M.length + 1200 * S.u.M.length ≤ S.used + 1080 * S.b.n + 1080 * S.u.n
  us : S.used ≤ 16777216
  tn : S.turn ≤ 1000000
/-- what a call of the book's leaves alone -/
structure Noted (pb o : Nat) (tag tag' : Nat → Nat) (w w' : World) : Prop where
  os : w'.os = w.os
  tape : w'.tape = w.tape
  output : w'.output = w.output
  size : w.heap.size ≤ w'.heap.size
  tg : ∀ g, g < w.heap.size → tag' g = tag g
  blk : ∀ g, g < w.heap.size → tag g = 0 → g ≠ pb → w'.heap[g]? = w.heap[g]?
  rest : ∀ j, (j < o ∨ o + 33 ≤ j) → w'.cell? ⟨pb, j, none⟩ = w.cell? ⟨pb, j, none⟩ ∧ w'.frozen? ⟨pb, j, none⟩ = w.frozen? ⟨pb, j, none⟩
theorem Noted.refl (pb o : Nat) (tag : Nat → Nat) (w : World) : Noted pb o tag tag w w := ⟨rfl, rfl, rfl, Nat.le_refl _, fun _ _ => rfl, fun _ _ _ _ => rfl, fun _ _ => ⟨rfl, rfl⟩⟩
theorem Noted.trans {pb o : Nat} {t t' t'' : Nat → Nat} {w w' w'' : World} (h : Noted pb o t t' w w') (k : Noted pb o t' t'' w' w'') : Noted pb o t t'' w w'' := by
  have hs := h.size
  exact ⟨k.os.trans h.os, k.tape.trans h.tape, k.output.trans h.output, Nat.le_trans h.size k.size, fun g hg => (k.tg g (by omega)).trans (h.tg g hg), fun g h1 h2 h3 => (k.blk g (by omega) (by rw [h.tg g h1]; exact h2) h3).trans (h.blk g h1 h2 h3), fun j hj => ⟨(k.rest j hj).1.trans (h.rest j hj).1, (k.rest j hj).2.trans (h.rest j hj).2⟩⟩
/-- a field of the book is set -/
theorem Noted.set {pb o : Nat} {tag : Nat → Nat} {w : World} (i : Nat) (hi : i < 33) (v : Value) : Noted pb o tag tag w (w.setCell ⟨pb, o + i, none⟩ v) :=
  ⟨rfl, rfl, rfl, by simp, fun _ _ => rfl, fun g _ _ h => setCell_else w pb (o + i) g v h, fun j hj => ⟨World.cell?_setCell_other _ _ _ _ (fun e => by injection e with e1 e2; omega), World.frozen?_setCell _ _ _ _⟩⟩
/-- something is made anew -/
theorem Noted.alloc {pb o : Nat} {tag : Nat → Nat} {w : World} (hp : pb < w.heap.size) (x : Obj) : Noted pb o tag tag w (w.alloc x) :=
  ⟨rfl, rfl, rfl, by simp, fun _ _ => rfl, fun g h1 _ _ => heap_alloc_old w x h1, fun j hj => ⟨World.cell?_of_block (a := ⟨pb, j, none⟩) (heap_alloc_old w x hp), World.frozen?_of_block (a := ⟨pb, j, none⟩) (heap_alloc_old w x hp)⟩⟩
/-- a list of the book's grows -/
theorem Noted.grew {pb o : Nat} {tag : Nat → Nat} {w w' : World} {e : TypeId} {n k : Nat} {u v v' : Value} (hp : pb < w.heap.size) (htp : tag pb = 0) (hk : k ≠ 0) (hg : Grew e n u w w' v v') (hv : ∀ q, v.ownBlock = some q → tag q = k) : Noted pb o tag (tagAt tag v' k) w w' := by
  have hpb := hg.other pb hp (fun e => by have := hv pb e; omega)
  exact ⟨hg.os, hg.tape, hg.output, hg.size, tagAt_old hg hv, fun g h1 h2 _ => hg.other g h1 (fun e => by have := hv g e; omega), fun j hj => ⟨World.cell?_of_block (a := ⟨pb, j, none⟩) hpb, World.frozen?_of_block (a := ⟨pb, j, none⟩) hpb⟩⟩
theorem tight_any {w : World} {pb o : Nat} {S : BookSt} (h : Flds w pb o S.flds) (n : Nat) (hu : S.used ≤ 16777216) (hn : n ≤ 1152921504606846976) :
    Calls Tryz.prog 64 #[.pointer (some ⟨pb, o, none⟩), .int .i64 n] w fun e w' => (16777216 < S.used + n ∧ e = .returned (.bool true) ∧ w' = w) ∨ (S.used + n ≤ 16777216 ∧ e = .returned (.bool false) ∧ w' = w.setCell ⟨pb, o + 32, none⟩ (intV (S.used + n))) := by
  have c32 : w.cell? ⟨pb, o + 32, none⟩ = some (.int .i64 S.used) := h.c 32 (by decide)
  have f32 := h.f 32 (by decide)
  have e1 : intV (S.used + n) = .int .i64 ((S.used : Int) + (n : Int)) := by unfold intV; rw [show ((S.used + n : Nat) : Int) = (S.used : Int) + (n : Int) by omega]
  rw [e1]
  generalize S.used = u at *
  clear h e1
  by_cases ht : 16777216 < u + n
  · have d1 : decide ((16777216 : Int) < (u : Int) + (n : Int)) = true := decide_eq_true (by omega)
    go_enter Tryz.func64, Tryz.ntmps64
    go_wp2
    go_ret
    exact .inl ⟨ht, rfl, rfl⟩
  · have d1 : decide ((16777216 : Int) < (u : Int) + (n : Int)) = false := decide_eq_false (by omega)
    go_enter Tryz.func64, Tryz.ntmps64
    go_wp2
    go_ret
    exact .inr ⟨by omega, rfl, rfl⟩
end Go.Proofs.YtcnlikojbkegiaaGreatDoor.Bk
namespace Go.Proofs.YtcnlikojbkegiaaGreatDoor.Bk
open Go.ChangeShapes Go.WideShapes Go.ChangeAt Go.RowKit
set_option linter.unusedVariables false
set_option maxRecDepth 100000
set_option maxHeartbeats 4000000

theorem Half.tags {c : Nat} {te tl : TypeId} {mk : Nat → Nat → Value} {w : World} {tag tag' : Nat → Nat} {T : Nat} {H : HalfSt} (h : Half c te tl mk w tag T H) (ht : ∀ g, tag g ≠ 0 → tag' g = tag g) : Half c te tl mk w tag' T H := by
  have hx : ∀ g k, tag g = k → k ≠ 0 → tag' g = k := fun g k e hk => by rw [ht g (by omega)]; exact e
  refine ⟨h.rl, h.ro, fun g hg => hx g _ (h.tl' g hg) (by omega), fun g hg => hx g _ (h.to' g hg) (by omega), fun j hj => ?_, h.fresh, h.le⟩
  obtain ⟨h1, h2, h3, h4⟩ := h.ent j hj
  exact ⟨h1, fun g hg => hx g _ (h2 g hg) (by omega), h3, h4⟩
structure Mid (pb o : Nat) (t0 : Nat → Nat) (w0 : World) (tag : Nat → Nat) (w : World) (l : List Value) (T : Nat) (B U : HalfSt) : Prop where
  fl : Flds w pb o l
  len : l.length = 33
  hb : Half 0 5 25 bmk w tag T B
  hu : Half 1 153 152 wmk w tag T U
  un : Under w tag
  tp : tag pb = 0
  no : Noted pb o t0 tag w0 w
theorem BookAt.mid {w : World} {pb o : Nat} {tag : Nat → Nat} {S : BookSt} (h : BookAt w pb o tag S) : Mid pb o tag w tag w S.flds S.turn S.b S.u := ⟨h.fl, rfl, h.hb, h.hu, h.un, h.tp, Noted.refl _ _ _ _⟩
theorem Mid.set {pb o : Nat} {t0 : Nat → Nat} {w0 : World} {tag : Nat → Nat} {w : World} {l : List Value} {T : Nat} {B U : HalfSt} (h : Mid pb o t0 w0 tag w l T B U) (i : Nat) (hi : i < 33) (v : Value) : Mid pb o t0 w0 tag (w.setCell ⟨pb, o + i, none⟩ v) (l.set i v) T B U := by
  have hb : ∀ g, tag g ≠ 0 → (w.setCell ⟨pb, o + i, none⟩ v).heap[g]? = w.heap[g]? := fun g hg => setCell_else w pb (o + i) g v (fun e => hg (by rw [e]; exact h.tp))
  exact ⟨h.fl.set i hi h.len v, by simpa using h.len, h.hb.same hb (Nat.le_refl _), h.hu.same hb (Nat.le_refl _), fun g hg => by simpa using h.un g hg, h.tp, h.no.trans (Noted.set i hi v)⟩
theorem Mid.alloc {pb o : Nat} {t0 : Nat → Nat} {w0 : World} {tag : Nat → Nat} {w : World} {l : List Value} {T : Nat} {B U : HalfSt} (h : Mid pb o t0 w0 tag w l T B U) (x : Obj) : Mid pb o t0 w0 tag (w.alloc x) l T B U := by
  have hb : ∀ g, tag g ≠ 0 → (w.alloc x).heap[g]? = w.heap[g]? := fun g hg => heap_alloc_old w x (h.un g hg)
  exact ⟨h.fl.same (heap_alloc_old w x h.fl.lt) (by simp), h.len, h.hb.same hb (Nat.le_refl _), h.hu.same hb (Nat.le_refl _), fun g hg => by have := h.un g hg; simp; omega, h.tp, h.no.trans (Noted.alloc h.fl.lt x)⟩
theorem Mid.drawn {pb o : Nat} {t0 : Nat → Nat} {w0 : World} {tag : Nat → Nat} {w : World} {l : List Value} {T : Nat} {B U : HalfSt} (h : Mid pb o t0 w0 tag w l T B U) (n : Nat) : Mid pb o t0 w0 tag (w.drewN n) l T B U :=
  ⟨h.fl.same rfl (Nat.le_refl _), h.len, h.hb.same (fun _ _ => rfl) (Nat.le_refl _), h.hu.same (fun _ _ => rfl) (Nat.le_refl _), h.un, h.tp, h.no.trans ⟨rfl, rfl, rfl, Nat.le_refl _, fun _ _ => rfl, fun _ _ _ _ => rfl, fun _ _ => ⟨rfl, rfl⟩⟩⟩
theorem Grew.flds {w w' : World} {pb o : Nat} {l : List Value} {e : TypeId} {n k : Nat} {u v v' : Value} {tag : Nat → Nat} (h : Flds w pb o l) (hg : Grew e n u w w' v v') (hv : ∀ q, v.ownBlock = some q → tag q = k) (hk : k ≠ 0) (tp : tag pb = 0) : Flds w' pb o l :=
  h.same (hg.other pb h.lt (fun e => by have := hv pb e; omega)) hg.size
theorem tagAt_pb {w w' : World} {pb : Nat} {e : TypeId} {n k : Nat} {u v v' : Value} {tag : Nat → Nat} (hg : Grew e n u w w' v v') (hv : ∀ q, v.ownBlock = some q → tag q = k) (hp : pb < w.heap.size) (tp : tag pb = 0) : tagAt tag v' k pb = 0 := by rw [tagAt_old hg hv pb hp]; exact tp
theorem Mid.addB {pb o : Nat} {t0 : Nat → Nat} {w0 : World} {tag : Nat → Nat} {w w' : World} {l : List Value} {T : Nat} {B U : HalfSt} (h : Mid pb o t0 w0 tag w l T B U) {x v' : Value} (hg : Grew 25 B.L.length x w w' B.v v') (hl : Line w' 25 v' (B.L.length + 1) (fun j => if j < B.L.length then B.L.getD j undef else x)) : Mid pb o t0 w0 (tagAt tag v' 1) w' l T { B with v := v', L := B.L ++ [x] } U :=
  ⟨Grew.flds h.fl hg h.hb.tl' (by decide) h.tp, h.len, h.hb.addL (by decide) hg hl, h.hu.growElse (by decide) (by decide) (c' := 0) (by decide) hg h.hb.tl' (.inl rfl), tagAt_under hg h.un h.hb.rl, tagAt_pb hg h.hb.tl' h.fl.lt h.tp, h.no.trans (Noted.grew h.fl.lt h.tp (by decide) hg h.hb.tl')⟩
theorem Mid.addU {pb o : Nat} {t0 : Nat → Nat} {w0 : World} {tag : Nat → Nat} {w w' : World} {l : List Value} {T : Nat} {B U : HalfSt} (h : Mid pb o t0 w0 tag w l T B U) {x v' : Value} (hg : Grew 152 U.L.length x w w' U.v v') (hl : Line w' 152 v' (U.L.length + 1) (fun j => if j < U.L.length then U.L.getD j undef else x)) : Mid pb o t0 w0 (tagAt tag v' 3) w' l T B { U with v := v', L := U.L ++ [x] } :=
  ⟨Grew.flds h.fl hg h.hu.tl' (by decide) h.tp, h.len, h.hb.growElse (by decide) (by decide) (c' := 1) (by decide) hg h.hu.tl' (.inl rfl), h.hu.addL (by decide) hg hl, tagAt_under hg h.un h.hu.rl, tagAt_pb hg h.hu.tl' h.fl.lt h.tp, h.no.trans (Noted.grew h.fl.lt h.tp (by decide) hg h.hu.tl')⟩
theorem Mid.addBo {pb o : Nat} {t0 : Nat → Nat} {w0 : World} {tag : Nat → Nat} {w w' : World} {l : List Value} {T : Nat} {B U : HalfSt} (h : Mid pb o t0 w0 tag w l T B U) (hlen : B.L.length = B.M.length + 1) {m : Nat} {o' : Value} (hg : Grew 3 B.M.length (intV m) w w' B.o o') (hl : Line w' 3 o' (B.M.length + 1) (fun j => if j < B.M.length then intV (B.M.getD j 0) else intV m))
    (hn : Line w 5 (B.L.getD B.M.length undef) (lenOf (B.L.getD B.M.length undef)) (bmk m)) (htg : ∀ g, (B.L.getD B.M.length undef).ownBlock = some g → tag g = 10 + 2 * m) (hz : lenOf (B.L.getD B.M.length undef) ≤ 33554432) (hmT : m ≤ T) (hf : B.n ≤ B.M.length → lenOf (B.L.getD B.M.length undef) ≤ 16777216) :
    Mid pb o t0 w0 (tagAt tag o' 2) w' l T { B with o := o', M := B.M ++ [m] } U :=
  ⟨Grew.flds h.fl hg h.hb.to' (by decide) h.tp, h.len, h.hb.addO (by decide) hlen hg hl hn htg hz hmT hf, h.hu.growElse (by decide) (by decide) (c' := 0) (by decide) hg h.hb.to' (.inr (.inl rfl)), tagAt_under hg h.un h.hb.ro, tagAt_pb hg h.hb.to' h.fl.lt h.tp, h.no.trans (Noted.grew h.fl.lt h.tp (by decide) hg h.hb.to')⟩
theorem Mid.addUo {pb o : Nat} {t0 : Nat → Nat} {w0 : World} {tag : Nat → Nat} {w w' : World} {l : List Value} {T : Nat} {B U : HalfSt} (h : Mid pb o t0 w0 tag w l T B U) (hlen : U.L.length = U.M.length + 1) {m : Nat} {o' : Value} (hg : Grew 3 U.M.length (intV m) w w' U.o o') (hl : Line w' 3 o' (U.M.length + 1) (fun j => if j < U.M.length then intV (U.M.getD j 0) else intV m))
    (hn : Line w 153 (U.L.getD U.M.length undef) (lenOf (U.L.getD U.M.length undef)) (wmk m)) (htg : ∀ g, (U.L.getD U.M.length undef).ownBlock = some g → tag g = 10 + 2 * m + 1) (hz : lenOf (U.L.getD U.M.length undef) ≤ 33554432) (hmT : m ≤ T) (hf : U.n ≤ U.M.length → lenOf (U.L.getD U.M.length undef) ≤ 16777216) :
    Mid pb o t0 w0 (tagAt tag o' 4) w' l T B { U with o := o', M := U.M ++ [m] } :=
  ⟨Grew.flds h.fl hg h.hu.to' (by decide) h.tp, h.len, h.hb.growElse (by decide) (by decide) (c' := 1) (by decide) hg h.hu.to' (.inr (.inl rfl)), h.hu.addO (by decide) hlen hg hl hn htg hz hmT hf, tagAt_under hg h.un h.hu.ro, tagAt_pb hg h.hu.to' h.fl.lt h.tp, h.no.trans (Noted.grew h.fl.lt h.tp (by decide) hg h.hu.to')⟩
theorem Mid.growB {pb o : Nat} {t0 : Nat → Nat} {w0 : World} {tag : Nat → Nat} {w w' : World} {l : List Value} {T : Nat} {B U : HalfSt} (h : Mid pb o t0 w0 tag w l T B U) {m n : Nat} {g g' : Value} {f : Nat → Value} (hg : Grew 5 n (bmk m n) w w' g g') (hv : ∀ q, g.ownBlock = some q → tag q = 10 + 2 * m) (hl : Line w 5 g n f) : Mid pb o t0 w0 (tagAt tag g' (10 + 2 * m)) w' l T B U :=
  ⟨Grew.flds h.fl hg hv (by omega) h.tp, h.len, h.hb.growIn (by decide) hg hv, h.hu.growElse (by decide) (by decide) (c' := 0) (by decide) hg hv (.inr (.inr ⟨m, rfl⟩)), tagAt_under hg h.un hl, tagAt_pb hg hv h.fl.lt h.tp, h.no.trans (Noted.grew h.fl.lt h.tp (by omega) hg hv)⟩
theorem Mid.growU {pb o : Nat} {t0 : Nat → Nat} {w0 : World} {tag : Nat → Nat} {w w' : World} {l : List Value} {T : Nat} {B U : HalfSt} (h : Mid pb o t0 w0 tag w l T B U) {m n : Nat} {g g' : Value} {f : Nat → Value} (hg : Grew 153 n (wmk m n) w w' g g') (hv : ∀ q, g.ownBlock = some q → tag q = 10 + 2 * m + 1) (hl : Line w 153 g n f) : Mid pb o t0 w0 (tagAt tag g' (10 + 2 * m + 1)) w' l T B U :=
  ⟨Grew.flds h.fl hg hv (by omega) h.tp, h.len, h.hb.growElse (by decide) (by decide) (c' := 1) (by decide) hg hv (.inr (.inr ⟨m, rfl⟩)), h.hu.growIn (by decide) hg hv, tagAt_under hg h.un hl, tagAt_pb hg hv h.fl.lt h.tp, h.no.trans (Noted.grew h.fl.lt h.tp (by omega) hg hv)⟩
end Go.Proofs.YtcnlikojbkegiaaGreatDoor.Bk
