/- A place as a key of a map. -/
import Derived.Test.YtfebiemfmiahhabBase
namespace Go.Proofs.Ytfebiemfmiahhab
open Go.ChangeShapes Go.WideShapes Go.ChangeAt Go.RowKit Go.Maps
set_option linter.unusedVariables false
set_option linter.unusedSimpArgs false
set_option maxRecDepth 20000
set_option maxHeartbeats 4000000
theorem plV_inj {k k' : Pl} (h : plV k = plV k') : k = k' := by
  obtain ⟨a, b⟩ := k
  obtain ⟨a', b'⟩ := k'
  simp only [plV, Value.agg.injEq, Array.mk.injEq, List.cons.injEq, Value.int.injEq, Value.string.injEq, true_and, and_true] at h
  obtain ⟨rfl, h⟩ := h
  rw [bs_inj h]
theorem cells40 : Try.prog.cellsOf 46 = 2 := by kernel_rfl
theorem cellsOf3 : Try.prog.cellsOf 3 = 1 := by kernel_rfl
theorem cellsOf9 : Try.prog.cellsOf 9 = 1 := by kernel_rfl
theorem lits3 (n : Nat) (l : List Value) (h : (Try.prog.keyLits (n + 1) 3 l).isSome = true) : ∃ a, l = [.int .i64 a] ∧ (Lit.int .i64 a).wf = true := by
  unfold Program.keyLits at h
  rw [Try.underlying3] at h
  split at h
  all_goals first | (simp at h; done) | skip
  all_goals rename_i he
  all_goals first | (cases he; done) | skip
  · cases he
    split at h
    · rename_i hw
      obtain ⟨rfl, hw⟩ := hw
      exact ⟨_, rfl, hw⟩
    · simp at h
theorem lits9 (n : Nat) (l : List Value) (h : (Try.prog.keyLits (n + 1) 9 l).isSome = true) : ∃ s, l = [.string s] ∧ s.size ≤ maxLen := by
  unfold Program.keyLits at h
  rw [Try.underlying9] at h
  split at h
  all_goals first | (simp at h; done) | skip
  all_goals rename_i he
  all_goals first | (cases he; done) | skip
  · split at h
    · rename_i hw
      exact ⟨_, rfl, hw⟩
    · simp at h
theorem keyType40 : Try.prog.keyType 46 = true := by kernel_rfl
theorem typesN : Try.prog.types.size = 136 := by kernel_rfl
theorem keyLits40 (n : Nat) (a b : Value) : Try.prog.keyLits (n + 1) 46 [a, b] = (do let x ← Try.prog.keyLits n 3 [a]; let y ← Try.prog.keyLits n 9 [b]; some (x ++ y)) := by
  conv => lhs; unfold Program.keyLits; rw [Try.underlying46]
  dsimp only
  rw [if_pos ⟨by rw [cells40]; rfl, by kernel_rfl⟩]
  simp only [cellsOf3, cellsOf9, List.mapM_cons, List.mapM_nil, List.drop_zero, List.take_succ_cons, List.take_zero, List.drop_succ_cons]
  cases Try.prog.keyLits n 3 [a] <;> cases Try.prog.keyLits n 9 [b] <;> simp
/-- what a place reads as -/
def plit (k : Pl) : Lit := .string (keyBytes [.int .i64 k.1, .string k.2])
theorem pl_formed (k : Pl) : (plV k).formed Try.prog 46 = true := by
  unfold plV Value.formed
  simp only [Try.underlying46, cells40]
  rfl
theorem pl_lits {k : Pl} (h : POk k) : Try.prog.keyLits (136 + 1) 46 (plV k).cells.toList = some [.int .i64 k.1, .string k.2] := by
  have hc : (plV k).cells.toList = [.int .i64 k.1, .string (bs k.2)] := rfl
  rw [hc, show (136 + 1 : Nat) = 135 + 1 + 1 from rfl, keyLits40]
  have e1 : Try.prog.keyLits (135 + 1) 3 [.int .i64 k.1] = some [.int .i64 k.1] := by
    unfold Program.keyLits
    rw [Try.underlying3]
    exact if_pos ⟨rfl, h.1⟩
  have e2 : Try.prog.keyLits (135 + 1) 9 [.string (bs k.2)] = some [.string k.2] := by
    unfold Program.keyLits
    rw [Try.underlying9]
    dsimp only
    rw [bs_size, if_pos h.2, bs_list]
  rw [e1, e2]
  rfl
theorem plit_of {k : Pl} (h : POk k) : keyOf Try.prog 46 (plV k) = some (plit k) := by
  unfold keyOf
  rw [Try.underlying46]
  simp only [keyType40, pl_formed, Bool.and_self, if_true, typesN]
  rw [pl_lits h]
  rfl
/-- two places, compared -/
theorem pl_eq {k k' : Pl} (h : POk k) (h' : POk k') (W : World) : (Op.equalIn 10000 46 (plV k) (plV k')).run Try.prog W = .ok (decide (k = k')) W := by
  have hk : Try.prog.keyTypeAt 137 46 = true := by kernel_rfl
  obtain ⟨r, h1, h2⟩ := run_equalIn_deep (P := Try.prog) 9863 137 46 hk W _ _ (plV k) (plV k') _ _ (pl_formed k) (pl_formed k') (pl_lits h) (pl_lits h')
  have e : r = decide (k = k') := by
    rw [Bool.eq_iff_iff, h2, decide_eq_true_iff]
    constructor
    · intro hl
      simp only [List.cons.injEq, Lit.int.injEq, Lit.string.injEq, true_and, and_true] at hl
      obtain ⟨a, b⟩ := k
      obtain ⟨a', b'⟩ := k'
      simp only at hl
      rw [hl.1, hl.2]
    · rintro rfl
      rfl
  rw [← e]
  exact h1
theorem pl_inv {v : Value} {l : Lit} (h : keyOf Try.prog 46 v = some l) : ∃ k, v = plV k ∧ POk k := by
  unfold keyOf at h
  rw [Try.underlying46] at h
  simp only [keyType40, Bool.true_and, typesN] at h
  split at h
  · rename_i hf
    cases v with
    | agg cs =>
      have hs : cs.size = 2 := by
        simp only [Value.formed, Try.underlying46, cells40, beq_iff_eq] at hf
        exact hf
      obtain ⟨cs⟩ := cs
      match cs, hs with
      | [a, b], _ =>
        have hc : (Value.agg ⟨[a, b]⟩).cells.toList = [a, b] := rfl
        rw [hc, show (136 + 1 : Nat) = 135 + 1 + 1 from rfl, keyLits40] at h
        cases h1 : Try.prog.keyLits (135 + 1) 3 [a] with
        | none => rw [h1] at h; cases h
        | some x =>
          cases h2 : Try.prog.keyLits (135 + 1) 9 [b] with
          | none => rw [h1, h2] at h; cases h
          | some y =>
            obtain ⟨x', ex, hx⟩ := lits3 _ _ (by rw [h1]; rfl)
            obtain ⟨y', ey, hy⟩ := lits9 _ _ (by rw [h2]; rfl)
            cases ex
            cases ey
            exact ⟨(x', y'.data.toList), by unfold plV; rw [bs_back], hx, by show y'.data.toList.length ≤ maxLen; rw [Array.length_toList]; exact hy⟩
    | _ => simp [Value.formed, Try.underlying46] at hf
  · cases h
/-- keys of a map, in plain words -/
structure KeyK (α : Type) (k : TypeId) where
  enc : α → Value
  ok : α → Prop
  lit : α → Lit
  law : Keyed Try.prog k
  of : ∀ {x : α}, ok x → keyOf Try.prog k (enc x) = some (lit x)
  inv : ∀ {v : Value} {l : Lit}, keyOf Try.prog k v = some l → ∃ x, v = enc x ∧ ok x ∧ lit x = l
  inj : ∀ {x y : α}, ok x → ok y → lit x = lit y → x = y
theorem plit_inj {k k' : Pl} (h : POk k) (h' : POk k') (e : plit k = plit k') : k = k' := plV_inj (lawP.inj (plit_of h) (by rw [e]; exact plit_of h'))
def KP : KeyK Pl 46 := ⟨plV, POk, plit, lawP, plit_of, fun {v l} h => by
  obtain ⟨k, e, hk⟩ := pl_inv h
  subst e
  exact ⟨k, rfl, hk, Option.some.inj ((plit_of hk).symm.trans h)⟩, plit_inj⟩
def IOk (c : Int) : Prop := (Lit.int .i64 c).wf = true
def KI : KeyK Int 3 := ⟨fun c => .int .i64 c, IOk, fun c => .int .i64 c, lawI, fun {x} h => keyOf_int_mk Try.underlying3 h, fun {v l} h => by
  obtain ⟨x, rfl, rfl, hw⟩ := keyOf_int_inv Try.underlying3 h
  exact ⟨x, rfl, hw, rfl⟩, fun {x y} _ _ e => by injection e⟩
theorem KeyK.key {α : Type} {k : TypeId} (E : KeyK α k) {x : α} (h : E.ok x) : WideAt.IsKeyLit (E.lit x) := E.law.key (E.of h)
/-- an element as it stands -/
abbrev Dv := DataW Value
def heldR (v : Value) : Option (Dv × List MemPlace) := some (.held v, [])
/-- what a datum says of a key -/
def Is (D : Dv) (l : Lit) : Option Value → Prop
  | none => Maps.has D l = false
  | some v => Maps.has D l = true ∧ ∀ z, D.atKey l z = .held v
/-- the map in block b, of at most n entries, is F -/
structure MapV {α : Type} {k : TypeId} (E : KeyK α k) (w : World) (b n : Nat) (F : α → Option Value) : Prop where
  ex : ∃ D, w.ownsMap Try.prog k heldR b n D ∧ ∀ x, E.ok x → Is D (E.lit x) (F x)
theorem MapV.new {α : Type} {k : TypeId} (E : KeyK α k) (w : World) : MapV E (w.alloc (.map #[] 0)) w.heap.size 0 (fun _ => none) :=
  ⟨.map [], World.ownsMap_made w Try.prog k _, fun x _ => rfl⟩
theorem MapV.lt {α : Type} {k : TypeId} {E : KeyK α k} {w : World} {b n : Nat} {F : α → Option Value} (h : MapV E w b n F) : b < w.heap.size := by
  obtain ⟨D, h1, -⟩ := h.ex
  exact h1.lt
theorem MapV.blk {α : Type} {k : TypeId} {E : KeyK α k} {w : World} {b n : Nat} {F : α → Option Value} (h : MapV E w b n F) : ∃ es clock, w.heap[b]? = some (.map es clock) := by
  obtain ⟨D, ⟨es, clock, h1, -⟩, -⟩ := h.ex
  exact ⟨es, clock, h1⟩
theorem MapV.same {α : Type} {k : TypeId} {E : KeyK α k} {w w' : World} {b n : Nat} {F : α → Option Value} (h : MapV E w b n F) (hb : w'.heap[b]? = w.heap[b]?) : MapV E w' b n F := by
  obtain ⟨D, ⟨es, clock, h1, r⟩, h2⟩ := h.ex
  exact ⟨D, ⟨es, clock, hb.trans h1, r⟩, h2⟩
theorem held_inj {v z : Value} {D : Dv} {l : Lit} {o : Option Value} {ps : List MemPlace} (hi : Is D l o) (h : heldR v = some (D.atKey l (.held z), ps)) : v = o.getD z := by
  have h1 : (.held v : Dv) = D.atKey l (.held z) := by
    unfold heldR at h
    injection h with h
    injection h
  cases o with
  | none =>
    rw [Maps.atKey_of_not_has hi] at h1
    injection h1
  | some v' =>
    rw [hi.2] at h1
    injection h1
theorem MapV.look {α : Type} {k t e : TypeId} {E : KeyK α k} {w : World} {b n : Nat} {F : α → Option Value} (h : MapV E w b n F) (ht : Try.prog.underlying t = some (.map k e)) {z : Value} (hz : (zeroValue e).run Try.prog w = .ok z w) {x : α} (hx : E.ok x) :
    (Instr.lookup t (.map (some b)) (E.enc x) false).run Try.prog w = .ok ((F x).getD z) w := by
  obtain ⟨D, h1, h2⟩ := h.ex
  obtain ⟨v, ps, hr, hv⟩ := h1.lookup E.law ht hz (zd := .held z) (zp := []) rfl (E.of hx)
  rw [hr, held_inj (h2 x hx) hv]
theorem MapV.look_ok {α : Type} {k t e : TypeId} {E : KeyK α k} {w : World} {b n : Nat} {F : α → Option Value} (h : MapV E w b n F) (ht : Try.prog.underlying t = some (.map k e)) {z : Value} (hz : (zeroValue e).run Try.prog w = .ok z w) {x : α} (hx : E.ok x) :
    (Instr.lookup t (.map (some b)) (E.enc x) true).run Try.prog w = .ok (.tuple #[(F x).getD z, .bool (F x).isSome]) w := by
  obtain ⟨D, h1, h2⟩ := h.ex
  obtain ⟨v, ps, hr, hv⟩ := h1.look_ok E.law ht hz (zd := .held z) (zp := []) rfl (E.of hx)
  have h3 : Maps.has D (E.lit x) = (F x).isSome := by
    have := h2 x hx
    cases hF : F x with
    | none => rw [hF] at this; exact this
    | some v => rw [hF] at this; exact this.1
  rw [hr, held_inj (h2 x hx) hv, h3]
def upd {α : Type} [DecidableEq α] (F : α → Option Value) (x : α) (v : Option Value) : α → Option Value := fun y => if y = x then v else F y
theorem Is.put {α : Type} [DecidableEq α] {k : TypeId} {E : KeyK α k} {D : Dv} {F : α → Option Value} (hm : Maps.IsMap D) (h : ∀ x, E.ok x → Is D (E.lit x) (F x)) {x : α} (hx : E.ok x) (v : Value) : ∀ y, E.ok y → Is (D.put (E.lit x) (.held v)) (E.lit y) (upd F x (some v) y) := by
  intro y hy
  unfold upd
  by_cases e : y = x
  · subst e
    rw [if_pos rfl]
    exact ⟨Maps.has_put_same hm (E.key hx) _, fun z => Maps.atKey_put_same hm (E.key hx) _ _⟩
  · rw [if_neg e]
    have hne : E.lit y ≠ E.lit x := fun e2 => e (E.inj hy hx e2)
    have := h y hy
    cases hF : F y with
    | none =>
      rw [hF] at this
      show Maps.has _ _ = false
      rw [Maps.has_put_other hne]
      exact this
    | some u =>
      rw [hF] at this
      exact ⟨by rw [Maps.has_put_other hne]; exact this.1, fun z => by rw [Maps.atKey_put_other hne]; exact this.2 z⟩
theorem Is.del {α : Type} [DecidableEq α] {k : TypeId} {E : KeyK α k} {D : Dv} {F : α → Option Value} (h : ∀ x, E.ok x → Is D (E.lit x) (F x)) {x : α} (hx : E.ok x) : ∀ y, E.ok y → Is (D.del (E.lit x)) (E.lit y) (upd F x none y) := by
  intro y hy
  unfold upd
  by_cases e : y = x
  · subst e
    rw [if_pos rfl]
    exact Maps.has_del_same
  · rw [if_neg e]
    have hne : E.lit y ≠ E.lit x := fun e2 => e (E.inj hy hx e2)
    have := h y hy
    cases hF : F y with
    | none =>
      rw [hF] at this
      show Maps.has _ _ = false
      rw [Maps.has_del_other hne]
      exact this
    | some u =>
      rw [hF] at this
      exact ⟨by rw [Maps.has_del_other hne]; exact this.1, fun z => by rw [Maps.atKey_del_other hne]; exact this.2 z⟩
theorem own_size {k : TypeId} {w : World} {b n m : Nat} {D : Dv} (h : w.ownsMap Try.prog k heldR b n D) (hm : Maps.size D ≤ m) : w.ownsMap Try.prog k heldR b m D := by
  obtain ⟨es, clock, h1, h2, h3, rfl⟩ := h
  refine ⟨es, clock, h1, h2, ?_, rfl⟩
  rw [Maps.size_eq, length_sorted] at hm
  simpa using hm
theorem put_size {α : Type} {k : TypeId} {E : KeyK α k} {w w' : World} {b n : Nat} {D : Dv} {l : Lit} {v : Value} {o : Option Value} (h1 : w.ownsMap Try.prog k heldR b n D) (hi : Is D l o) (hw1 : w'.ownsMap Try.prog k heldR b (n + 1) (D.put l (.held v))) (K : Keyed Try.prog k) : w'.ownsMap Try.prog k heldR b (if o.isSome then n else n + 1) (D.put l (.held v)) := by
  cases ho : o with
  | none => exact hw1
  | some u =>
    refine own_size hw1 ?_
    rw [ho] at hi
    rw [Maps.size_put (h1.tidy K), if_pos hi.1]
    exact h1.size_le
/-- a store -/
theorem MapV.put {α : Type} [DecidableEq α] {k t e : TypeId} {E : KeyK α k} {w : World} {b n : Nat} {F : α → Option Value} (h : MapV E w b n F) (ht : Try.prog.underlying t = some (.map k e)) (hn : n < maxLen) {x : α} (hx : E.ok x) (v : Value) :
    ∃ w', (Instr.mapUpdate t (.map (some b)) (E.enc x) v).run Try.prog w = .ok () w' ∧ MapV E w' b (if (F x).isSome then n else n + 1) (upd F x (some v)) ∧ w.mapTurned w' b := by
  obtain ⟨D, h1, h2⟩ := h.ex
  obtain ⟨w', hr, hw1, hw2⟩ := h1.store E.law ht hn (E.of hx) (val := v) (d := .held v) (ps := []) rfl
  exact ⟨w', hr, ⟨_, put_size (E := E) h1 (h2 x hx) hw1 E.law, Is.put h1.isMap h2 hx v⟩, hw2⟩
theorem MapV.del {α : Type} [DecidableEq α] {k t e : TypeId} {E : KeyK α k} {w : World} {b n : Nat} {F : α → Option Value} (h : MapV E w b n F) (ht : Try.prog.underlying t = some (.map k e)) {x : α} (hx : E.ok x) (ty : TypeId) :
    ∃ w', (Builtin.delete_ #[t, k] ty #[.map (some b), E.enc x]).run Try.prog w = .ok (.tuple #[]) w' ∧ MapV E w' b n (upd F x none) ∧ w.mapTurned w' b := by
  obtain ⟨D, h1, h2⟩ := h.ex
  obtain ⟨w', hr, hw1, hw2⟩ := h1.drop E.law ht (E.of hx) ty
  exact ⟨w', hr, ⟨_, hw1, Is.del h2 hx⟩, hw2⟩
/-- an entry, then a store into it -/
theorem MapV.entry {α : Type} [DecidableEq α] {k t e : TypeId} {E : KeyK α k} {w : World} {b n : Nat} {F : α → Option Value} (h : MapV E w b n F) (KL : WideMaps.KeyLaw Try.prog k) (ht : Try.prog.underlying t = some (.map k e)) {z : Value} (hz : ∀ u : World, (zeroValue e).run Try.prog u = .ok z u) (hn : n < maxLen) {x : α} (hx : E.ok x) :
    ∃ st w1, (Instr.mapEntry t (.map (some b)) (E.enc x)).run Try.prog w = .ok (.tuple #[(F x).getD z, goInt st]) w1 ∧ w.mapTurned w1 b ∧
      ∀ w2 v, w2.heap[b]? = w1.heap[b]? → ∃ w3, (Instr.entryStore t (.map (some b)) (goInt st) v).run Try.prog w2 = .ok () w3 ∧ MapV E w3 b (if (F x).isSome then n else n + 1) (upd F x (some v)) ∧ w2.mapTurned w3 b := by
  obtain ⟨D, h1, h2⟩ := h.ex
  have h1' := h1
  obtain ⟨es, clock, hb, F0, hs, rfl⟩ := h1
  obtain ⟨v0, st, es1, clock1, hr, hv, hst⟩ := Go.WideElems.entry_then_store KL ht hz hb F0 (E.of hx)
  have hl := h.look ht (hz w) hx
  have hv0 : v0 = (F x).getD z := by
    rcases Maps.fit_look false E.law ht (hz w) hb F0 (E.of hx) with ⟨hrun, hno, _⟩ | ⟨e0, y, hm, hk0, hrun, _⟩
    · rcases hv with ⟨e1, he1, hk1, -⟩ | ⟨-, rfl⟩
      · exact absurd hk1 (hno e1 he1)
      · rw [hrun] at hl
        injection hl
    · rcases hv with ⟨e1, he1, hk1, rfl⟩ | ⟨hno, -⟩
      · have : e1 = e0 := by
          have hp : es.toList.Pairwise (fun x y => x.key ≠ y.key) := List.pairwise_map.1 F0.stamped.2.2
          exact entry_eq_of_key hp he1 hm (hk1.trans hk0.symm)
        rw [this]
        rw [hrun] at hl
        injection hl
      · exact absurd hk0 (hno e0 hm)
  subst hv0
  refine ⟨st, _, hr, ⟨es, clock, es1, clock1, hb, rfl⟩, fun w2 v hw2 => ?_⟩
  have hb1 := ChangeMaps.heap_setBlock_same hb (.map es1 clock1)
  have hw2' := hw2.trans hb1
  obtain ⟨es', clock', hr2, hr3⟩ := hst w2 v hw2'
  obtain ⟨w', hrp, hp, -⟩ := h.put ht hn hx v
  rw [hr3] at hrp
  have hw' : ChangeMaps.setBlock w b (.map es' clock') = w' := by injection hrp
  refine ⟨_, hr2, (hp.same ?_), ⟨es1, clock1, es', clock', hw2', rfl⟩⟩
  rw [← hw', ChangeMaps.heap_setBlock_same hb, ChangeMaps.heap_setBlock_same hw2']
end Go.Proofs.Ytfebiemfmiahhab
