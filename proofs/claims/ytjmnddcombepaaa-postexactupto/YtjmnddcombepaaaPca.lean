/- A Post in memory: New, Count, listens, refusal. -/
import Derived.Test.YtjmnddcombepaaaSame
import Derived.Maps.RangeWalk
import Derived.Maps.OwnSet
import Derived.DeepKeys5
import Derived.Lib.Hide
import Derived.Deep.Light
namespace Go.Proofs.Ytjmnddcombepaaa
open Go.ChangeShapes Go.WideShapes Go.ChangeAt Go.RowKit Go.Maps
set_option linter.unusedVariables false
set_option linter.unusedSimpArgs false
set_option maxRecDepth 20000
set_option maxHeartbeats 4000000

/-- who listens to what: a connection, a text, whether it is a pattern -/
abbrev Key := Int × List UInt8 × Bool
/-- a text -/
def bs (T : List UInt8) : ByteArray := ⟨T.toArray⟩
theorem bs_size (T : List UInt8) : (bs T).size = T.length := by unfold bs; simp [ByteArray.size]
theorem bs_back (s : ByteArray) : bs s.data.toList = s := by unfold bs; simp
theorem bs_list (T : List UInt8) : (bs T).data.toList = T := by unfold bs; simp
theorem bs_inj {T T' : List UInt8} (h : bs T = bs T') : T = T' := by rw [← bs_list T, ← bs_list T', h]
def keyV (k : Key) : Value := .agg #[.int .i64 k.1, .string (bs k.2.1), .bool k.2.2]
def KOk (k : Key) : Prop := (Lit.int .i64 k.1).wf = true ∧ k.2.1.length ≤ maxLen
theorem lawK : Keyed Try.prog 77 := Keyed.of_law (deep_law_gate (by kernel_rfl) (of_decide_eq_true (by kernel_rfl)) (of_decide_eq_true (by kernel_rfl)) (by kernel_rfl) (by kernel_rfl))
theorem keyV_inj {k k' : Key} (h : keyV k = keyV k') : k = k' := by
  obtain ⟨a, b, c⟩ := k
  obtain ⟨a', b', c'⟩ := k'
  simp only [keyV, Value.agg.injEq, Array.mk.injEq, List.cons.injEq, Value.int.injEq, Value.string.injEq, Value.bool.injEq, true_and, and_true] at h
  obtain ⟨rfl, h, rfl⟩ := h
  rw [bs_inj h]
theorem cells77 : Try.prog.cellsOf 77 = 3 := by kernel_rfl
theorem cellsOf3 : Try.prog.cellsOf 3 = 1 := by kernel_rfl
theorem cellsOf9 : Try.prog.cellsOf 9 = 1 := by kernel_rfl
theorem cellsOf4 : Try.prog.cellsOf 4 = 1 := by kernel_rfl
theorem lits3 (n : Nat) (l : List Value) (h : (Try.prog.keyLits (n + 1) 3 l).isSome = true) : ∃ a, l = [.int .i64 a] ∧ (Lit.int .i64 a).wf = true := by
  unfold Program.keyLits at h
  rw [Try.underlying3] at h
  split at h
  all_goals first | (simp at h; done) | skip
  all_goals rename_i he
  all_goals first | (cases he; done) | skip
  · cases he
    split at h
    · rename_i hw
      obtain ⟨rfl, hw⟩ := hw
      exact ⟨_, rfl, hw⟩
    · simp at h
theorem lits9 (n : Nat) (l : List Value) (h : (Try.prog.keyLits (n + 1) 9 l).isSome = true) : ∃ s, l = [.string s] ∧ s.size ≤ maxLen := by
  unfold Program.keyLits at h
  rw [Try.underlying9] at h
  split at h
  all_goals first | (simp at h; done) | skip
  all_goals rename_i he
  all_goals first | (cases he; done) | skip
  · split at h
    · rename_i hw
      exact ⟨_, rfl, hw⟩
    · simp at h
theorem lits4 (n : Nat) (l : List Value) (h : (Try.prog.keyLits (n + 1) 4 l).isSome = true) : ∃ s, l = [.bool s] := by
  unfold Program.keyLits at h
  rw [Try.underlying4] at h
  split at h
  all_goals first | (simp at h; done) | skip
  all_goals rename_i he
  all_goals first | (cases he; done) | skip
  · exact ⟨_, rfl⟩
theorem keyType77 : Try.prog.keyType 77 = true := by kernel_rfl
theorem typesN : Try.prog.types.size = 172 := by kernel_rfl
theorem keyLits77 (n : Nat) (a b c : Value) : Try.prog.keyLits (n + 1) 77 [a, b, c] = (do let x ← Try.prog.keyLits n 3 [a]; let y ← Try.prog.keyLits n 9 [b]; let z ← Try.prog.keyLits n 4 [c]; some (x ++ (y ++ z))) := by
  conv => lhs; unfold Program.keyLits; rw [Try.underlying77]
  dsimp only
  rw [if_pos ⟨by rw [cells77]; rfl, by kernel_rfl⟩]
  simp only [cellsOf3, cellsOf9, cellsOf4, List.mapM_cons, List.mapM_nil, List.drop_zero, List.take_succ_cons, List.take_zero, List.drop_succ_cons]
  cases Try.prog.keyLits n 3 [a] <;> cases Try.prog.keyLits n 9 [b] <;> cases Try.prog.keyLits n 4 [c] <;> simp
/-- what a key reads as -/
def lit (k : Key) : Lit := .string (keyBytes [.int .i64 k.1, .string k.2.1, .bool k.2.2])
theorem key_formed (k : Key) : (keyV k).formed Try.prog 77 = true := by
  unfold keyV Value.formed
  simp only [Try.underlying77, cells77]
  rfl
theorem key_lits {k : Key} (h : KOk k) : Try.prog.keyLits (172 + 1) 77 (keyV k).cells.toList = some [.int .i64 k.1, .string k.2.1, .bool k.2.2] := by
  have hc : (keyV k).cells.toList = [.int .i64 k.1, .string (bs k.2.1), .bool k.2.2] := rfl
  rw [hc, show (172 + 1 : Nat) = 171 + 1 + 1 from rfl, keyLits77]
  have e1 : Try.prog.keyLits (171 + 1) 3 [.int .i64 k.1] = some [.int .i64 k.1] := by
    unfold Program.keyLits
    rw [Try.underlying3]
    exact if_pos ⟨rfl, h.1⟩
  have e2 : Try.prog.keyLits (171 + 1) 9 [.string (bs k.2.1)] = some [.string k.2.1] := by
    unfold Program.keyLits
    rw [Try.underlying9]
    dsimp only
    rw [bs_size, if_pos h.2, bs_list]
  have e3 : Try.prog.keyLits (171 + 1) 4 [.bool k.2.2] = some [.bool k.2.2] := by
    unfold Program.keyLits
    rw [Try.underlying4]
  rw [e1, e2, e3]
  rfl
theorem lit_of {k : Key} (h : KOk k) : keyOf Try.prog 77 (keyV k) = some (lit k) := by
  unfold keyOf
  rw [Try.underlying77]
  simp only [keyType77, key_formed, Bool.and_self, if_true, typesN]
  rw [key_lits h]
  rfl
/-- two keys, compared -/
theorem key_eq {k k' : Key} (h : KOk k) (h' : KOk k') (W : World) : (Op.equalIn 10000 77 (keyV k) (keyV k')).run Try.prog W = .ok (decide (k = k')) W := by
  have hk : Try.prog.keyTypeAt 173 77 = true := by kernel_rfl
  obtain ⟨r, h1, h2⟩ := run_equalIn_deep (P := Try.prog) 9827 173 77 hk W _ _ (keyV k) (keyV k') _ _ (key_formed k) (key_formed k') (key_lits h) (key_lits h')
  have e : r = decide (k = k') := by
    rw [Bool.eq_iff_iff, h2, decide_eq_true_iff]
    constructor
    · intro hl
      simp only [List.cons.injEq, Lit.int.injEq, Lit.string.injEq, Lit.bool.injEq, true_and, and_true] at hl
      obtain ⟨a, b, c⟩ := k
      obtain ⟨a', b', c'⟩ := k'
      simp only at hl
      rw [hl.1, hl.2.1, hl.2.2]
    · rintro rfl
      rfl
  rw [← e]
  exact h1
theorem key_inv {v : Value} {l : Lit} (h : keyOf Try.prog 77 v = some l) : ∃ k, v = keyV k ∧ KOk k := by
  unfold keyOf at h
  rw [Try.underlying77] at h
  simp only [keyType77, Bool.true_and, typesN] at h
  split at h
  · rename_i hf
    cases v with
    | agg cs =>
      have hs : cs.size = 3 := by
        simp only [Value.formed, Try.underlying77, cells77, beq_iff_eq] at hf
        exact hf
      obtain ⟨cs⟩ := cs
      match cs, hs with
      | [a, b, c], _ =>
        have hc : (Value.agg ⟨[a, b, c]⟩).cells.toList = [a, b, c] := rfl
        rw [hc, show (172 + 1 : Nat) = 171 + 1 + 1 from rfl, keyLits77] at h
        cases h1 : Try.prog.keyLits (171 + 1) 3 [a] with
        | none => rw [h1] at h; cases h
        | some x =>
          cases h2 : Try.prog.keyLits (171 + 1) 9 [b] with
          | none => rw [h1, h2] at h; cases h
          | some y =>
            cases h3 : Try.prog.keyLits (171 + 1) 4 [c] with
            | none => rw [h1, h2, h3] at h; cases h
            | some z =>
              obtain ⟨x', ex, hx⟩ := lits3 _ _ (by rw [h1]; rfl)
              obtain ⟨y', ey, hy⟩ := lits9 _ _ (by rw [h2]; rfl)
              obtain ⟨z', ez⟩ := lits4 _ _ (by rw [h3]; rfl)
              cases ex
              cases ey
              cases ez
              exact ⟨(x', y'.data.toList, z'), by unfold keyV; rw [bs_back], hx, by show y'.data.toList.length ≤ maxLen; rw [Array.length_toList]; exact hy⟩
    | _ => simp [Value.formed, Try.underlying77] at hf
  · cases h
theorem lit_key {k : Key} (h : KOk k) : WideAt.IsKeyLit (lit k) := lawK.key (lit_of h)
theorem lit_inj {k k' : Key} (h : KOk k) (h' : KOk k') (e : lit k = lit k') : k = k' := keyV_inj (lawK.inj (lit_of h) (by rw [e]; exact lit_of h'))
theorem lit_same {k k' : Key} (h : KOk k) (h' : KOk k') : (lit k).sameKey (lit k') = decide (k = k') := by
  by_cases e : k = k'
  · subst e
    rw [WideAt.sameKey_self (lit_key h)]
    simp
  · rw [sameKey_ne (fun e2 => e (lit_inj h h' e2))]
    simp [e]
theorem lit_back {k : Key} {l : Lit} (h : keyOf Try.prog 77 (keyV k) = some l) : lit k = l ∧ KOk k := by
  obtain ⟨k', e, hk⟩ := key_inv h
  obtain rfl := keyV_inj e
  exact ⟨Option.some.inj ((lit_of hk).symm.trans h), hk⟩
abbrev Dt := DataW Unit
/-- the map in block b is the set S -/
structure MapAt (w : World) (b : Nat) (D : Dt) (S : List Key) : Prop where
  own : w.ownsMap Try.prog 77 unitElem b S.length D
  nd : S.Nodup
  ok : ∀ k ∈ S, KOk k
  has : ∀ k, KOk k → Maps.has D (lit k) = decide (k ∈ S)
  sz : Maps.size D = S.length
theorem MapAt.new (w : World) : MapAt (w.alloc (.map #[] 0)) w.heap.size (.map []) [] :=
  ⟨World.ownsMap_made w Try.prog 77 _, List.nodup_nil, fun k hk => (by cases hk), fun k _ => rfl, rfl⟩
theorem own_size {w : World} {b n m : Nat} {D : Dt} (h : w.ownsMap Try.prog 77 unitElem b n D) (hm : Maps.size D = m) : w.ownsMap Try.prog 77 unitElem b m D := by
  obtain ⟨es, clock, h1, h2, h3, rfl⟩ := h
  refine ⟨es, clock, h1, h2, ?_, rfl⟩
  rw [Maps.size_eq, length_sorted] at hm
  simp at hm
  omega
theorem MapAt.put {w w' : World} {b : Nat} {D : Dt} {S : List Key} {k : Key} (h : MapAt w b D S) (hk : KOk k) (hn : k ∉ S) (ho : w'.ownsMap Try.prog 77 unitElem b (S.length + 1) (D.put (lit k) (.agg []))) : MapAt w' b (D.put (lit k) (.agg [])) (k :: S) := by
  have hz : Maps.size (D.put (lit k) (.agg [])) = S.length + 1 := by
    rw [Maps.size_put (h.own.tidy lawK), h.has k hk, h.sz]
    simp [hn]
  refine ⟨by simpa using ho, List.nodup_cons.2 ⟨hn, h.nd⟩, fun x hx => ?_, fun x hx => ?_, by simpa using hz⟩
  · rcases List.mem_cons.1 hx with e | e
    · rw [e]; exact hk
    · exact h.ok x e
  · by_cases e : x = k
    · subst e
      rw [Maps.has_put_same h.own.isMap (lit_key hk)]
      simp
    · rw [Maps.has_put_other (fun e2 => e (lit_inj hx hk e2)), h.has x hx]
      simp [e]
theorem MapAt.del {w w' : World} {b : Nat} {D : Dt} {S : List Key} {k : Key} (h : MapAt w b D S) (hk : KOk k) (ho : w'.ownsMap Try.prog 77 unitElem b S.length (D.del (lit k))) : MapAt w' b (D.del (lit k)) (S.erase k) := by
  have hz : Maps.size (D.del (lit k)) = (S.erase k).length := by
    have := Maps.size_del (k := lit k) (h.own.tidy lawK)
    rw [h.has k hk, h.sz] at this
    rw [List.length_erase]
    split
    · rename_i hm
      have hm' : k ∈ S := by simpa using hm
      simp [hm'] at this
      omega
    · rename_i hm
      have hm' : k ∉ S := by simpa using hm
      simp [hm'] at this
      omega
  refine ⟨own_size ho hz, h.nd.erase k, fun x hx => h.ok x (List.mem_of_mem_erase hx), fun x hx => ?_, hz⟩
  by_cases e : x = k
  · subst e
    rw [Maps.has_del_same]
    simp [h.nd.mem_erase_iff]
  · rw [Maps.has_del_other (fun e2 => e (lit_inj hx hk e2)), h.has x hx]
    simp [h.nd.mem_erase_iff, e]
theorem MapAt.del2 {w w' : World} {b n : Nat} {D : Dt} {S : List Key} {k : Key} (h : MapAt w b D S) (hk : KOk k) (ho : w'.ownsMap Try.prog 77 unitElem b n (D.del (lit k))) : MapAt w' b (D.del (lit k)) (S.erase k) := by
  refine h.del hk ?_
  refine (own_size ho (m := Maps.size (D.del (lit k))) rfl).mono ?_
  · have := Maps.size_del (k := lit k) (h.own.tidy lawK)
    rw [h.sz] at this
    omega
theorem MapAt.clear {w : World} {b : Nat} {D : Dt} {S : List Key} (h : MapAt w b D S) (ty : TypeId) : ∃ w', (Builtin.clear_ #[69] ty #[.map (some b)]).run Try.prog w = .ok (.tuple #[]) w' ∧ MapAt w' b (.map []) [] ∧ w.mapTurned w' b := by
  obtain ⟨es, clock, hb, F, hs, hD⟩ := h.own
  refine ⟨ChangeMaps.setBlock w b (.map #[] clock), ?_, ⟨⟨#[], clock, ChangeMaps.heap_setBlock_same hb _, ⟨Nat.zero_le _, MapKept.stamped_empty _, fun x hx => (by simp at hx)⟩, Nat.le_refl _, rfl⟩, List.nodup_nil, fun k hk => (by cases hk), fun k _ => rfl, rfl⟩, ⟨es, clock, #[], clock, hb, rfl⟩⟩
  simp [Builtin.clear_, run_underlying Try.underlying69, MapKept.run_getObj_map hb, MapKept.run_setObj_map _ hb, Result.andThen, ChangeMaps.setBlock]
theorem MapAt.same {w w' : World} {b : Nat} {D : Dt} {S : List Key} (h : MapAt w b D S) (hb : w'.heap[b]? = w.heap[b]?) : MapAt w' b D S := by
  refine ⟨?_, h.nd, h.ok, h.has, h.sz⟩
  obtain ⟨es, clock, h1, r⟩ := h.own
  exact ⟨es, clock, hb.trans h1, r⟩
theorem MapAt.lt {w : World} {b : Nat} {D : Dt} {S : List Key} (h : MapAt w b D S) : b < w.heap.size := h.own.lt
/-- what has come of a range over the map: each key once -/
structure Met (S : List Key) (left : Lit → Bool) (L : List Key) : Prop where
  nd : L.Nodup
  sub : ∀ k ∈ L, k ∈ S
  iff : ∀ k, KOk k → left (lit k) = decide (k ∈ S ∧ k ∉ L)
theorem Met.start {w : World} {b : Nat} {D : Dt} {S : List Key} (h : MapAt w b D S) : Met S (Maps.has D) [] :=
  ⟨List.nodup_nil, fun k hk => (by cases hk), fun k hk => by rw [h.has k hk]; simp⟩
theorem Met.step {S L : List Key} {left : Lit → Bool} {k : Key} (h : Met S left L) (hk : KOk k) (hl : left (lit k) = true) : Met S (fun z => left z && !z.sameKey (lit k)) (L ++ [k]) ∧ k ∈ S ∧ k ∉ L := by
  have h1 := h.iff k hk
  rw [hl] at h1
  have h2 : k ∈ S ∧ k ∉ L := by simpa using h1.symm
  refine ⟨⟨List.nodup_append.2 ⟨h.nd, by simp, fun a ha b hb e => ?_⟩, fun x hx => ?_, fun x hx => ?_⟩, h2⟩
  · simp at hb
    subst hb
    exact h2.2 (e ▸ ha)
  · rcases List.mem_append.1 hx with e | e
    · exact h.sub x e
    · simp at e
      rw [e]
      exact h2.1
  · show (left (lit x) && !(lit x).sameKey (lit k)) = _
    rw [h.iff x hx, lit_same hx hk]
    by_cases e : x = k
    · subst e; simp
    · simp [e]
theorem Met.perm {S L : List Key} {left : Lit → Bool} (h : Met S left L) (hn : S.Nodup) (hok : ∀ k ∈ S, KOk k) (hl : ∀ kl, left kl = false) : L.Perm S := by
  refine (List.perm_ext_iff_of_nodup h.nd hn).2 (fun k => ⟨h.sub k, fun hk => ?_⟩)
  have := h.iff k (hok k hk)
  rw [hl] at this
  simp at this
  exact this hk
theorem nodup_len : ∀ (L S : List Key), L.Nodup → (∀ x ∈ L, x ∈ S) → L.length ≤ S.length
  | [], S, _, _ => Nat.zero_le _
  | x :: L, S, hn, hs => by
    obtain ⟨h1, h2⟩ := List.nodup_cons.1 hn
    have hx := hs x (List.mem_cons_self ..)
    have := nodup_len L (S.erase x) h2 (fun y hy => (List.mem_erase_of_ne (fun e : y = x => h1 (e ▸ hy))).2 (hs y (List.mem_cons_of_mem _ hy)))
    rw [List.length_erase_of_mem hx] at this
    have h0 : 0 < S.length := List.length_pos_of_mem hx
    simp only [List.length_cons]
    omega
theorem Met.len {S L : List Key} {left : Lit → Bool} (h : Met S left L) : L.length ≤ S.length := nodup_len L S h.nd h.sub
/-- a bool, not to be taken apart -/
structure BW where
  b : Bool
/-- the step of a range over the map -/
theorem wpList_next_post (w : World) {ops : Array Oper} {rest : List Oper} {o : Oper} {a : Act} {Q : Exit → Act → World → Prop} (hg : o.guard = none) (it : Operand) (hop : o.op = Op.next it false) (b r n : Nat) (D : Dt) (left : Lit → Bool) (cnt : Nat)
    (hit : a.eval it = .pointer (some ⟨r, 0, none⟩)) (h : w.ranges Try.prog 77 unitElem b r n D left cnt)
    (hDone : Hid (∀ kl, left kl = false) → wpList Try.prog ops Q rest (a.put o.dst (.tuple #[.bool false])) w)
    (hMore : ∀ (kc : Int) (kt : List UInt8) (kp : BW) (w' : World) (cnt' : Nat), Hid (KOk (kc, kt, kp.b) ∧ left (lit (kc, kt, kp.b)) = true ∧ w.grownBy w' (some r)) → Hid (w'.ranges Try.prog 77 unitElem b r n D (fun z => left z && !z.sameKey (lit (kc, kt, kp.b))) cnt') → cnt' < cnt →
      (Instr.entry (.pointer (some ⟨r, 0, none⟩))).run Try.prog w' = .ok (.tuple #[.agg #[.int .i64 kc, .string (bs kt), .bool kp.b], .agg #[]]) w' → wpList Try.prog ops Q rest (a.put o.dst (.tuple #[.bool true, .agg #[.int .i64 kc, .string (bs kt), .bool kp.b], .agg #[]])) w') :
    wpList Try.prog ops Q (o :: rest) a w :=
  wpList_next_ranges w hg it hop 77 lawK unitElem keyV (fun _ : Unit => .agg #[]) (fun key kl hk => by obtain ⟨k, e, _⟩ := key_inv hk; exact ⟨k, e⟩) (fun v y hv => ⟨(), (unitElem_inv hv).1⟩) b r n D left cnt hit h (fun _ hl => hDone hl) (fun x u kl y w' cnt' hkey hlk hv hat hrg hlt hgr hsz hen => by
    obtain ⟨rfl, hok⟩ := lit_back hkey
    obtain ⟨kc, kt, kp⟩ := x
    exact hMore kc kt ⟨kp⟩ w' cnt' ⟨hok, hlk, hgr⟩ hrg hlt hen)
end Go.Proofs.Ytjmnddcombepaaa
namespace Go.Proofs.Ytjmnddcombepaaa
open Go.ChangeShapes Go.WideShapes Go.ChangeAt Go.RowKit Go.Maps
set_option linter.unusedVariables false
set_option linter.unusedSimpArgs false
set_option maxRecDepth 100000
set_option maxHeartbeats 4000000

theorem cell_blk {w : World} {b : Nat} {C : Array Value} {t : TypeId} {f : Nat × Nat} (h : w.heap[b]? = some (.cells C t f)) (j : Nat) : w.cell? ⟨b, j, none⟩ = C[j]? := by
  simp [World.cell?, h]
theorem blk_lt {w : World} {b : Nat} {o : Obj} (h : w.heap[b]? = some o) : b < w.heap.size := (Array.getElem?_eq_some_iff.1 h).1
/-- a Post in memory that holds S -/
structure PostAt (w : World) (p b : Nat) (D : Dt) (S : List Key) : Prop where
  cell : w.heap[p]? = some (.cells #[.map (some b)] 71 (0, 0))
  map : MapAt w b D S
theorem PostAt.same {w w' : World} {p b : Nat} {D : Dt} {S : List Key} (h : PostAt w p b D S) (h1 : w'.heap[p]? = w.heap[p]?) (h2 : w'.heap[b]? = w.heap[b]?) : PostAt w' p b D S := ⟨h1.trans h.cell, h.map.same h2⟩
theorem PostAt.lt {w : World} {p b : Nat} {D : Dt} {S : List Key} (h : PostAt w p b D S) : p < w.heap.size ∧ b < w.heap.size := ⟨blk_lt h.cell, h.map.lt⟩
theorem PostAt.ne {w : World} {p b : Nat} {D : Dt} {S : List Key} (h : PostAt w p b D S) : p ≠ b := by
  intro e
  subst e
  obtain ⟨es, clock, h1, -⟩ := h.map.own
  rw [h.cell] at h1
  cases h1
theorem PostAt.below {w w' : World} {p b : Nat} {D : Dt} {S : List Key} (h : PostAt w p b D S) (hb : Below w.heap.size w w') : PostAt w' p b D S := h.same (hb.block _ h.lt.1) (hb.block _ h.lt.2)
theorem PostAt.m {w : World} {p b : Nat} {D : Dt} {S : List Key} (h : PostAt w p b D S) : w.cell? ⟨p, 0, none⟩ = some (.map (some b)) := by rw [cell_blk h.cell]; rfl
theorem new_any (w : World) : Calls Try.prog 8 #[] w fun e w' => e = .returned (.pointer (some ⟨w.heap.size + 1, 0, none⟩)) ∧ Hid (PostAt w' (w.heap.size + 1) w.heap.size (.map []) [] ∧ Below w.heap.size w w') := by
  have hmm := @run_makeMap Try.prog
  have k1 : PostAt ((w.alloc (.map #[] 0)).alloc (.cells #[.map (some w.heap.size)] 71)) (w.heap.size + 1) w.heap.size (.map []) [] := by
    refine ⟨?_, (MapAt.new w).same (Below.heap_alloc _ _ _ (by simp))⟩
    have := heap_alloc_new (w.alloc (.map #[] 0)) (.cells #[.map (some w.heap.size)] 71)
    rw [World.size_alloc] at this
    exact this
  have k2 : Below w.heap.size w ((w.alloc (.map #[] 0)).alloc (.cells #[.map (some w.heap.size)] 71)) := ((Below.refl _ _).alloc (Nat.le_refl _) _).alloc (by simp) _
  have K := hide (And.intro k1 k2)
  clear k1 k2
  go_enter Try.func8, Try.ntmps8
  go_wp2
  go_ret
  exact ⟨rfl, K⟩
/-- to how many names a connection listens -/
def cntC (S : List Key) (c : Int) : Nat := (S.filter (fun k => decide (k.1 = c))).length
theorem cntC_le (S : List Key) (c : Int) : cntC S c ≤ S.length := List.length_filter_le _ _
theorem cntC_snoc (S : List Key) (k : Key) (c : Int) : cntC (S ++ [k]) c = cntC S c + (if k.1 = c then 1 else 0) := by
  unfold cntC
  rw [List.filter_append, List.length_append]
  by_cases h : k.1 = c <;> simp [h]
theorem cntC_perm {S L : List Key} (h : L.Perm S) (c : Int) : cntC L c = cntC S c := (h.filter _).length_eq
theorem refuse_any (w : World) (c : Int) (T : List UInt8) (hc : -9223372036854775808 ≤ c ∧ c ≤ 9223372036854775807) :
    Calls Try.prog 30 #[.int .i64 c, .string (bs T)] w fun e w' => e = .returned (.int .i64 (if c < 0 ∨ 8 ≤ c then 170 else if 4096 < T.length then 171 else 0)) ∧ w' = w := by
  have hs := bs_size T
  by_cases h1 : c < 0
  · have f1 : decide (c < 0) = true := decide_eq_true h1
    rw [if_pos (.inl h1)]
    go_enter Try.func30, Try.ntmps30
    go_wp2
    go_ret
    exact ⟨rfl, rfl⟩
  · have f1 : decide (c < 0) = false := decide_eq_false h1
    by_cases h2 : 8 ≤ c
    · have f2 : decide (c ≥ 8) = true := decide_eq_true h2
      have f2' : decide (8 ≤ c) = true := decide_eq_true h2
      rw [if_pos (.inr h2)]
      go_enter Try.func30, Try.ntmps30
      go_wp2
      all_goals go_ret
      all_goals exact ⟨rfl, rfl⟩
    · have f2 : decide (c ≥ 8) = false := decide_eq_false h2
      have f2' : decide (8 ≤ c) = false := decide_eq_false h2
      rw [if_neg (by omega)]
      by_cases h3 : 4096 < T.length
      · have f3 : decide ((T.length : Int) > 4096) = true := decide_eq_true (by omega)
        have f3' : decide (4096 < (T.length : Int)) = true := decide_eq_true (by omega)
        have f3'' : decide (4096 < T.length) = true := decide_eq_true (by omega)
        rw [if_pos h3]
        go_enter Try.func30, Try.ntmps30
        go_wp2
        all_goals go_ret
        all_goals exact ⟨rfl, rfl⟩
      · have f3 : decide ((T.length : Int) > 4096) = false := decide_eq_false (by omega)
        have f3' : decide (4096 < (T.length : Int)) = false := decide_eq_false (by omega)
        have f3'' : decide (4096 < T.length) = false := decide_eq_false (by omega)
        rw [if_neg h3]
        go_enter Try.func30, Try.ntmps30
        go_wp2
        all_goals go_ret
        all_goals exact ⟨rfl, rfl⟩
theorem listens_any (w : World) (p b : Nat) (D : Dt) (S : List Key) (c : Int) (T : List UInt8) (q : Bool) (h : PostAt w p b D S) (hk : KOk (c, T, q)) :
    Calls Try.prog 31 #[.pointer (some ⟨p, 0, none⟩), .int .i64 c, .string (bs T), .bool q] w fun e w' => e = .returned (.bool (decide ((c, T, q) ∈ S))) ∧ Hid (Below w.heap.size w w') := by
  have hown := h.map.own
  have hm := h.m
  have hh := h.map.has _ hk
  have hkey := lit_of hk
  have zE : ∀ W, (zeroValue 74).run Try.prog W = .ok (.agg #[]) W := fun W => by kernel_rfl
  have HB : Hid (Below w.heap.size w (w.alloc (.cells #[] 74))) := hide ((Below.refl _ _).alloc (Nat.le_refl _) _)
  generalize hr : decide ((c, T, q) ∈ S) = r at hh ⊢
  clear hr h
  go_enter Try.func31, Try.ntmps31
  go_wp2_with (first
    | (at_lookup; refine wpList_lookup_own_unit _ rfl _ _ 69 rfl 77 74 lawK Try.underlying69 (zE _) b S.length D rfl hown _ _ rfl hkey ?_; rw [hh]))
  go_ret
  exact ⟨rfl, HB⟩
theorem count_any (w : World) (p b : Nat) (D : Dt) (S : List Key) (c : Int) (h : PostAt w p b D S) (hS : S.length ≤ 1099511627776) :
    Calls Try.prog 13 #[.pointer (some ⟨p, 0, none⟩), .int .i64 c] w fun e w' => e = .returned (.int .i64 (cntC S c : Nat)) ∧ Hid (Below w.heap.size w w') := by
  have hown := h.map.own
  have hm := h.m
  have ME := hide (Met.start h.map)
  have MA := hide h.map
  clear h
  go_enter Try.func13, Try.ntmps13
  go_wp2_with (first
    | (at_range; refine wpList_range_own _ rfl _ 69 rfl 77 74 lawK Try.underlying69 _ b S.length D rfl hown ?_; intro w0 hrg0 hg0 hs0))
  go_frame
  go_loopw [5] (fun v wr => ∃ (L : List Key) (left : Lit → Bool) (cnt : Nat), v = .int .i64 ((cntC L c : Nat) : Int) ∧ Hid (Met S left L) ∧ wr.ranges Try.prog 77 unitElem b w.heap.size S.length D left cnt ∧ Hid (Below w.heap.size w wr)) (fun _ wr => wr.rangeLeft b w.heap.size)
  case atStart => exact ⟨[], _, _, rfl, ME, hrg0, hide ((Below.refl _ _).grown hg0 (Nat.le_refl _) (fun j hj => by cases hj))⟩
  case round =>
    obtain ⟨L, left, cnt, rfl, HM, hrg, HB⟩ := hrel
    have hle := cntC_le L c
    have hLS := (unhide HM).len
    clear hs0 hrg0 hg0 hown
    go_wp2_with (first
      | (at_next; refine wpList_next_post _ rfl _ rfl b w.heap.size S.length _ _ _ rfl hrg ?_ ?_))
    · intro hl0
      have hpm := hide ((unhide HM).perm (unhide MA).nd (unhide MA).ok (unhide hl0))
      go_wp2
      go_ret
      exact ⟨by rw [cntC_perm (unhide hpm)]; rfl, HB⟩
    · intro kc kt kp w1 cnt1 hk hrg1 hlt hen
      have HS := hide ((unhide HM).step (unhide hk).1 (unhide hk).2.1)
      have HB1 := hide ((unhide HB).grown (unhide hk).2.2 (unhide HB).size (fun j hj => by cases hj; exact Nat.le_refl _))
      have hL1 := (unhide HS).1.len
      rw [List.length_append] at hL1
      simp only [List.length_cons, List.length_nil] at hL1
      have HC : Hid (cntC (L ++ [(kc, kt, kp.b)]) c = cntC L c + (if kc = c then 1 else 0)) := hide (cntC_snoc L (kc, kt, kp.b) c)
      by_cases e : kc = c
      · have f1 : (kc == c) = true := by simp [e]
        have f2 : decide (kc = c) = true := decide_eq_true e
        have He := hide e
        clear e
        go_wp2
        all_goals go_roundw
        case rel => exact ⟨L ++ [(kc, kt, kp.b)], _, cnt1, by rw [unhide HC, if_pos (unhide He)]; simp, hide (unhide HS).1, (unhide hrg1).alloc _, hide ((unhide HB1).alloc (unhide HB1).size _)⟩
        case measure => rw [((unhide hrg1).alloc _).left_eq, hrg.left_eq]; exact hlt
      · have f1 : (kc == c) = false := by simp [e]
        have f2 : decide (kc = c) = false := decide_eq_false e
        have He := hide e
        clear e
        go_wp2
        all_goals go_roundw
        case rel => exact ⟨L ++ [(kc, kt, kp.b)], _, cnt1, by rw [unhide HC, if_neg (unhide He)]; simp, hide (unhide HS).1, (unhide hrg1).alloc _, hide ((unhide HB1).alloc (unhide HB1).size _)⟩
        case measure => rw [((unhide hrg1).alloc _).left_eq, hrg.left_eq]; exact hlt
end Go.Proofs.Ytjmnddcombepaaa
