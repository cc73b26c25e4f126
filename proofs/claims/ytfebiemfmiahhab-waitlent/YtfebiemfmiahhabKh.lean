/- leave. -/
import Derived.Test.YtfebiemfmiahhabKg
namespace Go.Proofs.Ytfebiemfmiahhab
open Go.ChangeShapes Go.WideShapes Go.ChangeAt Go.RowKit Go.Maps Go.Sort
set_option linter.unusedVariables false
set_option linter.unusedSimpArgs false
set_option maxRecDepth 100000
set_option maxHeartbeats 8000000
theorem same42 (c x : Int) (B : Nat) (W : World) (hc : W.cell? ⟨B, 0, none⟩ = some (.int .i64 c)) :
    FnGives Try.prog 57 #[.pointer (some ⟨B, 0, none⟩)] #[.int .i64 x] (.bool (decide (x = c))) W := by
  show Calls Try.prog 57 #[.int .i64 x, .pointer (some ⟨B, 0, none⟩)] W _
  have hd : (x == c) = decide (x = c) := by
    by_cases e : x = c
    · simp [e]
    · simp [e]
  go_enter Try.func57, Try.ntmps57
  go_wp2
  all_goals (go_ret; exact ⟨by simp_all, 0, rfl⟩)
theorem pred42 (c : Int) (B : Nat) (w : World) (hB : B < w.heap.size) (hcell : w.cell? ⟨B, 0, none⟩ = some (.int .i64 c)) : PredAt Try.prog 57 #[.pointer (some ⟨B, 0, none⟩)] (Value.int .i64) (fun x => decide (x = c)) w :=
  fun W x hb => same42 c x B W ((hb.cell (p := ⟨B, 0, none⟩) hB).trans hcell)
theorem over42 (c : Int) (B blk off size : Nat) (w : World) (hB : B < w.heap.size) (hne : B ≠ blk) (hcell : w.cell? ⟨B, 0, none⟩ = some (.int .i64 c)) : PredOver Try.prog 57 #[.pointer (some ⟨B, 0, none⟩)] (Value.int .i64) (fun x => decide (x = c)) blk off size w :=
  fun n os dk x _ => same42 c x B _ (by
    unfold sortWorld
    rw [cell?_grow _ _ _ (by show B < (putRow _ _ _ _ _).heap.size; rw [size_putRow]; exact hB), cell?_putRow_other _ _ blk off _ _ (Or.inl hne)]
    exact hcell)
theorem putRow_blk {w : World} {g : Nat} {cur : Array Value} {t : TypeId} {f : Nat × Nat} (h : w.heap[g]? = some (.cells cur t f)) (d : Array Int) : (putRow (Value.int .i64) w g 0 d).heap[g]? = some (.cells (putCells (Value.int .i64) 0 d cur) t f) := by
  simp [putRow, mapBlock, Array.getElem?_modify, h, onCells]
theorem putRow_other {w : World} {g i : Nat} (d : Array Int) (h : i ≠ g) : (putRow (Value.int .i64) w g 0 d).heap[i]? = w.heap[i]? := by
  simp [putRow, mapBlock, Array.getElem?_modify, Ne.symm h]
theorem delete_line (w : World) (v : Value) (g B c : Nat) (l : List Nat) (h : LineAt w v g l) (hB : w.heap[B]? = some (.cells #[.int .i64 (c : Nat)] 3 (0, 0))) (hne : B ≠ g) :
    Calls Try.prog 56 #[v, .func (.func 57) #[] #[.pointer (some ⟨B, 0, none⟩)]] w fun e w' => ∃ v', e = .returned v' ∧ Hid (LineAt w' v' g (l.filter (fun x => decide (x ≠ c))) ∧ KeptB g w w' ∧ w'.heap.size = w.heap.size) := by
  obtain ⟨cap, cur, rfl, h2, h3, h4, h5, h6⟩ := h.ex
  have eg : ∀ args w, (callFunc 57 args).run Try.prog w = .ok (.enter 57 args) w := enters_of Try.func57 (by kernel_rfl) rfl
  have hBl := blk_lt hB
  have hbc : w.cell? ⟨B, 0, none⟩ = some (.int .i64 (c : Nat)) := cell_blk hB 0
  have hml : maxLen = 9223372036854775807 := by unfold maxLen; rfl
  have hdl : ((l.map (fun x : Nat => (x : Int))).toArray).size = l.length := by simp
  have hcon := Try.slices_DeleteFunc (α := Int) (Value.int .i64) (fun _ => rfl) (fun x => decide (x = (c : Int))) 57 #[.pointer (some ⟨B, 0, none⟩)] eg 0 (fun w => Try.zeroValue3 w) g 0 cap ((l.map (fun x : Nat => (x : Int))).toArray) w (pred42 c B w hBl hbc) (over42 c B g 0 _ w hBl hne hbc) (fun j hj => by
    rw [hdl] at hj
    have hx : l[j]? = some l[j] := List.getElem?_eq_getElem hj
    refine ⟨?_, by simp [World.frozen?, h2]⟩
    rw [Nat.zero_add, cell_blk h2, h6 j _ hx]
    simp [hj]) (by rw [hdl]; omega) (by rw [hdl]; omega)
  rw [hdl] at hcon
  refine hcon.mono (fun e w' ⟨e1, q, e2⟩ => ⟨_, e1, hide ?_⟩)
  have hfl : ((l.map (fun x : Nat => (x : Int))).toArray.toList.filter (fun x => !decide (x = (c : Int)))) = (l.filter (fun x => decide (x ≠ c))).map (fun x : Nat => (x : Int)) := by
    rw [List.filter_map]
    congr 1
    refine List.filter_congr (fun x _ => ?_)
    simp
    omega
  rw [hfl, List.length_map] at e2 ⊢
  have hfle : (l.filter (fun x => decide (x ≠ c))).length ≤ l.length := List.length_filter_le _ _
  have ha : (Sort.ahead w q).heap[g]? = some (.cells cur 3 (0, 0)) := h2
  subst e2
  refine ⟨⟨cap, _, rfl, putRow_blk ha _, by omega, by simp [putCells, h4], h5, fun i x hx => ?_⟩, ⟨rfl, rfl, rfl, by rw [size_putRow]; exact Nat.le_refl _, fun i hi hne => putRow_other _ hne⟩, by rw [size_putRow]; rfl⟩
  have hi : i < (l.filter (fun x => decide (x ≠ c))).length := (List.getElem?_eq_some_iff.1 hx).1
  simp only [putCells, Array.getElem?_mapIdx]
  rw [Array.getElem?_eq_getElem (by omega)]
  simp only [Option.map_some, Nat.zero_le, true_and, Nat.zero_add, Nat.sub_zero]
  rw [if_pos (by simp; omega)]
  have hg : ((l.filter (fun x => decide (x ≠ c))).map (fun x : Nat => (x : Int)) ++ List.replicate ((l.map (fun x : Nat => (x : Int))).toArray.size - (l.filter (fun x => decide (x ≠ c))).length) 0)[i]? = some (x : Int) := by
    rw [List.getElem?_append_left (by rw [List.length_map]; exact hi), List.getElem?_map, hx]
    rfl
  have hg2 : ((l.filter (fun x => decide (x ≠ c))).map (fun x : Nat => (x : Int)) ++ List.replicate ((l.map (fun x : Nat => (x : Int))).toArray.size - (l.filter (fun x => decide (x ≠ c))).length) 0).toArray[i]! = (x : Int) := by
    rw [getElem!_def, List.getElem?_toArray, hg]
  rw [hdl] at hg2
  rw [hg2]
theorem delete_nil (w : World) (fv : Value) : Calls Try.prog 56 #[.slice none 0 0, fv] w fun e w' => e = .returned (.slice none 0 0) ∧ w' = w := by
  have hc := AnyE.slices_IndexFunc_empty Try.laysSlH6_f58 none 0 fv w
  change Calls Try.prog 63 _ _ _ at hc
  go_enter Try.func56, Try.ntmps56
  go_wp2_with (go_at_call 63; refine hc.mono ?_; rintro e w1 ⟨rfl, h1⟩; obtain rfl := h1.symm)
  go_ret
  exact ⟨rfl, rfl⟩
/-- a row of our own is changed, the map is not yet -/
structure Mid (O : Nat → Prop) (w w1 : World) (bl n : Nat) (L : Pl → List Nat) (p : Pl) (v1 : Value) (l1 : List Nat) : Prop where
  ex : ∃ (G : Pl → Option (Value × Nat)) (v : Value) (g : Nat), MapV KP w1 bl n (fun q => (G q).map (·.1)) ∧ G p = some (v, g) ∧ O g ∧ LineAt w1 v1 g l1 ∧ (∀ q, POk q → q ≠ p → (L q = [] → G q = none) ∧ (L q ≠ [] → ∃ v g, G q = some (v, g) ∧ O g ∧ LineAt w1 v g (L q))) ∧ ∀ q q' v v' g, POk q → POk q' → G q = some (v, g) → G q' = some (v', g) → q = q'
theorem Mid.below {O : Nat → Prop} {w w1 w2 : World} {bl n : Nat} {L : Pl → List Nat} {p : Pl} {v1 : Value} {l1 : List Nat} (h : Mid O w w1 bl n L p v1 l1) (hb : Below w1.heap.size w1 w2) : Mid O w w2 bl n L p v1 l1 := by
  obtain ⟨G, v, g, h1, h2, h3, h4, h5, h6⟩ := h.ex
  obtain ⟨cur, hc⟩ := h4.blk
  refine ⟨G, v, g, h1.same (hb.block _ h1.lt), h2, h3, h4.same (hb.block _ (blk_lt hc)), fun q hq hne => ⟨(h5 q hq hne).1, fun hL => ?_⟩, h6⟩
  obtain ⟨v', g', e1, e2, e3⟩ := (h5 q hq hne).2 hL
  obtain ⟨cur', hc'⟩ := e3.blk
  exact ⟨v', g', e1, e2, e3.same (hb.block _ (blk_lt hc'))⟩
/-- what is looked up at a place -/
theorem Lines.look {O : Nat → Prop} {w : World} {bl n : Nat} {L : Pl → List Nat} (h : Lines O w bl n L) {p : Pl} (hp : POk p) : (L p = [] ∧ (Instr.lookup 64 (.map (some bl)) (.agg #[.int .i64 p.1, .string (bs p.2)]) false).run Try.prog w = .ok (.slice none 0 0) w) ∨ (L p ≠ [] ∧ ∃ v g, (Instr.lookup 64 (.map (some bl)) (.agg #[.int .i64 p.1, .string (bs p.2)]) false).run Try.prog w = .ok v w ∧ O g ∧ g < w.heap.size ∧ LineAt w v g (L p) ∧ ∀ w1 v1 l1, KeptB g w w1 → LineAt w1 v1 g l1 → Mid O w w1 bl n L p v1 l1) := by
  obtain ⟨G, h1, h2, h3⟩ := h.ex
  have hr := h1.look (t := 64) (e := 51) Try.underlying64 (zero32 w) (x := p) hp
  change (Instr.lookup 64 (.map (some bl)) (.agg #[.int .i64 p.1, .string (bs p.2)]) false).run Try.prog w = _ at hr
  by_cases hne : L p = []
  · rw [(h2 p hp).1 hne] at hr
    exact .inl ⟨hne, hr⟩
  · obtain ⟨v, g, e, og, hl⟩ := (h2 p hp).2 hne
    rw [e] at hr
    obtain ⟨cur, hc⟩ := hl.blk
    refine .inr ⟨hne, v, g, hr, og, blk_lt hc, hl, fun w1 v1 l1 k hl1 => ?_⟩
    have hgb : g ≠ bl := by
      intro e2
      obtain ⟨es, clock, hm⟩ := h1.blk
      rw [e2, hm] at hc
      cases hc
    refine ⟨G, v, g, h1.same (k.blk bl h1.lt hgb.symm), e, og, hl1, fun q hq hqp => ⟨(h2 q hq).1, fun hL => ?_⟩, h3⟩
    obtain ⟨v', g', e1, e2, e3⟩ := (h2 q hq).2 hL
    obtain ⟨cur', hc'⟩ := e3.blk
    exact ⟨v', g', e1, e2, e3.same (k.blk g' (blk_lt hc') (fun e4 => hqp (h3 q p v' v g hq hp (e4 ▸ e1) e)))⟩
theorem Mid.put {O : Nat → Prop} {w w1 : World} {bl n : Nat} {L : Pl → List Nat} {p : Pl} {v1 : Value} {l1 : List Nat} (h : Mid O w w1 bl n L p v1 l1) (hp : POk p) (hn : n < maxLen) (hl1 : l1 ≠ []) : ∃ w2, (Instr.mapUpdate 64 (.map (some bl)) (.agg #[.int .i64 p.1, .string (bs p.2)]) v1).run Try.prog w1 = .ok () w2 ∧ Lines O w2 bl n (updL L p l1) ∧ KeptB bl w1 w2 ∧ w2.heap.size = w1.heap.size := by
  obtain ⟨G, v, g, h1, h2, h3, h4, h5, h6⟩ := h.ex
  obtain ⟨w2, hr, hm, ht⟩ := h1.put (t := 64) (e := 51) Try.underlying64 hn (x := p) hp v1
  obtain ⟨k2, s2⟩ := KeptB.turned ht
  have nbl : ∀ g' v' l', LineAt w1 v' g' l' → g' ≠ bl := fun g' v' l' hl e2 => by
    obtain ⟨cur, hc⟩ := hl.blk
    obtain ⟨es, clock, hm⟩ := h1.blk
    rw [e2, hm] at hc
    cases hc
  have keep : ∀ g' v' l', LineAt w1 v' g' l' → LineAt w2 v' g' l' := fun g' v' l' hl => by
    obtain ⟨cur, hc⟩ := hl.blk
    exact hl.same (k2.blk g' (blk_lt hc) (nbl g' v' l' hl))
  refine ⟨w2, hr, ⟨fun q => if q = p then some (v1, g) else G q, ?_, fun q hq => ?_, fun q q' u u' g' hq hq' e1 e2 => ?_⟩, k2, s2⟩
  · have : (fun q => ((fun q => if q = p then some (v1, g) else G q) q).map (·.1)) = upd (fun p => (G p).map (·.1)) p (some v1) := by
      funext q
      unfold upd
      by_cases e : q = p
      · simp [e]
      · simp [e]
    rw [this]
    rw [h2] at hm
    exact hm
  · unfold updL
    by_cases e : q = p
    · simp only [if_pos e]
      exact ⟨fun h => absurd h hl1, fun _ => ⟨v1, g, rfl, h3, keep _ _ _ h4⟩⟩
    · simp only [if_neg e]
      refine ⟨(h5 q hq e).1, fun hL => ?_⟩
      obtain ⟨v', g', a1, a2, a3⟩ := (h5 q hq e).2 hL
      exact ⟨v', g', a1, a2, keep _ _ _ a3⟩
  · by_cases e : q = p
    · by_cases e' : q' = p
      · rw [e, e']
      · simp only [if_pos e] at e1
        simp only [if_neg e'] at e2
        cases e1
        exact (h6 q' p u' v g hq' hp e2 h2).symm ▸ e
    · by_cases e' : q' = p
      · simp only [if_neg e] at e1
        simp only [if_pos e'] at e2
        cases e2
        exact (h6 q p u v g hq hp e1 h2).trans e'.symm
      · simp only [if_neg e] at e1
        simp only [if_neg e'] at e2
        exact h6 q q' u u' g' hq hq' e1 e2
theorem Mid.del {O : Nat → Prop} {w w1 : World} {bl n : Nat} {L : Pl → List Nat} {p : Pl} {v1 : Value} {l1 : List Nat} (h : Mid O w w1 bl n L p v1 l1) (hp : POk p) (ty : TypeId) : ∃ w2, (Builtin.delete_ #[64, 46] ty #[.map (some bl), .agg #[.int .i64 p.1, .string (bs p.2)]]).run Try.prog w1 = .ok (.tuple #[]) w2 ∧ Lines O w2 bl n (updL L p []) ∧ KeptB bl w1 w2 ∧ w2.heap.size = w1.heap.size := by
  obtain ⟨G, v, g, h1, h2, h3, h4, h5, h6⟩ := h.ex
  obtain ⟨w2, hr, hm, ht⟩ := h1.del (t := 64) (e := 51) Try.underlying64 (x := p) hp ty
  obtain ⟨k2, s2⟩ := KeptB.turned ht
  have keep : ∀ g' v' l', LineAt w1 v' g' l' → LineAt w2 v' g' l' := fun g' v' l' hl => by
    obtain ⟨cur, hc⟩ := hl.blk
    refine hl.same (k2.blk g' (blk_lt hc) (fun e2 => ?_))
    obtain ⟨es, clock, hm⟩ := h1.blk
    rw [e2, hm] at hc
    cases hc
  refine ⟨w2, hr, ⟨fun q => if q = p then none else G q, ?_, fun q hq => ?_, fun q q' u u' g' hq hq' e1 e2 => ?_⟩, k2, s2⟩
  · have : (fun q => ((fun q => if q = p then none else G q) q).map (·.1)) = upd (fun p => (G p).map (·.1)) p none := by
      funext q
      unfold upd
      by_cases e : q = p
      · simp [e]
      · simp [e]
    rw [this]
    exact hm
  · unfold updL
    by_cases e : q = p
    · simp only [if_pos e]
      exact ⟨fun _ => by simp, fun h => absurd rfl h⟩
    · simp only [if_neg e]
      refine ⟨(h5 q hq e).1, fun hL => ?_⟩
      obtain ⟨v', g', a1, a2, a3⟩ := (h5 q hq e).2 hL
      exact ⟨v', g', a1, a2, keep _ _ _ a3⟩
  · by_cases e : q = p
    · simp only [if_pos e] at e1
      cases e1
    · by_cases e' : q' = p
      · simp only [if_pos e'] at e2
        cases e2
      · simp only [if_neg e] at e1
        simp only [if_neg e'] at e2
        exact h6 q q' u u' g' hq hq' e1 e2
/-- nobody is in line there: nothing is to be deleted -/
theorem Lines.delNone {O : Nat → Prop} {w : World} {bl n : Nat} {L : Pl → List Nat} (h : Lines O w bl n L) {p : Pl} (hp : POk p) (hL : L p = []) (ty : TypeId) : ∃ w2, (Builtin.delete_ #[64, 46] ty #[.map (some bl), .agg #[.int .i64 p.1, .string (bs p.2)]]).run Try.prog w = .ok (.tuple #[]) w2 ∧ Lines O w2 bl n L ∧ KeptB bl w w2 ∧ w2.heap.size = w.heap.size := by
  obtain ⟨G, h1, h2, h3⟩ := h.ex
  obtain ⟨w2, hr, hm, ht⟩ := h1.del (t := 64) (e := 51) Try.underlying64 (x := p) hp ty
  obtain ⟨k2, s2⟩ := KeptB.turned ht
  refine ⟨w2, hr, ⟨G, ?_, fun q hq => ⟨(h2 q hq).1, fun hne => ?_⟩, h3⟩, k2, s2⟩
  · have : upd (fun p => (G p).map (·.1)) p none = fun p => (G p).map (·.1) := by
      funext q
      unfold upd
      by_cases e : q = p
      · rw [if_pos e, e, (h2 p hp).1 hL]; rfl
      · rw [if_neg e]
    rw [this] at hm
    exact hm
  · obtain ⟨v, g, e, og, hl⟩ := (h2 q hq).2 hne
    obtain ⟨cur, hc⟩ := hl.blk
    refine ⟨v, g, e, og, hl.same (k2.blk g (blk_lt hc) (fun e2 => ?_))⟩
    obtain ⟨es, clock, hm⟩ := h1.blk
    rw [e2, hm] at hc
    cases hc
theorem kept_chg {O : Nat → Prop} {w W X X2 X3 : World} {p bw bl T n : Nat} {E : List En} {L : Pl → List Nat} (h : WL (ext O w X) X p bw bl T n E L) (hf : Fr O w X) {g : Nat} (hg : ext O w X g) (h3 : ∃ cur, X.heap[g]? = some (.cells cur 3 (0, 0))) (k2 : KeptB g X X2) (k3 : KeptB bl X2 X3) {L' : Pl → List Nat} (hl : Lines (ext O w X) X3 bl n L') : WL (ext O w X3) X3 p bw bl T n E L' ∧ Fr O w X3 := by
  refine h.line hf (hl.wide (fun b hb => .inl hb)) ⟨k3.os.trans k2.os, k3.tape.trans k2.tape, k3.output.trans k2.output, Nat.le_trans k2.size k3.size, fun i hi hib h3i => ?_⟩ (fun i hi hno => ?_)
  · obtain ⟨cur, hc⟩ := h3
    have hig : i ≠ g := fun e => h3i cur (e ▸ hc)
    exact (k3.blk i (Nat.lt_of_lt_of_le hi k2.size) hib).trans (k2.blk i hi hig)
  · have hig : i ≠ g := fun e => hno (e ▸ hg)
    have hib : i ≠ bl := fun e => hno (e ▸ h.ol)
    exact (k3.blk i (Nat.lt_of_lt_of_le hi k2.size) hib).trans (k2.blk i hi hig)
theorem kept_chg1 {O : Nat → Prop} {w X X3 : World} {p bw bl T n : Nat} {E : List En} {L : Pl → List Nat} (h : WL (ext O w X) X p bw bl T n E L) (hf : Fr O w X) (k3 : KeptB bl X X3) {L' : Pl → List Nat} (hl : Lines (ext O w X) X3 bl n L') : WL (ext O w X3) X3 p bw bl T n E L' ∧ Fr O w X3 := by
  refine h.line hf (hl.wide (fun b hb => .inl hb)) ⟨k3.os, k3.tape, k3.output, k3.size, fun i hi hib h3i => k3.blk i hi hib⟩ (fun i hi hno => ?_)
  have hib : i ≠ bl := fun e => hno (e ▸ h.ol)
  exact k3.blk i hi hib
theorem WL.on {O : Nat → Prop} {w W W' : World} {p bw bl T n : Nat} {E : List En} {L : Pl → List Nat} (h : WL (ext O w W) W p bw bl T n E L) (hf : Fr O w W) (hb : Below W.heap.size W W') : WL (ext O w W') W' p bw bl T n E L ∧ Fr O w W' := by
  refine ⟨(h.below hb).wide (fun b ob => ?_) (fun b ob => ?_), hf.below hb⟩
  · rcases ob with ob | ob
    · exact .inl ob
    · exact .inr ⟨ob.1, by have := hb.size; omega⟩
  · rcases ob with ob | ob
    · have := h.lt b (.inl ob); have := hb.size; omega
    · exact ob.2
theorem leave_any (O : Nat → Prop) (w W : World) (p bw bl T n : Nat) (E : List En) (L : Pl → List Nat) (x : Pl) (c : Nat) (h : WL (ext O w W) W p bw bl T n E L) (hf : Fr O w W) (hp : POk x) (hn : n < maxLen) :
    Calls Try.prog 47 #[.pointer (some ⟨p, 0, none⟩), .agg #[.int .i64 x.1, .string (bs x.2)], .int .i64 (c : Nat)] W fun e w' => e = .returned (.tuple #[]) ∧ Hid (WL (ext O w w') w' p bw bl T n E (updL L x ((L x).filter (fun y => decide (y ≠ c)))) ∧ Fr O w w') := by
  obtain ⟨W1, hW1⟩ : ∃ W1, (W.alloc (.cells #[.int .i64 x.1, .string (bs x.2)] 46)).alloc (.cells #[.int .i64 (c : Nat)] 3) = W1 := ⟨_, rfl⟩
  have hb1 : Below W.heap.size W W1 := by rw [← hW1]; exact ((Below.refl _ _).alloc (Nat.le_refl _) _).alloc (by simp) _
  have hs1 : W1.heap.size = W.heap.size + 2 := by rw [← hW1]; simp
  have hx1 : W1.heap[W.heap.size]? = some (.cells #[.int .i64 x.1, .string (bs x.2)] 46 (0, 0)) := by
    rw [← hW1]
    have hb : Below (W.alloc (.cells #[.int .i64 x.1, .string (bs x.2)] 46)).heap.size (W.alloc (.cells #[.int .i64 x.1, .string (bs x.2)] 46)) ((W.alloc (.cells #[.int .i64 x.1, .string (bs x.2)] 46)).alloc (.cells #[.int .i64 (c : Nat)] 3)) := (Below.refl _ _).alloc (Nat.le_refl _) _
    exact (hb.block _ (by simp)).trans (heap_alloc_new _ _)
  have hc1 : W1.heap[W.heap.size + 1]? = some (.cells #[.int .i64 (c : Nat)] 3 (0, 0)) := by
    rw [← hW1]
    have := heap_alloc_new (W.alloc (.cells #[.int .i64 x.1, .string (bs x.2)] 46)) (.cells #[.int .i64 (c : Nat)] 3)
    rwa [World.size_alloc] at this
  obtain ⟨A, AF⟩ := h.on hf hb1
  have hbd : Below W1.heap.size W1 W1.drew := (Below.refl _ _).drew
  obtain ⟨Ad, AdF⟩ := A.on AF hbd
  obtain ⟨-, -, pc⟩ := A.c0
  have b0 : W1.cell? ⟨W.heap.size, 0, none⟩ = some (.int .i64 x.1) := cell_blk hx1 0
  have b1 : W1.cell? ⟨W.heap.size, 1, none⟩ = some (.string (bs x.2)) := cell_blk hx1 1
  have hpW : p < W.heap.size := h.lt p h.op
  have HWf := hide (And.intro h hf)
  have hbWd : Below W.heap.size W W1.drew := hb1.trans (hbd.mono hb1.size)
  rcases (h.below hbWd).ln.look hp with ⟨hL, hr⟩ | ⟨hL, v, g, hr, og, hgl, hln, hmid⟩
  · have CD := hide (delete_nil W1.drew (.func (.func 57) #[] #[.pointer (some ⟨W.heap.size + 1, 0, none⟩)]))
    have hbd2 : Below W1.drew.heap.size W1.drew W1.drew.drew := (Below.refl _ _).drew
    obtain ⟨B, BF⟩ := Ad.on AdF hbd2
    obtain ⟨w2, r2, hl2, k2, s2⟩ := B.ln.delNone hp hL 0
    have FIN := hide (kept_chg1 B BF k2 hl2)
    have HEQ : Hid (∀ q, POk q → updL L x ((L x).filter (fun y => decide (y ≠ c))) q = L q) := hide (fun q _ => by
      unfold updL
      by_cases e : q = x
      · rw [if_pos e, e, hL]; rfl
      · rw [if_neg e])
    clear h hf hb1 hs1 hx1 hc1 A AF Ad AdF hL B BF hl2 k2 s2 HWf hbd hbd2 hbWd
    go_enter Try.func47, Try.ntmps47
    go_wp2_with fail
    go_region_with (go_at_call 56; with_reducible refine (unhide CD).mono ?_; rintro e w1 ⟨rfl, h1⟩; obtain rfl := h1.symm)
    all_goals (go_wp2_with fail)
    all_goals go_region
    all_goals (try go_wp2_with fail)
    all_goals ((try simp only [Exit.inBlock, Exit.then]); refine bodyPost_ret (results_none rfl _ _ _) rfl ?_)
    all_goals (
      have h9 := unhide FIN
      exact ⟨rfl, hide ⟨⟨h9.1.cell, h9.1.mw, h9.1.ln.eq (unhide HEQ), h9.1.rows, h9.1.op, h9.1.ow, h9.1.ol, h9.1.oe, h9.1.lt, h9.1.ne, h9.1.nd, h9.1.ok, h9.1.le, h9.1.inc, h9.1.few⟩, h9.2⟩⟩)
  · have hB2 : W1.drew.heap[W.heap.size + 1]? = some (.cells #[.int .i64 (c : Nat)] 3 (0, 0)) := hc1
    have hX2 : W1.drew.heap[W.heap.size]? = some (.cells #[.int .i64 x.1, .string (bs x.2)] 46 (0, 0)) := hx1
    have hgW : g < W.heap.size := h.lt g og
    have hsd : W1.drew.heap.size = W.heap.size + 2 := hs1
    obtain ⟨l1, hl1⟩ : ∃ l1, (L x).filter (fun y => decide (y ≠ c)) = l1 := ⟨_, rfl⟩
    have CD : Hid (Calls Try.prog 56 #[v, .func (.func 57) #[] #[.pointer (some ⟨W.heap.size + 1, 0, none⟩)]] W1.drew fun e w' => ∃ m cap, e = .returned (.slice (some ⟨g, 0, none⟩) m cap) ∧ Hid (LineAt w' (.slice (some ⟨g, 0, none⟩) m cap) g l1 ∧ KeptB g W1.drew w' ∧ w'.heap.size = W1.drew.heap.size ∧ m = l1.length) ∧ (w'.cell? ⟨p, 2, none⟩ = some (.map (some bl)) ∧ w'.cell? ⟨W.heap.size, 0, none⟩ = some (.int .i64 x.1) ∧ w'.cell? ⟨W.heap.size, 1, none⟩ = some (.string (bs x.2)))) := hide ((delete_line W1.drew v g (W.heap.size + 1) c (L x) hln hB2 (by omega)).mono (fun e w' ⟨v', e1, e2⟩ => by
      obtain ⟨q1, q2, q3⟩ := unhide e2
      rw [hl1] at q1
      obtain ⟨cap, cur, rfl, q⟩ := q1.ex
      have hpg : p ≠ g := by
        obtain ⟨cur', hc'⟩ := hln.blk
        intro e
        exact (no3_p Ad).1 cur' (e ▸ hc')
      have hp2 := (q2.blk p (by omega) hpg).trans Ad.cell
      have hx2 := (q2.blk W.heap.size (by omega) (by omega)).trans hX2
      exact ⟨l1.length, cap, e1, hide ⟨⟨cap, cur, rfl, q⟩, q2, q3, rfl⟩, cell_blk hp2 2, cell_blk hx2 0, cell_blk hx2 1⟩))
    have FIN : Hid (∀ w2 m cap, Hid (LineAt w2 (.slice (some ⟨g, 0, none⟩) m cap) g l1 ∧ KeptB g W1.drew w2 ∧ w2.heap.size = W1.drew.heap.size ∧ m = l1.length) → (l1 = [] → ∃ w3, (Builtin.delete_ #[64, 46] 0 #[.map (some bl), .agg #[.int .i64 x.1, .string (bs x.2)]]).run Try.prog w2.drew = .ok (.tuple #[]) w3 ∧ Hid (WL (ext O w w3) w3 p bw bl T n E (updL L x l1) ∧ Fr O w w3)) ∧ (l1 ≠ [] → ∃ w3, (Instr.mapUpdate 64 (.map (some bl)) (.agg #[.int .i64 x.1, .string (bs x.2)]) (.slice (some ⟨g, 0, none⟩) m cap)).run Try.prog w2.drew = .ok () w3 ∧ Hid (WL (ext O w w3) w3 p bw bl T n E (updL L x l1) ∧ Fr O w w3))) := hide (fun w2 m cap hh => by
      obtain ⟨q1, q2, q3, q4⟩ := unhide hh
      have hM := (hmid w2 _ l1 q2 q1).below (Below.refl w2.heap.size w2).drew
      have k2d : KeptB g W1.drew w2.drew := ⟨q2.os, q2.tape, q2.output, q2.size, q2.blk⟩
      obtain ⟨cur, hc⟩ := hln.blk
      have hxg : ext O w W1.drew g := by
        rcases og with og | og
        · exact .inl og
        · exact .inr ⟨og.1, by omega⟩
      have wide : ∀ b, ext O w W b → ext O w W1.drew b := fun b ob => by
        rcases ob with ob | ob
        · exact .inl ob
        · exact .inr ⟨ob.1, by omega⟩
      refine ⟨fun he => ?_, fun he => ?_⟩
      · obtain ⟨w3, r3, hl3, k3, s3⟩ := hM.del hp 0
        rw [he]
        exact ⟨w3, r3, hide (kept_chg (W := W1.drew) Ad AdF hxg ⟨cur, hc⟩ k2d k3 (hl3.wide wide))⟩
      · obtain ⟨w3, r3, hl3, k3, s3⟩ := hM.put hp hn he
        exact ⟨w3, r3, hide (kept_chg (W := W1.drew) Ad AdF hxg ⟨cur, hc⟩ k2d k3 (hl3.wide wide))⟩)
    rw [hl1]
    have hv : ∃ vl vc, v = .slice (some ⟨g, 0, none⟩) vl vc := by
      obtain ⟨cap, cur, rfl, -⟩ := hln.ex
      exact ⟨_, _, rfl⟩
    obtain ⟨vl, vc, rfl⟩ := hv
    clear h hf hb1 hs1 hx1 hc1 A AF Ad AdF hL HWf hbd hbWd og hgl hln hmid hB2 hX2 hgW hsd hl1
    by_cases hne : l1 = []
    · subst hne
      have FIN2 : Hid (∀ w2 m cap, Hid (LineAt w2 (.slice (some ⟨g, 0, none⟩) m cap) g [] ∧ KeptB g W1.drew w2 ∧ w2.heap.size = W1.drew.heap.size ∧ m = ([] : List Nat).length) → m = 0 ∧ ∃ w3, (Builtin.delete_ #[64, 46] 0 #[.map (some bl), .agg #[.int .i64 x.1, .string (bs x.2)]]).run Try.prog w2.drew = .ok (.tuple #[]) w3 ∧ Hid (WL (ext O w w3) w3 p bw bl T n E (updL L x []) ∧ Fr O w w3)) := hide (fun w2 m cap hh => ⟨(unhide hh).2.2.2, (unhide FIN w2 m cap hh).1 rfl⟩)
      clear FIN
      go_enter Try.func47, Try.ntmps47
      go_wp2_with fail
      go_region_with (go_at_call 56; with_reducible refine (unhide CD).mono ?_; rintro e w2 ⟨m, cap, rfl, k2, y0, y1, y2⟩; obtain ⟨hm, w3, r3, k3⟩ := unhide FIN2 _ _ _ k2; subst hm)
      all_goals (go_wp2_with fail)
      all_goals go_region
      all_goals (try go_wp2_with fail)
      all_goals ((try simp only [Exit.inBlock, Exit.then]); refine bodyPost_ret (results_none rfl _ _ _) rfl ?_)
      all_goals exact ⟨rfl, k3⟩
    · have hlp : 0 < l1.length := List.length_pos_iff.2 hne
      go_enter Try.func47, Try.ntmps47
      go_wp2_with fail
      go_region_with (go_at_call 56; with_reducible refine (unhide CD).mono ?_; rintro e w2 ⟨m, cap, rfl, k2, y0, y1, y2⟩; obtain ⟨w3, r3, k3⟩ := (unhide FIN _ _ _ k2).2 hne; have hm : 0 < m := (by (have := (unhide k2).2.2.2; omega)); have f1 : ((m : Int) == 0) = false := (by simp; omega); have f2 : decide ((m : Int) = 0) = false := decide_eq_false (by omega); have f3 : (m == 0) = false := (by simp; omega); have f4 : decide (m = 0) = false := decide_eq_false (by omega))
      all_goals (go_wp2_with fail)
      all_goals go_region
      all_goals (try go_wp2_with fail)
      all_goals (go_end0; exact ⟨rfl, k3⟩)
end Go.Proofs.Ytfebiemfmiahhab
