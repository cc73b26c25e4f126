/- told. -/
import Derived.Test.YtfebiemfmiahhabKm
import Derived.Deep.OwnRows
namespace Go.Proofs.Ytfebiemfmiahhab
open Go.ChangeShapes Go.WideShapes Go.ChangeAt Go.RowKit Go.Maps
set_option linter.unusedVariables false
set_option linter.unusedSimpArgs false
set_option maxRecDepth 100000
set_option maxHeartbeats 8000000
/-- who has come of a range over the map -/
structure MetW (E : List En) (left : Lit → Bool) (V : List En) : Prop where
  nd : V.Nodup
  sub : ∀ e ∈ V, e ∈ E
  iff : ∀ e ∈ E, left (.int .i64 (e.x.conn : Nat)) = true ↔ e ∉ V
theorem MetW.perm {E V : List En} {left : Lit → Bool} (h : MetW E left V) (hn : E.Nodup) (hl : ∀ kl, left kl = false) : V.Perm E := by
  classical
  refine (List.perm_ext_iff_of_nodup h.nd hn).2 (fun e => ⟨h.sub e, fun he => ?_⟩)
  have := h.iff e he
  rw [hl] at this
  simpa using this
theorem MetW.step {E V : List En} {left : Lit → Bool} {e : En} (h : MetW E left V) (hn : (E.map (·.x.conn)).Nodup) (ok : ∀ e ∈ E, WOk e.x) (he : e ∈ E) (hl : left (.int .i64 (e.x.conn : Nat)) = true) : MetW E (fun z => left z && !z.sameKey (.int .i64 (e.x.conn : Nat))) (V ++ [e]) := by
  have hnv := (h.iff e he).1 hl
  have hk : ∀ e ∈ E, IOk (e.x.conn : Nat) := fun e he => WalkArith.wf_i64 (by have := (ok e he).conn; omega)
  refine ⟨List.nodup_append.2 ⟨h.nd, by simp, fun a ha b hb e2 => ?_⟩, fun x hx => ?_, fun x hx => ?_⟩
  · simp at hb
    subst hb
    exact hnv (e2 ▸ ha)
  · rcases List.mem_append.1 hx with h1 | h1
    · exact h.sub x h1
    · rw [List.mem_singleton.1 h1]; exact he
  · have h1 := h.iff x hx
    by_cases e2 : x = e
    · subst e2
      have h3 : (Lit.int .i64 (x.x.conn : Nat)).sameKey (.int .i64 (x.x.conn : Nat)) = true := WideAt.sameKey_self (KI.key (hk x he))
      rw [h3]
      simp
    · have h3 : (Lit.int .i64 (x.x.conn : Nat)).sameKey (.int .i64 (e.x.conn : Nat)) = false := sameKey_ne (fun e3 => e2 (inj_of_nodup hn hx he (by injection e3; omega)))
      rw [h3]
      simp [h1, e2]
theorem wpList_next_wait (w : World) {ops : Array Oper} {rest : List Oper} {o : Oper} {a : Act} {Q : Exit → Act → World → Prop} (hg : o.guard = none) (it : Operand) (hop : o.op = Op.next it false) (b r n : Nat) (D : Dv) (left : Lit → Bool) (cnt : Nat) (E : List En)
    (hit : a.eval it = .pointer (some ⟨r, 0, none⟩)) (h : w.ranges Try.prog 3 heldR b r n D left cnt) (hI : Hid (∀ c, IOk c → Is D (.int .i64 c) ((lookE E c).map enV)))
    (hDone : Hid (∀ kl, left kl = false) → wpList Try.prog ops Q rest (a.put o.dst (.tuple #[.bool false])) w)
    (hMore : ∀ (e : En) (w' : World) (cnt' : Nat), Hid (e ∈ E ∧ left (.int .i64 (e.x.conn : Nat)) = true ∧ w.grownBy w' (some r)) → Hid (w'.ranges Try.prog 3 heldR b r n D (fun z => left z && !z.sameKey (.int .i64 (e.x.conn : Nat))) cnt') → cnt' < cnt →
      (Instr.entry (.pointer (some ⟨r, 0, none⟩))).run Try.prog w' = .ok (.tuple #[.int .i64 (e.x.conn : Nat), .agg #[.int .i64 (e.x.conn : Nat), .int .u64 (e.turn : Nat), .int .i64 e.x.kind, .slice (some ⟨e.g, 0, none⟩) e.x.places.length e.x.places.length, .int .u64 (e.x.till : Nat)]]) w' → wpList Try.prog ops Q rest (a.put o.dst (.tuple #[.bool true, .int .i64 (e.x.conn : Nat), .agg #[.int .i64 (e.x.conn : Nat), .int .u64 (e.turn : Nat), .int .i64 e.x.kind, .slice (some ⟨e.g, 0, none⟩) e.x.places.length e.x.places.length, .int .u64 (e.x.till : Nat)]])) w') :
    wpList Try.prog ops Q (o :: rest) a w :=
  wpList_next_ranges w hg it hop 3 lawI heldR (Value.int .i64) (fun v : Value => v) (fun key kl hk => by obtain ⟨x, e, _⟩ := keyOf_int_inv Try.underlying3 hk; exact ⟨x, e⟩) (fun v y hv => ⟨v, rfl⟩) b r n D left cnt hit h (fun _ hl => hDone hl) (fun x v kl y w' cnt' hkey hlk hv hat hrg hlt hgr hsz hen => by
    obtain ⟨x', ex, rfl, hw⟩ := keyOf_int_inv Try.underlying3 hkey
    cases ex
    have hy : y.1 = .held v := by
      unfold heldR at hv
      injection hv with hv
      rw [← hv]
    have hi := unhide hI x hw
    cases hL : lookE E x with
    | none =>
      rw [hL] at hi
      have h1 := hat .nil
      have h2 := hat (.held v)
      rw [Maps.atKey_of_not_has hi] at h1
      rw [hy] at h1
      cases h1
    | some e =>
      rw [hL] at hi
      obtain ⟨he, hc⟩ := lookE_mem hL
      have h1 := hi.2 .nil
      rw [hat, hy] at h1
      have hve : v = enV e := by injection h1
      subst hve
      subst hc
      exact hMore e w' cnt' ⟨he, hlk, hgr⟩ hrg hlt hen)
theorem info68 : (Try.prog.info? 73).map (fun i => (i.zero, i.size, i.bytes)) = some (some en0, 5, 56) := by kernel_rfl
/-- what has been found so far -/
structure ToAt (w wr : World) (E : List En) (pr : En → Bool) (left : Lit → Bool) (v : Value) (V : List En) : Prop where
  bel : Below w.heap.size w wr
  own : OwnW wr (w.heap.size + 1) v (V.filter pr)
  met : MetW E left V
  nil : V.filter pr = [] → v = .slice none 0 0
  it : w.heap.size < wr.heap.size
theorem cell_five_new (w : World) (a b c d e : Value) (t : TypeId) : ∀ j u, [a, b, c, d, e][j]? = some u → (w.alloc (.cells #[a, b, c, d, e] t)).cell? ((⟨w.heap.size, 0, none⟩ : Addr).add j) = some u := by
  intro j u hj
  have := cell_blk (heap_alloc_new w (.cells #[a, b, c, d, e] t)) j
  have ha : (⟨w.heap.size, 0, none⟩ : Addr).add j = ⟨w.heap.size, j, none⟩ := by
    by_cases e : j = 0
    · subst e; simp [Addr.add]
    · simp [Addr.add, e]
  rw [ha, this]
  simpa using hj
/-- a row of numbers that fills its block -/
def RowI (W : World) (g : Nat) (l : List Nat) : Prop := W.heap[g]? = some (.cells (l.map (fun c => Value.int .i64 (c : Nat))).toArray 3 (0, 0))
theorem makeI (n : Nat) (hn : n ≤ 1000000) (w : World) : (Instr.makeSlice 51 (.int .i64 (n : Nat)) (.int .i64 (n : Nat))).run Try.prog w = .ok (.slice (some ⟨w.heap.size, 0, none⟩) n n) (w.alloc (.cells (madeCells #[.int .i64 0] n) 3)) :=
  run_make_row' (P := Try.prog) 51 3 (.int .i64 0) 8 Try.underlying51 info3 rfl .i64 .i64 n (by omega) (by omega) w
/-- the numbers under way -/
structure NuAt (W wr : World) (l : List Nat) (i : Nat) : Prop where
  bel : Below W.heap.size W wr
  row : ∃ cur : Array Value, wr.heap[W.heap.size]? = some (.cells cur 3 (0, 0)) ∧ cur.size = l.length ∧ ∀ (j : Nat) (x : Nat), j < i → l[j]? = some x → cur[j]? = some (Value.int .i64 (x : Nat))
theorem NuAt.below {w wr w' : World} {l : List Nat} {i : Nat} (h : NuAt w wr l i) (hb : Below wr.heap.size wr w') : NuAt w w' l i := by
  obtain ⟨cur, h1, r⟩ := h.row
  exact ⟨h.bel.trans (hb.mono h.bel.size), cur, (hb.block _ (blk_lt h1)).trans h1, r⟩
theorem NuAt.set {w wr : World} {l : List Nat} {i : Nat} {x : Nat} (h : NuAt w wr l i) (hx : l[i]? = some x) : NuAt w (wr.setCell ⟨w.heap.size, i, none⟩ (.int .i64 (x : Nat))) l (i + 1) := by
  obtain ⟨cur, h1, h2, h3⟩ := h.row
  have hil : i < l.length := (List.getElem?_eq_some_iff.1 hx).1
  have s1 := heap_setCell_same wr w.heap.size i cur 3 (.int .i64 (x : Nat)) h1
  refine ⟨⟨h.bel.os, h.bel.tape, h.bel.output, by have := h.bel.size; simp; omega, fun k hk => ?_⟩, _, s1, by simp [h2], fun j y hj hy => ?_⟩
  · rw [heap_setCell_other _ _ _ _ (by show k ≠ w.heap.size; omega)]
    exact h.bel.block k hk
  · by_cases e : j = i
    · subst e
      rw [hx] at hy
      cases hy
      rw [Array.getElem?_setIfInBounds_self_of_lt (by omega)]
    · rw [Array.getElem?_setIfInBounds_ne (by omega)]
      exact h3 j y (by omega) hy
theorem NuAt.done {w wr : World} {l : List Nat} (h : NuAt w wr l l.length) : RowI wr w.heap.size l := by
  obtain ⟨cur, h1, h2, h3⟩ := h.row
  unfold RowI
  rw [h1]
  have he : cur = (l.map (fun c => Value.int .i64 (c : Nat))).toArray := by
    refine Array.ext_getElem? (fun k => ?_)
    have e9 : (l.map (fun c => Value.int .i64 (c : Nat))).toArray[k]? = (l.map (fun c => Value.int .i64 (c : Nat)))[k]? := by simp
    rw [e9, List.getElem?_map]
    by_cases hk : k < l.length
    · have hx : l[k]? = some l[k] := List.getElem?_eq_getElem hk
      rw [hx, h3 k _ hk hx]
      rfl
    · rw [List.getElem?_eq_none (by omega), Array.getElem?_eq_none (by omega)]
      rfl
  rw [he]
theorem NuAt.froz {w wr : World} {l : List Nat} {i : Nat} (h : NuAt w wr l i) (j : Nat) : wr.frozen? ⟨w.heap.size, j, none⟩ = false := by
  obtain ⟨cur, h1, r⟩ := h.row
  simp [World.frozen?, h1]
theorem NuAt.there {w wr : World} {l : List Nat} {i j : Nat} (h : NuAt w wr l i) (hj : j < l.length) : ∃ u, wr.cell? ⟨w.heap.size, j, none⟩ = some u := by
  obtain ⟨cur, h1, h2, r⟩ := h.row
  exact ⟨cur[j], by rw [cell_blk h1]; exact Array.getElem?_eq_getElem (by omega)⟩
theorem CelW.below {w w' : World} {g : Nat} {F : List En} (h : CelW w g F) (hb : Below w.heap.size w w') (hg : g < w.heap.size) : CelW w' g F := fun i e he j u hu => (hb.cell (p := ⟨g, i * 5 + j, none⟩) hg).trans (h i e he j u hu)
theorem nodup_lenG {α : Type} [DecidableEq α] : ∀ (L S : List α), L.Nodup → (∀ x ∈ L, x ∈ S) → L.length ≤ S.length
  | [], S, _, _ => Nat.zero_le _
  | x :: L, S, hn, hs => by
    obtain ⟨h1, h2⟩ := List.nodup_cons.1 hn
    have hx := hs x (List.mem_cons_self ..)
    have := nodup_lenG L (S.erase x) h2 (fun y hy => (List.mem_erase_of_ne (fun e : y = x => h1 (e ▸ hy))).2 (hs y (List.mem_cons_of_mem _ hy)))
    rw [List.length_erase_of_mem hx] at this
    have h0 : 0 < S.length := List.length_pos_of_mem hx
    simp only [List.length_cons]
    omega
theorem nodup_of_map : ∀ {E : List En}, (E.map (·.x.conn)).Nodup → E.Nodup
  | [], _ => List.nodup_nil
  | x :: r, h => by
    rw [List.map_cons, List.nodup_cons] at h
    exact List.nodup_cons.2 ⟨fun hm => h.1 (List.mem_map_of_mem (f := (·.x.conn)) hm), nodup_of_map h.2⟩
theorem grown_none {w w' : World} (h : Below w.heap.size w w') : w.grownBy w' none := ⟨h.os, h.tape, h.output, h.size, fun i hi _ => h.block i hi⟩
theorem ToAt.iter {w wr w1 : World} {E V : List En} {pr : En → Bool} {left : Lit → Bool} {v : Value} {e : En} (h : ToAt w wr E pr left v V) (hn : (E.map (·.x.conn)).Nodup) (ok : ∀ e ∈ E, WOk e.x) (he : e ∈ E) (hl : left (.int .i64 (e.x.conn : Nat)) = true) (hg : wr.grownBy w1 (some w.heap.size)) : Below w.heap.size w w1 ∧ OwnW w1 (w.heap.size + 1) v (V.filter pr) ∧ MetW E (fun z => left z && !z.sameKey (.int .i64 (e.x.conn : Nat))) (V ++ [e]) ∧ w.heap.size < w1.heap.size := by
  refine ⟨h.bel.grown hg (Nat.le_of_lt h.it) (fun k hk => by cases hk; exact Nat.le_refl _), World.ownsRow.kept h.own hg ?_, h.met.step hn ok he hl, Nat.lt_of_lt_of_le h.it hg.size⟩
  cases hv : v.ownBlock with
  | none => exact .inl rfl
  | some k =>
    right
    intro e2
    have := World.ownsRow.lt h.own k hv
    injection e2 with e2
    omega
theorem OwnW.below {w w' : World} {base : Nat} {v : Value} {F : List En} (h : OwnW w base v F) (hb : Below w.heap.size w w') : OwnW w' base v F := World.ownsRow.kept h (grown_none hb) (by
  cases v.ownBlock with
  | none => exact .inl rfl
  | some k => exact .inr (by simp))
theorem told_any (O : Nat → Prop) (w : World) (p bw bl T fo fw : Nat) (lb : Array Value) (E : List En) (pr : En → Bool) (cf : W5 → W5 → Int) (h : WAt O w p bw bl T E) (hS : Sort.SWO (ltOf cf)) (eo : ∀ args w, (callFunc fo args).run Try.prog w = .ok (.enter fo args) w) (ew : ∀ args w, (callFunc fw args).run Try.prog w = .ok (.enter fw args) w)
    (CMP : ∀ W x y, Calls Try.prog fo #[.agg (enc5 x).toArray, .agg (enc5 y).toArray] W fun e w' => e = .returned (.int .i64 (cf x y)) ∧ Gw W w') (PW : ∀ W e, e ∈ E → Below w.heap.size w W → Calls Try.prog fw (#[enV e] ++ lb) W fun r w' => r = .returned (.bool (pr e)) ∧ Below W.heap.size W w') :
    Calls Try.prog 42 #[.pointer (some ⟨p, 0, none⟩), .func (.func fo) #[] #[], .func (.func fw) #[] lb] w fun e w' => ∃ g n, e = .returned (.slice (some ⟨g, 0, none⟩) n n) ∧ Hid (∃ F : List En, F.Perm (E.filter pr) ∧ F.Pairwise (fun a b => ltOf cf (w5 b) (w5 a) = false) ∧ RowI w' g (F.map (·.x.conn)) ∧ n = F.length ∧ w.heap.size ≤ g ∧ Below w.heap.size w w') := by
  obtain ⟨-, c1, -⟩ := h.c0
  obtain ⟨D, hown, hI⟩ := h.mw.ex
  have HI : Hid (∀ c, IOk c → Is D (.int .i64 c) ((lookE E c).map enV)) := hide (fun c hc => hI c hc)
  have ME : Hid (MetW E (Maps.has D) []) := hide ⟨by simp, by simp, fun e he => by
    have hi := hI (e.x.conn : Nat) (WalkArith.wf_i64 (by have := (h.ok e he).conn; omega))
    rw [lookE_of h.nd he] at hi
    have h1 : Maps.has D (.int .i64 (e.x.conn : Nat)) = true := hi.1
    simp [h1]⟩
  have hEn : E.Nodup := nodup_of_map h.nd
  have hE8 := few8 h.nd h.ok
  have HND := hide h.nd
  have HOK := hide h.ok
  have HEN := hide hEn
  have HPW := hide PW
  have HSW := hide hS
  have HCMP := hide CMP
  have hbl : bw < w.heap.size := h.lt bw h.ow
  obtain ⟨i0, hi0, hzz⟩ := Option.map_eq_some_iff.1 info68
  simp only [Prod.mk.injEq] at hzz
  obtain ⟨hz0, hz1, hz2⟩ := hzz
  clear h hI hEn PW hS CMP
  go_enter Try.func42, Try.ntmps42
  go_wp2_with (first
    | (at_range; refine wpList_range_own _ rfl _ 63 rfl 3 73 lawI Try.underlying63 _ bw T D rfl hown ?_; intro w0 hrg0 hg0 hs0))
  go_frame
  go_loopw [7] (fun v wr => ∃ (V : List En) (left : Lit → Bool) (cnt : Nat), Hid (ToAt w wr E pr left v V) ∧ wr.ranges Try.prog 3 heldR bw w.heap.size T D left cnt) (fun _ wr => wr.rangeLeft bw w.heap.size)
  case atStart => exact ⟨[], _, _, hide ⟨(Below.refl _ _).grown hg0 (Nat.le_refl _) (fun j hj => by cases hj), World.ownsRow_nil _ _ _ _, unhide ME, fun _ => rfl, by omega⟩, hrg0⟩
  case round =>
    obtain ⟨V, left, cnt, HT, hrg⟩ := hrel
    clear hs0 hrg0 hg0 hown ME c1
    go_wp2_with (first
      | (at_next; refine wpList_next_wait _ rfl _ rfl bw w.heap.size T D _ _ E rfl hrg HI ?_ ?_))
    · intro hl0
      obtain ⟨F0, hF0⟩ : ∃ F0, V.filter pr = F0 := ⟨_, rfl⟩
      have hVE := (unhide HT).met.perm (unhide HEN) (unhide hl0)
      have hFE : F0.Perm (E.filter pr) := by rw [← hF0]; exact hVE.filter _
      have hF8 : F0.length ≤ 8 := by rw [hFE.length_eq]; exact Nat.le_trans (List.length_filter_le _ _) hE8
      have hownF := (unhide HT).own
      have hnilF := (unhide HT).nil
      rw [hF0] at hownF hnilF
      have HBW := hide (unhide HT).bel
      have HFE := hide hFE
      by_cases hne : F0 = []
      · obtain rfl := hnilF hne
        subst hne
        have CS := hide (sort_none wr (.func (.func fo) #[] #[]))
        have m1 : (Instr.makeSlice 51 (.int .i64 0) (.int .i64 0)).run Try.prog wr = .ok (.slice (some ⟨wr.heap.size, 0, none⟩) 0 0) (wr.alloc (.cells (madeCells #[.int .i64 0] 0) 3)) := makeI 0 (by omega) wr
        have HR : Hid (∃ F : List En, F.Perm (E.filter pr) ∧ F.Pairwise (fun a b => ltOf cf (w5 b) (w5 a) = false) ∧ RowI (wr.alloc (.cells (madeCells #[.int .i64 0] 0) 3)) wr.heap.size (F.map (·.x.conn)) ∧ 0 = F.length ∧ w.heap.size ≤ wr.heap.size ∧ Below w.heap.size w (wr.alloc (.cells (madeCells #[.int .i64 0] 0) 3))) := hide ⟨[], hFE, by simp, (by have h9 := heap_alloc_new wr (.cells (madeCells #[.int .i64 0] 0) 3); unfold RowI; rw [h9]; simp [madeCells]), rfl, (unhide HBW).size, (unhide HBW).alloc (unhide HBW).size _⟩
        clear hownF hnilF hVE hF0 HT hrg hFE hl0
        go_wp2_with (first
          | (go_at_call 53; with_reducible refine (unhide CS).mono ?_; rintro e w2 ⟨rfl, h2⟩; obtain rfl := h2.symm))
        go_loopw [37] (fun iv wq => iv = .int .i64 0 ∧ Hid (wq = wr.alloc (.cells (madeCells #[.int .i64 0] 0) 3))) (fun iv _ => 0)
        case atStart => exact ⟨rfl, hide rfl⟩
        case round =>
          obtain ⟨rfl, hwr⟩ := hrel
          obtain rfl := (unhide hwr).symm
          go_wp2_with fail
          go_ret
          exact ⟨_, 0, rfl, HR⟩
      · obtain ⟨g, cap, cur, rfl, hbg, hgb, hcap, -⟩ := hownF.blk hne
        have CS : Hid (Calls Try.prog 53 #[.slice (some ⟨g, 0, none⟩) F0.length cap, .func (.func fo) #[] #[]] wr fun e w' => e = .returned (.tuple #[]) ∧ Hid (∃ F1, F1.Perm F0 ∧ F1.Pairwise (fun a b => ltOf cf (w5 b) (w5 a) = false) ∧ CelW w' g F1 ∧ Below (w.heap.size + 1) wr w' ∧ g < wr.heap.size)) := hide (sort_some wr (w.heap.size + 1) g cap fo F0 cf (unhide HSW) eo (unhide HCMP) hownF hne hF8 hbg)
        obtain ⟨n, hn⟩ : ∃ n, n = F0.length := ⟨_, rfl⟩
        rw [← hn] at CS hF8 ⊢
        have HN := hide hn
        have m1 := makeI n (by omega)
        clear hownF hnilF hVE hF0 HT hrg hFE hl0 hne hn hbg hgb hcap
        go_wp2_with (first
          | (go_at_call 53; with_reducible refine (unhide CS).mono ?_; rintro e w2 ⟨rfl, k2⟩))
        obtain ⟨F1, f1p, f1s, f1c, f1b, f1g⟩ := unhide k2
        have hb2 : Below w.heap.size w w2 := (unhide HBW).trans (f1b.mono (by omega))
        have hg2 : g < w2.heap.size := Nat.lt_of_lt_of_le f1g f1b.size
        have hF1n : n = F1.length := by rw [f1p.length_eq]; exact unhide HN
        have HF := hide (And.intro (f1p.trans (unhide HFE)) f1s)
        have HC := hide f1c
        have HB2 := hide hb2
        have HN1 := hide hF1n
        have HS : Hid (NuAt w2 (w2.alloc (.cells (madeCells #[.int .i64 0] n) 3)) (F1.map (·.x.conn)) 0) := hide ⟨(Below.refl _ _).alloc (Nat.le_refl _) _, _, heap_alloc_new _ _, by rw [size_madeCells, List.length_map, ← hF1n], fun j x hj => absurd hj (Nat.not_lt_zero _)⟩
        clear CS k2 f1p f1s f1c f1b f1g hb2 hF1n
        go_loopw [37] (fun iv wq => ∃ i : Nat, iv = .int .i64 ((i : Nat) : Int) ∧ i ≤ n ∧ Hid (NuAt w2 wq (F1.map (·.x.conn)) i)) (fun iv _ => n - (intOf iv).toNat)
        case atStart => exact ⟨0, rfl, Nat.zero_le _, HS⟩
        case round =>
          clear HS
          rename World => wq
          obtain ⟨i, rfl, hi, HU⟩ := hrel
          by_cases hin : i < n
          · have f1 : decide ((i : Int) < (n : Int)) = true := decide_eq_true (by omega)
            have g1 : (0 : Int) ≤ (i : Int) := by omega
            have g2 : (i : Int) < (n : Int) := by omega
            obtain ⟨e, he⟩ : ∃ e, F1[i]? = some e := ⟨_, List.getElem?_eq_getElem (by have := unhide HN1; omega)⟩
            have hcw : CelW wq g F1 := (unhide HC).below (unhide HU).bel hg2
            have c0 : wq.cell? ⟨g, i * 5, none⟩ = some (.int .i64 (e.x.conn : Nat)) := hcw i e he 0 _ rfl
            have c1 : wq.cell? ⟨g, i * 5 + 1, none⟩ = some (.int .u64 (e.turn : Nat)) := hcw i e he 1 _ rfl
            have c2 : wq.cell? ⟨g, i * 5 + 2, none⟩ = some (.int .i64 e.x.kind) := hcw i e he 2 _ rfl
            have c3 : wq.cell? ⟨g, i * 5 + 3, none⟩ = some (.slice (some ⟨e.g, 0, none⟩) e.x.places.length e.x.places.length) := hcw i e he 3 _ rfl
            have c4 : wq.cell? ⟨g, i * 5 + 4, none⟩ = some (.int .u64 (e.x.till : Nat)) := hcw i e he 4 _ rfl
            have hxm : (F1.map (·.x.conn))[i]? = some e.x.conn := by rw [List.getElem?_map, he]; rfl
            have hlm : i < (F1.map (·.x.conn)).length := by rw [List.length_map]; have := unhide HN1; omega
            have HUa := hide ((unhide HU).below ((Below.refl wq.heap.size wq).alloc (Nat.le_refl _) (.cells #[.int .i64 (e.x.conn : Nat), .int .u64 (e.turn : Nat), .int .i64 e.x.kind, .slice (some ⟨e.g, 0, none⟩) e.x.places.length e.x.places.length, .int .u64 (e.x.till : Nat)] 73)))
            have zf := (unhide HUa).froz i
            obtain ⟨u0, zu⟩ := (unhide HUa).there hlm
            have KS := hide ((unhide HUa).set hxm)
            clear he hcw hxm hlm
            go_wp2_with fail
            all_goals go_roundw
            case rel => exact ⟨i + 1, by go_num, by omega, KS⟩
            case measure => simp [intOf]; omega
          · obtain rfl : i = n := by omega
            have f1 : decide ((i : Int) < (i : Int)) = false := decide_eq_false (by omega)
            have HR : Hid (∃ F : List En, F.Perm (E.filter pr) ∧ F.Pairwise (fun a b => ltOf cf (w5 b) (w5 a) = false) ∧ RowI wq w2.heap.size (F.map (·.x.conn)) ∧ i = F.length ∧ w.heap.size ≤ w2.heap.size ∧ Below w.heap.size w wq) := hide ⟨F1, (unhide HF).1, (unhide HF).2, NuAt.done (by rw [List.length_map, ← unhide HN1]; exact unhide HU), unhide HN1, (unhide HB2).size, (unhide HB2).trans ((unhide HU).bel.mono (unhide HB2).size)⟩
            go_wp2_with fail
            go_ret
            exact ⟨_, _, rfl, HR⟩
    · intro e w1 cnt1 hk hrg1 hlt hen
      obtain ⟨he, hlk, hgr⟩ := unhide hk
      obtain ⟨a1, a2, a3, a4⟩ := (unhide HT).iter (unhide HND) (unhide HOK) he hlk hgr
      have hb1 : Below w1.heap.size w1 (w1.alloc (.cells #[.int .i64 (e.x.conn : Nat), .int .u64 (e.turn : Nat), .int .i64 e.x.kind, .slice (some ⟨e.g, 0, none⟩) e.x.places.length e.x.places.length, .int .u64 (e.x.till : Nat)] 73)) := (Below.refl _ _).alloc (Nat.le_refl _) _
      have hbx := heap_alloc_new w1 (.cells #[.int .i64 (e.x.conn : Nat), .int .u64 (e.turn : Nat), .int .i64 e.x.kind, .slice (some ⟨e.g, 0, none⟩) e.x.places.length e.x.places.length, .int .u64 (e.x.till : Nat)] 73)
      have CW : Hid (Calls Try.prog fw (#[.agg #[.int .i64 (e.x.conn : Nat), .int .u64 (e.turn : Nat), .int .i64 e.x.kind, .slice (some ⟨e.g, 0, none⟩) e.x.places.length e.x.places.length, .int .u64 (e.x.till : Nat)]] ++ lb) (w1.alloc (.cells #[.int .i64 (e.x.conn : Nat), .int .u64 (e.turn : Nat), .int .i64 e.x.kind, .slice (some ⟨e.g, 0, none⟩) e.x.places.length e.x.places.length, .int .u64 (e.x.till : Nat)] 73)) fun r w' => r = .returned (.bool (pr e)) ∧ Hid (Below w1.heap.size w1 w') ∧ (w'.cell? ⟨w1.heap.size, 0, none⟩ = some (.int .i64 (e.x.conn : Nat)) ∧ w'.cell? ⟨w1.heap.size, 1, none⟩ = some (.int .u64 (e.turn : Nat)) ∧ w'.cell? ⟨w1.heap.size, 2, none⟩ = some (.int .i64 e.x.kind) ∧ w'.cell? ⟨w1.heap.size, 3, none⟩ = some (.slice (some ⟨e.g, 0, none⟩) e.x.places.length e.x.places.length) ∧ w'.cell? ⟨w1.heap.size, 4, none⟩ = some (.int .u64 (e.x.till : Nat)))) := hide ((unhide HPW _ e he (a1.trans (hb1.mono a1.size))).mono (fun r w' ⟨r1, r2⟩ => by
        have h2 := (r2.block w1.heap.size (by simp)).trans hbx
        exact ⟨r1, hide (hb1.trans (r2.mono hb1.size)), cell_blk h2 0, cell_blk h2 1, cell_blk h2 2, cell_blk h2 3, cell_blk h2 4⟩))
      have HA := hide (And.intro a1 (And.intro a2 (And.intro a3 a4)))
      have hV8 : Hid ((V.filter pr).length ≤ 8) := hide (by
        have h1 : V.length ≤ E.length := by
          classical
          exact nodup_lenG V E (unhide HT).met.nd (unhide HT).met.sub
        exact Nat.le_trans (List.length_filter_le _ _) (by omega))
      clear he hlk hgr a1 a2 a3 a4 hb1 hbx
      cases hp : pr e with
      | false =>
        rw [hp] at CW
        have FIN : Hid (∀ w2, Hid (Below w1.heap.size w1 w2) → Hid (ToAt w w2 E pr (fun z => left z && !z.sameKey (.int .i64 (e.x.conn : Nat))) u7 (V ++ [e])) ∧ w2.ranges Try.prog 3 heldR bw w.heap.size T D (fun z => left z && !z.sameKey (.int .i64 (e.x.conn : Nat))) cnt1) := hide (fun w2 hb => by
          obtain ⟨a1, a2, a3, a4⟩ := unhide HA
          have hf : (V ++ [e]).filter pr = V.filter pr := by rw [List.filter_append]; simp [hp]
          exact ⟨hide ⟨a1.trans ((unhide hb).mono a1.size), by rw [hf]; exact a2.below (unhide hb), a3, by rw [hf]; exact (unhide HT).nil, Nat.lt_of_lt_of_le a4 (unhide hb).size⟩, (unhide hrg1).kept (grown_none (unhide hb)) (by simp) (by simp)⟩)
        have HRL := hide hrg.left_eq
        clear hp hrg
        go_wp2_with (go_at_fn fw; with_reducible refine (unhide CW).mono ?_; rintro r w2 ⟨rfl, k2, c0, c1, c2, c3, c4⟩; obtain ⟨q1, q2⟩ := unhide FIN w2 k2)
        all_goals go_roundw
        case rel => exact ⟨V ++ [e], _, cnt1, q1, q2⟩
        case measure => rw [q2.left_eq, unhide HRL]; exact hlt
      | true =>
        rw [hp] at CW
        have OW : Hid (∀ w2 : World, Hid (Below w1.heap.size w1 w2) → (w2.alloc (.cells #[.int .i64 (e.x.conn : Nat), .int .u64 (e.turn : Nat), .int .i64 e.x.kind, .slice (some ⟨e.g, 0, none⟩) e.x.places.length e.x.places.length, .int .u64 (e.x.till : Nat)] 73)).ownsRow (w.heap.size + 1) 73 5 u7 (V.filter pr).length ((V.filter pr).flatMap enC) ∧ w.heap.size + 1 ≤ w2.heap.size) := hide (fun w2 hb => by
          obtain ⟨a1, a2, a3, a4⟩ := unhide HA
          exact ⟨World.ownsRow.alloc (a2.below (unhide hb)) _, by have := (unhide hb).size; omega⟩)
        have FIN : Hid (∀ (w2 w3 : World) (v3 : Value), Hid (Below w1.heap.size w1 w2) → w3.ownsRow (w.heap.size + 1) 73 5 v3 ((V.filter pr).length + 1) ((V.filter pr).flatMap enC ++ [.int .i64 (e.x.conn : Nat), .int .u64 (e.turn : Nat), .int .i64 e.x.kind, .slice (some ⟨e.g, 0, none⟩) e.x.places.length e.x.places.length, .int .u64 (e.x.till : Nat)]) → (w2.alloc (.cells #[.int .i64 (e.x.conn : Nat), .int .u64 (e.turn : Nat), .int .i64 e.x.kind, .slice (some ⟨e.g, 0, none⟩) e.x.places.length e.x.places.length, .int .u64 (e.x.till : Nat)] 73)).grownBy w3 u7.ownBlock → Hid (ToAt w w3 E pr (fun z => left z && !z.sameKey (.int .i64 (e.x.conn : Nat))) v3 (V ++ [e])) ∧ w3.ranges Try.prog 3 heldR bw w.heap.size T D (fun z => left z && !z.sameKey (.int .i64 (e.x.conn : Nat))) cnt1) := hide (fun w2 w3 v3 hb ho hg => by
          obtain ⟨a1, a2, a3, a4⟩ := unhide HA
          have hf : (V ++ [e]).filter pr = V.filter pr ++ [e] := by rw [List.filter_append]; simp [hp]
          have hb' := unhide hb
          have hba : Below w1.heap.size w1 (w2.alloc (.cells #[.int .i64 (e.x.conn : Nat), .int .u64 (e.turn : Nat), .int .i64 e.x.kind, .slice (some ⟨e.g, 0, none⟩) e.x.places.length e.x.places.length, .int .u64 (e.x.till : Nat)] 73)) := hb'.alloc hb'.size _
          have hrow : ∀ k, u7.ownBlock = some k → w.heap.size + 1 ≤ k := fun k hk => (World.ownsRow.lt a2 k hk).1
          refine ⟨hide ⟨(a1.trans (hba.mono a1.size)).grown hg (Nat.le_trans a1.size hba.size) (fun k hk => by have := hrow k hk; omega), ?_, a3, fun h0 => ?_, Nat.lt_of_lt_of_le a4 (Nat.le_trans hba.size hg.size)⟩, (((unhide hrg1).kept (grown_none hb') (by simp) (by simp)).alloc _).kept hg (fun e2 => ?_) (fun e2 => ?_)⟩
          · unfold OwnW
            rw [hf, List.length_append, List.flatMap_append]
            simpa [enC, enc5, w5] using ho
          · rw [hf] at h0
            exact absurd h0 (by simp)
          · have := hrow bw e2.symm; omega
          · have := hrow w.heap.size e2.symm; omega)
        have HRL := hide hrg.left_eq
        have hV9 := unhide hV8
        clear hp hrg
        go_wp2_with (first
          | (go_at_fn fw; with_reducible refine (unhide CW).mono ?_; rintro r w2 ⟨rfl, k2, c0, c1, c2, c3, c4⟩; obtain ⟨hrw, hsz⟩ := unhide OW w2 k2)
          | (at_builtin; refine wpList_append_own _ rfl _ _ 89 rfl (w.heap.size + 1) 73 i0 _ 5 56 Try.underlying89 hi0 hz0 hz1 hz2 rfl (by decide) _ _ _ rfl hrw ⟨w2.heap.size, 0, none⟩ 1 1 [.int .i64 (e.x.conn : Nat), .int .u64 (e.turn : Nat), .int .i64 e.x.kind, .slice (some ⟨e.g, 0, none⟩) e.x.places.length e.x.places.length, .int .u64 (e.x.till : Nat)] rfl rfl (cell_five_new _ _ _ _ _ _ _) (by simp [Value.oneCell']) (by unfold maxLen; omega) (by omega) (Nat.le_trans hsz (by simp)) ?_; intro v3 w3 hown' hg3 hnil3; obtain ⟨q1, q2⟩ := unhide FIN w2 w3 v3 k2 hown' hg3; go_frame))
        all_goals go_roundw
        case rel => exact ⟨V ++ [e], _, cnt1, q1, q2⟩
        case measure => rw [q2.left_eq, unhide HRL]; exact hlt
end Go.Proofs.Ytfebiemfmiahhab
