/- WaitLent: lentHeld: behind the last round. -/
import Derived.Test.YtfebiemfmiahhabSe
namespace Go.Proofs.Ytfebiemfmiahhab
open Go.ChangeShapes Go.WideShapes Go.ChangeAt Go.RowKit Go.Maps
set_option linter.unusedVariables false
set_option linter.unusedSimpArgs false
set_option maxRecDepth 100000
set_option maxHeartbeats 8000000
/-- what is held when the last round is over: m lists of places and of the document's, twice as many of numbers -/
structure HcS (w0 W : World) (X : Nat → Nat) (ps p r T : Nat) (E : List En) (H Wd N Dd : List LV) (ha : Option Addr) (hc : Nat) (wa : Option Addr) (wc : Nat) (na : Option Addr) (nc : Nat) (da : Option Addr) (dc m : Nat) : Prop where
  ls : LS w0 W X ps p r T E ld0
  tt : T ≤ 2000
  h : RL W X 46 38 2 10 H ha m hc
  w : RL W X 46 38 2 11 Wd wa m wc
  n : RL W X 3 51 1 12 N na (2 * m) nc
  d : RL W X 3 51 1 13 Dd da (2 * m) dc
  hp : ∀ x ∈ H, ∃ l : List Pl, x.c = cP l ∧ x.n = l.length
  np : ∀ x ∈ N, ∃ l : List Nat, x.c = cI l ∧ x.n = l.length
  rp : H.map (·.c) = Wd.map (·.c)
  rn : N.map (·.c) = Dd.map (·.c)
  hl : H.length = m
  nl : N.length = 2 * m
def Hc (w0 W : World) (ps p r : Nat) (ha : Option Addr) (hc : Nat) (wa : Option Addr) (wc : Nat) (na : Option Addr) (nc : Nat) (da : Option Addr) (dc m : Nat) : Prop := ∃ X T E H Wd N Dd, HcS w0 W X ps p r T E H Wd N Dd ha hc wa wc na nc da dc m
section
variable {w0 W W' V : World} {X X' : Nat → Nat} {ps p r T : Nat} {E : List En} {D : LD} {H Wd N Dd : List LV} {ha wa na da : Option Addr} {hc wc nc dc m i : Nat} {C : HC} {e le : TypeId} {s k n cap : Nat} {L : List LV} {a : Option Addr} {G : List Nat}
theorem Hh.fin (h : Hh w0 W ps p r C i) (hi : i ≤ 2000) (hn : C.hn = m) (hl : C.H.length = m) (wn : C.wn = m) (nn : C.nn = 2 * m) (nl : C.N.length = 2 * m) (dn : C.dn = 2 * m) : Hc w0 W ps p r C.ha C.hc C.wa C.wc C.na C.nc C.da C.dc m := by
  obtain ⟨X, T, E, a, b, c, d1, d2⟩ := h
  exact ⟨X, T, E, C.H, C.Wd, C.N, C.Dd, a, Nat.le_trans c hi, hn ▸ b.h, wn ▸ b.w, nn ▸ b.n, dn ▸ b.d, b.hp, b.np, d1, d2, hl, nl⟩
theorem Hc.below (h : Hc w0 W ps p r ha hc wa wc na nc da dc m) (hb : Below W.heap.size W W') : Hc w0 W' ps p r ha hc wa wc na nc da dc m := by
  obtain ⟨X, T, E, H, Wd, N, Dd, a⟩ := h
  exact ⟨X, T, E, H, Wd, N, Dd, a.ls.below hb, a.tt, a.h.below hb, a.w.below hb, a.n.below hb, a.d.below hb, a.hp, a.np, a.rp, a.rn, a.hl, a.nl⟩
theorem RL.cell (h : RL W X e le s k L a n cap) {x : LV} (hx : L[i]? = some x) (hi : i < n) : ∃ g, a = some ⟨g, 0, none⟩ ∧ W.cell? ⟨g, i, none⟩ = some x.v ∧ X g = k ∧ g < W.heap.size ∧ (Value.slice a n cap).ownBlock = some g := by
  obtain ⟨g, cap', e1, e2, e3, e4⟩ := h.row.at (by omega)
  have h1 := h.col g e2
  have h2 := e4 i (by omega)
  rw [List.getD_eq_getElem?_getD, hx] at h2
  refine ⟨g, ?_, h2, h1, e3, e2⟩
  simp only [Value.slice.injEq] at e1
  exact e1.1
theorem len_of_map {A B : List LV} (h : A.map (·.c) = B.map (·.c)) : B.length = A.length := by
  have := congrArg List.length h
  simpa using this.symm
theorem at_of_map {A B : List LV} (h : A.map (·.c) = B.map (·.c)) {x : LV} (hx : A[i]? = some x) : ∃ y, B[i]? = some y ∧ y.c = x.c := by
  have h1 : (A.map (·.c))[i]? = (B.map (·.c))[i]? := by rw [h]
  rw [List.getElem?_map, List.getElem?_map, hx] at h1
  cases hb : B[i]? with
  | none => rw [hb] at h1; cases h1
  | some y =>
    rw [hb] at h1
    exact ⟨y, rfl, by injection h1 with h1; exact h1.symm⟩
theorem hc_places (h : Hc w0 W ps p r ha hc wa wc na nc da dc m) (hi : i < m) : ∃ gh gw a1 c1 a2 c2 n l, ha = some ⟨gh, 0, none⟩ ∧ wa = some ⟨gw, 0, none⟩ ∧ W.cell? ⟨gh, i, none⟩ = some (.slice a1 n c1) ∧ W.cell? ⟨gw, i, none⟩ = some (.slice a2 n c2) ∧ PlsAt W a1 l ∧ PlsAt W a2 l ∧ n = l.length ∧ n ≤ 64 := by
  obtain ⟨X, T, E, H, Wd, N, Dd, q⟩ := h
  obtain ⟨x, hx⟩ : ∃ x, H[i]? = some x := ⟨_, List.getElem?_eq_getElem (by rw [q.hl]; exact hi)⟩
  obtain ⟨y, hy, hyc⟩ := at_of_map q.rp hx
  obtain ⟨gh, k1, k2, -⟩ := q.h.cell hx hi
  obtain ⟨gw, k3, k4, -⟩ := q.w.cell hy hi
  obtain ⟨x1, x2, x3, g1, c1, x4, -⟩ := q.h.ent x (List.mem_of_getElem? hx)
  obtain ⟨y1, y2, y3, g2, c2, y4, -⟩ := q.w.ent y (List.mem_of_getElem? hy)
  obtain ⟨l, l1, l2⟩ := q.hp x (List.mem_of_getElem? hx)
  have hn : y.n = x.n := by
    rw [hyc, x2] at y2
    omega
  rw [x4] at k2 x1
  rw [y4] at k4 y1
  rw [hn] at k4 y1
  refine ⟨gh, gw, _, c1, _, c2, x.n, l, k1, k3, k2, k4, Rws.pls (cap := c1) ?_ l2, Rws.pls (cap := c2) ?_ l2, l2, x3⟩
  · rw [l1] at x1; exact x1
  · rw [hyc, l1] at y1; exact y1
theorem hc_ints (h : Hc w0 W ps p r ha hc wa wc na nc da dc m) (hi : i < 2 * m) : ∃ gh gw a1 c1 a2 c2 n l, na = some ⟨gh, 0, none⟩ ∧ da = some ⟨gw, 0, none⟩ ∧ W.cell? ⟨gh, i, none⟩ = some (.slice a1 n c1) ∧ W.cell? ⟨gw, i, none⟩ = some (.slice a2 n c2) ∧ IsI W a1 l ∧ IsI W a2 l ∧ n = l.length ∧ n ≤ 64 := by
  obtain ⟨X, T, E, H, Wd, N, Dd, q⟩ := h
  obtain ⟨x, hx⟩ : ∃ x, N[i]? = some x := ⟨_, List.getElem?_eq_getElem (by rw [q.nl]; exact hi)⟩
  obtain ⟨y, hy, hyc⟩ := at_of_map q.rn hx
  obtain ⟨gh, k1, k2, -⟩ := q.n.cell hx hi
  obtain ⟨gw, k3, k4, -⟩ := q.d.cell hy hi
  obtain ⟨x1, x2, x3, g1, c1, x4, -⟩ := q.n.ent x (List.mem_of_getElem? hx)
  obtain ⟨y1, y2, y3, g2, c2, y4, -⟩ := q.d.ent y (List.mem_of_getElem? hy)
  obtain ⟨l, l1, l2⟩ := q.np x (List.mem_of_getElem? hx)
  have hn : y.n = x.n := by
    rw [hyc, x2] at y2
    omega
  rw [x4] at k2 x1
  rw [y4] at k4 y1
  rw [hn] at k4 y1
  refine ⟨gh, gw, _, c1, _, c2, x.n, l, k1, k3, k2, k4, Rws.isI (cap := c1) ?_ l2, Rws.isI (cap := c2) ?_ l2, l2, x3⟩
  · rw [l1] at x1; exact x1
  · rw [hyc, l1] at y1; exact y1
/-- colours from 9 on may turn -/
theorem LS.recol (h : LS w0 W X ps p r T E D) (hX : ∀ b, X' b = X b ∨ (9 ≤ X b ∧ 9 ≤ X' b)) : LS w0 W X' ps p r T E D := by
  have hk : ∀ {b c : Nat}, X b = c → c < 9 → X' b = c := fun {b c} h1 h2 => by rcases hX b with z | z <;> omega
  obtain ⟨P, Q, s, hs⟩ := h.sd
  exact ⟨h.bel, fun b hb => h.lt b (by rcases hX b with z | z <;> omega), ⟨P, Q, s, fun b z => hk (hs b z) (by omega)⟩, hk h.xs (by omega), h.ka, fun x hx g hg => hk (h.xa x hx g hg) (by omega), h.kb, fun x hx g hg => hk (h.xb x hx g hg) (by omega), h.ra, fun g hg => hk (h.xra g hg) (by omega), h.rm, fun g hg => hk (h.xrm g hg) (by omega), h.rb, fun g hg => hk (h.xrb g hg) (by omega), h.rn, fun g hg => hk (h.xrn g hg) (by omega), h.la, h.lb⟩
/-- lists that are to be written over: their blocks, from b0 on among gs; the row that holds them is among gs from z on -/
structure HV (V : World) (e s : Nat) (L : List LV) (gs : List Nat) (b0 : Nat) (a : Option Addr) (n z : Nat) : Prop where
  len : L.length = n
  at_ : ∀ i x, L[i]? = some x → ∃ gr g c f, a = some ⟨gr, 0, none⟩ ∧ V.cell? ⟨gr, i, none⟩ = some x.v ∧ gr ∈ gs.drop z ∧ x.v = .slice (some ⟨g, 0, none⟩) x.n c ∧ x.n ≤ 64 ∧ gs[b0 + i]? = some g ∧ Rws V e s x.v x.n f
def blkOf (x : LV) : Nat := x.v.ownBlock.getD 0
def ownL (v : Value) : List Nat := v.ownBlock.toList
theorem RL.nd (h : RL W X e le s k L a n cap) : (L.map blkOf).Nodup := by
  unfold List.Nodup
  rw [List.pairwise_map]
  refine List.Pairwise.imp_of_mem ?_ h.apart
  intro x y hx hy hne e
  obtain ⟨-, -, -, g1, c1, x4, -⟩ := h.ent x hx
  obtain ⟨-, -, -, g2, c2, y4, -⟩ := h.ent y hy
  rw [x4, y4] at hne
  unfold blkOf at e
  rw [x4, y4] at e
  have e2 : g1 = g2 := e
  exact hne (by rw [e2]; rfl)
theorem RL.ty (h : RL W X e le s k L a n cap) : ∀ b ∈ L.map blkOf, b < W.heap.size ∧ X b = 9 ∧ ∃ c, W.heap[b]? = some (.cells c e (0, 0)) := fun b hb => by
  obtain ⟨x, hx, rfl⟩ := List.mem_map.1 hb
  obtain ⟨q1, -, -, g1, c1, x4, x5⟩ := h.ent x hx
  have hg : x.v.ownBlock = some g1 := by rw [x4]; rfl
  have hb : blkOf x = g1 := by unfold blkOf; rw [hg]; rfl
  rw [hb]
  exact ⟨q1.lt g1 hg, x5, q1.type g1 hg⟩
theorem RL.tyr (h : RL W X e le s k L a n cap) : ∀ b ∈ ownL (.slice a n cap), b < W.heap.size ∧ X b = k ∧ ∃ c, W.heap[b]? = some (.cells c le (0, 0)) := fun b hb => by
  unfold ownL at hb
  rw [Option.mem_toList] at hb
  exact ⟨h.row.lt b hb, h.col b hb, h.row.type b hb⟩
theorem ownL_nd (v : Value) : (ownL v).Nodup := by
  unfold ownL
  cases v.ownBlock <;> simp
theorem nodup_app {A B : List Nat} (ha : A.Nodup) (hb : B.Nodup) (hd : ∀ x ∈ A, ∀ y ∈ B, x ≠ y) : (A ++ B).Nodup := List.nodup_append.2 ⟨ha, hb, hd⟩
theorem ty_ne {A B : List Nat} {e1 e2 : TypeId} (he : e1 ≠ e2) (h1 : ∀ b ∈ A, ∃ c, V.heap[b]? = some (.cells c e1 (0, 0))) (h2 : ∀ b ∈ B, ∃ c, V.heap[b]? = some (.cells c e2 (0, 0))) : ∀ x ∈ A, ∀ y ∈ B, x ≠ y := fun x hx y hy e => by
  obtain ⟨c1, k1⟩ := h1 x hx
  obtain ⟨c2, k2⟩ := h2 y hy
  rw [e, k2] at k1
  simp only [Option.some.injEq, Obj.cells.injEq] at k1
  exact he k1.2.1.symm
/-- the lists wait for their marks -/
theorem hc_pk (h : Hc w0 V ps p r ha hc wa wc na nc da dc m) : ∃ (H N : List LV) (gs : List Nat), gs.Nodup ∧ Pk w0 V V ps p r ld0 2000 gs ∧ HV V 46 2 H gs 0 ha m (3 * m) ∧ HV V 3 1 N gs m na (2 * m) (3 * m) := by
  obtain ⟨X, T, E, H, Wd, N, Dd, q⟩ := h
  have tH := q.h.ty
  have tN := q.n.ty
  have rH := q.h.tyr
  have rN := q.n.tyr
  have lH : (H.map blkOf).length = m := by rw [List.length_map, q.hl]
  have lN : (N.map blkOf).length = 2 * m := by rw [List.length_map, q.nl]
  have dr : ((H.map blkOf ++ N.map blkOf) ++ (ownL (.slice ha m hc) ++ ownL (.slice na (2 * m) nc))).drop (3 * m) = ownL (.slice ha m hc) ++ ownL (.slice na (2 * m) nc) := by
    rw [show 3 * m = (H.map blkOf ++ N.map blkOf).length by rw [List.length_append, lH, lN]; omega, List.drop_left]
  have T1 : ∀ b ∈ H.map blkOf, ∃ c, V.heap[b]? = some (.cells c 46 (0, 0)) := fun b hb => (tH b hb).2.2
  have T2 : ∀ b ∈ N.map blkOf, ∃ c, V.heap[b]? = some (.cells c 3 (0, 0)) := fun b hb => (tN b hb).2.2
  have T3 : ∀ b ∈ ownL (.slice ha m hc), ∃ c, V.heap[b]? = some (.cells c 38 (0, 0)) := fun b hb => (rH b hb).2.2
  have T4 : ∀ b ∈ ownL (.slice na (2 * m) nc), ∃ c, V.heap[b]? = some (.cells c 51 (0, 0)) := fun b hb => (rN b hb).2.2
  refine ⟨H, N, (H.map blkOf ++ N.map blkOf) ++ (ownL (.slice ha m hc) ++ ownL (.slice na (2 * m) nc)), ?_, ?_, ⟨q.hl, fun i x hx => ?_⟩, ⟨q.nl, fun i x hx => ?_⟩⟩
  · refine nodup_app (nodup_app q.h.nd q.n.nd (ty_ne (by decide) T1 T2)) (nodup_app (ownL_nd _) (ownL_nd _) (ty_ne (by decide) T3 T4)) (fun x hx y hy => ?_)
    rcases List.mem_append.1 hx with hx | hx <;> rcases List.mem_append.1 hy with hy | hy
    · exact ty_ne (by decide) T1 T3 x hx y hy
    · exact ty_ne (by decide) T1 T4 x hx y hy
    · exact ty_ne (by decide) T2 T3 x hx y hy
    · exact ty_ne (by decide) T2 T4 x hx y hy
  · refine ⟨fun b => if 9 ≤ X b then 9 else X b, T, E, q.ls.recol (fun b => ?_), q.tt, fun b hb => ?_⟩
    · by_cases z : 9 ≤ X b
      · right; simp only [if_pos z]; exact ⟨z, Nat.le_refl _⟩
      · left; simp only [if_neg z]
    · have hh : b < V.heap.size ∧ 9 ≤ X b := by
        rcases List.mem_append.1 hb with hb | hb <;> rcases List.mem_append.1 hb with hb | hb
        · have := tH b hb; exact ⟨this.1, by omega⟩
        · have := tN b hb; exact ⟨this.1, by omega⟩
        · have := rH b hb; exact ⟨this.1, by omega⟩
        · have := rN b hb; exact ⟨this.1, by omega⟩
      exact ⟨hh.1, by simp only [if_pos hh.2], rfl⟩
  · have hi : i < m := by have := (List.getElem?_eq_some_iff.1 hx).1; rw [q.hl] at this; exact this
    obtain ⟨gr, k1, k2, k3, k4, k5⟩ := q.h.cell hx hi
    obtain ⟨x1, x2, x3, g1, c1, x4, -⟩ := q.h.ent x (List.mem_of_getElem? hx)
    refine ⟨gr, g1, c1, _, k1, k2, ?_, x4, x3, ?_, x1⟩
    · rw [dr]
      exact List.mem_append_left _ (by unfold ownL; rw [Option.mem_toList]; exact k5)
    · rw [Nat.zero_add, List.getElem?_append_left (by rw [List.length_append, lH]; omega), List.getElem?_append_left (by rw [lH]; exact hi), List.getElem?_map, hx]
      show some (blkOf x) = some g1
      unfold blkOf
      rw [x4]; rfl
  · have hi : i < 2 * m := by have := (List.getElem?_eq_some_iff.1 hx).1; rw [q.nl] at this; exact this
    obtain ⟨gr, k1, k2, k3, k4, k5⟩ := q.n.cell hx hi
    obtain ⟨x1, x2, x3, g1, c1, x4, -⟩ := q.n.ent x (List.mem_of_getElem? hx)
    refine ⟨gr, g1, c1, _, k1, k2, ?_, x4, x3, ?_, x1⟩
    · rw [dr]
      exact List.mem_append_right _ (by unfold ownL; rw [Option.mem_toList]; exact k5)
    · rw [List.getElem?_append_left (by rw [List.length_append, lH, lN]; omega), List.getElem?_append_right (by rw [lH]; omega), lH, show m + i - m = i by omega, List.getElem?_map, hx]
      show some (blkOf x) = some g1
      unfold blkOf
      rw [x4]; rfl
/-- the next of the blocks that wait -/
theorem drop_next {gs : List Nat} {k g : Nat} (h : gs[k]? = some g) : gs.drop k = g :: gs.drop (k + 1) := by
  have hl := (List.getElem?_eq_some_iff.1 h).1
  rw [List.drop_eq_getElem_cons hl]
  congr 1
  rw [List.getElem?_eq_getElem hl] at h
  injection h
theorem drop_ne {gs : List Nat} {k g : Nat} (hn : gs.Nodup) (h : gs[k]? = some g) : ∀ b ∈ gs.drop (k + 1), b ≠ g := fun b hb e => by
  have h1 := hn.sublist (List.drop_sublist k gs)
  rw [drop_next h] at h1
  exact (List.nodup_cons.1 h1).1 (e ▸ hb)
theorem mem_drop_le {gs : List Nat} {k z g : Nat} (h : g ∈ gs.drop z) (hk : k ≤ z) : g ∈ gs.drop k := by
  have : gs.drop z = (gs.drop k).drop (z - k) := by rw [List.drop_drop]; congr 1; omega
  rw [this] at h
  exact List.mem_of_mem_drop h
/-- a cell of a block that waits -/
theorem Pk.cell (h : Pk w0 V W ps p r D i G) {g j : Nat} {v : Value} (hg : g ∈ G) (hv : V.cell? ⟨g, j, none⟩ = some v) : W.cell? ⟨g, j, none⟩ = some v := by
  obtain ⟨X, T, E, a, b, c⟩ := h
  rw [← hv]
  unfold World.cell?
  rw [(c g hg).2.2]
theorem mark_one {C : List (List Value)} {c1 : List Value} {s : Nat} {w : World} {e : TypeId} {v : Value} {n : Nat} (hC : ∀ c ∈ C, c.length = s) (h1 : c1.length = s) (hn : n = C.length) (h : Rws w e s v (n + 1) (fun k => if k < n * s then C.flatten.getD k undef else c1.getD (k - n * s) undef)) : Rws w e s v (n + 1) (fun k => (C ++ [c1]).flatten.getD k undef) :=
  h.congr fun j hj => by
    subst hn
    have hl := flat_len hC
    rw [List.flatten_append]
    by_cases z : j < C.length * s
    · simp only [if_pos z]
      rw [List.getD_eq_getElem?_getD, List.getD_eq_getElem?_getD, List.getElem?_append_left (by omega)]
    · simp only [if_neg z]
      rw [List.getD_eq_getElem?_getD, List.getD_eq_getElem?_getD, show (C.flatten ++ [c1].flatten)[j]? = [c1].flatten[j - C.flatten.length]? from List.getElem?_append_right (by omega), hl]
      simp
/-- lists have changed, their order too, but not what the row holds -/
theorem LS.ka2r (h : LS w0 W X ps p r T E D) {L : List Ent} {A' : List Ent} (hf : Fl L W W') (hL : ∀ x ∈ L, ∀ g, x.v.ownBlock = some g → X g = 2) (k' : KL W' 46 2 w0.heap.size A') (hx : ∀ x ∈ A', ∀ g, x.v.ownBlock = some g → X g = 2 ∨ W.heap.size ≤ g) (hp : D.na ≤ A'.length ∧ ∀ j, j < D.na → A'.getD j ent0 = D.A.getD j ent0) : LS w0 W' (upc X W W' 2) ps p r T E { D with A := A' } := by
  have hc : Ch X 2 W W' := ⟨hf.os, hf.tape, hf.output, hf.size, fun b hb hn => hf.block b hb (fun x hx' e => hn (hL x hx' b e))⟩
  obtain ⟨s1, s2⟩ := h.sdk hc (by omega) (by omega)
  obtain ⟨b1, b2⟩ := h.kbk hc (by omega)
  obtain ⟨c1, c2⟩ := row_keep h hc (c := 4) (by omega) (by omega) h.ra h.xra
  obtain ⟨d1, d2⟩ := row_keep h hc (c := 5) (by omega) (by omega) h.rm h.xrm
  obtain ⟨e1, e2⟩ := row_keep h hc (c := 6) (by omega) (by omega) h.rb h.xrb
  obtain ⟨f1, f2⟩ := row_keep h hc (c := 7) (by omega) (by omega) h.rn h.xrn
  have hq : ∀ x ∈ A', ∀ g, x.v.ownBlock = some g → upc X W W' 2 g = 2 := fun x hx' g hg => by
    rcases hx x hx' g hg with q | q
    · exact h.col q (by omega)
    · exact upc_new q (k'.lt hx' g hg)
  have hr : Rws W' 38 1 (.slice D.aa D.na D.ac) D.na (fun k => (A'.getD k ent0).v) := c1.congr fun j hj => by
    show (D.A.getD j ent0).v = (A'.getD j ent0).v
    rw [hp.2 j (by omega)]
  exact ⟨hc.bel h (by omega), h.upl hc.size, s1, s2, k', hq, b1, b2, hr, c2, d1, d2, e1, e2, f1, f2, hp.1, h.lb⟩
theorem pk_fillP {f : Nat → Value} {g n cap : Nat} (h : Pk w0 V W ps p r D i (g :: G)) (hr : Rws V 46 2 (.slice (some ⟨g, 0, none⟩) n cap) n f) (hG : ∀ b ∈ G, b ≠ g) (hn : n ≤ 100000) (m : Pl) :
    Calls Try.prog 25 #[.slice (some ⟨g, 0, none⟩) n cap, .agg #[.int .i64 m.1, .string (bs m.2)]] W fun e w' => e = .returned (.tuple #[]) ∧ Hid (Pk w0 V w' ps p r { D with A := D.A ++ [⟨.slice (some ⟨g, 0, none⟩) n cap, n, [.int .i64 m.1, .string (bs m.2)]⟩] } i G) := by
  obtain ⟨X, T, E, a, b, c⟩ := h
  obtain ⟨c1, c2, c3⟩ := c g (List.mem_cons_self ..)
  have hl := a.lt g (by omega)
  have h2 := a.paint (k := 2) (.inr (by omega)) hl
  have hrw : Rws W 46 2 (.slice (some ⟨g, 0, none⟩) n cap) n f := hr.same fun q hq => by cases hq; exact c3
  have hv : ∀ b, (Value.slice (some ⟨g, 0, none⟩) n cap).ownBlock = some b → pnt X g 2 b = 2 := fun b hb => by cases hb; exact pnt_self
  refine (fill_any W _ n cap m f hrw (by omega)).mono ?_
  rintro e w' ⟨rfl, H⟩
  obtain ⟨k1, k2⟩ := unhide H
  have hnb := (a.newblk (g := g) (.inr (by omega))).1
  have kj := h2.ka.join (v := .slice (some ⟨g, 0, none⟩) n cap) (n := n) (c := [.int .i64 m.1, .string (bs m.2)]) rfl (fun b hb => by cases hb; exact ⟨hl.2, hnb⟩) k2 k1
  have hL : ∀ x ∈ [(⟨.slice (some ⟨g, 0, none⟩) n cap, n, [.int .i64 m.1, .string (bs m.2)]⟩ : Ent)], ∀ b, x.v.ownBlock = some b → pnt X g 2 b = 2 := fun x hx b hb => by
    rw [List.mem_singleton.1 hx] at hb; exact hv b hb
  have hc : Ch (pnt X g 2) 2 W w' := ⟨k2.os, k2.tape, k2.output, k2.size, fun b hb hn => k2.block b hb (fun x hx' e => hn (hL x hx' b e))⟩
  refine ⟨rfl, hide ⟨_, T, E, h2.ka2 k2 hL kj (fun x hx b hb => ?_) ⟨_, rfl⟩, b, pend_all hc (by omega) fun q hq => ?_⟩⟩
  · rcases List.mem_append.1 hx with q | q
    · exact .inl (h2.xa x q b hb)
    · exact .inl (hL x q b hb)
  · obtain ⟨q1, q2, q3⟩ := c q (List.mem_cons_of_mem _ hq)
    exact ⟨q1, by rw [pnt_else (hG q hq)]; exact q2, q3⟩
theorem pk_beyondP {R Q : List Ent} {a : Option Addr} {n cap : Nat} {m : Pl} (h : Pk w0 V W ps p r D i G) (hA : D.A = R ++ Q) (hna : D.na = R.length) (hx : (⟨.slice a n cap, n, [.int .i64 m.1, .string (bs m.2)]⟩ : Ent) ∈ Q) (hn : n ≤ 100000) :
    Calls Try.prog 27 #[.slice a n cap, .agg #[.int .i64 m.1, .string (bs m.2)]] W fun e w' => ∃ g' M, e = .returned (.slice (some ⟨g', 0, none⟩) 5 5) ∧ Hid (Five M [.int .i64 m.1, .string (bs m.2)] n ∧ Pk w0 V w' ps p r { D with A := R ++ M ++ Q } i G ∧ ∀ j x, (M.map (·.v))[j]? = some x → w'.cell? ⟨g', j, none⟩ = some x) := by
  obtain ⟨X, T, E, l, b, c⟩ := h
  have hxA : (⟨.slice a n cap, n, [.int .i64 m.1, .string (bs m.2)]⟩ : Ent) ∈ D.A := by rw [hA]; exact List.mem_append_right _ hx
  refine (beyond_any W w0.heap.size D.A a n cap m l.bel.size l.ka hxA hn).mono ?_
  rintro e w' ⟨g', rfl, H⟩
  obtain ⟨x2, x3, x4, x5, k1, k2, k3, k4, k5, k6⟩ := unhide H
  have hmem : ∀ x ∈ R ++ [⟨.slice a n cap, n, [.int .i64 m.1, .string (bs m.2)]⟩, x2, x3, x4, x5] ++ Q, x ∈ D.A ++ [x2, x3, x4, x5] := fun x hx' => by
    rcases List.mem_append.1 hx' with q | q
    · rcases List.mem_append.1 q with q | q
      · exact List.mem_append_left _ (by rw [hA]; exact List.mem_append_left _ q)
      · rcases List.mem_cons.1 q with rfl | q
        · exact List.mem_append_left _ hxA
        · exact List.mem_append_right _ q
    · exact List.mem_append_left _ (by rw [hA]; exact List.mem_append_right _ q)
  have hc : Ch X 2 W w' := ⟨k4.os, k4.tape, k4.output, k4.size, fun b hb hn => k4.block b hb (fun x hx' e => hn (l.xa x hx' b e))⟩
  refine ⟨g', [⟨.slice a n cap, n, [.int .i64 m.1, .string (bs m.2)]⟩, x2, x3, x4, x5], rfl, hide ⟨⟨rfl, fun y hy => ?_⟩, ⟨_, T, E, l.ka2r k4 l.xa (k3.sub hmem) (fun x hx' g hg => ?_) ⟨?_, fun j hj => ?_⟩, b, pend_all hc (by omega) c⟩, fun j x hj => ?_⟩⟩
  · rcases List.mem_cons.1 hy with rfl | q
    · exact ⟨rfl, Nat.le_add_right _ _, _, _, rfl⟩
    · obtain ⟨q1, q2, -, q4, -⟩ := k5 y q
      exact ⟨q1, q2, q4⟩
  · rcases List.mem_append.1 (hmem x hx') with q | q
    · exact .inl (l.xa x q g hg)
    · obtain ⟨-, -, -, -, q5⟩ := k5 x q
      rcases q5 g hg with z | ⟨y, y1, y2⟩
      · exact .inr z
      · exact .inl (l.xa y y1 g y2)
  · rw [hna, List.append_assoc, List.length_append]; omega
  · rw [hA, List.append_assoc, List.getD_eq_getElem?_getD, List.getD_eq_getElem?_getD, List.getElem?_append_left (by omega), List.getElem?_append_left (by omega)]
  · rw [cell_of_row _ _ _ _ _ _ k1, List.getElem?_toArray]
    exact hj
theorem pk_rowP {R M Q : List Ent} {c : List Value} {n : Nat} (h : Pk w0 V W ps p r { D with A := R ++ M ++ Q } i G) (hn : D.na = R.length) (hm : Five M c n) :
    Rws W 38 1 (.slice D.aa D.na D.ac) D.na (fun k => ((R ++ M ++ Q).getD k ent0).v) ∧ ∀ v W', Rws W' 38 1 v (D.na + 5) (fun k => if k < D.na * 1 then ((R ++ M ++ Q).getD k ent0).v else (M.map (·.v)).getD (k - D.na * 1) undef) → Gr 38 (D.na * 1) (M.map (·.v)).length W W' (.slice D.aa D.na D.ac) v → ∃ a' c', v = .slice a' (D.na + 5) c' ∧ Pk w0 V W' ps p r { D with A := R ++ M ++ Q, aa := a', na := D.na + 5, ac := c' } i G := by
  obtain ⟨X, T, E, a, b, c'⟩ := h
  refine ⟨a.ra, fun v W' hr hg => ?_⟩
  rw [List.length_map, hm.1] at hg
  obtain ⟨a', c2, rfl⟩ := hr.shape
  have hr2 : Rws W' 38 1 (.slice a' (D.na + 5) c2) (D.na + 5) (fun k => ((R ++ M ++ Q).getD k ent0).v) := hr.congr fun j hj => by
    by_cases z : j < D.na * 1
    · simp only [if_pos z]
    · simp only [if_neg z]
      have h5 := hm.1
      rw [List.getD_eq_getElem?_getD, List.getD_eq_getElem?_getD, List.append_assoc, List.getElem?_append_right (by omega), List.getElem?_append_left (by omega), List.getElem?_map, show j - R.length = j - D.na * 1 by omega, List.getElem?_eq_getElem (by omega)]
      rfl
  exact ⟨a', c2, rfl, _, T, E, LS.ra4 (D := { D with A := R ++ M ++ Q }) a (q := 5) (by show D.na + 5 ≤ (R ++ M ++ Q).length; have := hm.1; rw [List.length_append, List.length_append]; omega) hg hr2, b, pend_all (gr_ch hg a.xra) (by omega) c'⟩
theorem pk_oneP (h : Pk w0 V W ps p r D i G) (hC : ∀ c ∈ D.CA, c.length = 2) (hn : D.mn = D.CA.length) (m : Pl) :
    Rws W 46 2 (.slice D.ma D.mn D.mc) D.mn (fun k => D.CA.flatten.getD k undef) ∧ ∀ v W', Rws W' 46 2 v (D.mn + 1) (fun k => if k < D.mn * 2 then D.CA.flatten.getD k undef else ([.int .i64 m.1, .string (bs m.2)] : List Value).getD (k - D.mn * 2) undef) → Gr 46 (D.mn * 2) 2 W W' (.slice D.ma D.mn D.mc) v → ∃ a' c', v = .slice a' (D.mn + 1) c' ∧ Pk w0 V W' ps p r { D with ma := a', mn := D.mn + 1, mc := c', CA := D.CA ++ [[.int .i64 m.1, .string (bs m.2)]] } i G := by
  obtain ⟨X, T, E, a, b, c'⟩ := h
  refine ⟨a.rm, fun v W' hr hg => ?_⟩
  obtain ⟨a', c2, rfl⟩ := hr.shape
  exact ⟨a', c2, rfl, _, T, E, a.rm5 hg (mark_one hC rfl hn hr), b, pend_all (gr_ch hg a.xrm) (by omega) c'⟩
/-- lists have changed, their order too, but not what the row holds -/
theorem LS.kb3r (h : LS w0 W X ps p r T E D) {L : List Ent} {A' : List Ent} (hf : Fl L W W') (hL : ∀ x ∈ L, ∀ g, x.v.ownBlock = some g → X g = 3) (k' : KL W' 3 1 w0.heap.size A') (hx : ∀ x ∈ A', ∀ g, x.v.ownBlock = some g → X g = 3 ∨ W.heap.size ≤ g) (hp : D.nb ≤ A'.length ∧ ∀ j, j < D.nb → A'.getD j ent0 = D.B.getD j ent0) : LS w0 W' (upc X W W' 3) ps p r T E { D with B := A' } := by
  have hc : Ch X 3 W W' := ⟨hf.os, hf.tape, hf.output, hf.size, fun b hb hn => hf.block b hb (fun x hx' e => hn (hL x hx' b e))⟩
  obtain ⟨s1, s2⟩ := h.sdk hc (by omega) (by omega)
  obtain ⟨a1, a2⟩ := h.kak hc (by omega)
  obtain ⟨c1, c2⟩ := row_keep h hc (c := 4) (by omega) (by omega) h.ra h.xra
  obtain ⟨d1, d2⟩ := row_keep h hc (c := 5) (by omega) (by omega) h.rm h.xrm
  obtain ⟨e1, e2⟩ := row_keep h hc (c := 6) (by omega) (by omega) h.rb h.xrb
  obtain ⟨f1, f2⟩ := row_keep h hc (c := 7) (by omega) (by omega) h.rn h.xrn
  have hq : ∀ x ∈ A', ∀ g, x.v.ownBlock = some g → upc X W W' 3 g = 3 := fun x hx' g hg => by
    rcases hx x hx' g hg with q | q
    · exact h.col q (by omega)
    · exact upc_new q (k'.lt hx' g hg)
  have hr : Rws W' 51 1 (.slice D.ba D.nb D.bc) D.nb (fun k => (A'.getD k ent0).v) := e1.congr fun j hj => by
    show (D.B.getD j ent0).v = (A'.getD j ent0).v
    rw [hp.2 j (by omega)]
  exact ⟨hc.bel h (by omega), h.upl hc.size, s1, s2, a1, a2, k', hq, c1, c2, d1, d2, hr, e2, f1, f2, h.la, hp.1⟩
theorem pk_fillN {f : Nat → Value} {g n cap : Nat} (h : Pk w0 V W ps p r D i (g :: G)) (hr : Rws V 3 1 (.slice (some ⟨g, 0, none⟩) n cap) n f) (hG : ∀ b ∈ G, b ≠ g) (hn : n ≤ 100000) (m : Int) :
    Calls Try.prog 26 #[.slice (some ⟨g, 0, none⟩) n cap, .int .i64 m] W fun e w' => e = .returned (.tuple #[]) ∧ Hid (Pk w0 V w' ps p r { D with B := D.B ++ [⟨.slice (some ⟨g, 0, none⟩) n cap, n, [.int .i64 m]⟩] } i G) := by
  obtain ⟨X, T, E, a, b, c⟩ := h
  obtain ⟨c1, c2, c3⟩ := c g (List.mem_cons_self ..)
  have hl := a.lt g (by omega)
  have h2 := a.paint (k := 3) (.inr (by omega)) hl
  have hrw : Rws W 3 1 (.slice (some ⟨g, 0, none⟩) n cap) n f := hr.same fun q hq => by cases hq; exact c3
  have hv : ∀ b, (Value.slice (some ⟨g, 0, none⟩) n cap).ownBlock = some b → pnt X g 3 b = 3 := fun b hb => by cases hb; exact pnt_self
  refine (fillInts_any W _ n cap m f hrw (by omega)).mono ?_
  rintro e w' ⟨rfl, H⟩
  obtain ⟨k1, k2⟩ := unhide H
  have hnb := (a.newblk (g := g) (.inr (by omega))).2
  have kj := h2.kb.join (v := .slice (some ⟨g, 0, none⟩) n cap) (n := n) (c := [.int .i64 m]) rfl (fun b hb => by cases hb; exact ⟨hl.2, hnb⟩) k2 k1
  have hL : ∀ x ∈ [(⟨.slice (some ⟨g, 0, none⟩) n cap, n, [.int .i64 m]⟩ : Ent)], ∀ b, x.v.ownBlock = some b → pnt X g 3 b = 3 := fun x hx b hb => by
    rw [List.mem_singleton.1 hx] at hb; exact hv b hb
  have hc : Ch (pnt X g 3) 3 W w' := ⟨k2.os, k2.tape, k2.output, k2.size, fun b hb hn => k2.block b hb (fun x hx' e => hn (hL x hx' b e))⟩
  refine ⟨rfl, hide ⟨_, T, E, h2.kb3 k2 hL kj (fun x hx b hb => ?_) ⟨_, rfl⟩, b, pend_all hc (by omega) fun q hq => ?_⟩⟩
  · rcases List.mem_append.1 hx with q | q
    · exact .inl (h2.xb x q b hb)
    · exact .inl (hL x q b hb)
  · obtain ⟨q1, q2, q3⟩ := c q (List.mem_cons_of_mem _ hq)
    exact ⟨q1, by rw [pnt_else (hG q hq)]; exact q2, q3⟩
theorem pk_beyondN {R Q : List Ent} {a : Option Addr} {n cap : Nat} {m : Int} (h : Pk w0 V W ps p r D i G) (hA : D.B = R ++ Q) (hna : D.nb = R.length) (hx : (⟨.slice a n cap, n, [.int .i64 m]⟩ : Ent) ∈ Q) (hn : n ≤ 100000) :
    Calls Try.prog 28 #[.slice a n cap, .int .i64 m] W fun e w' => ∃ g' M, e = .returned (.slice (some ⟨g', 0, none⟩) 5 5) ∧ Hid (Five M [.int .i64 m] n ∧ Pk w0 V w' ps p r { D with B := R ++ M ++ Q } i G ∧ ∀ j x, (M.map (·.v))[j]? = some x → w'.cell? ⟨g', j, none⟩ = some x) := by
  obtain ⟨X, T, E, l, b, c⟩ := h
  have hxA : (⟨.slice a n cap, n, [.int .i64 m]⟩ : Ent) ∈ D.B := by rw [hA]; exact List.mem_append_right _ hx
  refine (beyondInts_any W w0.heap.size D.B a n cap m l.bel.size l.kb hxA hn).mono ?_
  rintro e w' ⟨g', rfl, H⟩
  obtain ⟨x2, x3, x4, x5, k1, k2, k3, k4, k5, k6⟩ := unhide H
  have hmem : ∀ x ∈ R ++ [⟨.slice a n cap, n, [.int .i64 m]⟩, x2, x3, x4, x5] ++ Q, x ∈ D.B ++ [x2, x3, x4, x5] := fun x hx' => by
    rcases List.mem_append.1 hx' with q | q
    · rcases List.mem_append.1 q with q | q
      · exact List.mem_append_left _ (by rw [hA]; exact List.mem_append_left _ q)
      · rcases List.mem_cons.1 q with rfl | q
        · exact List.mem_append_left _ hxA
        · exact List.mem_append_right _ q
    · exact List.mem_append_left _ (by rw [hA]; exact List.mem_append_right _ q)
  have hc : Ch X 3 W w' := ⟨k4.os, k4.tape, k4.output, k4.size, fun b hb hn => k4.block b hb (fun x hx' e => hn (l.xb x hx' b e))⟩
  refine ⟨g', [⟨.slice a n cap, n, [.int .i64 m]⟩, x2, x3, x4, x5], rfl, hide ⟨⟨rfl, fun y hy => ?_⟩, ⟨_, T, E, l.kb3r k4 l.xb (k3.sub hmem) (fun x hx' g hg => ?_) ⟨?_, fun j hj => ?_⟩, b, pend_all hc (by omega) c⟩, fun j x hj => ?_⟩⟩
  · rcases List.mem_cons.1 hy with rfl | q
    · exact ⟨rfl, Nat.le_add_right _ _, _, _, rfl⟩
    · obtain ⟨q1, q2, -, q4, -⟩ := k5 y q
      exact ⟨q1, q2, q4⟩
  · rcases List.mem_append.1 (hmem x hx') with q | q
    · exact .inl (l.xb x q g hg)
    · obtain ⟨-, -, -, -, q5⟩ := k5 x q
      rcases q5 g hg with z | ⟨y, y1, y2⟩
      · exact .inr z
      · exact .inl (l.xb y y1 g y2)
  · rw [hna, List.append_assoc, List.length_append]; omega
  · rw [hA, List.append_assoc, List.getD_eq_getElem?_getD, List.getD_eq_getElem?_getD, List.getElem?_append_left (by omega), List.getElem?_append_left (by omega)]
  · rw [cell_of_row _ _ _ _ _ _ k1, List.getElem?_toArray]
    exact hj
theorem pk_rowN {R M Q : List Ent} {c : List Value} {n : Nat} (h : Pk w0 V W ps p r { D with B := R ++ M ++ Q } i G) (hn : D.nb = R.length) (hm : Five M c n) :
    Rws W 51 1 (.slice D.ba D.nb D.bc) D.nb (fun k => ((R ++ M ++ Q).getD k ent0).v) ∧ ∀ v W', Rws W' 51 1 v (D.nb + 5) (fun k => if k < D.nb * 1 then ((R ++ M ++ Q).getD k ent0).v else (M.map (·.v)).getD (k - D.nb * 1) undef) → Gr 51 (D.nb * 1) (M.map (·.v)).length W W' (.slice D.ba D.nb D.bc) v → ∃ a' c', v = .slice a' (D.nb + 5) c' ∧ Pk w0 V W' ps p r { D with B := R ++ M ++ Q, ba := a', nb := D.nb + 5, bc := c' } i G := by
  obtain ⟨X, T, E, a, b, c'⟩ := h
  refine ⟨a.rb, fun v W' hr hg => ?_⟩
  rw [List.length_map, hm.1] at hg
  obtain ⟨a', c2, rfl⟩ := hr.shape
  have hr2 : Rws W' 51 1 (.slice a' (D.nb + 5) c2) (D.nb + 5) (fun k => ((R ++ M ++ Q).getD k ent0).v) := hr.congr fun j hj => by
    by_cases z : j < D.nb * 1
    · simp only [if_pos z]
    · simp only [if_neg z]
      have h5 := hm.1
      rw [List.getD_eq_getElem?_getD, List.getD_eq_getElem?_getD, List.append_assoc, List.getElem?_append_right (by omega), List.getElem?_append_left (by omega), List.getElem?_map, show j - R.length = j - D.nb * 1 by omega, List.getElem?_eq_getElem (by omega)]
      rfl
  exact ⟨a', c2, rfl, _, T, E, LS.rb6 (D := { D with B := R ++ M ++ Q }) a (q := 5) (by show D.nb + 5 ≤ (R ++ M ++ Q).length; have := hm.1; rw [List.length_append, List.length_append]; omega) hg hr2, b, pend_all (gr_ch hg a.xrb) (by omega) c'⟩
theorem pk_oneN (h : Pk w0 V W ps p r D i G) (hC : ∀ c ∈ D.CB, c.length = 1) (hn : D.nn = D.CB.length) (m : Int) :
    Rws W 3 1 (.slice D.ca D.nn D.nc) D.nn (fun k => D.CB.flatten.getD k undef) ∧ ∀ v W', Rws W' 3 1 v (D.nn + 1) (fun k => if k < D.nn * 1 then D.CB.flatten.getD k undef else ([.int .i64 m] : List Value).getD (k - D.nn * 1) undef) → Gr 3 (D.nn * 1) 1 W W' (.slice D.ca D.nn D.nc) v → ∃ a' c', v = .slice a' (D.nn + 1) c' ∧ Pk w0 V W' ps p r { D with ca := a', nn := D.nn + 1, nc := c', CB := D.CB ++ [[.int .i64 m]] } i G := by
  obtain ⟨X, T, E, a, b, c'⟩ := h
  refine ⟨a.rn, fun v W' hr hg => ?_⟩
  obtain ⟨a', c2, rfl⟩ := hr.shape
  exact ⟨a', c2, rfl, _, T, E, a.rn7 hg (mark_one hC rfl hn hr), b, pend_all (gr_ch hg a.xrn) (by omega) c'⟩
/-- the lists bear their marks, at the end -/
theorem pk_kept {RA QA RB QB : List Ent} (h : Pk w0 V W ps p r D i G) (a1 : D.A = RA ++ QA) (a2 : D.na = RA.length) (a3 : D.mn = D.CA.length) (a4 : ∀ c ∈ D.CA, ∃ m : Pl, c = [.int .i64 m.1, .string (bs m.2)]) (a5 : ∀ j x, RA[j]? = some x → D.CA[j / 5]? = some x.c) (a6 : ∀ x ∈ RA, (∃ a cap, x.v = .slice a x.n cap) ∧ x.n ≤ 200000) (a7 : D.na ≤ 1000000)
    (b1 : D.B = RB ++ QB) (b2 : D.nb = RB.length) (b3 : D.nn = D.CB.length) (b4 : ∀ c ∈ D.CB, ∃ m : Int, c = [.int .i64 m]) (b5 : ∀ j x, RB[j]? = some x → D.CB[j / 5]? = some x.c) (b6 : ∀ x ∈ RB, (∃ a cap, x.v = .slice a x.n cap) ∧ x.n ≤ 200000) (b7 : D.nb ≤ 1000000) :
    Calls Try.prog 24 #[.slice D.aa D.na D.ac, .slice D.ma D.mn D.mc, .slice D.ba D.nb D.bc, .slice D.ca D.nn D.nc] W fun e w' => e = .returned (.bool true) ∧ Hid (Below W.heap.size W w' ∧ Pk w0 V w' ps p r D i G) := by
  have h0 := h
  obtain ⟨X, T, E, a, b, c⟩ := h
  have h1 : KpR W 46 38 2 RA D.aa D.na D.ac D.CA D.ma D.mn D.mc := ⟨a2, a.ra.congr fun j hj => by
    show (D.A.getD j ent0).v = (RA.getD j ⟨undef, 0, []⟩).v
    rw [a1, List.getD_eq_getElem?_getD, List.getD_eq_getElem?_getD, List.getElem?_append_left (by omega)]
    rfl, fun x hx => ⟨a.ka.row x (by rw [a1]; exact List.mem_append_left _ hx), a6 x hx⟩, a3, a.rm, fun c hc => (by obtain ⟨m, rfl⟩ := a4 c hc; rfl), a5⟩
  have h2 : KpR W 3 51 1 RB D.ba D.nb D.bc D.CB D.ca D.nn D.nc := ⟨b2, a.rb.congr fun j hj => by
    show (D.B.getD j ent0).v = (RB.getD j ⟨undef, 0, []⟩).v
    rw [b1, List.getD_eq_getElem?_getD, List.getD_eq_getElem?_getD, List.getElem?_append_left (by omega)]
    rfl, fun x hx => ⟨a.kb.row x (by rw [b1]; exact List.mem_append_left _ hx), b6 x hx⟩, b3, a.rn, fun c hc => (by obtain ⟨m, rfl⟩ := b4 c hc; rfl), b5⟩
  refine (kept_any W RA D.aa D.na D.ac D.CA D.ma D.mn D.mc RB D.ba D.nb D.bc D.CB D.ca D.nn D.nc h1 h2 a7 b7 (fun x hx => ?_) (fun x hx => ?_)).mono ?_
  · obtain ⟨j, hj⟩ := List.getElem?_of_mem hx
    exact a4 _ (List.mem_of_getElem? (a5 j x hj))
  · obtain ⟨j, hj⟩ := List.getElem?_of_mem hx
    exact b4 _ (List.mem_of_getElem? (b5 j x hj))
  rintro e w' ⟨rfl, H⟩
  exact ⟨rfl, hide ⟨unhide H, h0.below (unhide H)⟩⟩
end
end Go.Proofs.Ytfebiemfmiahhab
