/- A script of Asks that came in. -/
import Derived.Test.YtecfgbjnjgjkoaaGreatDoorAkd
import Derived.Test.YtecfgbjnjgjkoaaGreatDoorFit
import Derived.Lib.SmallJoins
import Derived.SizedLaws
namespace Go.Proofs.YtecfgbjnjgjkoaaGreatDoor
open Go.ChangeShapes Go.WideShapes Go.ChangeAt Go.RowKit Go.Joins Go.Deep
set_option linter.unusedVariables false
set_option maxRecDepth 20000

theorem own : ownKnob Tryz.prog.godebug = none := by kernel_rfl
theorem laidOut : laidOutB Tryz.prog = true := by kernel_rfl
theorem Tryz.bytes5 : Tryz.prog.bytesOf 5 = 1 := by kernel_rfl

theorem open_bytes {H : Type} {enc : TypeId × Value → H} {W : World} {n : Nat} {v : Value} {y : DataW H × List MemPlace}
    (hf : DataW.trod enc Tryz.prog W 0 (fun _ => true) true n 25 [v] = some y) :
    ∃ a cap l, v = .slice a l.length cap ∧ Bytes W a l ∧ (a = none → cap = 0) ∧ (l.length ≤ cap ∧ cap ≤ 9223372036854775807) ∧ Small l ∧ (l = [] ∨ ∃ elems spare, y.1 = .slice elems spare ∧ elems.length = l.length) := by
  rcases open_ints Tryz.underlying25 Tryz.underlying5 (by kernel_rfl) hf with ⟨hcs, _⟩ | ⟨x, len, cap, zs, hcs, _, hl, hm, hz, hy, hcell, hwz⟩
  · cases hcs
    exact ⟨none, 0, [], rfl, .inl rfl, fun _ => rfl, ⟨Nat.le_refl _, by omega⟩, (fun i hi => by simp at hi), .inl rfl⟩
  · cases hcs
    simp only [if_true] at hz
    have hlz : len ≤ zs.length := by omega
    have hlen : ((zs.take len).map Int.toNat).length = len := by simp; omega
    have hget : ∀ i, i < len → ((((zs.take len).map Int.toNat).getD i 0 : Nat) : Int) = zs.getD i 0 ∧ ((zs.take len).map Int.toNat).getD i 0 < 256 := by
      intro i hi
      have hiz : i < zs.length := by omega
      have hb := bounds_u8 (hwz (zs[i]) (List.getElem_mem hiz))
      have e1 : ((zs.take len).map Int.toNat).getD i 0 = (zs[i]).toNat := by
        rw [List.getD_eq_getElem?_getD, List.getElem?_map, List.getElem?_take, if_pos hi, List.getElem?_eq_getElem hiz]; rfl
      have e2 : zs.getD i 0 = zs[i] := by rw [List.getD_eq_getElem?_getD, List.getElem?_eq_getElem hiz]; rfl
      rw [e1, e2]
      omega
    refine ⟨some x, cap, (zs.take len).map Int.toNat, by rw [hlen], ?_, (fun h => by cases h), ⟨by rw [hlen]; exact hl, by simp only [maxLen] at hm; omega⟩, ?_, ?_⟩
    · by_cases h0 : len = 0
      · left; subst h0; simp
      · right
        obtain ⟨b, off, spot⟩ := x
        have hc := hcell 0 (by omega)
        have hspot : spot = none := by simpa [Addr.add] using World.cell?_spot hc
        subst hspot
        refine ⟨b, off, rfl, ?_, ?_⟩
        · have := block_lt_of_cell hc
          simpa [add_plain] using this
        · intro i hi
          rw [hlen] at hi
          have := hcell i (by omega)
          rw [add_plain] at this
          rw [this, (hget i hi).1]
    · intro i hi
      rw [hlen] at hi
      exact (hget i hi).2
    · right
      exact ⟨_, _, by rw [hy], by rw [hlen]; simp [lits]; omega⟩

theorem mapM_someP {α β : Type} (f : α → Option β) (l : List α) (cs : List β) (h : l.mapM f = some cs) : l.map f = cs.map some := by
  induction l generalizing cs with
  | nil => simp at h; subst h; rfl
  | cons x l ih =>
    rw [List.mapM_cons] at h
    cases hx : f x with
    | none => rw [hx] at h; simp at h
    | some y =>
      rw [hx] at h
      cases hl : l.mapM f with
      | none => rw [hl] at h; simp at h
      | some ys =>
        rw [hl] at h
        simp at h
        subst h
        simp [hx, ih ys hl]
theorem cells_eachP {W : World} {a : Addr} {n : Nat} {cs : List Value} (h : W.cells? 0 a n = some cs) : cs.length = n ∧ ∀ i, i < n → W.cell? (a.add i) = cs[i]? := by
  unfold World.cells? at h
  rw [if_pos (Nat.zero_le _)] at h
  have hm := mapM_someP _ _ _ h
  have hlen : cs.length = n := by have := congrArg List.length hm; simpa using this.symm
  refine ⟨hlen, fun i hi => ?_⟩
  have := congrArg (fun l => l[i]?) hm
  simp only [List.getElem?_map, List.getElem?_range hi, Option.map_some] at this
  rw [List.getElem?_eq_getElem (by omega : i < cs.length)] at this ⊢
  simpa using this
theorem weights_allP {H : Type} {P : Program} {e : TypeId} {d : DataW H} {m : Nat} : ∀ {l : List (DataW H)}, d ∈ l → m ∈ DataW.weights P e d → m ∈ DataW.weightsAll P e l
  | x :: l, hd, hm => by
    simp only [DataW.weightsAll, List.mem_append]
    rcases List.mem_cons.1 hd with rfl | h
    · exact .inl hm
    · exact .inr (weights_allP h hm)
theorem held_sizedP {H : Type} {P : Program} {t : TypeId} {ts : List TypeId} {d : DataW H} {ds : List (DataW H)} {m : Nat} (hsz : (DataW.weightsEach P (t :: ts) (d :: ds)).all (· ≤ reachBytes) = true) (hm : m ∈ DataW.weights P t d) : m ≤ 140737488351232 := by
  have h := List.all_eq_true.1 hsz _ (DataW.weights_mem_each (j := 0) (t := t) (d := d) rfl rfl _ hm)
  exact of_decide_eq_true h
theorem list_4 {α : Type} {cs : List α} (h : cs.length = 4) : ∃ v0 v1 v2 v3, cs = [v0, v1, v2, v3] := by
  match cs, h with
  | [v0, v1, v2, v3], _ => exact ⟨v0, v1, v2, v3, rfl⟩
theorem pick_list {X : Type} (P : Nat → X → Prop) : ∀ n, (∀ k, k < n → ∃ x, P k x) → ∃ l : List X, l.length = n ∧ ∀ i x, l[i]? = some x → P i x
  | 0, _ => ⟨[], rfl, fun i x h => by simp at h⟩
  | n + 1, h => by
    obtain ⟨l, hl, hp⟩ := pick_list P n (fun k hk => h k (by omega))
    obtain ⟨x, hx⟩ := h n (by omega)
    refine ⟨l ++ [x], by simp [hl], fun i y hy => ?_⟩
    by_cases hi : i < n
    · rw [List.getElem?_append_left (by omega)] at hy
      exact hp i y hy
    · have hlt := (List.getElem?_eq_some_iff.1 hy).1
      simp [hl] at hlt
      obtain rfl : i = n := by omega
      rw [List.getElem?_append_right (by omega), hl] at hy
      simp at hy
      subst hy
      exact hx

theorem Tryz.cells25 : Tryz.prog.cellsOf 25 = 1 := by kernel_rfl
theorem Tryz.bytes25 : Tryz.prog.bytesOf 25 = 24 := by kernel_rfl
theorem Tryz.cells31 : Tryz.prog.cellsOf 31 = 4 := by kernel_rfl
theorem Tryz.bytes31 : Tryz.prog.bytesOf 31 = 64 := by kernel_rfl
theorem Tryz.cells52 : Tryz.prog.cellsOf 52 = 7 := by kernel_rfl
theorem Tryz.bytes52 : Tryz.prog.bytesOf 52 = 120 := by kernel_rfl
theorem bytes_sized {H : Type} {l : List Nat} {y : DataW H} (hlen : l = [] ∨ ∃ elems spare, y = .slice elems spare ∧ elems.length = l.length) (h : ∀ m, m ∈ DataW.weights Tryz.prog 25 y → m ≤ 140737488351232) : l.length ≤ 140737488351232 := by
  rcases hlen with rfl | ⟨el, sp, he, hn⟩
  · simp
  · have := h ((el.length + sp.length) * Tryz.prog.bytesOf 5) (by rw [he]; simp [DataW.weights, Tryz.underlying25])
    rw [Tryz.bytes5] at this
    omega
theorem place_n {W : World} {b off q : Nat} {spot : Option Nat} {cs : List Value} (hq : 0 < q) (hc : W.cells? 0 ((⟨b, off, spot⟩ : Addr).add (0 * q)) q = some cs) : spot = none ∧ b < W.heap.size := by
  obtain ⟨hl, he⟩ := cells_eachP hc
  have h00 := he 0 (by omega)
  rw [List.getElem?_eq_getElem (by omega : 0 < cs.length)] at h00
  have e00 : ((⟨b, off, spot⟩ : Addr).add (0 * q)).add 0 = ⟨b, off, spot⟩ := by simp [Addr.add]
  rw [e00] at h00
  exact ⟨World.cell?_spot h00, block_lt_of_cell h00⟩
theorem open_texts {H : Type} {enc : TypeId × Value → H} {W : World} {fuel : Nat} {v : Value} {y : DataW H × List MemPlace}
    (hf : DataW.trod enc Tryz.prog W 0 (fun _ => true) true fuel 36 [v] = some y) (hw : ∀ m, m ∈ DataW.weights Tryz.prog 36 y.1 → m ≤ 140737488351232) :
    ∃ a L cap, v = .slice a (List.length L) cap ∧ L.length ≤ 140737488351232 ∧ ArgsW W a L ∧ ∀ T ∈ L, Small T := by
  rcases open_slice Tryz.underlying36 hf with ⟨hcs, _⟩ | ⟨a, len, cap, m, q, D, Pl, hcs, _, hlc, _, hm, hy, heach⟩
  · cases hcs
    exact ⟨_, [], 0, rfl, by simp, .inl rfl, fun T h => by cases h⟩
  · cases hcs
    simp only [if_true] at hm
    have hlen : len ≤ 140737488351232 := by
      have hmm := hw ((len + (m - len)) * Tryz.prog.bytesOf 25) (by
        rw [hy]
        simp [DataW.weights, Tryz.underlying36])
      rw [Tryz.bytes25] at hmm
      omega
    by_cases h0 : len = 0
    · subst h0
      exact ⟨_, [], cap, rfl, by simp, .inl rfl, fun T h => by cases h⟩
    · rw [Tryz.cells25] at heach
      obtain ⟨b, off, spot⟩ := a
      obtain ⟨rfl, hb⟩ := place_n (q := 1) (by decide) (heach 0 (by omega)).choose_spec.1
      obtain ⟨L, hL, hP⟩ := pick_list (fun k (T : List Nat) => Small T ∧ ∃ a c, W.cell? ⟨b, off + k, none⟩ = some (.slice a T.length c) ∧ Bytes W a T ∧ T.length ≤ 140737488351232) len (fun k hk => by
        obtain ⟨cs', hc, ht⟩ := heach k (by omega)
        obtain ⟨hl, he⟩ := cells_eachP hc
        match cs', hl with
        | [v'], _ =>
          obtain ⟨a', c', T, rfl, hB, hnil, hcap, hs, hTl⟩ := open_bytes ht
          refine ⟨T, hs, a', c', ?_, hB, bytes_sized hTl (fun m hm => hw m (by
            rw [hy]
            simp only [DataW.weights, Tryz.underlying36]
            exact List.mem_cons_of_mem _ (List.mem_append_left _ (weights_allP (List.mem_map.2 ⟨k, List.mem_range.2 hk, rfl⟩) hm))))⟩
          have := he 0 (by omega)
          rw [add_plain, add_plain] at this
          simpa using this)
      refine ⟨_, L, cap, by rw [hL], by omega, .inr ⟨b, off, rfl, hb, fun k T hT => (hP k T hT).2⟩, fun T hT => ?_⟩
      obtain ⟨k, hk⟩ := List.getElem?_of_mem hT
      exact (hP k T hk).1
def Tr.up : (d : Nat) → Tr d → Tr (d + 1)
  | 0, x => nomatch (show Empty from x)
  | d + 1, x => (⟨x.nd.k, x.nd.n, x.nd.t, x.nd.l.map (Tr.up d)⟩ : Nd (Tr (d + 1)))
theorem RpAt.up {w : World} : ∀ {d : Nat} {x : Tr d} {v0 v1 v2 v3 : Value}, RpAt w d x v0 v1 v2 v3 → RpAt w (d + 1) (Tr.up d x) v0 v1 v2 v3
  | 0, _, _, _, _, _, h => absurd h id
  | d + 1, x, v0, v1, v2, v3, ⟨h0, h1, h2, a, c, h3, h4, h5⟩ => by
    have e : (Tr.up (d + 1) x).nd = ⟨x.nd.k, x.nd.n, x.nd.t, x.nd.l.map (Tr.up d)⟩ := rfl
    unfold RpAt
    rw [e]
    refine ⟨h0, h1, h2, a, c, by simpa using h3, by simpa using h4, ?_⟩
    rcases h5 with h | ⟨b, off, e', hlt, hc⟩
    · left; simp [h]
    · refine .inr ⟨b, off, e', hlt, fun i y hy => ?_⟩
      simp only [List.getElem?_map, Option.map_eq_some_iff] at hy
      obtain ⟨y', hy', rfl⟩ := hy
      obtain ⟨u0, u1, u2, u3, c0, c1, c2, c3, r⟩ := hc i y' hy'
      exact ⟨u0, u1, u2, u3, c0, c1, c2, c3, RpAt.up r⟩
theorem RpAt.mono {w : World} {d : Nat} {x : Tr d} {v0 v1 v2 v3 : Value} (h : RpAt w d x v0 v1 v2 v3) : ∀ (k : Nat), ∃ x' : Tr (d + k), RpAt w (d + k) x' v0 v1 v2 v3
  | 0 => ⟨x, h⟩
  | k + 1 => by
    obtain ⟨x', h'⟩ := RpAt.mono h k
    exact ⟨_, h'.up⟩
theorem RpAt.to {w : World} {d : Nat} {x : Tr d} {v0 v1 v2 v3 : Value} (h : RpAt w d x v0 v1 v2 v3) (d' : Nat) (hd : d ≤ d') : ∃ x' : Tr d', RpAt w d' x' v0 v1 v2 v3 := by
  obtain ⟨k, rfl⟩ := Nat.exists_eq_add_of_le hd
  exact h.mono k
theorem open_reply {H : Type} {enc : TypeId × Value → H} {W : World} : ∀ (fuel : Nat) (cs : List Value) (y : DataW H × List MemPlace),
    DataW.trod enc Tryz.prog W 0 (fun _ => true) true fuel 31 cs = some y → (∀ m, m ∈ DataW.weights Tryz.prog 31 y.1 → m ≤ 140737488351232) → ∃ v0 v1 v2 v3, cs = [v0, v1, v2, v3] ∧ ∃ x : Tr (fuel + 1), RpAt W (fuel + 1) x v0 v1 v2 v3 := by
  intro fuel
  induction fuel using Nat.strongRecOn with
  | ind fuel ih =>
    intro cs y hf hw
    obtain ⟨xs, n, hn, hx, hl, hlen, hfl⟩ := DataW.trod_struct Tryz.underlying31 hf
    obtain ⟨v0, v1, v2, v3, rfl⟩ := list_4 (hl.trans Tryz.cells31)
    match xs, hlen with
    | [y0, y1, y2, y3], _ =>
      have t0 : DataW.trod enc Tryz.prog W 0 (fun _ => true) true n 3 [v0] = some y0 := by simpa [show Tryz.prog.cellsOf 3 = 1 by kernel_rfl] using hfl 0 _ rfl
      have t1 : DataW.trod enc Tryz.prog W 0 (fun _ => true) true n 2 [v1] = some y1 := by simpa [show Tryz.prog.cellsOf 2 = 1 by kernel_rfl] using hfl 1 _ rfl
      have t2 : DataW.trod enc Tryz.prog W 0 (fun _ => true) true n 25 [v2] = some y2 := by simpa [Tryz.cells25] using hfl 2 _ rfl
      have t3 : DataW.trod enc Tryz.prog W 0 (fun _ => true) true n 29 [v3] = some y3 := by simpa [show Tryz.prog.cellsOf 29 = 1 by kernel_rfl] using hfl 3 _ rfl
      have up : ∀ j t d, ([3, 2, 25, 29] : List TypeId)[j]? = some t → [y0.1, y1.1, y2.1, y3.1][j]? = some d → ∀ m, m ∈ DataW.weights Tryz.prog t d → m ≤ 140737488351232 := fun j t d h1 h2 m hm => hw m (by
        rw [hx]
        simp only [DataW.weights, Tryz.underlying31]
        exact DataW.weights_mem_each (j := j) (t := t) (d := d) h1 h2 _ hm)
      obtain ⟨k0, e0, _, w0⟩ := DataW.trod_int Tryz.underlying3 t0
      obtain ⟨k1, e1, _, w1⟩ := DataW.trod_int Tryz.underlying2 t1
      obtain ⟨ta, tc, T, e2, hTB, _, hTc, hTS, hTl⟩ := open_bytes t2
      have hTn := bytes_sized hTl (up 2 25 _ rfl rfl)
      cases e0
      cases e1
      have bd0 := bounds_i64 w0
      have bd1 := bounds_i64 w1
      have mk : ∀ (l : List (Tr fuel)) (v3' : Value) (a : Option Addr) (c : Nat), v3' = .slice a l.length c → l.length ≤ 140737488351232 → RlAt W fuel a l → RpAt W (fuel + 1) (⟨k0, k1, T, l⟩ : Nd (Tr fuel)) (.int .i64 k0) (.int .i64 k1) v2 v3' := fun l v3' a c e hl hA => ⟨⟨rfl, bd0.1, bd0.2⟩, ⟨rfl, bd1.1, bd1.2⟩, ⟨ta, tc, by cases e2; rfl, hTB, hTS, hTn, hTc.1⟩, a, c, e, hl, hA⟩
      rcases DataW.trod_slice Tryz.underlying29 t3 with ⟨hcs, _⟩ | ⟨a, len, cap, elems, rest, q, hq, hcs, hy3, _, hlc, _, hel, heach, _, _⟩
      · cases hcs
        exact ⟨_, _, _, _, rfl, _, mk [] _ none 0 rfl (by simp) (.inl rfl)⟩
      · cases hcs
        have hlen' : len ≤ 140737488351232 := by
          have hmm := up 3 29 _ rfl rfl ((elems.length + rest.length) * Tryz.prog.bytesOf 31) (by
            rw [hy3]
            simp [DataW.weights, Tryz.underlying29])
          rw [Tryz.bytes31] at hmm
          omega
        by_cases h0 : len = 0
        · subst h0
          exact ⟨_, _, _, _, rfl, _, mk [] _ (some a) cap rfl (by simp) (.inl rfl)⟩
        · rw [Tryz.cells31] at heach
          have each : ∀ i, i < len → ∃ cs' z, W.cells? 0 (a.add (i * 4)) 4 = some cs' ∧ DataW.trod enc Tryz.prog W 0 (fun _ => true) true q 31 cs' = some z ∧ elems[i]? = some z := fun i hi => by
            have h := heach i hi
            rw [List.getElem?_eq_getElem (by omega : i < elems.length)] at h
            obtain ⟨cs', g1, g2⟩ := Option.bind_eq_some_iff.1 h
            exact ⟨cs', _, g1, g2, List.getElem?_eq_getElem (by omega)⟩
          obtain ⟨b, off, spot⟩ := a
          obtain ⟨cs0, z0, hc0, _, _⟩ := each 0 (by omega)
          obtain ⟨rfl, hb⟩ := place_n (q := 4) (by decide) hc0
          obtain ⟨l, hl, hP⟩ := pick_list (fun i (y : Tr fuel) => ∃ u0 u1 u2 u3, W.cell? ⟨b, off + i * 4, none⟩ = some u0 ∧ W.cell? ⟨b, off + i * 4 + 1, none⟩ = some u1 ∧ W.cell? ⟨b, off + i * 4 + 2, none⟩ = some u2 ∧ W.cell? ⟨b, off + i * 4 + 3, none⟩ = some u3 ∧ RpAt W fuel y u0 u1 u2 u3) len (fun i hi => by
            obtain ⟨cs', z, hc, ht, hz⟩ := each i hi
            obtain ⟨hl', he⟩ := cells_eachP hc
            obtain ⟨u0, u1, u2, u3, rfl, xr, hr⟩ := ih q (by omega) cs' z ht (fun m hm => up 3 29 _ rfl rfl m (by
              rw [hy3]
              simp only [DataW.weights, Tryz.underlying29]
              exact List.mem_cons_of_mem _ (List.mem_append_left _ (weights_allP (List.mem_map.2 ⟨z, List.mem_of_getElem? hz, rfl⟩) hm))))
            obtain ⟨y, hy⟩ := hr.to fuel (by omega)
            refine ⟨y, u0, u1, u2, u3, ?_, ?_, ?_, ?_, hy⟩
            · have := he 0 (by omega); rw [add_plain, add_plain] at this; exact this
            · have := he 1 (by omega); rw [add_plain, add_plain] at this; exact this
            · have := he 2 (by omega); rw [add_plain, add_plain] at this; exact this
            · have := he 3 (by omega); rw [add_plain, add_plain] at this; exact this)
          exact ⟨_, _, _, _, rfl, _, mk l _ (some ⟨b, off, none⟩) cap (by rw [hl]) (by omega) (.inr ⟨b, off, rfl, hb, hP⟩)⟩
theorem list_7 {α : Type} {cs : List α} (h : cs.length = 7) : ∃ v0 v1 v2 v3 v4 v5 v6, cs = [v0, v1, v2, v3, v4, v5, v6] := by
  match cs, h with
  | [v0, v1, v2, v3, v4, v5, v6], _ => exact ⟨v0, v1, v2, v3, v4, v5, v6, rfl⟩
/-- an Ask's seven cells -/
theorem open_ask {H : Type} {enc : TypeId × Value → H} {W : World} {fuel b o : Nat} {cs : List Value} {y : DataW H × List MemPlace}
    (hf : DataW.trod enc Tryz.prog W 0 (fun _ => true) true fuel 52 cs = some y) (hw : ∀ m, m ∈ DataW.weights Tryz.prog 52 y.1 → m ≤ 140737488351232) (hc : ∀ j, j < 7 → W.cell? ⟨b, o + j, none⟩ = cs[j]?) : ∃ x, AkOk W b o x := by
  obtain ⟨xs, n, hn, hx, hl, hlen, hfl⟩ := DataW.trod_struct Tryz.underlying52 hf
  obtain ⟨v0, v1, v2, v3, v4, v5, v6, rfl⟩ := list_7 (hl.trans Tryz.cells52)
  match xs, hlen with
  | [y0, y1, y2, y3], _ =>
    have t0 : DataW.trod enc Tryz.prog W 0 (fun _ => true) true n 3 [v0] = some y0 := by simpa [show Tryz.prog.cellsOf 3 = 1 by kernel_rfl] using hfl 0 _ rfl
    have t1 : DataW.trod enc Tryz.prog W 0 (fun _ => true) true n 25 [v1] = some y1 := by simpa [Tryz.cells25] using hfl 1 _ rfl
    have t2 : DataW.trod enc Tryz.prog W 0 (fun _ => true) true n 36 [v2] = some y2 := by simpa [show Tryz.prog.cellsOf 36 = 1 by kernel_rfl] using hfl 2 _ rfl
    have t3 : DataW.trod enc Tryz.prog W 0 (fun _ => true) true n 31 [v3, v4, v5, v6] = some y3 := by simpa [Tryz.cells31] using hfl 3 _ rfl
    have up : ∀ j t d, ([3, 25, 36, 31] : List TypeId)[j]? = some t → [y0.1, y1.1, y2.1, y3.1][j]? = some d → ∀ m, m ∈ DataW.weights Tryz.prog t d → m ≤ 140737488351232 := fun j t d h1 h2 m hm => hw m (by
      rw [hx]
      simp only [DataW.weights, Tryz.underlying52]
      exact DataW.weights_mem_each (j := j) (t := t) (d := d) h1 h2 _ hm)
    obtain ⟨k0, e0, _⟩ := DataW.trod_int Tryz.underlying3 t0
    obtain ⟨ta, tc, T, e1, hB, _, hcap, hs, hTl⟩ := open_bytes t1
    have hTn := bytes_sized hTl (up 1 25 _ rfl rfl)
    obtain ⟨la, L, lc, e2, hLn, hLa, hLs⟩ := open_texts t2 (up 2 36 _ rfl rfl)
    obtain ⟨r0, r1, r2, r3, e3, xr, hR⟩ := open_reply n _ _ t3 (up 3 31 _ rfl rfl)
    cases e0
    cases e3
    exact ⟨⟨k0, ta, T.length, tc, T, la, lc, L, n + 1, xr, v3, v4, v5, v6⟩, ⟨hc 0 (by omega), (hc 1 (by omega)).trans (by rw [← e1]; rfl), (hc 2 (by omega)).trans (by rw [← e2]; rfl), hc 3 (by omega), hc 4 (by omega), hc 5 (by omega), hc 6 (by omega), hLa, hLs, hR, ⟨rfl, hB, hs⟩, hTn, hcap, hLn⟩⟩
theorem open_script {H : Type} {enc : TypeId × Value → H} {W : World} {fuel : Nat} {v : Value} {y : DataW H × List MemPlace}
    (hf : DataW.trod enc Tryz.prog W 0 (fun _ => true) true fuel 22 [v] = some y) (hw : ∀ m, m ∈ DataW.weights Tryz.prog 22 y.1 → m ≤ 140737488351232) :
    ∃ a N cap, v = .slice a N cap ∧ Script8 W a N := by
  rcases open_slice Tryz.underlying22 hf with ⟨hcs, _⟩ | ⟨a, len, cap, m, q, D, Pl, hcs, _, hlc, _, hm, hy, heach⟩
  · cases hcs
    exact ⟨_, 0, 0, rfl, Nat.zero_le _, .inl rfl⟩
  · cases hcs
    simp only [if_true] at hm
    have hlen : len ≤ 140737488351232 := by
      have hmm := hw ((len + (m - len)) * Tryz.prog.bytesOf 52) (by
        rw [hy]
        simp [DataW.weights, Tryz.underlying22])
      rw [Tryz.bytes52] at hmm
      omega
    refine ⟨_, len, cap, rfl, hlen, ?_⟩
    by_cases h0 : len = 0
    · exact .inl h0
    · right
      rw [Tryz.cells52] at heach
      obtain ⟨b, off, spot⟩ := a
      obtain ⟨rfl, hb⟩ := place_n (q := 7) (by decide) (heach 0 (by omega)).choose_spec.1
      refine ⟨b, off, rfl, hb, fun k hk => ?_⟩
      obtain ⟨cs', hc, ht⟩ := heach k (by omega)
      obtain ⟨hl, he⟩ := cells_eachP hc
      exact open_ask ht (fun m hm => hw m (by
        rw [hy]
        simp only [DataW.weights, Tryz.underlying22]
        exact List.mem_cons_of_mem _ (List.mem_append_left _ (weights_allP (List.mem_map.2 ⟨k, List.mem_range.2 hk, rfl⟩) hm)))) (fun j hj => by
        have := he j hj
        rw [add_plain, add_plain] at this
        exact this)
end Go.Proofs.YtecfgbjnjgjkoaaGreatDoor
