/- WireBack: the row and its card (the bounded form). -/
import Derived.Test.YtfgemcmiilbodaaDoorBkh
import Derived.Shelf.Vars
import Derived.Lib.LaidU8T
import Derived.Test.YtfgemcmiilbodaaDoorCards
import Derived.Test.YtfgemcmiilbodaaDoorTie
import Derived.Lib.SmallJoins
import Derived.SizedLaws
import Derived.Deep.DeepHandedRow
import Derived.Lib.LaidTab
namespace Go.Proofs.YtfgemcmiilbodaaDoor
open Go.ChangeShapes Go.WideShapes Go.ChangeAt Go.RowKit Go.Joins Go.Deep
set_option linter.unusedVariables false
set_option maxRecDepth 100000

theorem own : ownKnob Tryd.prog.godebug = none := by kernel_rfl
theorem laidOut : laidOutB Tryd.prog = true := by kernel_rfl
theorem Tryd.bytes5 : Tryd.prog.bytesOf 5 = 1 := by kernel_rfl

theorem open_bytes {H : Type} {enc : TypeId × Value → H} {W : World} {n : Nat} {v : Value} {y : DataW H × List MemPlace}
    (hf : DataW.trod enc Tryd.prog W 0 (fun _ => true) true n 22 [v] = some y) :
    ∃ a cap l, v = .slice a l.length cap ∧ Bytes W a l ∧ (a = none → cap = 0) ∧ (l.length ≤ cap ∧ cap ≤ 9223372036854775807) ∧ Small l ∧ (l = [] ∨ ∃ elems spare, y.1 = .slice elems spare ∧ elems.length = l.length) := by
  rcases open_ints Tryd.underlying22 Tryd.underlying5 (by kernel_rfl) hf with ⟨hcs, _⟩ | ⟨x, len, cap, zs, hcs, _, hl, hm, hz, hy, hcell, hwz⟩
  · cases hcs
    exact ⟨none, 0, [], rfl, .inl rfl, fun _ => rfl, ⟨Nat.le_refl _, by omega⟩, (fun i hi => by simp at hi), .inl rfl⟩
  · cases hcs
    simp only [if_true] at hz
    have hlz : len ≤ zs.length := by omega
    have hlen : ((zs.take len).map Int.toNat).length = len := by simp; omega
    have hget : ∀ i, i < len → ((((zs.take len).map Int.toNat).getD i 0 : Nat) : Int) = zs.getD i 0 ∧ ((zs.take len).map Int.toNat).getD i 0 < 256 := by
      intro i hi
      have hiz : i < zs.length := by omega
      have hb := bounds_u8 (hwz (zs[i]) (List.getElem_mem hiz))
      have e1 : ((zs.take len).map Int.toNat).getD i 0 = (zs[i]).toNat := by
        rw [List.getD_eq_getElem?_getD, List.getElem?_map, List.getElem?_take, if_pos hi, List.getElem?_eq_getElem hiz]; rfl
      have e2 : zs.getD i 0 = zs[i] := by rw [List.getD_eq_getElem?_getD, List.getElem?_eq_getElem hiz]; rfl
      rw [e1, e2]
      omega
    refine ⟨some x, cap, (zs.take len).map Int.toNat, by rw [hlen], ?_, (fun h => by cases h), ⟨by rw [hlen]; exact hl, by simp only [maxLen] at hm; omega⟩, ?_, ?_⟩
    · by_cases h0 : len = 0
      · left; subst h0; simp
      · right
        obtain ⟨b, off, spot⟩ := x
        have hc := hcell 0 (by omega)
        have hspot : spot = none := by simpa [Addr.add] using World.cell?_spot hc
        subst hspot
        refine ⟨b, off, rfl, ?_, ?_⟩
        · have := block_lt_of_cell hc
          simpa [add_plain] using this
        · intro i hi
          rw [hlen] at hi
          have := hcell i (by omega)
          rw [add_plain] at this
          rw [this, (hget i hi).1]
    · intro i hi
      rw [hlen] at hi
      exact (hget i hi).2
    · right
      exact ⟨_, _, by rw [hy], by rw [hlen]; simp [lits]; omega⟩

/-- a table's block, holding these values -/
def put (C : Array Value) : Obj → Obj
  | .cells _ t frozen => .cells C t frozen
  | o => o
/-- the heap of a world for the witness: the tables as their initialisers lay them -/
def laidHeap (h : Array Obj) : Array Obj := ((((h.modify 1 (put (Go.Pinned.utf8FirstZ.map (fun z => Value.int .u8 (z : Nat))).toArray)).modify 2 (put #[.int .u8 128, .int .u8 191, .int .u8 160, .int .u8 191, .int .u8 128, .int .u8 159, .int .u8 144, .int .u8 191, .int .u8 128, .int .u8 143, .int .u8 0, .int .u8 0, .int .u8 0, .int .u8 0, .int .u8 0, .int .u8 0, .int .u8 0, .int .u8 0, .int .u8 0, .int .u8 0, .int .u8 0, .int .u8 0, .int .u8 0, .int .u8 0, .int .u8 0, .int .u8 0, .int .u8 0, .int .u8 0, .int .u8 0, .int .u8 0, .int .u8 0, .int .u8 0])).modify 3 (put #[.int .u64 1, .int .u64 10, .int .u64 100, .int .u64 1000, .int .u64 10000, .int .u64 100000, .int .u64 1000000, .int .u64 10000000, .int .u64 100000000, .int .u64 1000000000, .int .u64 10000000000, .int .u64 100000000000, .int .u64 1000000000000, .int .u64 10000000000000, .int .u64 100000000000000, .int .u64 1000000000000000, .int .u64 10000000000000000, .int .u64 100000000000000000, .int .u64 1000000000000000000, .int .u64 10000000000000000000])).modify 4 (put #[.int .u8 0, .int .u8 1, .int .u8 28, .int .u8 2, .int .u8 29, .int .u8 14, .int .u8 24, .int .u8 3, .int .u8 30, .int .u8 22, .int .u8 20, .int .u8 15, .int .u8 25, .int .u8 17, .int .u8 4, .int .u8 8, .int .u8 31, .int .u8 27, .int .u8 13, .int .u8 23, .int .u8 21, .int .u8 19, .int .u8 16, .int .u8 7, .int .u8 26, .int .u8 12, .int .u8 18, .int .u8 6, .int .u8 11, .int .u8 5, .int .u8 10, .int .u8 9])).modify 5 (put #[.int .u8 0, .int .u8 1, .int .u8 56, .int .u8 2, .int .u8 57, .int .u8 49, .int .u8 28, .int .u8 3, .int .u8 61, .int .u8 58, .int .u8 42, .int .u8 50, .int .u8 38, .int .u8 29, .int .u8 17, .int .u8 4, .int .u8 62, .int .u8 47, .int .u8 59, .int .u8 36, .int .u8 45, .int .u8 43, .int .u8 51, .int .u8 22, .int .u8 53, .int .u8 39, .int .u8 33, .int .u8 30, .int .u8 24, .int .u8 18, .int .u8 12, .int .u8 5, .int .u8 63, .int .u8 55, .int .u8 48, .int .u8 27, .int .u8 60, .int .u8 41, .int .u8 37, .int .u8 16, .int .u8 46, .int .u8 35, .int .u8 44, .int .u8 21, .int .u8 52, .int .u8 32, .int .u8 23, .int .u8 11, .int .u8 54, .int .u8 26, .int .u8 40, .int .u8 15, .int .u8 34, .int .u8 20, .int .u8 31, .int .u8 10, .int .u8 25, .int .u8 14, .int .u8 19, .int .u8 9, .int .u8 13, .int .u8 8, .int .u8 7, .int .u8 6])
theorem tab_of_laid {W : World} (h : laidMet Tryd.prog Rows.wireBackUptoRow.laid W) : Tab W := by
  obtain ⟨ps, ⟨_, _, _, _, _, _, _, _, _, _, ⟨_, _, _, _, _, _, _, _, _, _, h3, _⟩, _⟩, _, _⟩ := h
  obtain ⟨g', t', cs, fuel, p, q, hg', ht', hvar, hd, hr, hp⟩ := h3
  have hg : Tryd.prog.globalNamed tabName = some 3 := by kernel_rfl
  have e1 : (3 : Nat) = g' := Option.some.inj (hg.symm.trans hg')
  subst e1
  have hty : (Tryd.prog.globals[3]?).map (fun g => g.type) = some 102 := by kernel_rfl
  have e2 : 102 = t' := Option.some.inj (hty.symm.trans ht')
  subst e2
  show W.var? Tryd.prog tabName = _
  have hv : W.var? Tryd.prog tabName = some cs := hvar
  rw [hv, ← Lib.cells_of_tab (zs := Lib.pow10Tab) (k := .u64) Tryd.underlying102 Tryd.underlying86 (by kernel_rfl) (by kernel_rfl) hd]
def u8ren : Go.Shelf.Ren := ⟨fun n => n, fun | 119 => 90 | 138 => 92 | 139 => 93 | n => n, fun | 3 => 1 | 4 => 2 | n => n⟩
theorem u8types : U8Types Tryd.prog u8ren := ⟨by kernel_rfl, by kernel_rfl, by kernel_rfl, by kernel_rfl⟩
theorem u8extra : U8Extra Tryd.prog u8ren := ⟨by kernel_rfl, by kernel_rfl, by kernel_rfl, by kernel_rfl, by kernel_rfl, by kernel_rfl, by kernel_rfl⟩
theorem uok_of_laid {W : World} (h : laidMet Tryd.prog Rows.wireBackUptoRow.laid W) (hsh : W.ShapedOpen Tryd.prog) : UOk W := by
  have ht : Lib.Utf8Tabs 1 2 W := utf8Tabs_of_readsT u8types u8extra (Lib.laidMet.reads h (List.mem_of_getElem? (i := 4) (by kernel_rfl))) (Lib.laidMet.reads h (List.mem_of_getElem? (i := 3) (by kernel_rfl)))
  refine ⟨ht, cell_of_shapedOpen_int (zero := #[.int .i64 0]) (t := 3) hsh (of_decide_eq_true (by kernel_rfl)) (by kernel_rfl) rfl (by kernel_rfl) (by kernel_rfl) Tryd.underlying3, ?_⟩
  have := (ht.2 0 (by decide)).1
  exact block_lt_of_cell (a := ⟨2, 2 * 0, none⟩) this
theorem mapM_someP {α β : Type} (f : α → Option β) (l : List α) (cs : List β) (h : l.mapM f = some cs) : l.map f = cs.map some := by
  induction l generalizing cs with
  | nil => simp at h; subst h; rfl
  | cons x l ih =>
    rw [List.mapM_cons] at h
    cases hx : f x with
    | none => rw [hx] at h; simp at h
    | some y =>
      rw [hx] at h
      cases hl : l.mapM f with
      | none => rw [hl] at h; simp at h
      | some ys =>
        rw [hl] at h
        simp at h
        subst h
        simp [hx, ih ys hl]
theorem cells_eachP {W : World} {a : Addr} {n : Nat} {cs : List Value} (h : W.cells? 0 a n = some cs) : cs.length = n ∧ ∀ i, i < n → W.cell? (a.add i) = cs[i]? := by
  unfold World.cells? at h
  rw [if_pos (Nat.zero_le _)] at h
  have hm := mapM_someP _ _ _ h
  have hlen : cs.length = n := by have := congrArg List.length hm; simpa using this.symm
  refine ⟨hlen, fun i hi => ?_⟩
  have := congrArg (fun l => l[i]?) hm
  simp only [List.getElem?_map, List.getElem?_range hi, Option.map_some] at this
  rw [List.getElem?_eq_getElem (by omega : i < cs.length)] at this ⊢
  simpa using this
theorem list_4 {α : Type} {cs : List α} (h : cs.length = 4) : ∃ v0 v1 v2 v3, cs = [v0, v1, v2, v3] := by
  match cs, h with
  | [v0, v1, v2, v3], _ => exact ⟨v0, v1, v2, v3, rfl⟩
theorem pick_list {X : Type} (P : Nat → X → Prop) : ∀ n, (∀ k, k < n → ∃ x, P k x) → ∃ l : List X, l.length = n ∧ ∀ i x, l[i]? = some x → P i x
  | 0, _ => ⟨[], rfl, fun i x h => by simp at h⟩
  | n + 1, h => by
    obtain ⟨l, hl, hp⟩ := pick_list P n (fun k hk => h k (by omega))
    obtain ⟨x, hx⟩ := h n (by omega)
    refine ⟨l ++ [x], by simp [hl], fun i y hy => ?_⟩
    by_cases hi : i < n
    · rw [List.getElem?_append_left (by omega)] at hy
      exact hp i y hy
    · have hlt := (List.getElem?_eq_some_iff.1 hy).1
      simp [hl] at hlt
      obtain rfl : i = n := by omega
      rw [List.getElem?_append_right (by omega), hl] at hy
      simp at hy
      subst hy
      exact hx

theorem Tryd.cells22 : Tryd.prog.cellsOf 22 = 1 := by kernel_rfl
theorem Tryd.cells27 : Tryd.prog.cellsOf 27 = 4 := by kernel_rfl
theorem place_n {W : World} {b off q : Nat} {spot : Option Nat} {cs : List Value} (hq : 0 < q) (hc : W.cells? 0 ((⟨b, off, spot⟩ : Addr).add (0 * q)) q = some cs) : spot = none ∧ b < W.heap.size := by
  obtain ⟨hl, he⟩ := cells_eachP hc
  have h00 := he 0 (by omega)
  rw [List.getElem?_eq_getElem (by omega : 0 < cs.length)] at h00
  have e00 : ((⟨b, off, spot⟩ : Addr).add (0 * q)).add 0 = ⟨b, off, spot⟩ := by simp [Addr.add]
  rw [e00] at h00
  exact ⟨World.cell?_spot h00, block_lt_of_cell h00⟩
def Tr.up : (d : Nat) → Tr d → Tr (d + 1)
  | 0, x => nomatch (show Empty from x)
  | d + 1, x => (⟨x.nd.k, x.nd.n, x.nd.t, x.nd.l.map (Tr.up d)⟩ : Nd (Tr (d + 1)))
theorem RpAt.up {w : World} : ∀ {d : Nat} {x : Tr d} {v0 v1 v2 v3 : Value}, RpAt w d x v0 v1 v2 v3 → RpAt w (d + 1) (Tr.up d x) v0 v1 v2 v3
  | 0, _, _, _, _, _, h => absurd h id
  | d + 1, x, v0, v1, v2, v3, ⟨h0, h1, h2, a, c, h3, h4, h5⟩ => by
    have e : (Tr.up (d + 1) x).nd = ⟨x.nd.k, x.nd.n, x.nd.t, x.nd.l.map (Tr.up d)⟩ := rfl
    unfold RpAt
    rw [e]
    refine ⟨h0, h1, h2, a, c, by simpa using h3, by simpa using h4, ?_⟩
    rcases h5 with h | ⟨b, off, e', hlt, hc⟩
    · left; simp [h]
    · refine .inr ⟨b, off, e', hlt, fun i y hy => ?_⟩
      simp only [List.getElem?_map, Option.map_eq_some_iff] at hy
      obtain ⟨y', hy', rfl⟩ := hy
      obtain ⟨u0, u1, u2, u3, c0, c1, c2, c3, r⟩ := hc i y' hy'
      exact ⟨u0, u1, u2, u3, c0, c1, c2, c3, RpAt.up r⟩
theorem bulk_one {H : Type} (d : DataW H) : 1 ≤ Rows.uptoBulk d := by
  cases d with
  | lit l => cases l <;> simp [Rows.uptoBulk]
  | _ => simp [Rows.uptoBulk]
theorem bulk_len {H : Type} (l : List (DataW H)) : l.length ≤ Rows.uptoBulkAll l := by
  induction l with
  | nil => simp
  | cons x r ih =>
    have := bulk_one x
    simp only [Rows.uptoBulkAll, List.length_cons]
    omega
theorem bulk_slice {H : Type} (el sp : List (DataW H)) : el.length ≤ Rows.uptoBulk (.slice el sp) := by
  have := bulk_len el
  simp only [Rows.uptoBulk]
  omega
theorem bulk_part {H : Type} {d : DataW H} {l : List (DataW H)} (h : d ∈ l) : Rows.uptoBulk d ≤ Rows.uptoBulkAll l := by
  induction l with
  | nil => cases h
  | cons x r ih =>
    simp only [Rows.uptoBulkAll]
    rcases List.mem_cons.1 h with e | e
    · subst e; omega
    · have := ih e; omega
theorem open_in {H : Type} {enc : TypeId × Value → H} {W : World} {n : Nat} {v : Value} {y : DataW H × List MemPlace}
    (hf : DataW.trod enc Tryd.prog W 0 (fun _ => true) true n 22 [v] = some y) (h : Rows.uptoBulk y.1 ≤ 1048576) :
    ∃ a cap l, v = .slice a l.length cap ∧ DecIn W a l.length cap l ∧ l.length ≤ 1048576 := by
  obtain ⟨a, cap, l, rfl, hB, hnil, hcap, hs, hlen⟩ := open_bytes hf
  have hl : l.length ≤ 1048576 := by
    rcases hlen with rfl | ⟨el, sp, he, hn⟩
    · simp
    · have h2 := bulk_slice el sp
      rw [← he] at h2
      omega
  by_cases h0 : l = []
  · subst h0
    exact ⟨a, cap, [], rfl, ⟨.inl rfl, hs, rfl, hcap.1, hcap.2, by simp, fun b off e h0 => absurd h0 (by simp)⟩, by simp⟩
  · refine ⟨a, cap, l, rfl, ⟨hB, hs, rfl, hcap.1, hcap.2, by omega, fun b off e _ => ?_⟩, hl⟩
    rcases hB with e0 | ⟨b', off', e1, h1, _⟩
    · exact absurd e0 h0
    · rw [e] at e1
      cases e1
      exact h1
theorem sz_up : ∀ (d : Nat) (x : Tr d), sz (d + 1) (Tr.up d x) = sz d x
  | 0, x => nomatch (show Empty from x)
  | d + 1, x => by
    show 10 + x.nd.t.length + ((x.nd.l.map (Tr.up d)).map (sz (d + 1))).sum = 10 + x.nd.t.length + (x.nd.l.map (sz d)).sum
    rw [List.map_map]
    congr 2
    exact List.map_congr_left (fun y _ => sz_up d y)
theorem RpAt.toS {w : World} {d : Nat} {x : Tr d} {v0 v1 v2 v3 : Value} (h : RpAt w d x v0 v1 v2 v3) : ∀ (k : Nat), ∃ x' : Tr (d + k), RpAt w (d + k) x' v0 v1 v2 v3 ∧ sz (d + k) x' = sz d x
  | 0 => ⟨x, h, rfl⟩
  | k + 1 => by
    obtain ⟨x', h', hs⟩ := h.toS k
    exact ⟨_, h'.up, (sz_up _ _).trans hs⟩
theorem RpAt.toD {w : World} {d : Nat} {x : Tr d} {v0 v1 v2 v3 : Value} (h : RpAt w d x v0 v1 v2 v3) (d' : Nat) (hd : d ≤ d') : ∃ x' : Tr d', RpAt w d' x' v0 v1 v2 v3 ∧ sz d' x' = sz d x := by
  obtain ⟨k, rfl⟩ := Nat.exists_eq_add_of_le hd
  exact h.toS k
theorem sum_bulk {H : Type} {d : Nat} : ∀ (l : List (Tr d)) (es : List (DataW H)), l.length ≤ es.length → (∀ (i : Nat) (y : Tr d) (e : DataW H), l[i]? = some y → es[i]? = some e → sz d y ≤ 2 * Rows.uptoBulk e) → (l.map (sz d)).sum ≤ 2 * Rows.uptoBulkAll es
  | [], es, _, _ => by simp
  | y :: l, [], h, _ => by simp at h
  | y :: l, e :: es, h, hp => by
    have h0 := hp 0 y e rfl rfl
    have h1 := sum_bulk l es (by simpa using h) (fun i y' e' h1 h2 => hp (i + 1) y' e' (by simpa using h1) (by simpa using h2))
    simp only [List.map_cons, List.sum_cons, Rows.uptoBulkAll]
    omega
theorem open_replyU {H : Type} {enc : TypeId × Value → H} {W : World} : ∀ (fuel : Nat) (cs : List Value) (y : DataW H × List MemPlace),
    DataW.trod enc Tryd.prog W 0 (fun _ => true) true fuel 27 cs = some y → Rows.uptoBulk y.1 ≤ 1048576 → ∃ v0 v1 v2 v3, cs = [v0, v1, v2, v3] ∧ ∃ x : Tr (fuel + 1), RpAt W (fuel + 1) x v0 v1 v2 v3 ∧ sz (fuel + 1) x ≤ 2 * Rows.uptoBulk y.1 := by
  intro fuel
  induction fuel using Nat.strongRecOn with
  | ind fuel ih =>
    intro cs y hf hw
    obtain ⟨xs, n, hn, hx, hl, hlen, hfl⟩ := DataW.trod_struct Tryd.underlying27 hf
    obtain ⟨v0, v1, v2, v3, rfl⟩ := list_4 (hl.trans Tryd.cells27)
    match xs, hlen with
    | [y0, y1, y2, y3], _ =>
      have t0 : DataW.trod enc Tryd.prog W 0 (fun _ => true) true n 3 [v0] = some y0 := by simpa [show Tryd.prog.cellsOf 3 = 1 by kernel_rfl] using hfl 0 _ rfl
      have t1 : DataW.trod enc Tryd.prog W 0 (fun _ => true) true n 2 [v1] = some y1 := by simpa [show Tryd.prog.cellsOf 2 = 1 by kernel_rfl] using hfl 1 _ rfl
      have t2 : DataW.trod enc Tryd.prog W 0 (fun _ => true) true n 22 [v2] = some y2 := by simpa [Tryd.cells22] using hfl 2 _ rfl
      have t3 : DataW.trod enc Tryd.prog W 0 (fun _ => true) true n 25 [v3] = some y3 := by simpa [show Tryd.prog.cellsOf 25 = 1 by kernel_rfl] using hfl 3 _ rfl
      have hbk : Rows.uptoBulk y.1 = Rows.uptoBulk y0.1 + (Rows.uptoBulk y1.1 + (Rows.uptoBulk y2.1 + (Rows.uptoBulk y3.1 + 0))) + 1 := by
        rw [hx]
        simp only [Rows.uptoBulk, Rows.uptoBulkAll, List.map_cons, List.map_nil]
      have o0 := bulk_one y0.1
      have o1 := bulk_one y1.1
      obtain ⟨k0, e0, _, w0⟩ := DataW.trod_int Tryd.underlying3 t0
      obtain ⟨k1, e1, _, w1⟩ := DataW.trod_int Tryd.underlying2 t1
      obtain ⟨ta, tc, T, e2, hTB, _, hTc, hTS, hTl⟩ := open_bytes t2
      have hTn : T.length + 1 ≤ Rows.uptoBulk y2.1 := by
        have h1 := bulk_one y2.1
        rcases hTl with rfl | ⟨el, sp, he, hn'⟩
        · simpa using h1
        · have := bulk_len el
          rw [he]
          simp only [Rows.uptoBulk]
          omega
      have hTn2 : T.length ≤ 140737488351232 := by omega
      cases e0
      cases e1
      have bd0 := bounds_i64 w0
      have bd1 := bounds_i64 w1
      have mk : ∀ (l : List (Tr fuel)) (v3' : Value) (a : Option Addr) (c : Nat), v3' = .slice a l.length c → l.length ≤ 140737488351232 → RlAt W fuel a l → RpAt W (fuel + 1) (⟨k0, k1, T, l⟩ : Nd (Tr fuel)) (.int .i64 k0) (.int .i64 k1) v2 v3' := fun l v3' a c e hl hA => ⟨⟨rfl, bd0.1, bd0.2⟩, ⟨rfl, bd1.1, bd1.2⟩, ⟨ta, tc, by cases e2; rfl, hTB, hTS, hTn2, hTc.1⟩, a, c, e, hl, hA⟩
      have szk : ∀ (l : List (Tr fuel)), (l.map (sz fuel)).sum + 2 ≤ 2 * Rows.uptoBulk y3.1 → sz (fuel + 1) (⟨k0, k1, T, l⟩ : Nd (Tr fuel)) ≤ 2 * Rows.uptoBulk y.1 := fun l h => by
        show 10 + T.length + (l.map (sz fuel)).sum ≤ _
        omega
      rcases DataW.trod_slice Tryd.underlying25 t3 with ⟨hcs, _⟩ | ⟨a, len, cap, elems, rest, q, hq, hcs, hy3, _, hlc, _, hel, heach, _, _⟩
      · cases hcs
        exact ⟨_, _, _, _, rfl, _, mk [] _ none 0 rfl (by simp) (.inl rfl), szk [] (by have := bulk_one y3.1; simp; omega)⟩
      · cases hcs
        have hb3 : Rows.uptoBulk y3.1 = Rows.uptoBulkAll (elems.map (·.1)) + Rows.uptoBulkAll (rest.map (·.1)) + 1 := by rw [hy3]; simp only [Rows.uptoBulk]
        have hlen' : len ≤ 1048576 := by
          have := bulk_len (elems.map (·.1))
          rw [List.length_map] at this
          omega
        by_cases h0 : len = 0
        · subst h0
          exact ⟨_, _, _, _, rfl, _, mk [] _ (some a) cap rfl (by simp) (.inl rfl), szk [] (by simp; omega)⟩
        · rw [Tryd.cells27] at heach
          have each : ∀ i, i < len → ∃ cs' z, W.cells? 0 (a.add (i * 4)) 4 = some cs' ∧ DataW.trod enc Tryd.prog W 0 (fun _ => true) true q 27 cs' = some z ∧ elems[i]? = some z := fun i hi => by
            have h := heach i hi
            rw [List.getElem?_eq_getElem (by omega : i < elems.length)] at h
            obtain ⟨cs', g1, g2⟩ := Option.bind_eq_some_iff.1 h
            exact ⟨cs', _, g1, g2, List.getElem?_eq_getElem (by omega)⟩
          obtain ⟨b, off, spot⟩ := a
          obtain ⟨cs0, z0, hc0, _, _⟩ := each 0 (by omega)
          obtain ⟨rfl, hb⟩ := place_n (q := 4) (by decide) hc0
          obtain ⟨l, hl, hP⟩ := pick_list (fun i (y : Tr fuel) => (∃ u0 u1 u2 u3, W.cell? ⟨b, off + i * 4, none⟩ = some u0 ∧ W.cell? ⟨b, off + i * 4 + 1, none⟩ = some u1 ∧ W.cell? ⟨b, off + i * 4 + 2, none⟩ = some u2 ∧ W.cell? ⟨b, off + i * 4 + 3, none⟩ = some u3 ∧ RpAt W fuel y u0 u1 u2 u3) ∧ ∀ e, (elems.map (·.1))[i]? = some e → sz fuel y ≤ 2 * Rows.uptoBulk e) len (fun i hi => by
            obtain ⟨cs', z, hc, ht, hz⟩ := each i hi
            obtain ⟨hl', he⟩ := cells_eachP hc
            have hzm : z.1 ∈ elems.map (·.1) := List.mem_map.2 ⟨z, List.mem_of_getElem? hz, rfl⟩
            have hzb := bulk_part hzm
            obtain ⟨u0, u1, u2, u3, rfl, xr, hr, hsz⟩ := ih q (by omega) cs' z ht (by omega)
            obtain ⟨y', hy', hs'⟩ := hr.toD fuel (by omega)
            refine ⟨y', ⟨u0, u1, u2, u3, ?_, ?_, ?_, ?_, hy'⟩, fun e he' => ?_⟩
            · have := he 0 (by omega); rw [add_plain, add_plain] at this; exact this
            · have := he 1 (by omega); rw [add_plain, add_plain] at this; exact this
            · have := he 2 (by omega); rw [add_plain, add_plain] at this; exact this
            · have := he 3 (by omega); rw [add_plain, add_plain] at this; exact this
            · rw [List.getElem?_map, hz] at he'
              have he2 : z.1 = e := by simpa using he'
              rw [← he2]
              omega)
          have hsum := sum_bulk l (elems.map (·.1)) (by rw [hl, List.length_map]; omega) (fun i y' e h1 h2 => (hP i y' h1).2 e h2)
          exact ⟨_, _, _, _, rfl, _, mk l _ (some ⟨b, off, none⟩) cap (by rw [hl]) (by omega) (.inr ⟨b, off, rfl, hb, fun i y' hy' => (hP i y' hy').1⟩), szk l (by omega)⟩
end Go.Proofs.YtfgemcmiilbodaaDoor
namespace Go.Proofs.YtfgemcmiilbodaaDoor.WireBack
open Go.ChangeShapes Go.WideShapes Go.ChangeAt Go.RowKit Go.Joins Go.Deep
set_option linter.unusedVariables false
set_option maxRecDepth 100000

theorem list_6 {α : Type} {cs : List α} (h : cs.length = 6) : ∃ v0 v1 v2 v3 v4 v5, cs = [v0, v1, v2, v3, v4, v5] := by
  match cs, h with
  | [v0, v1, v2, v3, v4, v5], _ => exact ⟨v0, v1, v2, v3, v4, v5, rfl⟩
theorem contract (H : Type) (enc : TypeId × Value → H) (W : World) (base : Nat) (args : Array Value) (ds gs : List (DataW H)) (before : List MemPlace)
    (hval : ∀ (j : Nat) t v, Tryd.f4.params[j]? = some t → args[j]? = some v → Value.okWide Tryd.prog W .any base t v)
    (hW : DataW.Whole enc Tryd.prog Tryd.f4.params.toList Rows.wireBackSpec.vars false W args.toList ds gs before)
    (hk : ∀ k, (Rows.OpenSpec.upto Rows.wireBackSpec).cond = some k → k H (ds ++ gs) = true) (hL : laidMet Tryd.prog Rows.wireBackUptoRow.laid W) (hsh : W.ShapedOpen Tryd.prog) :
    Calls Tryd.prog 4 args W fun e W' => ∃ v, e = .returned v ∧ Rows.wireBackSpec.post enc Tryd.prog Tryd.f4 false true false false W args v W' := by
  have hW' := hW
  obtain ⟨p, q, hA0, hV, rfl, hfz, hnd⟩ := hW
  have hA : DataW.TrodAll enc Tryd.prog W 0 (fun _ => true) true Tryd.f4.params.toList args.toList ds p := hA0
  rw [Tryd.params4] at hA hval
  obtain ⟨v0, vs0, d0, ds0, p0, q0, hargs, rfl, rfl, h0, r0⟩ := trodAll_cons hA
  obtain ⟨rfl, rfl, rfl⟩ := trodAll_nil r0
  obtain rfl : args = #[v0] := by cases args; simp_all
  obtain ⟨rfl, rfl⟩ := trodVars_none hV
  have k0 := h0
  have lt0 : ∀ x ∈ p0, x.block < W.heap.size := by obtain ⟨m, hm⟩ := k0; exact DataW.trod_lt m _ _ _ hm
  obtain ⟨cs, rfl, hsz⟩ := okWide_struct Tryd.underlying38 (hval 0 38 v0 rfl rfl)
  obtain ⟨fuel, hf⟩ := h0
  obtain ⟨xs, n, hn, hx, hl, hlen, hfl⟩ := DataW.trod_struct Tryd.underlying38 hf
  obtain ⟨v0, v1, v2, v3, v4, v5, hcs⟩ := list_6 (hl.trans (show Tryd.prog.cellsOf 38 = 6 by kernel_rfl))
  have hcs2 : cs = #[v0, v1, v2, v3, v4, v5] := by
    apply Array.ext'
    simpa [Value.cells] using hcs
  subst hcs2
  match xs, hlen with
  | [y0, y1, y2], _ =>
    have t0 : DataW.trod enc Tryd.prog W 0 (fun _ => true) true n 27 [v0, v1, v2, v3] = some y0 := by simpa [Tryd.cells27, Value.cells] using hfl 0 _ rfl
    have t1 : DataW.trod enc Tryd.prog W 0 (fun _ => true) true n 22 [v4] = some y1 := by simpa [Tryd.cells22, Value.cells] using hfl 1 _ rfl
    have t2 : DataW.trod enc Tryd.prog W 0 (fun _ => true) true n 3 [v5] = some y2 := by simpa [show Tryd.prog.cellsOf 3 = 1 by kernel_rfl, Value.cells] using hfl 2 _ rfl
    have hsm : Rows.uptoBulk y0.1 ≤ 1048576 ∧ Rows.uptoBulk y1.1 ≤ 1048576 := by
      have h := hk Rows.uptoSmall rfl
      have hd : d0 = .agg [y0.1, y1.1, y2.1] := by
        have := congrArg Prod.fst hx
        simpa using this
      rw [hd] at h
      simp only [Rows.uptoSmall, List.append_nil, decide_eq_true_eq, Rows.uptoBulkAll, Rows.uptoBulk] at h
      omega
    obtain ⟨u0, u1, u2, u3, hu, x, hr, hsx⟩ := open_replyU n _ y0 t0 hsm.1
    cases hu
    obtain ⟨ja, jc, J, rfl, hJ, hJn⟩ := open_in t1 hsm.2
    obtain ⟨cut, e2, _, w2⟩ := DataW.trod_int Tryd.underlying3 t2
    cases e2
    have bd := bounds_i64 w2
    clear hA0
    refine (back_law W _ x _ _ _ _ ja jc J cut (uok_of_laid hL hsh) (tab_of_laid hL) hr (by omega) hJ.by' hJ.sm hJn bd.1 bd.2).mono fun e W' ⟨he, hb⟩ => ?_
    have bel := unhide hb
    subst he
    exact ⟨_, rfl, _, _, _, [], _, [], hW', trodAll_mk1 (shut_bool Tryd.underlying4 _), (trodAll_cons_mk (Below.trod laidOut (by kernel_rfl) (of_decide_eq_true (by kernel_rfl)) k0 bel lt0) trodAll_mk0), rfl, bel.frame _, fun h => by cases h⟩

theorem laid_met (os : Os) : laidMet Tryd.prog Rows.wireBackUptoRow.laid (({ World.holding Tryd.prog os ⟨#[], #[], []⟩ with heap := laidHeap (World.holding Tryd.prog os ⟨#[], #[], []⟩).heap } : World).forCall (fun _ _ => 0) ⟨#[], #[.agg #[.int .i64 0, .int .i64 0, .slice none 0 0, .slice none 0 0, .slice none 0 0, .int .i64 0]], []⟩).memory :=
  laidMet_of_run' 8 (by kernel_rfl) (by kernel_rfl)
theorem reads (os : Os) {H : Type} (enc : TypeId × Value → H) : ∃ places, DataW.whole enc Tryd.prog (({ World.holding Tryd.prog os ⟨#[], #[], []⟩ with heap := laidHeap (World.holding Tryd.prog os ⟨#[], #[], []⟩).heap } : World).forCall (fun _ _ => 0) ⟨#[], #[.agg #[.int .i64 0, .int .i64 0, .slice none 0 0, .slice none 0 0, .slice none 0 0, .int .i64 0]], []⟩).memory Tryd.f4.params.toList Rows.wireBackSpec.vars false (#[.agg #[.int .i64 0, .int .i64 0, .slice none 0 0, .slice none 0 0, .slice none 0 0, .int .i64 0]] : Array Value).toList 8 = some ([.agg [.agg [.lit (.int .i64 0), .lit (.int .i64 0), .nil, .nil], .nil, .lit (.int .i64 0)]], [], places) :=
  ⟨[], by kernel_rfl⟩

theorem lifted (os : Os) (started : os.Started) (H : Type) (enc : TypeId × Value → H) (F : Stop.Interp) :
    ReturnsInHanded {} Tryd.checked os 4 .any ((Rows.OpenSpec.upto Rows.wireBackSpec).preRow enc Tryd.prog Tryd.f4 Rows.wireBackUptoRow.domain false Rows.wireBackUptoRow.laid) (((Rows.OpenSpec.upto Rows.wireBackSpec).at F).post enc Tryd.prog Tryd.f4 false true false false) := by
  obtain ⟨places, hx⟩ := reads os enc
  refine returnsInHanded_of_row (C := Tryd.checked) (s := Rows.OpenSpec.upto Rows.wireBackSpec) own started (by kernel_rfl) Tryd.func4
    (witness_row_at (enc := enc) (C := Tryd.checked) false ({ World.holding Tryd.prog os ⟨#[], #[], []⟩ with heap := laidHeap (World.holding Tryd.prog os ⟨#[], #[], []⟩).heap } : World) #[.agg #[.int .i64 0, .int .i64 0, .slice none 0 0, .slice none 0 0, .slice none 0 0, .int .i64 0]] rfl (by kernel_rfl) (by kernel_rfl) (by kernel_rfl)
      (OpenSpec.preRow_of_cond 8 hx (by kernel_rfl) (fun k hk => by cases hk; kernel_rfl) (by kernel_rfl) (laid_met os))) ?_
  intro W base args ds gs before hval hW _ hk hsz hL hsh _
  exact contract H enc W base args ds gs before hval hW hk hL hsh

theorem said : Rows.WireBackUptoSaid :=
  OpenClaim.holds_of_cond 4 Tryd.f4 rfl rfl rfl rfl rfl rfl rfl ⟨rfl, rfl, rfl, rfl, rfl⟩ rfl rfl rfl rfl rfl (by kernel_rfl) Tryd.func4 (by kernel_rfl)
    (of_decide_eq_true (by kernel_rfl)) (by unfold Func.isWrapper; first | (rw [if_pos (by decide +kernel)]; kernel_rfl) | (rw [if_neg (by decide +kernel)]; exact ⟨rfl, rfl⟩))
    (fun os started H enc _ F => by rw [OpenClaim.pre_eq_preRow]; exact lifted os started H enc F)

theorem plain (f : FuncId) (fn : Func) (hf : Tryd.pinned.checked.prog.funcNamed Rows.wireBackUptoRow.func = some f) (hfn : Tryd.pinned.checked.prog.funcs[f]? = some fn) :
    false = Tryd.pinned.checked.prog.looks [] ∧ ∀ (j : Nat) t, fn.params[j]? = some t → Tryd.pinned.checked.prog.wantsStandIn t = false := by
  obtain rfl : f = 4 := Option.some.inj ((show Tryd.prog.funcNamed Rows.wireBackUptoRow.func = some 4 by kernel_rfl).symm.trans hf) |>.symm
  obtain rfl : fn = Tryd.f4 := (Option.some.inj (Tryd.func4.symm.trans hfn)).symm
  refine ⟨by kernel_rfl, fun j t ht => ?_⟩
  rw [Tryd.params4] at ht
  obtain rfl : t = 38 := by simpa using Array.mem_of_getElem? ht
  exact (show Tryd.prog.wantsStandIn 38 = false by kernel_rfl)

theorem card : Rows.WireBackUptoCardSaid :=
  Claim7.holds_tied_plain_at .later [] _ _ _ _ said (fun _ h => by cases h) (by kernel_rfl) (fun _ h => by cases h) wireBackUpto_row_tie rfl ⟨rfl, rfl⟩ (by kernel_rfl) rfl plain (by kernel_rfl)
end Go.Proofs.YtfgemcmiilbodaaDoor.WireBack
namespace Go.Proofs.YtfgemcmiilbodaaDoor
theorem wireBack_upto : Rows.WireBackUptoCardSaid := WireBack.card
end Go.Proofs.YtfgemcmiilbodaaDoor
