/- The seats that came in. -/
import Derived.Test.YtjmnddcombepaaaPjo
import Derived.Test.YtjmnddcombepaaaSame
import Derived.Lib.SmallJoins
import Derived.SizedLaws
namespace Go.Proofs.Ytjmnddcombepaaa
open Go.ChangeShapes Go.WideShapes Go.ChangeAt Go.RowKit Go.Maps Go.Sort
set_option linter.unusedVariables false
set_option linter.unusedSimpArgs false

structure Unl (o : List Sv) : Prop where
  nodup : (o.map (·.1)).Nodup
  cnt : ∀ c, cnts o c ≤ 64
  ok : ∀ y ∈ o, (0 ≤ y.1.1 ∧ y.1.1 < 8) ∧ y.1.2.1.length ≤ 64
theorem Unl.add {o : List Sv} (h : Unl o) (x : Sv) (hx : (0 ≤ x.1.1 ∧ x.1.1 < 8) ∧ x.1.2.1.length ≤ 64) : Unl (addV o x) := by
  unfold addV
  split
  · exact h
  · rename_i hne
    refine ⟨?_, fun c => ?_, fun y hy => ?_⟩
    · rw [List.map_append, List.nodup_append]
      refine ⟨h.nodup, by simp, fun a ha b hb e => hne (.inr ?_)⟩
      have hb' : b = x.1 := by simpa using hb
      rw [← hb', ← e]
      exact ha
    · unfold cnts
      rw [List.map_append, List.map_cons, List.map_nil, cntC_snoc]
      by_cases e : x.1.1 = c
      · rw [if_pos e, ← e]
        have : ¬ 64 ≤ cnts o x.1.1 := fun e => hne (.inl e)
        unfold cnts at this
        omega
      · rw [if_neg e]
        exact h.cnt c
    · rcases List.mem_append.1 hy with h1 | h1
      · exact h.ok y h1
      · rw [List.mem_singleton.1 h1]; exact hx
theorem fitV_ok (x : Sv) : (0 ≤ (fitV x).1.1 ∧ (fitV x).1.1 < 8) ∧ (fitV x).1.2.1.length ≤ 64 := by
  unfold fitV
  refine ⟨⟨Int.emod_nonneg _ (by decide), Int.emod_lt_of_pos _ (by decide)⟩, ?_⟩
  simp only [List.length_take]
  omega
theorem unV_ok (l : List Sv) : Unl (unV l) := by
  unfold unV
  suffices h : ∀ o : List Sv, Unl o → Unl (l.foldl (fun o x => addV o (fitV x)) o) from h [] ⟨by simp, fun c => by simp [cnts, cntC], by simp⟩
  induction l with
  | nil => intro o ho; exact ho
  | cons x l ih =>
    intro o ho
    exact ih _ (ho.add _ (fitV_ok x))
theorem Unl.perm {o o' : List Sv} (h : Unl o) (hp : o.Perm o') : Unl o' :=
  ⟨((hp.map (·.1)).nodup_iff).1 h.nodup, fun c => by
    have := cntC_perm (hp.map (·.1)) c
    unfold cnts
    rw [← this]
    exact h.cnt c, fun y hy => h.ok y (hp.mem_iff.2 hy)⟩
/-- a list that lies in a block of its own -/
theorem OwnV.at {w : World} {base : Nat} {a : Option Addr} {n cap : Nat} {l : List Sv} (h : OwnV w base (.slice a n cap) l) : SvAt w a l := by
  cases l with
  | nil => exact .inl rfl
  | cons x0 r =>
    obtain ⟨g, rfl, -, hgl, -⟩ := h.cell (i := 0) (x := x0) rfl
    refine .inr ⟨g, 0, rfl, hgl, fun i x hx => ?_⟩
    obtain ⟨g', e, -, -, h0, h1, h2⟩ := h.cell hx
    cases e
    rw [Nat.zero_add]
    exact ⟨h0, h1, h2⟩
theorem SvAt.seats {w : World} {a : Option Addr} {l : List Sv} (h : SvAt w a l) (hN : ∀ x ∈ l, Named w x) : SeatsAt w a (l.map (·.1)) := by
  rcases h with h | ⟨b, off, e, hb, hc⟩
  · exact .inl (by rw [h]; rfl)
  · refine .inr ⟨b, off, e, hb, fun i k hk => ?_⟩
    rw [List.getElem?_map] at hk
    cases hx : l[i]? with
    | none => rw [hx] at hk; cases hk
    | some x =>
      rw [hx] at hk
      obtain rfl : x.1 = k := by simpa using hk
      obtain ⟨h0, h1, h2⟩ := hc i x hx
      exact ⟨h0, ⟨x.2.1, x.2.2, h1, hN x (List.mem_of_getElem? hx)⟩, h2⟩
end Go.Proofs.Ytjmnddcombepaaa
namespace Go.Proofs.Ytjmnddcombepaaa
open Go.ChangeShapes Go.WideShapes Go.ChangeAt Go.RowKit Go.Joins Go.Deep
set_option linter.unusedVariables false

theorem own : ownKnob Try.prog.godebug = none := by kernel_rfl
theorem laidOut : laidOutB Try.prog = true := by kernel_rfl
theorem list_four {α : Type} : ∀ {l : List α}, l.length = 4 → ∃ a b c d, l = [a, b, c, d]
  | [a, b, c, d], _ => ⟨a, b, c, d, rfl⟩
theorem open_four {H : Type} {enc : TypeId × Value → H} {P : Program} {w : World} {base : Nat} {spare : Nat → Bool} {held : Bool} {fuel : Nat} {t : TypeId} {f0 f1 f2 f3 : Field} {cs : List Value} {y : DataW H × List MemPlace} (hs : P.underlying t = some (.struct #[f0, f1, f2, f3])) (hC : P.cellsOf t = 4) (o0 : f0.offset = 0) (k0 : P.cellsOf f0.type = 1) (o1 : f1.offset = 1) (k1 : P.cellsOf f1.type = 1) (o2 : f2.offset = 2) (k2 : P.cellsOf f2.type = 1) (o3 : f3.offset = 3) (k3 : P.cellsOf f3.type = 1)
    (h : DataW.trod enc P w base spare held fuel t cs = some y) :
    ∃ (v0 v1 v2 v3 : Value) (y0 y1 y2 y3 : DataW H × List MemPlace) (n : Nat), cs = [v0, v1, v2, v3] ∧ y.1 = .agg [y0.1, y1.1, y2.1, y3.1] ∧ DataW.trod enc P w base spare held n f0.type [v0] = some y0 ∧ DataW.trod enc P w base spare held n f1.type [v1] = some y1 ∧ DataW.trod enc P w base spare held n f2.type [v2] = some y2 ∧ DataW.trod enc P w base spare held n f3.type [v3] = some y3 := by
  obtain ⟨xs, n, _, hx, hl, hlen, hf⟩ := DataW.trod_struct hs h
  obtain ⟨v0, v1, v2, v3, rfl⟩ := list_four (hl.trans hC)
  match xs, hlen with
  | [y0, y1, y2, y3], _ =>
    exact ⟨v0, v1, v2, v3, y0, y1, y2, y3, n, rfl, by rw [hx]; rfl, by simpa [o0, k0] using hf 0 f0 rfl, by simpa [o1, k1] using hf 1 f1 rfl, by simpa [o2, k2] using hf 2 f2 rfl, by simpa [o3, k3] using hf 3 f3 rfl⟩
end Go.Proofs.Ytjmnddcombepaaa
namespace Go.Proofs.Ytjmnddcombepaaa
open Go.ChangeShapes Go.WideShapes Go.ChangeAt Go.RowKit Go.Joins Go.Deep
set_option linter.unusedVariables false
set_option maxRecDepth 20000

theorem open_bytes {H : Type} {enc : TypeId × Value → H} {W : World} {n : Nat} {v : Value} {y : DataW H × List MemPlace}
    (hf : DataW.trod enc Try.prog W 0 (fun _ => true) true n 23 [v] = some y) :
    ∃ a cap l, v = .slice a l.length cap ∧ Bytes W a l ∧ (l.length ≤ cap ∧ cap ≤ 9223372036854775807) ∧ Small l ∧ (l = [] ∨ ∃ elems spare, y.1 = .slice elems spare ∧ elems.length = l.length) := by
  rcases open_ints Try.underlying23 Try.underlying5 (by kernel_rfl) hf with ⟨hcs, _⟩ | ⟨x, len, cap, zs, hcs, _, hl, hm, hz, hy, hcell, hwz⟩
  · cases hcs
    exact ⟨none, 0, [], rfl, .inl rfl, ⟨Nat.le_refl _, by omega⟩, (fun i hi => by simp at hi), .inl rfl⟩
  · cases hcs
    simp only [if_true] at hz
    have hlz : len ≤ zs.length := by omega
    have hlen : ((zs.take len).map Int.toNat).length = len := by simp; omega
    have hget : ∀ i, i < len → ((((zs.take len).map Int.toNat).getD i 0 : Nat) : Int) = zs.getD i 0 ∧ ((zs.take len).map Int.toNat).getD i 0 < 256 := by
      intro i hi
      have hiz : i < zs.length := by omega
      have hb := bounds_u8 (hwz (zs[i]) (List.getElem_mem hiz))
      have e1 : ((zs.take len).map Int.toNat).getD i 0 = (zs[i]).toNat := by
        rw [List.getD_eq_getElem?_getD, List.getElem?_map, List.getElem?_take, if_pos hi, List.getElem?_eq_getElem hiz]; rfl
      have e2 : zs.getD i 0 = zs[i] := by rw [List.getD_eq_getElem?_getD, List.getElem?_eq_getElem hiz]; rfl
      rw [e1, e2]
      omega
    refine ⟨some x, cap, (zs.take len).map Int.toNat, by rw [hlen], ?_, ⟨by rw [hlen]; exact hl, by simp only [maxLen] at hm; omega⟩, ?_, ?_⟩
    · by_cases h0 : len = 0
      · left; subst h0; simp
      · right
        obtain ⟨b, off, spot⟩ := x
        have hc := hcell 0 (by omega)
        have hspot : spot = none := by simpa [Addr.add] using World.cell?_spot hc
        subst hspot
        refine ⟨b, off, rfl, ?_, ?_⟩
        · have := block_lt_of_cell hc
          simpa [add_plain] using this
        · intro i hi
          rw [hlen] at hi
          have := hcell i (by omega)
          rw [add_plain] at this
          rw [this, (hget i hi).1]
    · intro i hi
      rw [hlen] at hi
      exact (hget i hi).2
    · right
      exact ⟨_, _, by rw [hy], by rw [hlen]; simp [lits]; omega⟩
/-- numbers below 256 as letters -/
def lettersOf (l : List Nat) : List UInt8 := l.map UInt8.ofNat
theorem letters_len (l : List Nat) : (lettersOf l).length = l.length := List.length_map ..
theorem letters_nb (l : List Nat) (h : Small l) : nb (lettersOf l) = l := by
  unfold nb lettersOf
  rw [List.map_map]
  conv => rhs; rw [← List.map_id l]
  apply List.map_congr_left
  intro x hx
  obtain ⟨i, hi, e⟩ := List.getElem_of_mem hx
  have := h i hi
  rw [List.getD_eq_getElem?_getD, List.getElem?_eq_getElem hi, e] at this
  have h2 : x < 256 := this
  simp
  omega
theorem mapM_some {α β : Type} (f : α → Option β) (l : List α) (cs : List β) (h : l.mapM f = some cs) : l.map f = cs.map some := by
  induction l generalizing cs with
  | nil => simp at h; subst h; rfl
  | cons x l ih =>
    rw [List.mapM_cons] at h
    cases hx : f x with
    | none => rw [hx] at h; simp at h
    | some y =>
      rw [hx] at h
      cases hl : l.mapM f with
      | none => rw [hl] at h; simp at h
      | some ys =>
        rw [hl] at h
        simp at h
        subst h
        simp [hx, ih ys hl]
theorem cells_each {W : World} {a : Addr} {n : Nat} {cs : List Value} (h : W.cells? 0 a n = some cs) : cs.length = n ∧ ∀ i, i < n → W.cell? (a.add i) = cs[i]? := by
  unfold World.cells? at h
  rw [if_pos (Nat.zero_le _)] at h
  have hm := mapM_some _ _ _ h
  have hlen : cs.length = n := by have := congrArg List.length hm; simpa using this.symm
  refine ⟨hlen, fun i hi => ?_⟩
  have := congrArg (fun l => l[i]?) hm
  simp only [List.getElem?_map, List.getElem?_range hi, Option.map_some] at this
  rw [List.getElem?_eq_getElem (by omega : i < cs.length)] at this ⊢
  simpa using this
theorem open_list3 {H : Type} {enc : TypeId × Value → H} {P : Program} {w : World} {base : Nat} {spare : Nat → Bool} {held : Bool} {fuel : Nat} {t : TypeId} {f0 f1 f2 : Go.Field} {cs : List Value} {y : DataW H × List MemPlace} (hs : P.underlying t = some (.struct #[f0, f1, f2])) (hone : oneCellFields P #[f0, f1, f2] = true) (hl : cs.length = 3)
    (h : DataW.trod enc P w base spare held fuel t cs = some y) :
    ∃ (c0 c1 c2 : Value) (y0 y1 y2 : DataW H × List MemPlace) (q : Nat), cs = [c0, c1, c2] ∧ y.1 = .agg [y0.1, y1.1, y2.1] ∧ DataW.trod enc P w base spare held q f0.type [c0] = some y0 ∧ DataW.trod enc P w base spare held q f1.type [c1] = some y1 ∧ DataW.trod enc P w base spare held q f2.type [c2] = some y2 := by
  match cs, hl with
  | [c0, c1, c2], _ =>
    obtain ⟨xs, q, _, hx, _, hlen, hf⟩ := DataW.trod_struct hs h
    obtain ⟨o0, k0⟩ := hone_of hone 0 f0 rfl
    obtain ⟨o1, k1⟩ := hone_of hone 1 f1 rfl
    obtain ⟨o2, k2⟩ := hone_of hone 2 f2 rfl
    match xs, hlen with
    | [y0, y1, y2], _ => exact ⟨c0, c1, c2, y0, y1, y2, q, rfl, by rw [hx]; rfl, by simpa [o0, k0] using hf 0 f0 rfl, by simpa [o1, k1] using hf 1 f1 rfl, by simpa [o2, k2] using hf 2 f2 rfl⟩
theorem cells40 : Try.prog.cellsOf 40 = 3 := by kernel_rfl
/-- a list of seats, opened -/
theorem open_seats {H : Type} {enc : TypeId × Value → H} {W : World} {n : Nat} {v : Value} {y : DataW H × List MemPlace} (hf : DataW.trod enc Try.prog W 0 (fun _ => true) true n 22 [v] = some y) :
    ∃ (a : Option Addr) (cap : Nat) (l : List Sv), v = .slice a l.length cap ∧ SvAt W a l ∧ (∀ x ∈ l, Named W x) ∧ (∀ x ∈ l, (-9223372036854775808 ≤ x.1.1 ∧ x.1.1 ≤ 9223372036854775807) ∧ x.1.2.1.length ≤ x.2.2 ∧ x.1.2.1.length ≤ 9223372036854775807) := by
  rcases open_slice Try.underlying22 hf with ⟨hcs, _⟩ | ⟨a, len, cap, m, q, D, Pl, hcs, _, hlc, _, hm, hy, heach⟩
  · cases hcs
    exact ⟨_, 0, [], rfl, .inl rfl, by simp, by simp⟩
  · cases hcs
    simp only [if_true] at hm
    by_cases h0 : len = 0
    · subst h0; exact ⟨some a, cap, [], rfl, .inl rfl, by simp, by simp⟩
    · rw [cells40] at heach
      obtain ⟨b, off, spot⟩ := a
      have hplace : spot = none ∧ b < W.heap.size := by
        obtain ⟨cs', hc, _⟩ := heach 0 (by omega)
        obtain ⟨hl, he⟩ := cells_each hc
        have h00 := he 0 (by omega)
        rw [List.getElem?_eq_getElem (by omega : 0 < cs'.length)] at h00
        have e00 : ((⟨b, off, spot⟩ : Addr).add (0 * 3)).add 0 = ⟨b, off, spot⟩ := by simp [Addr.add]
        rw [e00] at h00
        exact ⟨World.cell?_spot h00, block_lt_of_cell h00⟩
      obtain ⟨rfl, hb⟩ := hplace
      have hx : ∀ i, ∃ z : Sv, i < len → (W.cell? ⟨b, off + i * 3, none⟩ = some (.int .i64 z.1.1) ∧ W.cell? ⟨b, off + i * 3 + 1, none⟩ = some (.slice z.2.1 z.1.2.1.length z.2.2) ∧ W.cell? ⟨b, off + i * 3 + 2, none⟩ = some (.bool z.1.2.2)) ∧ Named W z ∧ ((-9223372036854775808 ≤ z.1.1 ∧ z.1.1 ≤ 9223372036854775807) ∧ z.1.2.1.length ≤ z.2.2 ∧ z.1.2.1.length ≤ 9223372036854775807) := by
        intro i
        by_cases hi : i < len
        · obtain ⟨cs', hc, ht'⟩ := heach i (by omega)
          obtain ⟨hl, hcell⟩ := cells_each hc
          obtain ⟨c0, c1, c2, y0, y1, y2, q', rfl, _, t0, t1, t2⟩ := open_list3 Try.underlying40 (by kernel_rfl) hl ht'
          obtain ⟨x0, e0, _, w0⟩ := DataW.trod_int Try.underlying3 t0
          obtain ⟨na, nc, L, e1, hN, hcp, hS, _⟩ := open_bytes t1
          obtain ⟨x2, e2, _⟩ := DataW.trod_bool Try.underlying4 t2
          cases e0
          cases e2
          subst e1
          have hj : ∀ j, j < 3 → W.cell? ⟨b, off + i * 3 + j, none⟩ = ([.int .i64 x0, .slice na L.length nc, .bool x2] : List Value)[j]? := fun j hj => by
            have := hcell j hj
            rw [add_plain, add_plain] at this
            exact this
          refine ⟨((x0, lettersOf L, x2), na, nc), fun _ => ⟨⟨hj 0 (by omega), ?_, hj 2 (by omega)⟩, ?_, bounds_i64 w0, ?_, ?_⟩⟩
          · simp only [letters_len]
            exact hj 1 (by omega)
          · unfold Named
            rw [letters_nb L hS]
            exact hN
          · simp only [letters_len]
            exact hcp.1
          · simp only [letters_len]
            omega
        · exact ⟨((0, [], false), none, 0), fun h => absurd h hi⟩
      obtain ⟨f, hfx⟩ := Classical.axiomOfChoice hx
      have hL : ((List.range len).map f).length = len := by simp
      have hmem : ∀ x ∈ (List.range len).map f, ∃ i, i < len ∧ f i = x := fun x hx => by
        obtain ⟨i, hi, e⟩ := List.mem_map.1 hx
        exact ⟨i, List.mem_range.1 hi, e⟩
      refine ⟨some ⟨b, off, none⟩, cap, (List.range len).map f, by rw [hL], .inr ⟨b, off, rfl, hb, fun i x hx => ?_⟩, fun x hx => ?_, fun x hx => ?_⟩
      · have hi : i < len := by
          have := (List.getElem?_eq_some_iff.1 hx).1
          rw [hL] at this
          exact this
        rw [List.getElem?_map, List.getElem?_range hi] at hx
        obtain rfl : f i = x := by simpa using hx
        exact (hfx i hi).1
      · obtain ⟨i, hi, rfl⟩ := hmem x hx
        exact (hfx i hi).2.1
      · obtain ⟨i, hi, rfl⟩ := hmem x hx
        exact (hfx i hi).2.2
end Go.Proofs.Ytjmnddcombepaaa
