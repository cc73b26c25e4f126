/- Lists of pieces that came in. -/
import Derived.Test.YtidfbelckdlbhaaWrd
import Derived.Test.YtidfbelckdlbhaaOpn
namespace Go.Proofs.Ytidfbelckdlbhaa
open Go.ChangeShapes Go.WideShapes Go.ChangeAt Go.RowKit Go.Joins Go.Deep
set_option linter.unusedVariables false

theorem Try.bytes60 : Try.prog.bytesOf 60 = 4 := by kernel_rfl
theorem Try.cells60 : Try.prog.cellsOf 60 = 4 := by kernel_rfl
theorem Try.bytes38 : Try.prog.bytesOf 38 = 40 := by kernel_rfl
theorem Try.cells38 : Try.prog.cellsOf 38 = 4 := by kernel_rfl
theorem mapM_someP {α β : Type} (f : α → Option β) (l : List α) (cs : List β) (h : l.mapM f = some cs) : l.map f = cs.map some := by
  induction l generalizing cs with
  | nil => simp at h; subst h; rfl
  | cons x l ih =>
    rw [List.mapM_cons] at h
    cases hx : f x with
    | none => rw [hx] at h; simp at h
    | some y =>
      rw [hx] at h
      cases hl : l.mapM f with
      | none => rw [hl] at h; simp at h
      | some ys =>
        rw [hl] at h
        simp at h
        subst h
        simp [hx, ih ys hl]
theorem cells_eachP {W : World} {a : Addr} {n : Nat} {cs : List Value} (h : W.cells? 0 a n = some cs) : cs.length = n ∧ ∀ i, i < n → W.cell? (a.add i) = cs[i]? := by
  unfold World.cells? at h
  rw [if_pos (Nat.zero_le _)] at h
  have hm := mapM_someP _ _ _ h
  have hlen : cs.length = n := by have := congrArg List.length hm; simpa using this.symm
  refine ⟨hlen, fun i hi => ?_⟩
  have := congrArg (fun l => l[i]?) hm
  simp only [List.getElem?_map, List.getElem?_range hi, Option.map_some] at this
  rw [List.getElem?_eq_getElem (by omega : i < cs.length)] at this ⊢
  simpa using this
theorem weights_allP {H : Type} {P : Program} {e : TypeId} {d : DataW H} {m : Nat} : ∀ {l : List (DataW H)}, d ∈ l → m ∈ DataW.weights P e d → m ∈ DataW.weightsAll P e l
  | x :: l, hd, hm => by
    simp only [DataW.weightsAll, List.mem_append]
    rcases List.mem_cons.1 hd with rfl | h
    · exact .inl hm
    · exact .inr (weights_allP h hm)
theorem held_sizedP {H : Type} {P : Program} {t : TypeId} {ts : List TypeId} {d : DataW H} {ds : List (DataW H)} {m : Nat} (hsz : (DataW.weightsEach P (t :: ts) (d :: ds)).all (· ≤ reachBytes) = true) (hm : m ∈ DataW.weights P t d) : m ≤ 140737488351232 := by
  have h := List.all_eq_true.1 hsz _ (DataW.weights_mem_each (j := 0) (t := t) (d := d) rfl rfl _ hm)
  exact of_decide_eq_true h
theorem list_4 {α : Type} {cs : List α} (h : cs.length = 4) : ∃ v0 v1 v2 v3, cs = [v0, v1, v2, v3] := by
  match cs, h with
  | [v0, v1, v2, v3], _ => exact ⟨v0, v1, v2, v3, rfl⟩
theorem open_four {H : Type} {enc : TypeId × Value → H} {P : Program} {w : World} {base : Nat} {spare : Nat → Bool} {held : Bool} {fuel : Nat} {t : TypeId} {f0 f1 f2 f3 : Field} {cs : List Value} {y : DataW H × List MemPlace} (hs : P.underlying t = some (.struct #[f0, f1, f2, f3])) (hC : P.cellsOf t = 4) (o0 : f0.offset = 0) (k0 : P.cellsOf f0.type = 1) (o1 : f1.offset = 1) (k1 : P.cellsOf f1.type = 1) (o2 : f2.offset = 2) (k2 : P.cellsOf f2.type = 1) (o3 : f3.offset = 3) (k3 : P.cellsOf f3.type = 1)
    (h : DataW.trod enc P w base spare held fuel t cs = some y) :
    ∃ (v0 v1 v2 v3 : Value) (y0 y1 y2 y3 : DataW H × List MemPlace) (n : Nat), cs = [v0, v1, v2, v3] ∧ y.1 = .agg [y0.1, y1.1, y2.1, y3.1] ∧ DataW.trod enc P w base spare held n f0.type [v0] = some y0 ∧ DataW.trod enc P w base spare held n f1.type [v1] = some y1 ∧ DataW.trod enc P w base spare held n f2.type [v2] = some y2 ∧ DataW.trod enc P w base spare held n f3.type [v3] = some y3 := by
  obtain ⟨xs, n, _, hx, hl, hlen, hf⟩ := DataW.trod_struct hs h
  obtain ⟨v0, v1, v2, v3, rfl⟩ := list_4 (hl.trans hC)
  match xs, hlen with
  | [y0, y1, y2, y3], _ =>
    exact ⟨v0, v1, v2, v3, y0, y1, y2, y3, n, rfl, by rw [hx]; rfl, by simpa [o0, k0] using hf 0 f0 rfl, by simpa [o1, k1] using hf 1 f1 rfl, by simpa [o2, k2] using hf 2 f2 rfl, by simpa [o3, k3] using hf 3 f3 rfl⟩
theorem pick_list {X : Type} (P : Nat → X → Prop) : ∀ n, (∀ k, k < n → ∃ x, P k x) → ∃ l : List X, l.length = n ∧ ∀ i x, l[i]? = some x → P i x
  | 0, _ => ⟨[], rfl, fun i x h => by simp at h⟩
  | n + 1, h => by
    obtain ⟨l, hl, hp⟩ := pick_list P n (fun k hk => h k (by omega))
    obtain ⟨x, hx⟩ := h n (by omega)
    refine ⟨l ++ [x], by simp [hl], fun i y hy => ?_⟩
    by_cases hi : i < n
    · rw [List.getElem?_append_left (by omega)] at hy
      exact hp i y hy
    · have hlt := (List.getElem?_eq_some_iff.1 hy).1
      simp [hl] at hlt
      obtain rfl : i = n := by omega
      rw [List.getElem?_append_right (by omega), hl] at hy
      simp at hy
      subst hy
      exact hx
theorem place_of {W : World} {b off : Nat} {spot : Option Nat} {cs : List Value} (hc : W.cells? 0 ((⟨b, off, spot⟩ : Addr).add (0 * 4)) 4 = some cs) : spot = none ∧ b < W.heap.size := by
  obtain ⟨hl, he⟩ := cells_eachP hc
  have h00 := he 0 (by omega)
  rw [List.getElem?_eq_getElem (by omega : 0 < cs.length)] at h00
  have e00 : ((⟨b, off, spot⟩ : Addr).add (0 * 4)).add 0 = ⟨b, off, spot⟩ := by simp [Addr.add]
  rw [e00] at h00
  exact ⟨World.cell?_spot h00, block_lt_of_cell h00⟩
theorem open_member {H : Type} {enc : TypeId × Value → H} {W : World} {n : Nat} {cs : List Value} {y : DataW H × List MemPlace}
    (hf : DataW.trod enc Try.prog W 0 (fun _ => true) true n 60 cs = some y) :
    ∃ m : Larder.Mb, cs = [.int .u8 (m.lo : Nat), .int .u8 (m.hi : Nat), .bool m.rng, .bool m.pl] ∧ m.lo < 256 ∧ m.hi < 256 := by
  obtain ⟨v0, v1, v2, v3, y0, y1, y2, y3, q, rfl, hd, t0, t1, t2, t3⟩ := open_four Try.underlying60 (by kernel_rfl) rfl (by kernel_rfl) rfl (by kernel_rfl) rfl (by kernel_rfl) rfl (by kernel_rfl) hf
  obtain ⟨lo, e0, _, w0⟩ := DataW.trod_int Try.underlying5 t0
  obtain ⟨hi, e1, _, w1⟩ := DataW.trod_int Try.underlying5 t1
  obtain ⟨rg, e2, _⟩ := DataW.trod_bool Try.underlying4 t2
  obtain ⟨pl, e3, _⟩ := DataW.trod_bool Try.underlying4 t3
  have b0 := bounds_u8 w0
  have b1 := bounds_u8 w1
  cases e0
  cases e1
  cases e2
  cases e3
  refine ⟨⟨lo.toNat, hi.toNat, rg, pl⟩, ?_, by dsimp only; omega, by dsimp only; omega⟩
  dsimp only
  rw [show ((lo.toNat : Nat) : Int) = lo by omega, show ((hi.toNat : Nat) : Int) = hi by omega]
theorem open_members {H : Type} {enc : TypeId × Value → H} {W : World} {fuel : Nat} {v : Value} {y : DataW H × List MemPlace}
    (hf : DataW.trod enc Try.prog W 0 (fun _ => true) true fuel 36 [v] = some y) (hw : ∀ m, m ∈ DataW.weights Try.prog 36 y.1 → m ≤ 140737488351232) :
    ∃ a ms cap, v = .slice a (List.length ms) cap ∧ ms.length ≤ 35184372088832 ∧ MsAt W a ms ∧ MsSmall ms := by
  rcases open_slice Try.underlying36 hf with ⟨hcs, _⟩ | ⟨a, len, cap, m, q, D, Pl, hcs, _, hlc, _, hm, hy, heach⟩
  · cases hcs
    exact ⟨_, [], 0, rfl, by simp, .inl rfl, fun m h => by cases h⟩
  · cases hcs
    simp only [if_true] at hm
    have hlen : len ≤ 35184372088832 := by
      have hmm := hw ((len + (m - len)) * Try.prog.bytesOf 60) (by
        rw [hy]
        simp [DataW.weights, Try.underlying36])
      rw [Try.bytes60] at hmm
      omega
    by_cases h0 : len = 0
    · subst h0
      exact ⟨_, [], cap, rfl, by simp, .inl rfl, fun m h => by cases h⟩
    · rw [Try.cells60] at heach
      obtain ⟨b, off, spot⟩ := a
      obtain ⟨rfl, hb⟩ := place_of (heach 0 (by omega)).choose_spec.1
      obtain ⟨ms, hms, hP⟩ := pick_list (fun k (x : Larder.Mb) => MbAt W b (off + k * 4) x ∧ x.lo < 256 ∧ x.hi < 256) len (fun k hk => by
        obtain ⟨cs', hc, ht⟩ := heach k (by omega)
        obtain ⟨hl, he⟩ := cells_eachP hc
        obtain ⟨x, rfl, h1, h2⟩ := open_member ht
        refine ⟨x, ⟨?_, ?_, ?_, ?_⟩, h1, h2⟩
        · have := he 0 (by omega); rw [add_plain, add_plain] at this; exact this
        · have := he 1 (by omega); rw [add_plain, add_plain] at this; exact this
        · have := he 2 (by omega); rw [add_plain, add_plain] at this; exact this
        · have := he 3 (by omega); rw [add_plain, add_plain] at this; exact this)
      refine ⟨_, ms, cap, by rw [hms], by omega, .inr ⟨b, off, rfl, hb, fun i x hx => (hP i x hx).1⟩, fun x hx => ?_⟩
      obtain ⟨i, hi⟩ := List.getElem?_of_mem hx
      exact (hP i x hi).2
theorem open_piece {H : Type} {enc : TypeId × Value → H} {W : World} {n : Nat} {cs : List Value} {y : DataW H × List MemPlace}
    (hf : DataW.trod enc Try.prog W 0 (fun _ => true) true n 38 cs = some y) (hw : ∀ m, m ∈ DataW.weights Try.prog 38 y.1 → m ≤ 140737488351232) :
    ∃ (x : Larder.Pcd) (am : Option Addr) (cm : Nat), cs = [.int .i64 x.d, .int .u8 (x.b : Nat), .bool x.nt, .slice am x.ms.length cm] ∧ PcOk x ∧ MsAt W am x.ms := by
  obtain ⟨v0, v1, v2, v3, y0, y1, y2, y3, q, rfl, hd, t0, t1, t2, t3⟩ := open_four Try.underlying38 (by kernel_rfl) rfl (by kernel_rfl) rfl (by kernel_rfl) rfl (by kernel_rfl) rfl (by kernel_rfl) hf
  obtain ⟨d, e0, _, w0⟩ := DataW.trod_int Try.underlying3 t0
  obtain ⟨b, e1, _, w1⟩ := DataW.trod_int Try.underlying5 t1
  obtain ⟨nt, e2, _⟩ := DataW.trod_bool Try.underlying4 t2
  obtain ⟨am, ms, cm, e3, l3, hM, hS⟩ := open_members t3 (fun m hm => hw m (by
    rw [hd]
    simp only [DataW.weights, Try.underlying38]
    exact DataW.weights_mem_each (j := 3) (t := 36) (d := y3.1) rfl rfl _ hm))
  have b1 := bounds_u8 w1
  cases e0
  cases e1
  cases e2
  cases e3
  refine ⟨⟨d, b.toNat, nt, ms⟩, am, cm, ?_, ⟨by dsimp only; omega, l3, hS⟩, hM⟩
  dsimp only
  rw [show ((b.toNat : Nat) : Int) = b by omega]
theorem open_pieces {H : Type} {enc : TypeId × Value → H} {W : World} {fuel : Nat} {v : Value} {y : DataW H × List MemPlace}
    (hf : DataW.trod enc Try.prog W 0 (fun _ => true) true fuel 33 [v] = some y) (hw : ∀ m, m ∈ DataW.weights Try.prog 33 y.1 → m ≤ 140737488351232) :
    ∃ a xs cap, v = .slice a (List.length xs) cap ∧ xs.length ≤ 4611686018427387904 ∧ PcsAt W a xs := by
  rcases open_slice Try.underlying33 hf with ⟨hcs, _⟩ | ⟨a, len, cap, m, q, D, Pl, hcs, _, hlc, _, hm, hy, heach⟩
  · cases hcs
    exact ⟨_, [], 0, rfl, by simp, .inl rfl⟩
  · cases hcs
    simp only [if_true] at hm
    have hlen : len ≤ 35184372088832 := by
      have hmm := hw ((len + (m - len)) * Try.prog.bytesOf 38) (by
        rw [hy]
        simp [DataW.weights, Try.underlying33])
      rw [Try.bytes38] at hmm
      omega
    by_cases h0 : len = 0
    · subst h0
      exact ⟨_, [], cap, rfl, by simp, .inl rfl⟩
    · rw [Try.cells38] at heach
      obtain ⟨b, off, spot⟩ := a
      obtain ⟨rfl, hb⟩ := place_of (heach 0 (by omega)).choose_spec.1
      obtain ⟨xs, hxs, hP⟩ := pick_list (fun k (x : Larder.Pcd) => PcOk x ∧ ∃ am cm, MsAt W am x.ms ∧ W.cell? ⟨b, off + k * 4, none⟩ = some (.int .i64 x.d) ∧ W.cell? ⟨b, off + k * 4 + 1, none⟩ = some (.int .u8 (x.b : Nat)) ∧ W.cell? ⟨b, off + k * 4 + 2, none⟩ = some (.bool x.nt) ∧ W.cell? ⟨b, off + k * 4 + 3, none⟩ = some (.slice am x.ms.length cm)) len (fun k hk => by
        obtain ⟨cs', hc, ht⟩ := heach k (by omega)
        obtain ⟨hl, he⟩ := cells_eachP hc
        obtain ⟨x, am, cm, rfl, h1, h2⟩ := open_piece ht (fun m hm => hw m (by
          rw [hy]
          simp only [DataW.weights, Try.underlying33]
          exact List.mem_cons_of_mem _ (List.mem_append_left _ (weights_allP (List.mem_map.2 ⟨k, List.mem_range.2 hk, rfl⟩) hm))))
        refine ⟨x, h1, am, cm, h2, ?_, ?_, ?_, ?_⟩
        · have := he 0 (by omega); rw [add_plain, add_plain] at this; exact this
        · have := he 1 (by omega); rw [add_plain, add_plain] at this; exact this
        · have := he 2 (by omega); rw [add_plain, add_plain] at this; exact this
        · have := he 3 (by omega); rw [add_plain, add_plain] at this; exact this)
      exact ⟨_, xs, cap, by rw [hxs], by omega, .inr ⟨b, off, rfl, hb, hP⟩⟩
end Go.Proofs.Ytidfbelckdlbhaa
