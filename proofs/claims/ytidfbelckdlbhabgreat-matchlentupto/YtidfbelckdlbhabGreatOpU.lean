/- A list of Asks that came in, of bounded bulk. -/
import Derived.Test.YtidfbelckdlbhabGreatHld
import Derived.Test.YtidfbelckdlbhabGreatHew
namespace Go.Proofs.YtidfbelckdlbhabGreat
open Go.ChangeShapes Go.WideShapes Go.ChangeAt Go.RowKit Go.Joins Go.Deep
set_option linter.unusedVariables false

theorem Tryz.bytes58 : Tryz.prog.bytesOf 58 = 208 := by kernel_rfl
theorem Tryz.cells58 : Tryz.prog.cellsOf 58 = 18 := by kernel_rfl
theorem mapM_some {α β : Type} (f : α → Option β) (l : List α) (cs : List β) (h : l.mapM f = some cs) : l.map f = cs.map some := by
  induction l generalizing cs with
  | nil => simp at h; subst h; rfl
  | cons x l ih =>
    rw [List.mapM_cons] at h
    cases hx : f x with
    | none => rw [hx] at h; simp at h
    | some y =>
      rw [hx] at h
      cases hl : l.mapM f with
      | none => rw [hl] at h; simp at h
      | some ys =>
        rw [hl] at h
        simp at h
        subst h
        simp [hx, ih ys hl]

theorem cells_each {W : World} {a : Addr} {n : Nat} {cs : List Value} (h : W.cells? 0 a n = some cs) : cs.length = n ∧ ∀ i, i < n → W.cell? (a.add i) = cs[i]? := by
  unfold World.cells? at h
  rw [if_pos (Nat.zero_le _)] at h
  have hm := mapM_some _ _ _ h
  have hlen : cs.length = n := by have := congrArg List.length hm; simpa using this.symm
  refine ⟨hlen, fun i hi => ?_⟩
  have := congrArg (fun l => l[i]?) hm
  simp only [List.getElem?_map, List.getElem?_range hi, Option.map_some] at this
  rw [List.getElem?_eq_getElem (by omega : i < cs.length)] at this ⊢
  simpa using this

theorem weights_all {H : Type} {P : Program} {e : TypeId} {d : DataW H} {m : Nat} : ∀ {l : List (DataW H)}, d ∈ l → m ∈ DataW.weights P e d → m ∈ DataW.weightsAll P e l
  | x :: l, hd, hm => by
    simp only [DataW.weightsAll, List.mem_append]
    rcases List.mem_cons.1 hd with rfl | h
    · exact .inl hm
    · exact .inr (weights_all h hm)

/-- the row's own bound, of what a script's call holds -/
theorem held_sized {H : Type} {P : Program} {t : TypeId} {ts : List TypeId} {d : DataW H} {ds : List (DataW H)} {m : Nat} (hsz : (DataW.weightsEach P (t :: ts) (d :: ds)).all (· ≤ reachBytes) = true) (hm : m ∈ DataW.weights P t d) : m ≤ 140737488351232 := by
  have h := List.all_eq_true.1 hsz _ (DataW.weights_mem_each (j := 0) (t := t) (d := d) rfl rfl _ hm)
  exact of_decide_eq_true h
theorem bytes_sized {H : Type} {l : List Nat} {y : DataW H} (hlen : l = [] ∨ ∃ elems spare, y = .slice elems spare ∧ elems.length = l.length) (h : ∀ m, m ∈ DataW.weights Tryz.prog 34 y → m ≤ 140737488351232) : l.length ≤ 140737488351232 := by
  rcases hlen with rfl | ⟨el, sp, he, hn⟩
  · simp
  · have := h ((el.length + sp.length) * Tryz.prog.bytesOf 5) (by rw [he]; simp [DataW.weights, Tryz.underlying34])
    rw [Tryz.bytes5] at this
    omega

theorem open_inb {H : Type} {enc : TypeId × Value → H} {W : World} {n : Nat} {v : Value} {y : DataW H × List MemPlace}
    (hf : DataW.trod enc Tryz.prog W 0 (fun _ => true) true n 34 [v] = some y) (h : ∀ m, m ∈ DataW.weights Tryz.prog 34 y.1 → m ≤ 140737488351232) :
    ∃ a cap l, v = .slice a l.length cap ∧ InB W a cap l := by
  obtain ⟨a, cap, l, rfl, hB, hnil, hcap, hs, hlen⟩ := open_bytes hf
  exact ⟨a, cap, l, rfl, hB, hs, hcap.1, hcap.2, bytes_sized hlen h, hnil⟩
theorem open_ask {H : Type} {enc : TypeId × Value → H} {W : World} {n : Nat} {cs : List Value} {y : DataW H × List MemPlace}
    (hf : DataW.trod enc Tryz.prog W 0 (fun _ => true) true n 58 cs = some y) (hw : ∀ m, m ∈ DataW.weights Tryz.prog 58 y.1 → m ≤ 140737488351232) :
    ∃ x : AskD, cs = x.arr.toList ∧ AskOk W x := by
  obtain ⟨u0, u1, u2, u3, u4, u5, u6, u7, u8, u9, u10, u11, u12, u13, u14, u15, u16, u17, y0, y1, y2, y3, y4, y5, y6, y7, y8, y9, q, rfl, hd, t0, t1, t2, t3, t4, t5, t6, t7, t8, t9⟩ := open_ask0 Tryz.underlying58 (by kernel_rfl) rfl (by kernel_rfl) rfl (by kernel_rfl) rfl (by kernel_rfl) rfl (by kernel_rfl) rfl (by kernel_rfl) rfl (by kernel_rfl) rfl (by kernel_rfl) rfl (by kernel_rfl) rfl (by kernel_rfl) rfl (by kernel_rfl) hf
  have up : ∀ j t d, ([3, 34, 34, 2, 2, 3, 30, 30, 36, 36] : List TypeId)[j]? = some t → [y0.1, y1.1, y2.1, y3.1, y4.1, y5.1, y6.1, y7.1, y8.1, y9.1][j]? = some d → ∀ m, m ∈ DataW.weights Tryz.prog t d → m ≤ 140737488351232 := fun j t d h1 h2 m hm => hw m (by
    rw [hd]
    simp only [DataW.weights, Tryz.underlying58]
    exact DataW.weights_mem_each (j := j) (t := t) (d := d) h1 h2 _ hm)
  obtain ⟨D, e0, _, w0⟩ := DataW.trod_int Tryz.underlying3 t0
  obtain ⟨I, e3, _, w3⟩ := DataW.trod_int Tryz.underlying2 t3
  obtain ⟨J, e4, _, w4⟩ := DataW.trod_int Tryz.underlying2 t4
  obtain ⟨N, e5, _, w5⟩ := DataW.trod_int Tryz.underlying3 t5
  obtain ⟨a0, a1, a2, qa, ha, p0, p1, p2⟩ := open_three Tryz.underlying30 (by kernel_rfl) t6
  obtain ⟨b0, b1, b2, qb, hb, q0, q1, q2⟩ := open_three Tryz.underlying30 (by kernel_rfl) t7
  obtain ⟨c0, c1, c2, qc, hc, r0, r1, r2⟩ := open_three Tryz.underlying36 (by kernel_rfl) t8
  obtain ⟨d0, d1, d2, qd, hdd, s0, s1, s2⟩ := open_three Tryz.underlying36 (by kernel_rfl) t9
  obtain ⟨lf, f0, _, x0⟩ := DataW.trod_int Tryz.underlying3 p0
  obtain ⟨ls, f1, _, x1⟩ := DataW.trod_int Tryz.underlying2 p1
  obtain ⟨lo, f2, _⟩ := DataW.trod_bool Tryz.underlying4 p2
  obtain ⟨hf', g0, _, z0⟩ := DataW.trod_int Tryz.underlying3 q0
  obtain ⟨hs, g1, _, z1⟩ := DataW.trod_int Tryz.underlying2 q1
  obtain ⟨ho, g2, _⟩ := DataW.trod_bool Tryz.underlying4 q2
  obtain ⟨ff, k0, _, z2⟩ := DataW.trod_int Tryz.underlying3 r0
  obtain ⟨fo, k2, _⟩ := DataW.trod_bool Tryz.underlying4 r2
  obtain ⟨uf, l0, _, z3⟩ := DataW.trod_int Tryz.underlying3 s0
  obtain ⟨uo, l2, _⟩ := DataW.trod_bool Tryz.underlying4 s2
  obtain ⟨aP, cP, P, rfl, hP⟩ := open_inb t1 (up 1 34 _ rfl rfl)
  obtain ⟨aT, cT, T, rfl, hT⟩ := open_inb t2 (up 2 34 _ rfl rfl)
  obtain ⟨aF, cF, F, rfl, hF⟩ := open_inb r1 (fun m hm => up 8 36 _ rfl rfl m (by
    rw [hc]
    simp only [DataW.weights, Tryz.underlying36]
    exact DataW.weights_mem_each (j := 1) (t := 34) (d := c1.1) rfl rfl _ hm))
  obtain ⟨aU, cU, U, rfl, hU⟩ := open_inb s1 (fun m hm => up 9 36 _ rfl rfl m (by
    rw [hdd]
    simp only [DataW.weights, Tryz.underlying36]
    exact DataW.weights_mem_each (j := 1) (t := 34) (d := d1.1) rfl rfl _ hm))
  cases e0
  cases e3
  cases e4
  cases e5
  cases f0
  cases f1
  cases f2
  cases g0
  cases g1
  cases g2
  cases k0
  cases k2
  cases l0
  cases l2
  exact ⟨⟨D, P, aP, cP, T, aT, cT, I, J, N, lf, ls, lo, hf', hs, ho, ff, F, aF, cF, fo, uf, U, aU, cU, uo⟩, rfl, ⟨bounds_i64 w0, bounds_i64 w3, bounds_i64 w4, bounds_i64 w5, bounds_i64 x0, bounds_i64 x1, bounds_i64 z0, bounds_i64 z1, bounds_i64 z2, bounds_i64 z3⟩, hP, hT, hF, hU⟩

theorem open_asks {H : Type} {enc : TypeId × Value → H} {W : World} {fuel : Nat} {v : Value} {y : DataW H × List MemPlace}
    (hf : DataW.trod enc Tryz.prog W 0 (fun _ => true) true fuel 22 [v] = some y) (hw : ∀ m, m ∈ DataW.weights Tryz.prog 22 y.1 → m ≤ 140737488351232) :
    ∃ a n cap, v = .slice a n cap ∧ n ≤ 140737488351232 ∧ (n = 0 ∨ ∃ b off, a = some ⟨b, off, none⟩ ∧ b < W.heap.size ∧ ∀ k, k < n → ∃ x : AskD, AskAt W b (off + k * 18) x ∧ AskOk W x) := by
  rcases open_slice Tryz.underlying22 hf with ⟨hcs, _⟩ | ⟨a, len, cap, m, q, D, Pl, hcs, _, hlc, _, hm, hy, heach⟩
  · cases hcs
    exact ⟨_, 0, 0, rfl, Nat.zero_le _, .inl rfl⟩
  · cases hcs
    simp only [if_true] at hm
    have hlen : len ≤ 140737488351232 := by
      have hmm := hw ((len + (m - len)) * Tryz.prog.bytesOf 58) (by
        rw [hy]
        simp [DataW.weights, Tryz.underlying22])
      rw [Tryz.bytes58] at hmm
      omega
    refine ⟨_, len, cap, rfl, hlen, ?_⟩
    by_cases h0 : len = 0
    · exact .inl h0
    · right
      rw [Tryz.cells58] at heach
      obtain ⟨b, off, spot⟩ := a
      have hplace : spot = none ∧ b < W.heap.size := by
        obtain ⟨cs', hc, _⟩ := heach 0 (by omega)
        obtain ⟨hl, he⟩ := cells_each hc
        have h00 := he 0 (by omega)
        rw [List.getElem?_eq_getElem (by omega : 0 < cs'.length)] at h00
        have e00 : ((⟨b, off, spot⟩ : Addr).add (0 * 18)).add 0 = ⟨b, off, spot⟩ := by simp [Addr.add]
        rw [e00] at h00
        exact ⟨World.cell?_spot h00, block_lt_of_cell h00⟩
      obtain ⟨rfl, hb⟩ := hplace
      refine ⟨b, off, rfl, hb, fun k hk => ?_⟩
      obtain ⟨cs', hc, ht⟩ := heach k (by omega)
      obtain ⟨hl, he⟩ := cells_each hc
      have hup : ∀ m, m ∈ DataW.weights Tryz.prog 58 (D k) → m ≤ 140737488351232 := fun m hm => hw m (by
        rw [hy]
        simp only [DataW.weights, Tryz.underlying22]
        exact List.mem_cons_of_mem _ (List.mem_append_left _ (weights_all (List.mem_map.2 ⟨k, List.mem_range.2 hk, rfl⟩) hm)))
      obtain ⟨x, rfl, hx⟩ := open_ask ht hup
      refine ⟨x, fun j v hj => ?_, hx⟩
      have hjl : j < 18 := by
        have := (List.getElem?_eq_some_iff.1 hj).1
        simpa [AskD.arr] using this
      have := he j hjl
      rw [add_plain, add_plain] at this
      rw [this, hj]
end Go.Proofs.YtidfbelckdlbhabGreat
namespace Go.Proofs.YtidfbelckdlbhabGreat
open Go.ChangeShapes Go.WideShapes Go.ChangeAt Go.RowKit Go.Joins Go.Deep
set_option linter.unusedVariables false

theorem bulk_one {H : Type} (d : DataW H) : 1 ≤ Rows.uptoBulk d := by
  cases d with
  | lit l => cases l <;> simp [Rows.uptoBulk]
  | _ => simp [Rows.uptoBulk]
theorem bulk_part {H : Type} {d : DataW H} {l : List (DataW H)} (h : d ∈ l) : Rows.uptoBulk d ≤ Rows.uptoBulkAll l := by
  induction l with
  | nil => cases h
  | cons x r ih =>
    simp only [Rows.uptoBulkAll]
    rcases List.mem_cons.1 h with e | e
    · subst e; omega
    · have := ih e; omega
theorem bulk_len {H : Type} (l : List (DataW H)) : l.length ≤ Rows.uptoBulkAll l := by
  induction l with
  | nil => simp
  | cons x r ih =>
    have := bulk_one x
    simp only [Rows.uptoBulkAll, List.length_cons]
    omega
theorem bulk_slice {H : Type} (el sp : List (DataW H)) : el.length ≤ Rows.uptoBulk (.slice el sp) := by
  have := bulk_len el
  simp only [Rows.uptoBulk]
  omega

theorem open_inbU {H : Type} {enc : TypeId × Value → H} {W : World} {n : Nat} {v : Value} {y : DataW H × List MemPlace}
    (hf : DataW.trod enc Tryz.prog W 0 (fun _ => true) true n 34 [v] = some y) (h : Rows.uptoBulk y.1 ≤ 1048576) :
    ∃ a cap l, v = .slice a l.length cap ∧ InB W a cap l ∧ l.length ≤ 1048576 := by
  obtain ⟨a, cap, l, rfl, hB, hnil, hcap, hs, hlen⟩ := open_bytes hf
  have hl : l.length ≤ 1048576 := by
    rcases hlen with rfl | ⟨el, sp, he, hn⟩
    · simp
    · have h2 := bulk_slice el sp
      rw [← he] at h2
      omega
  exact ⟨a, cap, l, rfl, ⟨hB, hs, hcap.1, hcap.2, by omega, hnil⟩, hl⟩
theorem open_askU {H : Type} {enc : TypeId × Value → H} {W : World} {n : Nat} {cs : List Value} {y : DataW H × List MemPlace}
    (hf : DataW.trod enc Tryz.prog W 0 (fun _ => true) true n 58 cs = some y) (hw : Rows.uptoBulk y.1 ≤ 1048576) :
    ∃ x : AskD, cs = x.arr.toList ∧ AskOk W x ∧ AskFew x := by
  obtain ⟨u0, u1, u2, u3, u4, u5, u6, u7, u8, u9, u10, u11, u12, u13, u14, u15, u16, u17, y0, y1, y2, y3, y4, y5, y6, y7, y8, y9, q, rfl, hd, t0, t1, t2, t3, t4, t5, t6, t7, t8, t9⟩ := open_ask0 Tryz.underlying58 (by kernel_rfl) rfl (by kernel_rfl) rfl (by kernel_rfl) rfl (by kernel_rfl) rfl (by kernel_rfl) rfl (by kernel_rfl) rfl (by kernel_rfl) rfl (by kernel_rfl) rfl (by kernel_rfl) rfl (by kernel_rfl) rfl (by kernel_rfl) hf
  have up : ∀ d, d ∈ [y0.1, y1.1, y2.1, y3.1, y4.1, y5.1, y6.1, y7.1, y8.1, y9.1] → Rows.uptoBulk d ≤ 1048576 := fun d h => by
    have h1 := bulk_part h
    rw [hd] at hw
    simp only [Rows.uptoBulk] at hw
    omega
  obtain ⟨D, e0, _, w0⟩ := DataW.trod_int Tryz.underlying3 t0
  obtain ⟨I, e3, _, w3⟩ := DataW.trod_int Tryz.underlying2 t3
  obtain ⟨J, e4, _, w4⟩ := DataW.trod_int Tryz.underlying2 t4
  obtain ⟨N, e5, _, w5⟩ := DataW.trod_int Tryz.underlying3 t5
  obtain ⟨a0, a1, a2, qa, ha, p0, p1, p2⟩ := open_three Tryz.underlying30 (by kernel_rfl) t6
  obtain ⟨b0, b1, b2, qb, hb, q0, q1, q2⟩ := open_three Tryz.underlying30 (by kernel_rfl) t7
  obtain ⟨c0, c1, c2, qc, hc, r0, r1, r2⟩ := open_three Tryz.underlying36 (by kernel_rfl) t8
  obtain ⟨d0, d1, d2, qd, hdd, s0, s1, s2⟩ := open_three Tryz.underlying36 (by kernel_rfl) t9
  obtain ⟨lf, f0, _, x0⟩ := DataW.trod_int Tryz.underlying3 p0
  obtain ⟨ls, f1, _, x1⟩ := DataW.trod_int Tryz.underlying2 p1
  obtain ⟨lo, f2, _⟩ := DataW.trod_bool Tryz.underlying4 p2
  obtain ⟨hf', g0, _, z0⟩ := DataW.trod_int Tryz.underlying3 q0
  obtain ⟨hs, g1, _, z1⟩ := DataW.trod_int Tryz.underlying2 q1
  obtain ⟨ho, g2, _⟩ := DataW.trod_bool Tryz.underlying4 q2
  obtain ⟨ff, k0, _, z2⟩ := DataW.trod_int Tryz.underlying3 r0
  obtain ⟨fo, k2, _⟩ := DataW.trod_bool Tryz.underlying4 r2
  obtain ⟨uf, l0, _, z3⟩ := DataW.trod_int Tryz.underlying3 s0
  obtain ⟨uo, l2, _⟩ := DataW.trod_bool Tryz.underlying4 s2
  obtain ⟨aP, cP, P, rfl, hP, lP⟩ := open_inbU t1 (up _ (by simp))
  obtain ⟨aT, cT, T, rfl, hT, lT⟩ := open_inbU t2 (up _ (by simp))
  obtain ⟨aF, cF, F, rfl, hF, lF⟩ := open_inbU r1 (by
    have h1 := up y8.1 (by simp)
    rw [hc] at h1
    simp only [Rows.uptoBulk] at h1
    have h2 := bulk_part (d := c1.1) (l := [c0.1, c1.1, c2.1]) (by simp)
    omega)
  obtain ⟨aU, cU, U, rfl, hU, lU⟩ := open_inbU s1 (by
    have h1 := up y9.1 (by simp)
    rw [hdd] at h1
    simp only [Rows.uptoBulk] at h1
    have h2 := bulk_part (d := d1.1) (l := [d0.1, d1.1, d2.1]) (by simp)
    omega)
  cases e0
  cases e3
  cases e4
  cases e5
  cases f0
  cases f1
  cases f2
  cases g0
  cases g1
  cases g2
  cases k0
  cases k2
  cases l0
  cases l2
  exact ⟨⟨D, P, aP, cP, T, aT, cT, I, J, N, lf, ls, lo, hf', hs, ho, ff, F, aF, cF, fo, uf, U, aU, cU, uo⟩, rfl, ⟨⟨bounds_i64 w0, bounds_i64 w3, bounds_i64 w4, bounds_i64 w5, bounds_i64 x0, bounds_i64 x1, bounds_i64 z0, bounds_i64 z1, bounds_i64 z2, bounds_i64 z3⟩, ⟨hP, hT, hF, hU⟩⟩, lP, lT, lF, lU⟩

theorem bulk_many {H : Type} (c : Nat) (l : List (DataW H)) (h : ∀ d ∈ l, c ≤ Rows.uptoBulk d) : c * l.length ≤ Rows.uptoBulkAll l := by
  induction l with
  | nil => simp
  | cons x r ih =>
    have h1 := h x (List.mem_cons_self ..)
    have h2 := ih (fun d hd => h d (List.mem_cons_of_mem _ hd))
    simp only [Rows.uptoBulkAll, List.length_cons, Nat.mul_add, Nat.mul_one]
    omega
theorem ask_bulk {H : Type} {enc : TypeId × Value → H} {W : World} {n : Nat} {cs : List Value} {y : DataW H × List MemPlace}
    (hf : DataW.trod enc Tryz.prog W 0 (fun _ => true) true n 58 cs = some y) : 11 ≤ Rows.uptoBulk y.1 := by
  obtain ⟨u0, u1, u2, u3, u4, u5, u6, u7, u8, u9, u10, u11, u12, u13, u14, u15, u16, u17, y0, y1, y2, y3, y4, y5, y6, y7, y8, y9, q, rfl, hd, t0, t1, t2, t3, t4, t5, t6, t7, t8, t9⟩ := open_ask0 Tryz.underlying58 (by kernel_rfl) rfl (by kernel_rfl) rfl (by kernel_rfl) rfl (by kernel_rfl) rfl (by kernel_rfl) rfl (by kernel_rfl) rfl (by kernel_rfl) rfl (by kernel_rfl) rfl (by kernel_rfl) rfl (by kernel_rfl) rfl (by kernel_rfl) hf
  rw [hd]
  simp only [Rows.uptoBulk, Rows.uptoBulkAll]
  have b0 := bulk_one y0.1
  have b1 := bulk_one y1.1
  have b2 := bulk_one y2.1
  have b3 := bulk_one y3.1
  have b4 := bulk_one y4.1
  have b5 := bulk_one y5.1
  have b6 := bulk_one y6.1
  have b7 := bulk_one y7.1
  have b8 := bulk_one y8.1
  have b9 := bulk_one y9.1
  omega

theorem open_asksU {H : Type} {enc : TypeId × Value → H} {W : World} {fuel : Nat} {v : Value} {y : DataW H × List MemPlace}
    (hf : DataW.trod enc Tryz.prog W 0 (fun _ => true) true fuel 22 [v] = some y) (hw : Rows.uptoBulk y.1 ≤ 1048576) :
    ∃ a n cap, v = .slice a n cap ∧ n ≤ 95325 ∧ (n = 0 ∨ ∃ b off, a = some ⟨b, off, none⟩ ∧ b < W.heap.size ∧ ∀ k, k < n → ∃ x : AskD, AskAt W b (off + k * 18) x ∧ AskOk W x ∧ AskFew x) := by
  rcases open_slice Tryz.underlying22 hf with ⟨hcs, _⟩ | ⟨a, len, cap, m, q, D, Pl, hcs, _, hlc, _, hm, hy, heach⟩
  · cases hcs
    exact ⟨_, 0, 0, rfl, Nat.zero_le _, .inl rfl⟩
  · cases hcs
    simp only [if_true] at hm
    have hlen : len ≤ 95325 := by
      have hw2 := hw
      rw [hy] at hw2
      simp only [Rows.uptoBulk] at hw2
      have h1 := bulk_many 11 ((List.range len).map D) (fun d hd => by
        obtain ⟨k, hk, rfl⟩ := List.mem_map.1 hd
        obtain ⟨cs', hc, ht⟩ := heach k (by have := List.mem_range.1 hk; omega)
        exact ask_bulk ht)
      simp only [List.length_map, List.length_range] at h1
      omega
    refine ⟨_, len, cap, rfl, hlen, ?_⟩
    by_cases h0 : len = 0
    · exact .inl h0
    · right
      rw [Tryz.cells58] at heach
      obtain ⟨b, off, spot⟩ := a
      have hplace : spot = none ∧ b < W.heap.size := by
        obtain ⟨cs', hc, _⟩ := heach 0 (by omega)
        obtain ⟨hl, he⟩ := cells_each hc
        have h00 := he 0 (by omega)
        rw [List.getElem?_eq_getElem (by omega : 0 < cs'.length)] at h00
        have e00 : ((⟨b, off, spot⟩ : Addr).add (0 * 18)).add 0 = ⟨b, off, spot⟩ := by simp [Addr.add]
        rw [e00] at h00
        exact ⟨World.cell?_spot h00, block_lt_of_cell h00⟩
      obtain ⟨rfl, hb⟩ := hplace
      refine ⟨b, off, rfl, hb, fun k hk => ?_⟩
      obtain ⟨cs', hc, ht⟩ := heach k (by omega)
      obtain ⟨hl, he⟩ := cells_each hc
      have hup : Rows.uptoBulk (D k) ≤ 1048576 := by
        rw [hy] at hw
        simp only [Rows.uptoBulk] at hw
        have h1 := bulk_part (d := D k) (l := (List.range len).map D) (List.mem_map.2 ⟨k, List.mem_range.2 hk, rfl⟩)
        omega
      obtain ⟨x, rfl, hx, hfew⟩ := open_askU ht hup
      refine ⟨x, fun j v hj => ?_, hx, hfew⟩
      have hjl : j < 18 := by
        have := (List.getElem?_eq_some_iff.1 hj).1
        simpa [AskD.arr] using this
      have := he j hjl
      rw [add_plain, add_plain] at this
      rw [this, hj]
end Go.Proofs.YtidfbelckdlbhabGreat
