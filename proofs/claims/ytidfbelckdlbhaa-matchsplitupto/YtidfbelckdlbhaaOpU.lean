/- A list of Asks that came in, of bounded bulk. -/
import Derived.Test.YtidfbelckdlbhaaOpA
namespace Go.Proofs.Ytidfbelckdlbhaa
open Go.ChangeShapes Go.WideShapes Go.ChangeAt Go.RowKit Go.Joins Go.Deep
set_option linter.unusedVariables false

theorem bulk_one {H : Type} (d : DataW H) : 1 ≤ Rows.uptoBulk d := by
  cases d with
  | lit l => cases l <;> simp [Rows.uptoBulk]
  | _ => simp [Rows.uptoBulk]
theorem bulk_part {H : Type} {d : DataW H} {l : List (DataW H)} (h : d ∈ l) : Rows.uptoBulk d ≤ Rows.uptoBulkAll l := by
  induction l with
  | nil => cases h
  | cons x r ih =>
    simp only [Rows.uptoBulkAll]
    rcases List.mem_cons.1 h with e | e
    · subst e; omega
    · have := ih e; omega
theorem bulk_len {H : Type} (l : List (DataW H)) : l.length ≤ Rows.uptoBulkAll l := by
  induction l with
  | nil => simp
  | cons x r ih =>
    have := bulk_one x
    simp only [Rows.uptoBulkAll, List.length_cons]
    omega
theorem bulk_slice {H : Type} (el sp : List (DataW H)) : el.length ≤ Rows.uptoBulk (.slice el sp) := by
  have := bulk_len el
  simp only [Rows.uptoBulk]
  omega
/-- its texts are short -/
def AskFew (x : AskD) : Prop := x.P.length ≤ 1048576 ∧ x.T.length ≤ 1048576 ∧ x.F.length ≤ 1048576 ∧ x.U.length ≤ 1048576

theorem open_inbU {H : Type} {enc : TypeId × Value → H} {W : World} {n : Nat} {v : Value} {y : DataW H × List MemPlace}
    (hf : DataW.trod enc Try.prog W 0 (fun _ => true) true n 22 [v] = some y) (h : Rows.uptoBulk y.1 ≤ 1048576) :
    ∃ a cap l, v = .slice a l.length cap ∧ InB W a cap l ∧ l.length ≤ 1048576 := by
  obtain ⟨a, cap, l, rfl, hB, hnil, hcap, hs, hlen⟩ := open_bytes hf
  have hl : l.length ≤ 1048576 := by
    rcases hlen with rfl | ⟨el, sp, he, hn⟩
    · simp
    · have h2 := bulk_slice el sp
      rw [← he] at h2
      omega
  exact ⟨a, cap, l, rfl, ⟨hB, hs, hcap.1, hcap.2, by omega, hnil⟩, hl⟩
theorem open_askU {H : Type} {enc : TypeId × Value → H} {W : World} {n : Nat} {cs : List Value} {y : DataW H × List MemPlace}
    (hf : DataW.trod enc Try.prog W 0 (fun _ => true) true n 28 cs = some y) (hw : Rows.uptoBulk y.1 ≤ 1048576) :
    ∃ x : AskD, cs = x.arr.toList ∧ AskOk W x ∧ AskFew x := by
  obtain ⟨u0, u1, u2, u3, u4, u5, u6, u7, u8, u9, u10, u11, u12, u13, u14, u15, u16, u17, y0, y1, y2, y3, y4, y5, y6, y7, y8, y9, q, rfl, hd, t0, t1, t2, t3, t4, t5, t6, t7, t8, t9⟩ := open_ask0 Try.underlying28 (by kernel_rfl) rfl (by kernel_rfl) rfl (by kernel_rfl) rfl (by kernel_rfl) rfl (by kernel_rfl) rfl (by kernel_rfl) rfl (by kernel_rfl) rfl (by kernel_rfl) rfl (by kernel_rfl) rfl (by kernel_rfl) rfl (by kernel_rfl) hf
  have up : ∀ d, d ∈ [y0.1, y1.1, y2.1, y3.1, y4.1, y5.1, y6.1, y7.1, y8.1, y9.1] → Rows.uptoBulk d ≤ 1048576 := fun d h => by
    have h1 := bulk_part h
    rw [hd] at hw
    simp only [Rows.uptoBulk] at hw
    omega
  obtain ⟨D, e0, _, w0⟩ := DataW.trod_int Try.underlying3 t0
  obtain ⟨I, e3, _, w3⟩ := DataW.trod_int Try.underlying2 t3
  obtain ⟨J, e4, _, w4⟩ := DataW.trod_int Try.underlying2 t4
  obtain ⟨N, e5, _, w5⟩ := DataW.trod_int Try.underlying3 t5
  obtain ⟨a0, a1, a2, qa, ha, p0, p1, p2⟩ := open_three Try.underlying24 (by kernel_rfl) t6
  obtain ⟨b0, b1, b2, qb, hb, q0, q1, q2⟩ := open_three Try.underlying24 (by kernel_rfl) t7
  obtain ⟨c0, c1, c2, qc, hc, r0, r1, r2⟩ := open_three Try.underlying26 (by kernel_rfl) t8
  obtain ⟨d0, d1, d2, qd, hdd, s0, s1, s2⟩ := open_three Try.underlying26 (by kernel_rfl) t9
  obtain ⟨lf, f0, _, x0⟩ := DataW.trod_int Try.underlying3 p0
  obtain ⟨ls, f1, _, x1⟩ := DataW.trod_int Try.underlying2 p1
  obtain ⟨lo, f2, _⟩ := DataW.trod_bool Try.underlying4 p2
  obtain ⟨hf', g0, _, z0⟩ := DataW.trod_int Try.underlying3 q0
  obtain ⟨hs, g1, _, z1⟩ := DataW.trod_int Try.underlying2 q1
  obtain ⟨ho, g2, _⟩ := DataW.trod_bool Try.underlying4 q2
  obtain ⟨ff, k0, _, z2⟩ := DataW.trod_int Try.underlying3 r0
  obtain ⟨fo, k2, _⟩ := DataW.trod_bool Try.underlying4 r2
  obtain ⟨uf, l0, _, z3⟩ := DataW.trod_int Try.underlying3 s0
  obtain ⟨uo, l2, _⟩ := DataW.trod_bool Try.underlying4 s2
  obtain ⟨aP, cP, P, rfl, hP, lP⟩ := open_inbU t1 (up _ (by simp))
  obtain ⟨aT, cT, T, rfl, hT, lT⟩ := open_inbU t2 (up _ (by simp))
  obtain ⟨aF, cF, F, rfl, hF, lF⟩ := open_inbU r1 (by
    have h1 := up y8.1 (by simp)
    rw [hc] at h1
    simp only [Rows.uptoBulk] at h1
    have h2 := bulk_part (d := c1.1) (l := [c0.1, c1.1, c2.1]) (by simp)
    omega)
  obtain ⟨aU, cU, U, rfl, hU, lU⟩ := open_inbU s1 (by
    have h1 := up y9.1 (by simp)
    rw [hdd] at h1
    simp only [Rows.uptoBulk] at h1
    have h2 := bulk_part (d := d1.1) (l := [d0.1, d1.1, d2.1]) (by simp)
    omega)
  cases e0
  cases e3
  cases e4
  cases e5
  cases f0
  cases f1
  cases f2
  cases g0
  cases g1
  cases g2
  cases k0
  cases k2
  cases l0
  cases l2
  exact ⟨⟨D, P, aP, cP, T, aT, cT, I, J, N, lf, ls, lo, hf', hs, ho, ff, F, aF, cF, fo, uf, U, aU, cU, uo⟩, rfl, ⟨⟨bounds_i64 w0, bounds_i64 w3, bounds_i64 w4, bounds_i64 w5, bounds_i64 x0, bounds_i64 x1, bounds_i64 z0, bounds_i64 z1, bounds_i64 z2, bounds_i64 z3⟩, ⟨hP, hT, hF, hU⟩⟩, lP, lT, lF, lU⟩

theorem open_asksU {H : Type} {enc : TypeId × Value → H} {W : World} {fuel : Nat} {v : Value} {y : DataW H × List MemPlace}
    (hf : DataW.trod enc Try.prog W 0 (fun _ => true) true fuel 49 [v] = some y) (hw : Rows.uptoBulk y.1 ≤ 1048576) :
    ∃ a n cap, v = .slice a n cap ∧ n ≤ 1048576 ∧ (n = 0 ∨ ∃ b off, a = some ⟨b, off, none⟩ ∧ b < W.heap.size ∧ ∀ k, k < n → ∃ x : AskD, AskAt W b (off + k * 18) x ∧ AskOk W x ∧ AskFew x) := by
  rcases open_slice Try.underlying49 hf with ⟨hcs, _⟩ | ⟨a, len, cap, m, q, D, Pl, hcs, _, hlc, _, hm, hy, heach⟩
  · cases hcs
    exact ⟨_, 0, 0, rfl, Nat.zero_le _, .inl rfl⟩
  · cases hcs
    simp only [if_true] at hm
    have hlen : len ≤ 1048576 := by
      rw [hy] at hw
      simp only [Rows.uptoBulk] at hw
      have h1 := bulk_len ((List.range len).map D)
      simp only [List.length_map, List.length_range] at h1
      omega
    refine ⟨_, len, cap, rfl, hlen, ?_⟩
    by_cases h0 : len = 0
    · exact .inl h0
    · right
      rw [Try.cells28] at heach
      obtain ⟨b, off, spot⟩ := a
      have hplace : spot = none ∧ b < W.heap.size := by
        obtain ⟨cs', hc, _⟩ := heach 0 (by omega)
        obtain ⟨hl, he⟩ := cells_each hc
        have h00 := he 0 (by omega)
        rw [List.getElem?_eq_getElem (by omega : 0 < cs'.length)] at h00
        have e00 : ((⟨b, off, spot⟩ : Addr).add (0 * 18)).add 0 = ⟨b, off, spot⟩ := by simp [Addr.add]
        rw [e00] at h00
        exact ⟨World.cell?_spot h00, block_lt_of_cell h00⟩
      obtain ⟨rfl, hb⟩ := hplace
      refine ⟨b, off, rfl, hb, fun k hk => ?_⟩
      obtain ⟨cs', hc, ht⟩ := heach k (by omega)
      obtain ⟨hl, he⟩ := cells_each hc
      have hup : Rows.uptoBulk (D k) ≤ 1048576 := by
        rw [hy] at hw
        simp only [Rows.uptoBulk] at hw
        have h1 := bulk_part (d := D k) (l := (List.range len).map D) (List.mem_map.2 ⟨k, List.mem_range.2 hk, rfl⟩)
        omega
      obtain ⟨x, rfl, hx, hfew⟩ := open_askU ht hup
      refine ⟨x, fun j v hj => ?_, hx, hfew⟩
      have hjl : j < 18 := by
        have := (List.getElem?_eq_some_iff.1 hj).1
        simpa [AskD.arr] using this
      have := he j hjl
      rw [add_plain, add_plain] at this
      rw [this, hj]
end Go.Proofs.Ytidfbelckdlbhaa
