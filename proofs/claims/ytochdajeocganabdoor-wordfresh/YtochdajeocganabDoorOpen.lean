/- A script that came in, opened; the world of the witness. -/
import Derived.Test.YtochdajeocganabDoorUpto
import Derived.Test.YtochdajeocganabDoorCards
import Derived.Test.YtochdajeocganabDoorTie
import Derived.Lib.SmallJoins
import Derived.SizedLaws
import Derived.Deep.DeepHandedRow
import Derived.Lib.LaidTab
namespace Go.Proofs.YtochdajeocganabDoor
open Go.ChangeShapes Go.WideShapes Go.ChangeAt Go.RowKit Go.Joins Go.Deep
set_option linter.unusedVariables false

theorem own : ownKnob Tryd.prog.godebug = none := by kernel_rfl
theorem laidOut : laidOutB Tryd.prog = true := by kernel_rfl
theorem Tryd.bytes49 : Tryd.prog.bytesOf 49 = 104 := by kernel_rfl
theorem Tryd.cells49 : Tryd.prog.cellsOf 49 = 9 := by kernel_rfl

theorem add_plain0 (b off j : Nat) : (⟨b, off, none⟩ : Addr).add j = ⟨b, off + j, none⟩ := by unfold Addr.add; split <;> simp_all

theorem mapM_some {α β : Type} (f : α → Option β) (l : List α) (cs : List β) (h : l.mapM f = some cs) : l.map f = cs.map some := by
  induction l generalizing cs with
  | nil => simp at h; subst h; rfl
  | cons x l ih =>
    rw [List.mapM_cons] at h
    cases hx : f x with
    | none => rw [hx] at h; simp at h
    | some y =>
      rw [hx] at h
      cases hl : l.mapM f with
      | none => rw [hl] at h; simp at h
      | some ys =>
        rw [hl] at h
        simp at h
        subst h
        simp [hx, ih ys hl]

theorem cells_each {W : World} {a : Addr} {n : Nat} {cs : List Value} (h : W.cells? 0 a n = some cs) : cs.length = n ∧ ∀ i, i < n → W.cell? (a.add i) = cs[i]? := by
  unfold World.cells? at h
  rw [if_pos (Nat.zero_le _)] at h
  have hm := mapM_some _ _ _ h
  have hlen : cs.length = n := by have := congrArg List.length hm; simpa using this.symm
  refine ⟨hlen, fun i hi => ?_⟩
  have := congrArg (fun l => l[i]?) hm
  simp only [List.getElem?_map, List.getElem?_range hi, Option.map_some] at this
  rw [List.getElem?_eq_getElem (by omega : i < cs.length)] at this ⊢
  simpa using this

theorem list_9 {α : Type} {cs : List α} (h : cs.length = 9) : ∃ c0 c1 c2 c3 c4 c5 c6 c7 c8, cs = [c0, c1, c2, c3, c4, c5, c6, c7, c8] := by
  match cs, h with
  | [c0, c1, c2, c3, c4, c5, c6, c7, c8], _ => exact ⟨c0, c1, c2, c3, c4, c5, c6, c7, c8, rfl⟩
theorem open_list9 {H : Type} {enc : TypeId × Value → H} {P : Program} {w : World} {base : Nat} {spare : Nat → Bool} {held : Bool} {fuel : Nat} {t : TypeId} {f0 f1 f2 f3 f4 f5 f6 f7 f8 : Field} {cs : List Value} {y : DataW H × List MemPlace} (hs : P.underlying t = some (.struct #[f0, f1, f2, f3, f4, f5, f6, f7, f8])) (hone : oneCellFields P #[f0, f1, f2, f3, f4, f5, f6, f7, f8] = true) (hl : cs.length = 9)
    (h : DataW.trod enc P w base spare held fuel t cs = some y) :
    ∃ (c0 c1 c2 c3 c4 c5 c6 c7 c8 : Value) (y0 y1 y2 y3 y4 y5 y6 y7 y8 : DataW H × List MemPlace) (q : Nat), cs = [c0, c1, c2, c3, c4, c5, c6, c7, c8] ∧ y.1 = .agg [y0.1, y1.1, y2.1, y3.1, y4.1, y5.1, y6.1, y7.1, y8.1] ∧ DataW.trod enc P w base spare held q f0.type [c0] = some y0 ∧ DataW.trod enc P w base spare held q f1.type [c1] = some y1 ∧ DataW.trod enc P w base spare held q f2.type [c2] = some y2 ∧ DataW.trod enc P w base spare held q f3.type [c3] = some y3 ∧ DataW.trod enc P w base spare held q f4.type [c4] = some y4 ∧ DataW.trod enc P w base spare held q f5.type [c5] = some y5 ∧ DataW.trod enc P w base spare held q f6.type [c6] = some y6 ∧ DataW.trod enc P w base spare held q f7.type [c7] = some y7 ∧ DataW.trod enc P w base spare held q f8.type [c8] = some y8 := by
  obtain ⟨c0, c1, c2, c3, c4, c5, c6, c7, c8, rfl⟩ := list_9 hl
  obtain ⟨xs, q, _, hx, _, hlen, hf⟩ := DataW.trod_struct hs h
  obtain ⟨o0, k0⟩ := hone_of hone 0 f0 rfl
  obtain ⟨o1, k1⟩ := hone_of hone 1 f1 rfl
  obtain ⟨o2, k2⟩ := hone_of hone 2 f2 rfl
  obtain ⟨o3, k3⟩ := hone_of hone 3 f3 rfl
  obtain ⟨o4, k4⟩ := hone_of hone 4 f4 rfl
  obtain ⟨o5, k5⟩ := hone_of hone 5 f5 rfl
  obtain ⟨o6, k6⟩ := hone_of hone 6 f6 rfl
  obtain ⟨o7, k7⟩ := hone_of hone 7 f7 rfl
  obtain ⟨o8, k8⟩ := hone_of hone 8 f8 rfl
  match xs, hlen with
  | [y0, y1, y2, y3, y4, y5, y6, y7, y8], _ => exact ⟨c0, c1, c2, c3, c4, c5, c6, c7, c8, y0, y1, y2, y3, y4, y5, y6, y7, y8, q, rfl, by rw [hx]; rfl, by simpa [o0, k0] using hf 0 f0 rfl, by simpa [o1, k1] using hf 1 f1 rfl, by simpa [o2, k2] using hf 2 f2 rfl, by simpa [o3, k3] using hf 3 f3 rfl, by simpa [o4, k4] using hf 4 f4 rfl, by simpa [o5, k5] using hf 5 f5 rfl, by simpa [o6, k6] using hf 6 f6 rfl, by simpa [o7, k7] using hf 7 f7 rfl, by simpa [o8, k8] using hf 8 f8 rfl⟩

theorem open_op {H : Type} {enc : TypeId × Value → H} {W : World} {n : Nat} {cs : List Value} {y : DataW H × List MemPlace} (hl : cs.length = 9)
    (hf : DataW.trod enc Tryd.prog W 0 (fun _ => true) true n 49 cs = some y) :
    ∃ (K A B C N M x : Int) (c7 c8 : Value) (y7 y8 : DataW H × List MemPlace) (q : Nat), cs = [.int .i64 K, .int .i64 A, .int .i64 B, .int .i64 C, .int .i64 N, .int .i64 M, .int .u64 x, c7, c8] ∧ (Lit.int .u64 x).wf = true ∧
      (Lit.int .i64 A).wf = true ∧ (Lit.int .i64 N).wf = true ∧ (Lit.int .i64 M).wf = true ∧
      DataW.trod enc Tryd.prog W 0 (fun _ => true) true q 46 [c7] = some y7 ∧ DataW.trod enc Tryd.prog W 0 (fun _ => true) true q 47 [c8] = some y8 ∧
      (∀ m, m ∈ DataW.weights Tryd.prog 46 y7.1 → m ∈ DataW.weights Tryd.prog 49 y.1) ∧ (∀ m, m ∈ DataW.weights Tryd.prog 47 y8.1 → m ∈ DataW.weights Tryd.prog 49 y.1) := by
  obtain ⟨c0, c1, c2, c3, c4, c5, c6, c7, c8, y0, y1, y2, y3, y4, y5, y6, y7, y8, q, rfl, hy, h0, h1, h2, h3, h4, h5, h6, h7, h8⟩ := open_list9 Tryd.underlying49 (by kernel_rfl) hl hf
  obtain ⟨K, e0, _, w0⟩ := DataW.trod_int Tryd.underlying3 h0
  obtain ⟨A, e1, _, w1⟩ := DataW.trod_int Tryd.underlying3 h1
  obtain ⟨B, e2, _, w2⟩ := DataW.trod_int Tryd.underlying3 h2
  obtain ⟨C, e3, _, w3⟩ := DataW.trod_int Tryd.underlying3 h3
  obtain ⟨N, e4, _, w4⟩ := DataW.trod_int Tryd.underlying2 h4
  obtain ⟨M, e5, _, w5⟩ := DataW.trod_int Tryd.underlying2 h5
  obtain ⟨x, e6, _, w6⟩ := DataW.trod_int Tryd.underlying45 h6
  cases e0
  cases e1
  cases e2
  cases e3
  cases e4
  cases e5
  cases e6
  refine ⟨K, A, B, C, N, M, x, c7, c8, y7, y8, q, rfl, w6, w1, w4, w5, h7, h8, fun m hm => ?_, fun m hm => ?_⟩
  · rw [hy]
    simp only [DataW.weights, Tryd.underlying49]
    exact DataW.weights_mem_each (j := 7) (t := 46) (d := y7.1) rfl rfl _ hm
  · rw [hy]
    simp only [DataW.weights, Tryd.underlying49]
    exact DataW.weights_mem_each (j := 8) (t := 47) (d := y8.1) rfl rfl _ hm

theorem weights_all {H : Type} {P : Program} {e : TypeId} {d : DataW H} {m : Nat} : ∀ {l : List (DataW H)}, d ∈ l → m ∈ DataW.weights P e d → m ∈ DataW.weightsAll P e l
  | x :: l, hd, hm => by
    simp only [DataW.weightsAll, List.mem_append]
    rcases List.mem_cons.1 hd with rfl | h
    · exact .inl hm
    · exact .inr (weights_all h hm)

/-- A SCRIPT, OPENED: nil or empty; or each of its calls lies there (G: what is asked of each call's lists). -/
theorem open_script {H : Type} {enc : TypeId × Value → H} {W : World} {fuel : Nat} {v : Value} {y : DataW H × List MemPlace}
    (G : World → Int → Int → Int → Int → Int → Int → Nat → Option Addr → Nat → Nat → Option Addr → Nat → Nat → Prop)
    (hG : ∀ (K A B C N M : Int) (x : Nat) (c7 c8 : Value) (y7 y8 : DataW H × List MemPlace) (q : Nat), (Lit.int .i64 A).wf = true → (Lit.int .i64 N).wf = true → (Lit.int .i64 M).wf = true →
      DataW.trod enc Tryd.prog W 0 (fun _ => true) true q 46 [c7] = some y7 → DataW.trod enc Tryd.prog W 0 (fun _ => true) true q 47 [c8] = some y8 →
      (∀ m, m ∈ DataW.weights Tryd.prog 46 y7.1 → m ∈ DataW.weights Tryd.prog 22 y.1) → (∀ m, m ∈ DataW.weights Tryd.prog 47 y8.1 → m ∈ DataW.weights Tryd.prog 22 y.1) →
      ∃ aT nT cT aW nW cW, c7 = .slice aT nT cT ∧ c8 = .slice aW nW cW ∧ G W K A B C N M x aT nT cT aW nW cW)
    (hf : DataW.trod enc Tryd.prog W 0 (fun _ => true) true fuel 22 [v] = some y) :
    ∃ a n cap, v = .slice a n cap ∧ (n = 0 ∨ ∃ elems spare, y.1 = .slice elems spare ∧ elems.length = n) ∧
      (n = 0 ∨ ∃ b off, a = some ⟨b, off, none⟩ ∧ b < W.heap.size ∧
        ∀ k, k < n → ∃ (K A B C N M : Int) (x : Nat) (aT : Option Addr) (nT cT : Nat) (aW : Option Addr) (nW cW : Nat), x < 18446744073709551616 ∧ OpAt W b (off + k * 9) K A B C N M x aT nT cT aW nW cW ∧ G W K A B C N M x aT nT cT aW nW cW) := by
  rcases open_slice Tryd.underlying22 hf with ⟨hcs, _⟩ | ⟨a, len, cap, m, q, D, Pl, hcs, _, hlc, _, hm, hy, heach⟩
  · cases hcs
    exact ⟨_, 0, 0, rfl, .inl rfl, .inl rfl⟩
  · cases hcs
    simp only [if_true] at hm
    refine ⟨_, len, cap, rfl, .inr ⟨_, _, by rw [hy], by simp⟩, ?_⟩
    by_cases h0 : len = 0
    · exact .inl h0
    · right
      rw [Tryd.cells49] at heach
      obtain ⟨b, off, spot⟩ := a
      have hplace : spot = none ∧ b < W.heap.size := by
        obtain ⟨cs', hc, _⟩ := heach 0 (by omega)
        obtain ⟨hl, he⟩ := cells_each hc
        have h00 := he 0 (by omega)
        rw [List.getElem?_eq_getElem (by omega : 0 < cs'.length)] at h00
        have e00 : ((⟨b, off, spot⟩ : Addr).add (0 * 9)).add 0 = ⟨b, off, spot⟩ := by simp [Addr.add]
        rw [e00] at h00
        exact ⟨World.cell?_spot h00, block_lt_of_cell h00⟩
      obtain ⟨rfl, hb⟩ := hplace
      refine ⟨b, off, rfl, hb, fun k hk => ?_⟩
      obtain ⟨cs', hc, ht⟩ := heach k (by omega)
      obtain ⟨hl, he⟩ := cells_each hc
      obtain ⟨K, A, B, C, N, M, x, c7, c8, y7, y8, q', rfl, hx, hA, hN, hM, h7, h8, g7, g8⟩ := open_op hl ht
      have hup : ∀ m, m ∈ DataW.weights Tryd.prog 49 (D k) → m ∈ DataW.weights Tryd.prog 22 y.1 := fun m hm => by
        rw [hy]
        simp only [DataW.weights, Tryd.underlying22]
        exact List.mem_cons_of_mem _ (List.mem_append_left _ (weights_all (List.mem_map.2 ⟨k, List.mem_range.2 hk, rfl⟩) hm))
      obtain ⟨hx0, hx1⟩ := bounds_u64 hx
      obtain ⟨x, rfl⟩ := Int.eq_ofNat_of_zero_le hx0
      obtain ⟨aT, nT, cT, aW, nW, cW, rfl, rfl, hg⟩ := hG K A B C N M x c7 c8 y7 y8 q' hA hN hM h7 h8 (fun m hm => hup m (g7 m hm)) (fun m hm => hup m (g8 m hm))
      refine ⟨K, A, B, C, N, M, x, aT, nT, cT, aW, nW, cW, by omega, ?_, hg⟩
      have hj : ∀ j, j < 9 → W.cell? ⟨b, off + k * 9 + j, none⟩ = ([.int .i64 K, .int .i64 A, .int .i64 B, .int .i64 C, .int .i64 N, .int .i64 M, .int .u64 (x : Int), .slice aT nT cT, .slice aW nW cW] : List Value)[j]? := fun j hj => by
        have := he j hj
        rw [add_plain0, add_plain0] at this
        exact this
      exact ⟨hj 0 (by omega), hj 1 (by omega), hj 2 (by omega), hj 3 (by omega), hj 4 (by omega), hj 5 (by omega), hj 6 (by omega), hj 7 (by omega), hj 8 (by omega)⟩

/-- a table's block, holding these values -/
def put (C : Array Value) : Obj → Obj
  | .cells _ t frozen => .cells C t frozen
  | o => o
/-- the heap of a world for the witness: the three tables as their initialisers lay them -/
def laidHeap (h : Array Obj) : Array Obj := ((h.modify 0 (put #[.int .u64 1, .int .u64 10, .int .u64 100, .int .u64 1000, .int .u64 10000, .int .u64 100000, .int .u64 1000000, .int .u64 10000000, .int .u64 100000000, .int .u64 1000000000, .int .u64 10000000000, .int .u64 100000000000, .int .u64 1000000000000, .int .u64 10000000000000, .int .u64 100000000000000, .int .u64 1000000000000000, .int .u64 10000000000000000, .int .u64 100000000000000000, .int .u64 1000000000000000000, .int .u64 10000000000000000000])).modify 1 (put #[.int .u8 0, .int .u8 1, .int .u8 28, .int .u8 2, .int .u8 29, .int .u8 14, .int .u8 24, .int .u8 3, .int .u8 30, .int .u8 22, .int .u8 20, .int .u8 15, .int .u8 25, .int .u8 17, .int .u8 4, .int .u8 8, .int .u8 31, .int .u8 27, .int .u8 13, .int .u8 23, .int .u8 21, .int .u8 19, .int .u8 16, .int .u8 7, .int .u8 26, .int .u8 12, .int .u8 18, .int .u8 6, .int .u8 11, .int .u8 5, .int .u8 10, .int .u8 9])).modify 2 (put #[.int .u8 0, .int .u8 1, .int .u8 56, .int .u8 2, .int .u8 57, .int .u8 49, .int .u8 28, .int .u8 3, .int .u8 61, .int .u8 58, .int .u8 42, .int .u8 50, .int .u8 38, .int .u8 29, .int .u8 17, .int .u8 4, .int .u8 62, .int .u8 47, .int .u8 59, .int .u8 36, .int .u8 45, .int .u8 43, .int .u8 51, .int .u8 22, .int .u8 53, .int .u8 39, .int .u8 33, .int .u8 30, .int .u8 24, .int .u8 18, .int .u8 12, .int .u8 5, .int .u8 63, .int .u8 55, .int .u8 48, .int .u8 27, .int .u8 60, .int .u8 41, .int .u8 37, .int .u8 16, .int .u8 46, .int .u8 35, .int .u8 44, .int .u8 21, .int .u8 52, .int .u8 32, .int .u8 23, .int .u8 11, .int .u8 54, .int .u8 26, .int .u8 40, .int .u8 15, .int .u8 34, .int .u8 20, .int .u8 31, .int .u8 10, .int .u8 25, .int .u8 14, .int .u8 19, .int .u8 9, .int .u8 13, .int .u8 8, .int .u8 7, .int .u8 6])
end Go.Proofs.YtochdajeocganabDoor
