/- MatchQuoted: the law. -/
import Derived.Test.YtidfbelckdlbhaaQuo
import Derived.Test.YtidfbelckdlbhaaSta
import Derived.Test.YtidfbelckdlbhaaWak
import Derived.Test.YtidfbelckdlbhaaGlc
import Derived.Deep.RegionHeld3
import Derived.Lib.SmallJoins
namespace Go.Proofs.Ytidfbelckdlbhaa
open Go.ChangeShapes Go.WideShapes Go.ChangeAt Go.RowKit
set_option linter.unusedVariables false
set_option maxRecDepth 20000
set_option maxHeartbeats 2000000

/-- the box stands, and so do the lists -/
def Kp (w : World) (A : Array Value) (W : World) (Ls : List (Option Addr × List Nat)) : Prop := W.heap[w.heap.size]? = some (.cells A 45 (0, 0)) ∧ Below w.heap.size w W ∧ ∀ x ∈ Ls, Bytes W x.1 x.2
theorem Kp.lt {w W : World} {A : Array Value} {Ls : List (Option Addr × List Nat)} (h : Kp w A W Ls) : w.heap.size < W.heap.size := (Array.getElem?_eq_some_iff.1 h.1).1
theorem Kp.next {w W W' : World} {A : Array Value} {Ls : List (Option Addr × List Nat)} (h : Kp w A W Ls) (hb : Below W.heap.size W W') : Kp w A W' Ls := ⟨(hb.block _ h.lt).trans h.1, chain h.2.1 hb (Nat.le_refl _), fun x hx => (h.2.2 x hx).below hb⟩
theorem Kp.cons {w W : World} {A : Array Value} {Ls : List (Option Addr × List Nat)} (h : Kp w A W Ls) {a : Option Addr} {l : List Nat} (hb : Bytes W a l) : Kp w A W ((a, l) :: Ls) := ⟨h.1, h.2.1, fun x hx => by
  rcases List.mem_cons.1 hx with rfl | q
  · exact hb
  · exact h.2.2 x q⟩
theorem Kp.lit {w W : World} {A : Array Value} {Ls : List (Option Addr × List Nat)} (h : Kp w A W Ls) : Kp w A (W.alloc (.cells #[.int .u8 42] 5 (1, 2))) ((some ⟨W.heap.size, 0, none⟩, [42]) :: Ls) :=
  (h.next ((Below.refl _ _).alloc (Nat.le_refl _) _)).cons (.inr ⟨W.heap.size, 0, rfl, by simp, fun j hj => by
    match j, hj with
    | 0, _ =>
      rw [World.cell?_alloc_mark]
      rfl⟩)
theorem Kp.drew {w W : World} {A : Array Value} {Ls : List (Option Addr × List Nat)} (h : Kp w A W Ls) : Kp w A W.drew Ls := ⟨h.1, h.2.1.drew, h.2.2⟩
theorem Kp.drewN {w W : World} {A : Array Value} {Ls : List (Option Addr × List Nat)} (h : Kp w A W Ls) (nq : Nat) : Kp w A (W.drewN nq) Ls := ⟨h.1, ⟨h.2.1.os, h.2.1.tape, h.2.1.output, h.2.1.size, h.2.1.block⟩, h.2.2⟩
theorem Kp.has {w W : World} {A : Array Value} {Ls : List (Option Addr × List Nat)} (h : Kp w A W Ls) {a : Option Addr} {l : List Nat} (hx : (a, l) ∈ Ls) : Bytes W a l := h.2.2 _ hx
theorem Kp.lit2 {w W : World} {A : Array Value} {Ls : List (Option Addr × List Nat)} (h : Kp w A W Ls) : Kp w A ((W.alloc (.cells #[.int .u8 42] 5 (1, 2))).alloc (.cells #[.int .u8 42] 5 (1, 2))) ((some ⟨W.heap.size, 0, none⟩, [42]) :: Ls) ∧ ((W.alloc (.cells #[.int .u8 42] 5 (1, 2))).alloc (.cells #[.int .u8 42] 5 (1, 2))).cell? ⟨W.heap.size + 1, 0, none⟩ = some (.int .u8 ((42 : Nat) : Int)) := by
  refine ⟨h.lit.next ((Below.refl _ _).alloc (Nat.le_refl _) _), ?_⟩
  have q := World.cell?_alloc_mark (W.alloc (.cells #[.int .u8 42] 5 (1, 2))) #[.int .u8 42] 5 (1, 2) 0
  rw [show (W.alloc (.cells #[.int .u8 42] 5 (1, 2))).heap.size = W.heap.size + 1 by simp] at q
  rw [q]
  rfl
theorem Kp.pick {w W : World} {A : Array Value} {Ls Ms : List (Option Addr × List Nat)} (h : Kp w A W Ls) (hs : ∀ x ∈ Ms, x ∈ Ls) : Kp w A W Ms := ⟨h.1, h.2.1, fun x hx => h.2.2 x (hs x hx)⟩
theorem lit_cell (W : World) (o : Obj) : (W.alloc (.cells #[.int .u8 42] 5 (1, 2))).cell? ⟨W.heap.size, 0, none⟩ = some (.int .u8 ((42 : Nat) : Int)) := by
  rw [World.cell?_alloc_mark]
  rfl

theorem small_mem {l : List Nat} (h : Small l) : ∀ c ∈ l, c < 256 := fun c hc => by
  obtain ⟨i, hi, rfl⟩ := List.mem_iff_getElem.1 hc
  have := h i hi
  rwa [List.getD_eq_getElem?_getD, List.getElem?_eq_getElem hi] at this
theorem small_of {l : List Nat} (h : ∀ c ∈ l, c < 256) : Small l := fun i hi => by
  rw [List.getD_eq_getElem?_getD, List.getElem?_eq_getElem hi]
  exact h _ (List.getElem_mem hi)
theorem small_quote {l : List Nat} (h : ∀ c ∈ l, c < 256) : ∀ c ∈ Larder.quoteL l, c < 256 := fun c hc => by
  obtain ⟨d, hd, hc⟩ := List.mem_flatMap.1 hc
  simp only [List.mem_cons, List.not_mem_nil, or_false] at hc
  rcases hc with rfl | rfl
  · decide
  · exact h _ hd
theorem Bytes.take {w : World} {a : Option Addr} {l : List Nat} (h : Bytes w a l) (k : Nat) : Bytes w a (l.take k) := by
  rcases h with rfl | ⟨b, off, rfl, hb, hc⟩
  · exact .inl (by simp)
  · refine .inr ⟨b, off, rfl, hb, fun i hi => ?_⟩
    rw [List.length_take] at hi
    rw [hc i (by omega), List.getD_eq_getElem?_getD, List.getD_eq_getElem?_getD, List.getElem?_take, if_pos (by omega)]
theorem bytes_drop {w : World} {a : Option Addr} {l : List Nat} (h : Bytes w a l) (k : Nat) : Bytes w (a.map (fun x => (⟨x.block, x.off + k, none⟩ : Addr))) (l.drop k) := by
  rcases h with rfl | ⟨b, off, rfl, hb, hc⟩
  · exact .inl (by simp)
  · refine .inr ⟨b, off + k, rfl, hb, fun i hi => ?_⟩
    rw [List.length_drop] at hi
    rw [Nat.add_assoc, hc (k + i) (by omega), List.getD_eq_getElem?_getD, List.getD_eq_getElem?_getD, List.getElem?_drop]
theorem own_lit {V W : World} {B : Nat} {v : Value} {L : List Nat} (hO : OwnB W B v L) (hb : Below B V W) (hB : B ≤ W.heap.size) : OwnB (W.alloc (.cells #[.int .u8 63] 5)) B v L ∧ Bytes (W.alloc (.cells #[.int .u8 63] 5)) (some ⟨W.heap.size, 0, none⟩) [63] ∧ Below B V (W.alloc (.cells #[.int .u8 63] 5)) :=
  ⟨hO.below ((Below.refl _ _).alloc (Nat.le_refl _) _), .inr ⟨W.heap.size, 0, rfl, by simp, fun j hj => by
    match j, hj with
    | 0, _ =>
      rw [Nat.add_zero, cell_of_row _ _ _ _ _ _ (heap_alloc_new W _)]
      rfl⟩, hb.alloc hB _⟩
theorem any_holds (H : Nat → Bool) (k : Nat) : ∃ I : Nat → Bool, I 0 = false ∧ (∀ i, I (i + 1) = (I i || H i)) ∧ (I (k + 1) = true ↔ ∃ i, i ≤ k ∧ H i = true) := by
  refine ⟨fun i => (List.range i).any H, rfl, fun i => ?_, ?_⟩
  · simp [List.range_succ]
  · simp only [List.any_eq_true, List.mem_range]
    exact ⟨fun ⟨i, h1, h2⟩ => ⟨i, by omega, h2⟩, fun ⟨i, h1, h2⟩ => ⟨i, by omega, h2⟩⟩

theorem quoted_main (aT aU : Option Addr) (n k cT cU : Nat) (N : Int) (T U : List Nat) (w : World) (hnT : n = T.length) (hkU : k = U.length) (hn : n ≤ 300) (hk : k ≤ 300) (bT : Bytes w aT T) (bU : Bytes w aU U) (sT : Small T) (sU : Small U) (oT : n ≤ cT) (oU : k ≤ cU) (uT : cT ≤ 9223372036854775807) (uU : cU ≤ 9223372036854775807) :
    Calls Try.prog 6 #[.agg #[.slice aT n cT, .slice aU k cU, .int .i64 N]] w fun e w' => e = .returned (.bool true) ∧ Below w.heap.size w w' := by
  obtain ⟨A, hA⟩ : ∃ A : Array Value, A = #[.slice aT n cT, .slice aU k cU, .int .i64 N] := ⟨_, rfl⟩
  have kx : ∀ W Ls, Kp w A W Ls → (W.cell? ⟨w.heap.size, 0, none⟩ = some (.slice aT n cT) ∧ W.cell? ⟨w.heap.size, 1, none⟩ = some (.slice aU k cU) ∧ W.cell? ⟨w.heap.size, 2, none⟩ = some (.int .i64 N)) := fun W Ls h => by
    rw [cell_of_row _ _ _ _ _ _ h.1, cell_of_row _ _ _ _ _ _ h.1, cell_of_row _ _ _ _ _ _ h.1, hA]; exact ⟨rfl, rfl, rfl⟩
  have KX := hide kx
  have h0 : Kp w A (w.alloc (.cells A 45)) [] := ⟨heap_alloc_new _ _, (Below.refl _ _).alloc (Nat.le_refl _) _, fun x hx => by cases hx⟩
  have W0 : Hid (Calls Try.prog 8 #[] (w.alloc (.cells A 45)) fun e w' => e = .returned (.bool true) ∧ Hid (Kp w A w' []) ∧ (w'.cell? ⟨w.heap.size, 0, none⟩ = some (.slice aT n cT) ∧ w'.cell? ⟨w.heap.size, 1, none⟩ = some (.slice aU k cU) ∧ w'.cell? ⟨w.heap.size, 2, none⟩ = some (.int .i64 N))) := hide ((wakes_any _).mono (fun e w' ⟨h1, h2⟩ => ⟨h1, hide (h0.next h2), kx w' _ (h0.next h2)⟩))
  obtain ⟨Pq, hPq⟩ : ∃ p, p = Larder.quoteL T := ⟨_, rfl⟩
  have lq : Pq.length = 2 * n := by rw [hPq, Larder.quoteL_len, hnT]
  have CQ : Hid (∀ W Ls, Hid (Kp w A W Ls) → Calls Try.prog 14 #[.slice aT n cT] W fun e w' => ∃ a' c', e = .returned (.slice a' (List.length Pq) c') ∧ Hid (Kp w A w' ((a', Pq) :: Ls) ∧ OwnB w' W.heap.size (.slice a' (List.length Pq) c') Pq ∧ (a' = none → c' = 0) ∧ Below W.heap.size W w') ∧ (w'.cell? ⟨w.heap.size, 0, none⟩ = some (.slice aT n cT) ∧ w'.cell? ⟨w.heap.size, 1, none⟩ = some (.slice aU k cU) ∧ w'.cell? ⟨w.heap.size, 2, none⟩ = some (.int .i64 N))) := hide (fun W Ls hW => by
    refine (quote_any aT n cT W T hnT (by omega) (bT.below (unhide hW).2.1)).mono ?_
    rintro e w' ⟨v, rfl, h1, h2⟩
    rw [← hPq] at h1
    obtain ⟨a', c', rfl, h3, h4⟩ := h1.shape
    exact ⟨a', c', rfl, hide ⟨((unhide hW).next h2).cons h3, h1, h4, h2⟩, kx w' _ ((unhide hW).next h2)⟩)
  have CG : ∀ (ap : Option Addr) (np cp : Nat) (p : List Nat) (at' : Option Addr) (nt ct : Nat) (t : List Nat) (r : Bool), np = p.length → p.length ≤ 1000 → Small p → nt = t.length → t.length ≤ 300 → Small t → (r = true ↔ Larder.Meets (Larder.parse p) t) → ∀ W Ls, Hid (Kp w A W Ls) → Bytes W ap p → Bytes W at' t → Calls Try.prog 11 #[.slice ap np cp, .slice at' nt ct] W fun e w' => e = .returned (.bool r) ∧ Hid (Kp w A w' Ls) ∧ (w'.cell? ⟨w.heap.size, 0, none⟩ = some (.slice aT n cT) ∧ w'.cell? ⟨w.heap.size, 1, none⟩ = some (.slice aU k cU) ∧ w'.cell? ⟨w.heap.size, 2, none⟩ = some (.int .i64 N)) := fun ap np cp p at' nt ct t r h1 h2 h3 h4 h5 h6 h7 W Ls hW b1 b2 => by
    subst h1
    subst h4
    refine (glob_any ap at' cp ct W p t (by omega) (by omega) h3 h6 b1 b2).mono ?_
    rintro e w' ⟨r', rfl, g1, g2⟩
    have : r' = r := by
      rcases r with _ | _
      · cases r' with
        | false => rfl
        | true => exact absurd (h7.2 (g1.1 rfl)) (by simp)
      · exact g1.2 (h7.1 rfl)
    exact ⟨by rw [this], hide ((unhide hW).next g2), kx w' _ ((unhide hW).next g2)⟩
  have mT := small_mem sT
  have mU := small_mem sU
  have mq : ∀ c ∈ Pq, c < 256 := by rw [hPq]; exact small_quote mT
  obtain ⟨E0, hE0⟩ : ∃ E0 : Bool, E0 = decide (T = U) := ⟨_, rfl⟩
  obtain ⟨H0, hH0⟩ : ∃ H0 : Bool, H0 = Larder.holdsB U T 0 := ⟨_, rfl⟩
  obtain ⟨Ha, hHa⟩ : ∃ Ha : Bool, Ha = (decide (0 ≤ (k : Int) - (n : Int)) && Larder.holdsB U T ((k : Int) - (n : Int)).toNat) := ⟨_, rfl⟩
  obtain ⟨I, hI0, hIs, hIe⟩ := any_holds (Larder.holdsB U T) k
  have G1 : Hid (∀ a c W Ls, (a, Pq) ∈ Ls → Hid (Kp w A W Ls) → Calls Try.prog 11 #[.slice a (List.length Pq) c, .slice aT n cT] W fun e w' => e = .returned (.bool true) ∧ Hid (Kp w A w' Ls) ∧ (w'.cell? ⟨w.heap.size, 0, none⟩ = some (.slice aT n cT) ∧ w'.cell? ⟨w.heap.size, 1, none⟩ = some (.slice aU k cU) ∧ w'.cell? ⟨w.heap.size, 2, none⟩ = some (.int .i64 N))) := hide (fun a c W Ls hm hW => CG a _ c Pq aT n cT T true rfl (by omega) (small_of mq) hnT (by omega) sT (by rw [hPq, Larder.parse_quote, Larder.meets_lits]; simp) W Ls hW ((unhide hW).has hm) (bT.below (unhide hW).2.1))
  have G2 : Hid (∀ a c W Ls, (a, Pq) ∈ Ls → Hid (Kp w A W Ls) → Calls Try.prog 11 #[.slice a (List.length Pq) c, .slice aU k cU] W fun e w' => e = .returned (.bool E0) ∧ Hid (Kp w A w' Ls) ∧ (w'.cell? ⟨w.heap.size, 0, none⟩ = some (.slice aT n cT) ∧ w'.cell? ⟨w.heap.size, 1, none⟩ = some (.slice aU k cU) ∧ w'.cell? ⟨w.heap.size, 2, none⟩ = some (.int .i64 N))) := hide (fun a c W Ls hm hW => CG a _ c Pq aU k cU U E0 rfl (by omega) (small_of mq) hkU (by omega) sU (by rw [hPq, Larder.parse_quote, Larder.meets_lits, hE0, decide_eq_true_iff]; exact eq_comm) W Ls hW ((unhide hW).has hm) (bU.below (unhide hW).2.1))
  have G3 : Hid (∀ a c W Ls, (a, 42 :: (Pq ++ [42])) ∈ Ls → Hid (Kp w A W Ls) → Calls Try.prog 11 #[.slice a (List.length Pq + 1 + 1) c, .slice aU k cU] W fun e w' => e = .returned (.bool (I (k + 1))) ∧ Hid (Kp w A w' Ls) ∧ (w'.cell? ⟨w.heap.size, 0, none⟩ = some (.slice aT n cT) ∧ w'.cell? ⟨w.heap.size, 1, none⟩ = some (.slice aU k cU) ∧ w'.cell? ⟨w.heap.size, 2, none⟩ = some (.int .i64 N))) := hide (fun a c W Ls hm hW => CG a _ c (42 :: (Pq ++ [42])) aU k cU U (I (k + 1)) (by simp) (by simp; omega) (small_of (fun c hc => by
    simp only [List.mem_cons, List.mem_append, List.not_mem_nil, or_false] at hc
    rcases hc with rfl | hc | rfl
    · decide
    · exact mq c hc
    · decide)) hkU (by omega) sU (by rw [hPq, Larder.parse_both, Larder.meets_both, hIe, ← hkU]) W Ls hW ((unhide hW).has hm) (bU.below (unhide hW).2.1))
  have G4 : Hid (∀ a c W Ls, (a, Pq ++ [42]) ∈ Ls → Hid (Kp w A W Ls) → Calls Try.prog 11 #[.slice a (List.length Pq + 1) c, .slice aU k cU] W fun e w' => e = .returned (.bool H0) ∧ Hid (Kp w A w' Ls) ∧ (w'.cell? ⟨w.heap.size, 0, none⟩ = some (.slice aT n cT) ∧ w'.cell? ⟨w.heap.size, 1, none⟩ = some (.slice aU k cU) ∧ w'.cell? ⟨w.heap.size, 2, none⟩ = some (.int .i64 N))) := hide (fun a c W Ls hm hW => CG a _ c (Pq ++ [42]) aU k cU U H0 (by simp) (by simp; omega) (small_of (fun c hc => by
    simp only [List.mem_cons, List.mem_append, List.not_mem_nil, or_false] at hc
    rcases hc with hc | rfl
    · exact mq c hc
    · decide)) hkU (by omega) sU (by rw [hPq, Larder.parse_behind, Larder.meets_behind, hH0]) W Ls hW ((unhide hW).has hm) (bU.below (unhide hW).2.1))
  have G5 : Hid (∀ a c W Ls, (a, 42 :: Pq) ∈ Ls → Hid (Kp w A W Ls) → Calls Try.prog 11 #[.slice a (List.length Pq + 1) c, .slice aU k cU] W fun e w' => e = .returned (.bool Ha) ∧ Hid (Kp w A w' Ls) ∧ (w'.cell? ⟨w.heap.size, 0, none⟩ = some (.slice aT n cT) ∧ w'.cell? ⟨w.heap.size, 1, none⟩ = some (.slice aU k cU) ∧ w'.cell? ⟨w.heap.size, 2, none⟩ = some (.int .i64 N))) := hide (fun a c W Ls hm hW => CG a _ c (42 :: Pq) aU k cU U Ha (by simp) (by simp; omega) (small_of (fun c hc => by
    simp only [List.mem_cons] at hc
    rcases hc with rfl | hc
    · decide
    · exact mq c hc)) hkU (by omega) sU (by
      rw [hPq, Larder.parse_ahead, Larder.meets_ahead, hHa, Bool.and_eq_true, decide_eq_true_iff, ← hkU, ← hnT]
      constructor
      · rintro ⟨q1, q2⟩
        refine ⟨by omega, ?_⟩
        rwa [show ((k : Int) - (n : Int)).toNat = k - n by omega] at q2
      · rintro ⟨q1, q2⟩
        refine ⟨by omega, ?_⟩
        rwa [show ((k : Int) - (n : Int)).toNat = k - n by omega]) W Ls hW ((unhide hW).has hm) (bU.below (unhide hW).2.1))
  have EQ : Hid (∀ W Ls, Hid (Kp w A W Ls) → Calls Try.prog 16 #[.slice aT n cT, .slice aU k cU] W fun e w' => e = .returned (.bool E0) ∧ Hid (Kp w A w' Ls) ∧ (w'.cell? ⟨w.heap.size, 0, none⟩ = some (.slice aT n cT) ∧ w'.cell? ⟨w.heap.size, 1, none⟩ = some (.slice aU k cU) ∧ w'.cell? ⟨w.heap.size, 2, none⟩ = some (.int .i64 N))) := hide (fun W Ls hW => by
    have h := eq_any (c1 := cT) (c2 := cU) (by omega) (by omega) (bT.below (unhide hW).2.1) (bU.below (unhide hW).2.1)
    rw [← hnT, ← hkU, ← hE0] at h
    exact h.mono (fun e w' ⟨g1, g2⟩ => ⟨g1, hide ((unhide hW).next g2.below), kx w' _ ((unhide hW).next g2.below)⟩))
  have CH : ∀ (i : Int), -1048576 ≤ i ∧ i ≤ 1048576 → ∀ W Ls, Hid (Kp w A W Ls) → Calls Try.prog 15 #[.slice aU k cU, .slice aT n cT, .int .i64 i] W fun e w' => e = .returned (.bool (decide (0 ≤ i) && Larder.holdsB U T i.toNat)) ∧ Hid (Kp w A w' Ls) ∧ (w'.cell? ⟨w.heap.size, 0, none⟩ = some (.slice aT n cT) ∧ w'.cell? ⟨w.heap.size, 1, none⟩ = some (.slice aU k cU) ∧ w'.cell? ⟨w.heap.size, 2, none⟩ = some (.int .i64 N)) := fun i hi W Ls hW =>
    (holds_any aU aT k n cU cT i W U T hkU hnT (by omega) (by omega) (by omega) uU hi (bU.below (unhide hW).2.1) (bT.below (unhide hW).2.1)).mono (fun e w' ⟨g1, g2⟩ => ⟨g1, hide ((unhide hW).next g2.below), kx w' _ ((unhide hW).next g2.below)⟩)
  have CHn : Hid (∀ (j : Nat), j ≤ 301 → ∀ W Ls, Hid (Kp w A W Ls) → Calls Try.prog 15 #[.slice aU k cU, .slice aT n cT, .int .i64 (j : Nat)] W fun e w' => e = .returned (.bool (Larder.holdsB U T j)) ∧ Hid (Kp w A w' Ls) ∧ (w'.cell? ⟨w.heap.size, 0, none⟩ = some (.slice aT n cT) ∧ w'.cell? ⟨w.heap.size, 1, none⟩ = some (.slice aU k cU) ∧ w'.cell? ⟨w.heap.size, 2, none⟩ = some (.int .i64 N))) := hide (fun j hj W Ls hW => by
    have h := CH j (by omega) W Ls hW
    rw [Int.toNat_natCast, decide_eq_true (Int.natCast_nonneg j), Bool.true_and] at h
    exact h)
  have CH0 : Hid (∀ W Ls, Hid (Kp w A W Ls) → Calls Try.prog 15 #[.slice aU k cU, .slice aT n cT, .int .i64 0] W fun e w' => e = .returned (.bool H0) ∧ Hid (Kp w A w' Ls) ∧ (w'.cell? ⟨w.heap.size, 0, none⟩ = some (.slice aT n cT) ∧ w'.cell? ⟨w.heap.size, 1, none⟩ = some (.slice aU k cU) ∧ w'.cell? ⟨w.heap.size, 2, none⟩ = some (.int .i64 N))) := hide (fun W Ls hW => by
    have h := CH 0 (by omega) W Ls hW
    rw [hH0]
    exact h)
  have CHa : Hid (∀ W Ls, Hid (Kp w A W Ls) → Calls Try.prog 15 #[.slice aU k cU, .slice aT n cT, .int .i64 ((k : Int) - (n : Int))] W fun e w' => e = .returned (.bool Ha) ∧ Hid (Kp w A w' Ls) ∧ (w'.cell? ⟨w.heap.size, 0, none⟩ = some (.slice aT n cT) ∧ w'.cell? ⟨w.heap.size, 1, none⟩ = some (.slice aU k cU) ∧ w'.cell? ⟨w.heap.size, 2, none⟩ = some (.int .i64 N))) := hide (fun W Ls hW => by
    have h := CH ((k : Int) - (n : Int)) (by omega) W Ls hW
    rw [hHa]
    exact h)
  obtain ⟨E1, hE1⟩ : ∃ E1 : Nat → Bool, E1 = fun q => decide (U.take q = T.take q) := ⟨_, rfl⟩
  obtain ⟨E2, hE2⟩ : ∃ E2 : Nat → Bool, E2 = fun q => decide (U.drop (q + 1) = T.drop (q + 1)) := ⟨_, rfl⟩
  have CQk : Hid (∀ q, q < n → ∀ W Ls, Hid (Kp w A W Ls) → Calls Try.prog 14 #[.slice aT q cT] W fun e w' => ∃ a' c' L, e = .returned (.slice a' (List.length L) c') ∧ Hid (L = Larder.quoteL (T.take q) ∧ Kp w A w' Ls ∧ OwnB w' W.heap.size (.slice a' (List.length L) c') L ∧ Below W.heap.size W w') ∧ (w'.cell? ⟨w.heap.size, 0, none⟩ = some (.slice aT n cT) ∧ w'.cell? ⟨w.heap.size, 1, none⟩ = some (.slice aU k cU) ∧ w'.cell? ⟨w.heap.size, 2, none⟩ = some (.int .i64 N))) := hide (fun q hq W Ls hW => by
    refine (quote_any aT q cT W (T.take q) (by rw [List.length_take]; omega) (by rw [List.length_take]; omega) ((bT.below (unhide hW).2.1).take q)).mono ?_
    rintro e w' ⟨v, rfl, h1, h2⟩
    obtain ⟨a', c', rfl, h3, h4⟩ := h1.shape
    exact ⟨a', c', _, rfl, hide ⟨rfl, (unhide hW).next h2, h1, h2⟩, kx w' _ ((unhide hW).next h2)⟩)
  have CQr : Hid (∀ q ar nr cr, q < n → nr = n - (q + 1) → Hid (Bytes w ar (T.drop (q + 1))) → ∀ W Ls, Hid (Kp w A W Ls) → Calls Try.prog 14 #[.slice ar nr cr] W fun e w' => ∃ a' c' L, e = .returned (.slice a' (List.length L) c') ∧ Hid (L = Larder.quoteL (T.drop (q + 1)) ∧ Kp w A w' ((a', L) :: Ls) ∧ (a' = none → c' = 0) ∧ Below W.heap.size W w') ∧ (w'.cell? ⟨w.heap.size, 0, none⟩ = some (.slice aT n cT) ∧ w'.cell? ⟨w.heap.size, 1, none⟩ = some (.slice aU k cU) ∧ w'.cell? ⟨w.heap.size, 2, none⟩ = some (.int .i64 N))) := hide (fun q ar nr cr hq hnr hb W Ls hW => by
    refine (quote_any ar nr cr W (T.drop (q + 1)) (by rw [List.length_drop]; omega) (by rw [List.length_drop]; omega) ((unhide hb).below (unhide hW).2.1)).mono ?_
    rintro e w' ⟨v, rfl, h1, h2⟩
    obtain ⟨a', c', rfl, h3, h4⟩ := h1.shape
    exact ⟨a', c', _, rfl, hide ⟨rfl, ((unhide hW).next h2).cons h3, h4, h2⟩, kx w' _ ((unhide hW).next h2)⟩)
  have EQ1 : Hid (∀ q, q < n → q < k → ∀ W Ls nq, Hid (Kp w A W Ls) → Calls Try.prog 16 #[.slice aU q cU, .slice aT q cT] (W.drewN nq) fun e w' => e = .returned (.bool (E1 q)) ∧ ∃ m, w' = W.drewN m) := hide (fun q hq hqk W Ls nq hW => by
    have l1 : (U.take q).length = q := by rw [List.length_take]; omega
    have l2 : (T.take q).length = q := by rw [List.length_take]; omega
    have b1 : Bytes (W.drewN nq) aU (U.take q) := (bU.below (unhide hW).2.1).take q
    have b2 : Bytes (W.drewN nq) aT (T.take q) := (bT.below (unhide hW).2.1).take q
    have h := eq_any (c1 := cU) (c2 := cT) (by omega) (by omega) b1 b2
    rw [l1, l2] at h
    rw [hE1]
    exact h.mono (fun e w' ⟨g1, g2⟩ => ⟨g1, by obtain ⟨m, rfl⟩ := g2.quiet; exact ⟨nq + m, by rw [World.drewN_drewN]⟩⟩))
  have EQ2 : Hid (∀ q au nu du ar nr cr, nu = k - (q + 1) → nr = n - (q + 1) → Hid (Bytes w au (U.drop (q + 1))) → Hid (Bytes w ar (T.drop (q + 1))) → ∀ W Ls nq, Hid (Kp w A W Ls) → Calls Try.prog 16 #[.slice au nu du, .slice ar nr cr] (W.drewN nq) fun e w' => e = .returned (.bool (E2 q)) ∧ ∃ m, w' = W.drewN m) := hide (fun q au nu du ar nr cr hnu hnr hu hr W Ls nq hW => by
    have l1 : (U.drop (q + 1)).length = nu := by rw [List.length_drop]; omega
    have l2 : (T.drop (q + 1)).length = nr := by rw [List.length_drop]; omega
    have b1 : Bytes (W.drewN nq) au (U.drop (q + 1)) := (unhide hu).below ((unhide hW).drewN nq).2.1
    have b2 : Bytes (W.drewN nq) ar (T.drop (q + 1)) := (unhide hr).below ((unhide hW).drewN nq).2.1
    have h := eq_any (c1 := du) (c2 := cr) (by omega) (by omega) b1 b2
    rw [l1, l2] at h
    rw [hE2]
    exact h.mono (fun e w' ⟨g1, g2⟩ => ⟨g1, by obtain ⟨m, rfl⟩ := g2.quiet; exact ⟨nq + m, by rw [World.drewN_drewN]⟩⟩))
  have G6 : ∀ q, q < n → ∀ a c L, L = Larder.quoteL (T.take q) ++ [63] ++ Larder.quoteL (T.drop (q + 1)) → ∀ (r : Bool), (r = true ↔ k = n ∧ E1 q = true ∧ E2 q = true) → ∀ W Ls, (a, L) ∈ Ls → Hid (Kp w A W Ls) → Calls Try.prog 11 #[.slice a (List.length L) c, .slice aU k cU] W fun e w' => e = .returned (.bool r) ∧ Hid (Kp w A w' Ls) ∧ (w'.cell? ⟨w.heap.size, 0, none⟩ = some (.slice aT n cT) ∧ w'.cell? ⟨w.heap.size, 1, none⟩ = some (.slice aU k cU) ∧ w'.cell? ⟨w.heap.size, 2, none⟩ = some (.int .i64 N)) := fun q hq a c L hL r hr W Ls hm hW => CG a _ c L aU k cU U r rfl (by
      rw [hL]
      simp only [List.length_append, Larder.quoteL_len, List.length_take, List.length_drop, List.length_singleton]
      omega) (small_of (fun c hc => by
      rw [hL] at hc
      simp only [List.mem_append, List.mem_singleton] at hc
      rcases hc with (hc | rfl) | hc
      · exact small_quote (fun d hd => mT d (List.mem_of_mem_take hd)) c hc
      · decide
      · exact small_quote (fun d hd => mT d (List.mem_of_mem_drop hd)) c hc)) hkU (by omega) sU (by
      rw [hr, hL, Larder.parse_hole, Larder.meets_hole T U q (by omega), hE1, hE2, ← hkU, ← hnT]
      simp only [decide_eq_true_iff]) W Ls hW ((unhide hW).has hm) (bU.below (unhide hW).2.1)
  have G6a : Hid (∀ q, q < n → k = n → ∀ a c L, Hid (L = Larder.quoteL (T.take q) ++ [63] ++ Larder.quoteL (T.drop (q + 1))) → ∀ W Ls, (a, L) ∈ Ls → Hid (Kp w A W Ls) → Calls Try.prog 11 #[.slice a (List.length L) c, .slice aU k cU] W fun e w' => e = .returned (.bool (E1 q && E2 q)) ∧ Hid (Kp w A w' Ls) ∧ (w'.cell? ⟨w.heap.size, 0, none⟩ = some (.slice aT n cT) ∧ w'.cell? ⟨w.heap.size, 1, none⟩ = some (.slice aU k cU) ∧ w'.cell? ⟨w.heap.size, 2, none⟩ = some (.int .i64 N))) := hide (fun q hq hkn a c L hL W Ls hm hW => G6 q hq a c L (unhide hL) (E1 q && E2 q) (by rw [Bool.and_eq_true]; exact ⟨fun h => ⟨hkn, h⟩, fun h => h.2⟩) W Ls hm hW)
  have G6b : Hid (∀ q, q < n → k ≠ n → ∀ a c L, Hid (L = Larder.quoteL (T.take q) ++ [63] ++ Larder.quoteL (T.drop (q + 1))) → ∀ W Ls, (a, L) ∈ Ls → Hid (Kp w A W Ls) → Calls Try.prog 11 #[.slice a (List.length L) c, .slice aU k cU] W fun e w' => e = .returned (.bool false) ∧ Hid (Kp w A w' Ls) ∧ (w'.cell? ⟨w.heap.size, 0, none⟩ = some (.slice aT n cT) ∧ w'.cell? ⟨w.heap.size, 1, none⟩ = some (.slice aU k cU) ∧ w'.cell? ⟨w.heap.size, 2, none⟩ = some (.int .i64 N))) := hide (fun q hq hkn a c L hL W Ls hm hW => G6 q hq a c L (unhide hL) false (by simp [hkn]) W Ls hm hW)
  have BTd : Hid (∀ q, Bytes w (aT.map (fun x => (⟨x.block, x.off + (q + 1), none⟩ : Addr))) (T.drop (q + 1))) := hide (fun q => bytes_drop bT (q + 1))
  have BUd : Hid (∀ q, Bytes w (aU.map (fun x => (⟨x.block, x.off + (q + 1), none⟩ : Addr))) (U.drop (q + 1))) := hide (fun q => bytes_drop bU (q + 1))
  obtain ⟨Hb, hHb⟩ : ∃ Hb, Hb = Larder.holdsB U T := ⟨_, rfl⟩
  rw [← hHb] at CHn hIs
  have HIS := hide hIs
  have HI0 := hide hI0
  have kc := fun (w : World) (C : Array Value) (n c : Nat) => Lib.run_convert_bytes_const (P := Try.prog) w 22 5 C n c Try.underlying22 Try.underlying5
  have kd := fun (w : World) (o : Obj) (C : Array Value) (n c : Nat) => Go.Joins.run_convert_bytes_const_at (P := Try.prog) (w.alloc o) 22 5 C n c (w.heap.size + 1) (by simp) Try.underlying22 Try.underlying5
  have HT := hide hnT
  have HU := hide hkU
  have LQ := hide lq
  have HPQ := hide hPq
  have BT := hide bT
  have BU := hide bU
  have ST := hide sT
  have SU := hide sU
  clear h0 bT bU sT sU hnT hkU lq hPq CG CH mT mU mq hE0 hH0 hHa hI0 hIs hIe hHb kx G6 hE1 hE2
  subst hA
  go_enter Try.func6, Try.ntmps6
  go_wp2_with (first | (go_at_call 8; refine (unhide W0).mono ?_; rintro e w1 ⟨rfl, k1, x1⟩) | (go_at_call 14; with_reducible refine (unhide CQ _ _ k1).mono ?_; rintro e w2 ⟨a2, c2, rfl, k2, x2⟩) | (at_builtin; refine wpList_app1 rfl _ _ rfl rfl (w2.heap.size + 1) 42 Pq a2 (List.length Pq) c2 rfl rfl (unhide k2).1.lit2.2 rfl ((unhide k2).1.lit2.1.has (List.mem_cons_of_mem _ (List.mem_cons_self ..))) (unhide k2).2.2.1 (by rw [unhide LQ]; omega) ?_; intro a3 c3 w3 h1 h2 h3; have k3 : Hid (Kp w #[.slice aT n cT, .slice aU k cU, .int .i64 N] w3 [(a3, 42 :: Pq), (some ⟨w2.heap.size, 0, none⟩, [42]), (a2, Pq)]) := hide (((unhide k2).1.lit2.1.next h2).cons h1); have x3 := unhide KX _ _ (unhide k3); clear h1 h2 h3) | (go_at_call 14; with_reducible refine (unhide CQ _ _ k3).mono ?_; rintro e w4 ⟨a4, c4, rfl, k4, x4⟩) | (at_builtin; refine wpList_app rfl _ _ rfl w3.heap.size _ Pq [42] (some ⟨w2.heap.size, 0, none⟩) 1 1 rfl rfl (unhide k4).2.1 rfl ((unhide k4).1.has (by simp)) (fun h => by cases h) (by rw [unhide LQ]; show _ + 1 ≤ _; omega) (unhide k4).2.2.2.size ?_; intro v5 w5 h1 h2; obtain ⟨a5, c5, rfl, h3, h4⟩ := h1.shape; have k5 : Hid (Kp w #[.slice aT n cT, .slice aU k cU, .int .i64 N] w5 [(a5, Pq ++ [42]), (a3, 42 :: Pq), (some ⟨w2.heap.size, 0, none⟩, [42]), (a2, Pq)] ∧ (a5 = none → c5 = 0)) := hide ⟨((unhide k3).next ((unhide k4).2.2.2.trans h2)).cons h3, h4⟩; clear h1 h2 h3 h4) | (at_builtin; refine wpList_app1 rfl _ _ rfl rfl w5.heap.size 42 (Pq ++ [42]) a5 (Pq.length + 1) c5 rfl rfl (lit_cell w5 (.cells #[] 0)) (by simp) (((unhide k5).1.lit).has (List.mem_cons_of_mem _ (List.mem_cons_self ..))) (unhide k5).2 (by rw [List.length_append, unhide LQ]; show _ + 1 ≤ _; omega) ?_; intro a6 c6 w6 h1 h2 h3; have k6 : Hid (Kp w #[.slice aT n cT, .slice aU k cU, .int .i64 N] w6 [(a6, 42 :: (Pq ++ [42])), (a5, Pq ++ [42]), (a3, 42 :: Pq), (a2, Pq)]) := hide ((((unhide k5).1.lit).next h2).cons h1 |>.pick (by simp)); have x6 := unhide KX _ _ (unhide k6); clear h1 h2 h3))
  go_loopw [8, 9] (fun bv iv wr => ∃ i : Nat, iv = .int .i64 (i : Nat) ∧ i ≤ k + 1 ∧ bv = .bool (I i) ∧ Hid (Kp w #[.slice aT n cT, .slice aU k cU, .int .i64 N] wr [(a6, 42 :: (Pq ++ [42])), (a5, Pq ++ [42]), (a3, 42 :: Pq), (a2, Pq)])) (fun _ iv _ => k + 1 - (intOf iv).toNat)
  case atStart => exact ⟨0, rfl, Nat.zero_le _, by rw [unhide HI0], k6⟩
  case round =>
    obtain ⟨i, rfl, hi, rfl, k7⟩ := hrel
    have x7 := unhide KX _ _ (unhide k7)
    clear x1 x2 x3 x4 x6
    by_cases hik : i ≤ k
    · have f1 : decide ((i : Int) ≤ (k : Int)) = true := decide_eq_true (by omega)
      have hnx := unhide HIS i
      generalize hII : I i = b at *
      cases b with
      | true =>
        rw [Bool.true_or] at hnx
        go_wp2
        all_goals go_roundw
        all_goals first | exact ⟨i + 1, by simp, by omega, by rw [hnx], k7⟩ | (simp [intOf]; omega)
      | false =>
        rw [Bool.false_or] at hnx
        go_wp2_with (go_at_call 15; refine (unhide CHn i (by omega) _ _ k7).mono ?_; rintro e w8 ⟨rfl, k8, x8⟩)
        all_goals go_roundw
        all_goals first | exact ⟨i + 1, by simp, by omega, by rw [hnx], k8⟩ | (simp [intOf]; omega)
    · have hii : i = k + 1 := by omega
      subst hii
      have f1 : decide (((k + 1 : Nat) : Int) ≤ (k : Int)) = false := decide_eq_false (by omega)
      generalize I (k + 1) = IB at *
      clear CHn HIS HI0 hi hik k6
      have k7d := hide (unhide k7).drew
      have e1 : (E0 != E0) = false := by simp
      have e2 : (IB != IB) = false := by simp
      have e3 : (H0 != H0) = false := by simp
      have e4 : (Ha != Ha) = false := by simp
      go_wp2_with fail
      go_region_held3 (fun w' => w'.cell? ⟨w.heap.size, 0, none⟩ = some (.slice aT n cT) ∧ w'.cell? ⟨w.heap.size, 1, none⟩ = some (.slice aU k cU) ∧ w'.cell? ⟨w.heap.size, 2, none⟩ = some (.int .i64 N)) (go_keep) (first | (go_at_call 11; with_reducible refine (unhide G1 a2 c2 _ _ (by simp) k7d).mono ?_; rintro e w8 ⟨rfl, k8, x8⟩) | (go_at_call 11; with_reducible refine (unhide G2 a2 c2 _ _ (by simp) k8).mono ?_; rintro e w9 ⟨rfl, k9, x9⟩) | (go_at_call 16; with_reducible refine (unhide EQ _ _ k9).mono ?_; rintro e w10 ⟨rfl, k10, x10⟩) | (go_at_call 11; with_reducible refine (unhide G3 a6 c6 _ _ (by simp) k10).mono ?_; rintro e w11 ⟨rfl, k11, x11⟩))
      all_goals go_wp2_with fail
      have k11d := hide (unhide k11).drew
      have kw : IntKind.i64.wrap ((k : Int) - (n : Int)) = (k : Int) - (n : Int) := by rw [IntKind.wrap_i64]; omega
      clear x7 x8 x9 x10
      go_region_held3 (fun w' => w'.cell? ⟨w.heap.size, 0, none⟩ = some (.slice aT n cT) ∧ w'.cell? ⟨w.heap.size, 1, none⟩ = some (.slice aU k cU) ∧ w'.cell? ⟨w.heap.size, 2, none⟩ = some (.int .i64 N)) (go_keep) (first | (go_at_call 11; with_reducible refine (unhide G4 a5 c5 _ _ (by simp) k11d).mono ?_; rintro e w12 ⟨rfl, k12, x12⟩) | (go_at_call 15; with_reducible refine (unhide CH0 _ _ k12).mono ?_; rintro e w13 ⟨rfl, k13, x13⟩) | (go_at_call 11; with_reducible refine (unhide G5 a3 c3 _ _ (by simp) k13).mono ?_; rintro e w14 ⟨rfl, k14, x14⟩) | (go_at_call 15; with_reducible refine (unhide CHa _ _ k14).mono ?_; rintro e w15 ⟨rfl, k15, x15⟩))
      all_goals clear x11 x12 x13 x14
      rcases Nat.eq_zero_or_pos n with hn0 | hn0
      · subst hn0
        all_goals go_wp2
        all_goals go_ret
        all_goals exact ⟨rfl, (unhide k15).2.1⟩
      · have z0 : ((n : Int) == 0) = false := by simp; omega
        obtain ⟨R, hR⟩ : ∃ R, R = N.tmod (n : Int) := ⟨_, rfl⟩
        have hR1 : R < n := by rw [hR]; exact Int.tmod_lt_of_pos N (by omega)
        have hR2 : -(n : Int) < R := by rw [hR]; have h := Int.tmod_lt_of_pos (-N) (show 0 < (n : Int) by omega); rw [Int.neg_tmod] at h; omega
        have hR' := hR.symm
        clear hR
        by_cases hRn : R < 0
        · obtain ⟨q, hq⟩ : ∃ q : Nat, (q : Int) = R + n := ⟨(R + n).toNat, by omega⟩
          have hqn : q < n := by omega
          have d1 : decide (R < 0) = true := decide_eq_true hRn
          have d2 : IntKind.i64.wrap (R + (n : Int)) = (q : Nat) := by rw [IntKind.wrap_i64]; omega
          have d3 : wrap64 (R + (n : Int)) = (q : Nat) := by unfold wrap64; omega
          clear hR1 hR2 hRn hq
          by_cases hcT : cT = q + 1
          · have BR : Hid (Bytes w aT (T.drop (q + 1))) := hide (.inl (List.eq_nil_of_length_eq_zero (by rw [List.length_drop, ← unhide HT]; omega)))
            obtain rfl : n = q + 1 := by omega
            subst hcT
            simp only [Int.natCast_add, Int.natCast_one] at hR' z0
            try simp only [Int.natCast_add, Int.natCast_one] at d2 d3
            go_wp2_with (first | (go_at_call 14; with_reducible refine (unhide CQk q hqn _ _ k15).mono ?_; rintro e w16 ⟨a16, c16, L16, rfl, k16, x16⟩; have o16 := hide (own_lit (unhide k16).2.2.1 (unhide k16).2.2.2 (unhide k16).2.2.2.size); have l16 : Hid (L16.length = 2 * q) := hide (by rw [(unhide k16).1, Larder.quoteL_len, List.length_take, ← unhide HT]; omega)) | (at_builtin; refine wpList_app rfl _ _ rfl w15.heap.size _ L16 [63] (some ⟨w16.heap.size, 0, none⟩) 1 1 rfl rfl (unhide o16).1 rfl (unhide o16).2.1 (fun h => by cases h) (by rw [unhide l16]; show _ + 1 ≤ _; omega) (unhide o16).2.2.size ?_; intro v17 w17 h1 h2; obtain ⟨L17, hL17⟩ : ∃ L, L = L16 ++ [63] := ⟨_, rfl⟩; rw [← hL17] at h1; obtain ⟨a17, c17, rfl, h3, h4⟩ := h1.shape; have k17 := hide (And.intro (show L17 = Larder.quoteL (T.take q) ++ [63] by rw [hL17, (unhide k16).1]) (And.intro ((unhide k15).next ((unhide o16).2.2.trans h2)) (And.intro h1 ((unhide o16).2.2.trans h2)))); have l17 : Hid (L17.length = 2 * q + 1) := hide (by rw [hL17, List.length_append, unhide l16]; rfl); have k17b := hide (unhide k17).2.1; have x17 := unhide KX _ _ (unhide k17b); clear h1 h2 h3 h4 hL17) | (go_at_call 14; with_reducible refine (unhide CQr q _ _ _ hqn (by omega) BR _ _ k17b).mono ?_; rintro e w18 ⟨a18, c18, L18, rfl, k18, x18⟩) | (at_builtin; refine wpList_app rfl _ _ rfl w15.heap.size _ L17 L18 a18 (List.length L18) c18 rfl rfl ((unhide k17).2.2.1.below (unhide k18).2.2.2) rfl ((unhide k18).2.1.has (List.mem_cons_self ..)) (unhide k18).2.2.1 (by rw [unhide l17, (unhide k18).1, Larder.quoteL_len, List.length_drop, ← unhide HT]; omega) (chain (unhide k17).2.2.2 (unhide k18).2.2.2 (Nat.le_refl _)).size ?_; intro v19 w19 h1 h2; obtain ⟨L19, hL19⟩ : ∃ L, L = L17 ++ L18 := ⟨_, rfl⟩; rw [← hL19] at h1; obtain ⟨a19, c19, rfl, h3, h4⟩ := h1.shape; have HL : Hid (L19 = Larder.quoteL (T.take q) ++ [63] ++ Larder.quoteL (T.drop (q + 1))) := hide (by rw [hL19, (unhide k17).1, (unhide k18).1]); have k19 := hide (((unhide k15).next ((chain (unhide k17).2.2.2 (unhide k18).2.2.2 (Nat.le_refl _)).trans h2)).cons h3); have x19 := unhide KX _ _ (unhide k19); clear h1 h2 h3 h4 hL19))
            clear x15 x16 x17 x18
            by_cases hkn : k = (q + 1)
            · have hqk : q < k := by omega
              have z1 : ((k : Int) == ((q : Int) + 1)) = true := beq_iff_eq.2 (by omega)
              have s1 : q ≤ cU := by omega
              have s2 : q ≤ q + 1 := by omega
              have s3 : (q : Int) ≤ (cU : Int) := by omega
              have s4 : (q : Int) ≤ (q : Int) + 1 := by omega
              have s5 : (0 : Int) ≤ (q : Int) := by omega
              have s6 : IntKind.i64.wrap ((q : Int) + 1) = ((q + 1 : Nat) : Int) := by rw [IntKind.wrap_i64]; omega
              have s7 : ((q + 1 : Nat) : Int) ≤ (k : Int) := by omega
              have s8 : ((q + 1 : Nat) : Int) ≤ ((q + 1 : Nat) : Int) := by omega
              have HKN := hide hkn
              clear hkn
              have QE1 := hide (fun nq => unhide EQ1 q hqn hqk _ _ nq k19)
              cases hE : E1 q with
              | false =>
                rw [hE] at QE1
                go_quiet (first | (go_at_call 16; with_reducible exact unhide QE1 _))
                all_goals go_wp2_with (go_at_call 11; with_reducible refine (unhide G6a q hqn (unhide HKN) a19 c19 L19 HL _ _ (List.mem_cons_self ..) (hide ((unhide k19).drewN _))).mono ?_; rintro e w22 ⟨rfl, k22, x22⟩)
                all_goals go_ret
                all_goals exact ⟨ret_bool (by first | simp | simp [hE]), (unhide k22).2.1⟩
              | true =>
                rw [hE] at QE1
                by_cases hcU : cU = q + 1
                · have BU2 : Hid (Bytes w aU (U.drop (q + 1))) := hide (.inl (List.eq_nil_of_length_eq_zero (by rw [List.length_drop, ← unhide HU]; omega)))
                  subst hcU
                  go_quiet (first | (go_at_call 16; first | with_reducible exact unhide QE1 _ | with_reducible exact unhide EQ2 q _ _ _ _ _ _ (by omega) (by omega) BU2 BR _ _ _ k19))
                  all_goals go_wp2_with (go_at_call 11; with_reducible refine (unhide G6a q hqn (unhide HKN) a19 c19 L19 HL _ _ (List.mem_cons_self ..) (hide ((unhide k19).drewN _))).mono ?_; rintro e w22 ⟨rfl, k22, x22⟩)
                  all_goals go_ret
                  all_goals exact ⟨ret_bool (by first | simp | simp [hE]), (unhide k22).2.1⟩
                · have BU2 := hide (unhide BUd q)
                  go_quiet (first | (go_at_call 16; first | with_reducible exact unhide QE1 _ | with_reducible exact unhide EQ2 q _ _ _ _ _ _ (by omega) (by omega) BU2 BR _ _ _ k19))
                  all_goals go_wp2_with (go_at_call 11; with_reducible refine (unhide G6a q hqn (unhide HKN) a19 c19 L19 HL _ _ (List.mem_cons_self ..) (hide ((unhide k19).drewN _))).mono ?_; rintro e w22 ⟨rfl, k22, x22⟩)
                  all_goals go_ret
                  all_goals exact ⟨ret_bool (by first | simp | simp [hE]), (unhide k22).2.1⟩
            · have z1 : ((k : Int) == ((q : Int) + 1)) = false := beq_eq_false_iff_ne.2 (by omega)
              go_quiet (fail)
              all_goals go_wp2_with (go_at_call 11; with_reducible refine (unhide G6b q hqn hkn a19 c19 L19 HL _ _ (List.mem_cons_self ..) (hide ((unhide k19).drewN _))).mono ?_; rintro e w22 ⟨rfl, k22, x22⟩)
              all_goals go_ret
              all_goals exact ⟨ret_bool (by simp), (unhide k22).2.1⟩
          · have BR := hide (unhide BTd q)
            go_wp2_with (first | (go_at_call 14; with_reducible refine (unhide CQk q hqn _ _ k15).mono ?_; rintro e w16 ⟨a16, c16, L16, rfl, k16, x16⟩; have o16 := hide (own_lit (unhide k16).2.2.1 (unhide k16).2.2.2 (unhide k16).2.2.2.size); have l16 : Hid (L16.length = 2 * q) := hide (by rw [(unhide k16).1, Larder.quoteL_len, List.length_take, ← unhide HT]; omega)) | (at_builtin; refine wpList_app rfl _ _ rfl w15.heap.size _ L16 [63] (some ⟨w16.heap.size, 0, none⟩) 1 1 rfl rfl (unhide o16).1 rfl (unhide o16).2.1 (fun h => by cases h) (by rw [unhide l16]; show _ + 1 ≤ _; omega) (unhide o16).2.2.size ?_; intro v17 w17 h1 h2; obtain ⟨L17, hL17⟩ : ∃ L, L = L16 ++ [63] := ⟨_, rfl⟩; rw [← hL17] at h1; obtain ⟨a17, c17, rfl, h3, h4⟩ := h1.shape; have k17 := hide (And.intro (show L17 = Larder.quoteL (T.take q) ++ [63] by rw [hL17, (unhide k16).1]) (And.intro ((unhide k15).next ((unhide o16).2.2.trans h2)) (And.intro h1 ((unhide o16).2.2.trans h2)))); have l17 : Hid (L17.length = 2 * q + 1) := hide (by rw [hL17, List.length_append, unhide l16]; rfl); have k17b := hide (unhide k17).2.1; have x17 := unhide KX _ _ (unhide k17b); clear h1 h2 h3 h4 hL17) | (go_at_call 14; with_reducible refine (unhide CQr q _ _ _ hqn (by omega) BR _ _ k17b).mono ?_; rintro e w18 ⟨a18, c18, L18, rfl, k18, x18⟩) | (at_builtin; refine wpList_app rfl _ _ rfl w15.heap.size _ L17 L18 a18 (List.length L18) c18 rfl rfl ((unhide k17).2.2.1.below (unhide k18).2.2.2) rfl ((unhide k18).2.1.has (List.mem_cons_self ..)) (unhide k18).2.2.1 (by rw [unhide l17, (unhide k18).1, Larder.quoteL_len, List.length_drop, ← unhide HT]; omega) (chain (unhide k17).2.2.2 (unhide k18).2.2.2 (Nat.le_refl _)).size ?_; intro v19 w19 h1 h2; obtain ⟨L19, hL19⟩ : ∃ L, L = L17 ++ L18 := ⟨_, rfl⟩; rw [← hL19] at h1; obtain ⟨a19, c19, rfl, h3, h4⟩ := h1.shape; have HL : Hid (L19 = Larder.quoteL (T.take q) ++ [63] ++ Larder.quoteL (T.drop (q + 1))) := hide (by rw [hL19, (unhide k17).1, (unhide k18).1]); have k19 := hide (((unhide k15).next ((chain (unhide k17).2.2.2 (unhide k18).2.2.2 (Nat.le_refl _)).trans h2)).cons h3); have x19 := unhide KX _ _ (unhide k19); clear h1 h2 h3 h4 hL19))
            clear x15 x16 x17 x18
            by_cases hkn : k = n
            · have hqk : q < k := by omega
              have z1 : ((k : Int) == ((n : Int))) = true := beq_iff_eq.2 (by omega)
              have s1 : q ≤ cU := by omega
              have s2 : q ≤ cT := by omega
              have s3 : (q : Int) ≤ (cU : Int) := by omega
              have s4 : (q : Int) ≤ (cT : Int) := by omega
              have s5 : (0 : Int) ≤ (q : Int) := by omega
              have s6 : IntKind.i64.wrap ((q : Int) + 1) = ((q + 1 : Nat) : Int) := by rw [IntKind.wrap_i64]; omega
              have s7 : ((q + 1 : Nat) : Int) ≤ (k : Int) := by omega
              have s8 : ((q + 1 : Nat) : Int) ≤ (n : Int) := by omega
              have HKN := hide hkn
              clear hkn
              have QE1 := hide (fun nq => unhide EQ1 q hqn hqk _ _ nq k19)
              cases hE : E1 q with
              | false =>
                rw [hE] at QE1
                go_quiet (first | (go_at_call 16; with_reducible exact unhide QE1 _))
                all_goals go_wp2_with (go_at_call 11; with_reducible refine (unhide G6a q hqn (unhide HKN) a19 c19 L19 HL _ _ (List.mem_cons_self ..) (hide ((unhide k19).drewN _))).mono ?_; rintro e w22 ⟨rfl, k22, x22⟩)
                all_goals go_ret
                all_goals exact ⟨ret_bool (by first | simp | simp [hE]), (unhide k22).2.1⟩
              | true =>
                rw [hE] at QE1
                by_cases hcU : cU = q + 1
                · have BU2 : Hid (Bytes w aU (U.drop (q + 1))) := hide (.inl (List.eq_nil_of_length_eq_zero (by rw [List.length_drop, ← unhide HU]; omega)))
                  subst hcU
                  go_quiet (first | (go_at_call 16; first | with_reducible exact unhide QE1 _ | with_reducible exact unhide EQ2 q _ _ _ _ _ _ (by omega) (by omega) BU2 BR _ _ _ k19))
                  all_goals go_wp2_with (go_at_call 11; with_reducible refine (unhide G6a q hqn (unhide HKN) a19 c19 L19 HL _ _ (List.mem_cons_self ..) (hide ((unhide k19).drewN _))).mono ?_; rintro e w22 ⟨rfl, k22, x22⟩)
                  all_goals go_ret
                  all_goals exact ⟨ret_bool (by first | simp | simp [hE]), (unhide k22).2.1⟩
                · have BU2 := hide (unhide BUd q)
                  go_quiet (first | (go_at_call 16; first | with_reducible exact unhide QE1 _ | with_reducible exact unhide EQ2 q _ _ _ _ _ _ (by omega) (by omega) BU2 BR _ _ _ k19))
                  all_goals go_wp2_with (go_at_call 11; with_reducible refine (unhide G6a q hqn (unhide HKN) a19 c19 L19 HL _ _ (List.mem_cons_self ..) (hide ((unhide k19).drewN _))).mono ?_; rintro e w22 ⟨rfl, k22, x22⟩)
                  all_goals go_ret
                  all_goals exact ⟨ret_bool (by first | simp | simp [hE]), (unhide k22).2.1⟩
            · have z1 : ((k : Int) == ((n : Int))) = false := beq_eq_false_iff_ne.2 (by omega)
              go_quiet (fail)
              all_goals go_wp2_with (go_at_call 11; with_reducible refine (unhide G6b q hqn hkn a19 c19 L19 HL _ _ (List.mem_cons_self ..) (hide ((unhide k19).drewN _))).mono ?_; rintro e w22 ⟨rfl, k22, x22⟩)
              all_goals go_ret
              all_goals exact ⟨ret_bool (by simp), (unhide k22).2.1⟩
        · obtain ⟨q, hq⟩ : ∃ q : Nat, R = (q : Int) := ⟨R.toNat, by omega⟩
          subst hq
          have hqn : q < n := by omega
          have d1 : decide ((q : Int) < 0) = false := decide_eq_false hRn
          clear hR1 hR2 hRn
          by_cases hcT : cT = q + 1
          · have BR : Hid (Bytes w aT (T.drop (q + 1))) := hide (.inl (List.eq_nil_of_length_eq_zero (by rw [List.length_drop, ← unhide HT]; omega)))
            obtain rfl : n = q + 1 := by omega
            subst hcT
            simp only [Int.natCast_add, Int.natCast_one] at hR' z0
            try simp only [Int.natCast_add, Int.natCast_one] at d2 d3
            go_wp2_with (first | (go_at_call 14; with_reducible refine (unhide CQk q hqn _ _ k15).mono ?_; rintro e w16 ⟨a16, c16, L16, rfl, k16, x16⟩; have o16 := hide (own_lit (unhide k16).2.2.1 (unhide k16).2.2.2 (unhide k16).2.2.2.size); have l16 : Hid (L16.length = 2 * q) := hide (by rw [(unhide k16).1, Larder.quoteL_len, List.length_take, ← unhide HT]; omega)) | (at_builtin; refine wpList_app rfl _ _ rfl w15.heap.size _ L16 [63] (some ⟨w16.heap.size, 0, none⟩) 1 1 rfl rfl (unhide o16).1 rfl (unhide o16).2.1 (fun h => by cases h) (by rw [unhide l16]; show _ + 1 ≤ _; omega) (unhide o16).2.2.size ?_; intro v17 w17 h1 h2; obtain ⟨L17, hL17⟩ : ∃ L, L = L16 ++ [63] := ⟨_, rfl⟩; rw [← hL17] at h1; obtain ⟨a17, c17, rfl, h3, h4⟩ := h1.shape; have k17 := hide (And.intro (show L17 = Larder.quoteL (T.take q) ++ [63] by rw [hL17, (unhide k16).1]) (And.intro ((unhide k15).next ((unhide o16).2.2.trans h2)) (And.intro h1 ((unhide o16).2.2.trans h2)))); have l17 : Hid (L17.length = 2 * q + 1) := hide (by rw [hL17, List.length_append, unhide l16]; rfl); have k17b := hide (unhide k17).2.1; have x17 := unhide KX _ _ (unhide k17b); clear h1 h2 h3 h4 hL17) | (go_at_call 14; with_reducible refine (unhide CQr q _ _ _ hqn (by omega) BR _ _ k17b).mono ?_; rintro e w18 ⟨a18, c18, L18, rfl, k18, x18⟩) | (at_builtin; refine wpList_app rfl _ _ rfl w15.heap.size _ L17 L18 a18 (List.length L18) c18 rfl rfl ((unhide k17).2.2.1.below (unhide k18).2.2.2) rfl ((unhide k18).2.1.has (List.mem_cons_self ..)) (unhide k18).2.2.1 (by rw [unhide l17, (unhide k18).1, Larder.quoteL_len, List.length_drop, ← unhide HT]; omega) (chain (unhide k17).2.2.2 (unhide k18).2.2.2 (Nat.le_refl _)).size ?_; intro v19 w19 h1 h2; obtain ⟨L19, hL19⟩ : ∃ L, L = L17 ++ L18 := ⟨_, rfl⟩; rw [← hL19] at h1; obtain ⟨a19, c19, rfl, h3, h4⟩ := h1.shape; have HL : Hid (L19 = Larder.quoteL (T.take q) ++ [63] ++ Larder.quoteL (T.drop (q + 1))) := hide (by rw [hL19, (unhide k17).1, (unhide k18).1]); have k19 := hide (((unhide k15).next ((chain (unhide k17).2.2.2 (unhide k18).2.2.2 (Nat.le_refl _)).trans h2)).cons h3); have x19 := unhide KX _ _ (unhide k19); clear h1 h2 h3 h4 hL19))
            clear x15 x16 x17 x18
            by_cases hkn : k = (q + 1)
            · have hqk : q < k := by omega
              have z1 : ((k : Int) == ((q : Int) + 1)) = true := beq_iff_eq.2 (by omega)
              have s1 : q ≤ cU := by omega
              have s2 : q ≤ q + 1 := by omega
              have s3 : (q : Int) ≤ (cU : Int) := by omega
              have s4 : (q : Int) ≤ (q : Int) + 1 := by omega
              have s5 : (0 : Int) ≤ (q : Int) := by omega
              have s6 : IntKind.i64.wrap ((q : Int) + 1) = ((q + 1 : Nat) : Int) := by rw [IntKind.wrap_i64]; omega
              have s7 : ((q + 1 : Nat) : Int) ≤ (k : Int) := by omega
              have s8 : ((q + 1 : Nat) : Int) ≤ ((q + 1 : Nat) : Int) := by omega
              have HKN := hide hkn
              clear hkn
              have QE1 := hide (fun nq => unhide EQ1 q hqn hqk _ _ nq k19)
              cases hE : E1 q with
              | false =>
                rw [hE] at QE1
                go_quiet (first | (go_at_call 16; with_reducible exact unhide QE1 _))
                all_goals go_wp2_with (go_at_call 11; with_reducible refine (unhide G6a q hqn (unhide HKN) a19 c19 L19 HL _ _ (List.mem_cons_self ..) (hide ((unhide k19).drewN _))).mono ?_; rintro e w22 ⟨rfl, k22, x22⟩)
                all_goals go_ret
                all_goals exact ⟨ret_bool (by first | simp | simp [hE]), (unhide k22).2.1⟩
              | true =>
                rw [hE] at QE1
                by_cases hcU : cU = q + 1
                · have BU2 : Hid (Bytes w aU (U.drop (q + 1))) := hide (.inl (List.eq_nil_of_length_eq_zero (by rw [List.length_drop, ← unhide HU]; omega)))
                  subst hcU
                  go_quiet (first | (go_at_call 16; first | with_reducible exact unhide QE1 _ | with_reducible exact unhide EQ2 q _ _ _ _ _ _ (by omega) (by omega) BU2 BR _ _ _ k19))
                  all_goals go_wp2_with (go_at_call 11; with_reducible refine (unhide G6a q hqn (unhide HKN) a19 c19 L19 HL _ _ (List.mem_cons_self ..) (hide ((unhide k19).drewN _))).mono ?_; rintro e w22 ⟨rfl, k22, x22⟩)
                  all_goals go_ret
                  all_goals exact ⟨ret_bool (by first | simp | simp [hE]), (unhide k22).2.1⟩
                · have BU2 := hide (unhide BUd q)
                  go_quiet (first | (go_at_call 16; first | with_reducible exact unhide QE1 _ | with_reducible exact unhide EQ2 q _ _ _ _ _ _ (by omega) (by omega) BU2 BR _ _ _ k19))
                  all_goals go_wp2_with (go_at_call 11; with_reducible refine (unhide G6a q hqn (unhide HKN) a19 c19 L19 HL _ _ (List.mem_cons_self ..) (hide ((unhide k19).drewN _))).mono ?_; rintro e w22 ⟨rfl, k22, x22⟩)
                  all_goals go_ret
                  all_goals exact ⟨ret_bool (by first | simp | simp [hE]), (unhide k22).2.1⟩
            · have z1 : ((k : Int) == ((q : Int) + 1)) = false := beq_eq_false_iff_ne.2 (by omega)
              go_quiet (fail)
              all_goals go_wp2_with (go_at_call 11; with_reducible refine (unhide G6b q hqn hkn a19 c19 L19 HL _ _ (List.mem_cons_self ..) (hide ((unhide k19).drewN _))).mono ?_; rintro e w22 ⟨rfl, k22, x22⟩)
              all_goals go_ret
              all_goals exact ⟨ret_bool (by simp), (unhide k22).2.1⟩
          · have BR := hide (unhide BTd q)
            go_wp2_with (first | (go_at_call 14; with_reducible refine (unhide CQk q hqn _ _ k15).mono ?_; rintro e w16 ⟨a16, c16, L16, rfl, k16, x16⟩; have o16 := hide (own_lit (unhide k16).2.2.1 (unhide k16).2.2.2 (unhide k16).2.2.2.size); have l16 : Hid (L16.length = 2 * q) := hide (by rw [(unhide k16).1, Larder.quoteL_len, List.length_take, ← unhide HT]; omega)) | (at_builtin; refine wpList_app rfl _ _ rfl w15.heap.size _ L16 [63] (some ⟨w16.heap.size, 0, none⟩) 1 1 rfl rfl (unhide o16).1 rfl (unhide o16).2.1 (fun h => by cases h) (by rw [unhide l16]; show _ + 1 ≤ _; omega) (unhide o16).2.2.size ?_; intro v17 w17 h1 h2; obtain ⟨L17, hL17⟩ : ∃ L, L = L16 ++ [63] := ⟨_, rfl⟩; rw [← hL17] at h1; obtain ⟨a17, c17, rfl, h3, h4⟩ := h1.shape; have k17 := hide (And.intro (show L17 = Larder.quoteL (T.take q) ++ [63] by rw [hL17, (unhide k16).1]) (And.intro ((unhide k15).next ((unhide o16).2.2.trans h2)) (And.intro h1 ((unhide o16).2.2.trans h2)))); have l17 : Hid (L17.length = 2 * q + 1) := hide (by rw [hL17, List.length_append, unhide l16]; rfl); have k17b := hide (unhide k17).2.1; have x17 := unhide KX _ _ (unhide k17b); clear h1 h2 h3 h4 hL17) | (go_at_call 14; with_reducible refine (unhide CQr q _ _ _ hqn (by omega) BR _ _ k17b).mono ?_; rintro e w18 ⟨a18, c18, L18, rfl, k18, x18⟩) | (at_builtin; refine wpList_app rfl _ _ rfl w15.heap.size _ L17 L18 a18 (List.length L18) c18 rfl rfl ((unhide k17).2.2.1.below (unhide k18).2.2.2) rfl ((unhide k18).2.1.has (List.mem_cons_self ..)) (unhide k18).2.2.1 (by rw [unhide l17, (unhide k18).1, Larder.quoteL_len, List.length_drop, ← unhide HT]; omega) (chain (unhide k17).2.2.2 (unhide k18).2.2.2 (Nat.le_refl _)).size ?_; intro v19 w19 h1 h2; obtain ⟨L19, hL19⟩ : ∃ L, L = L17 ++ L18 := ⟨_, rfl⟩; rw [← hL19] at h1; obtain ⟨a19, c19, rfl, h3, h4⟩ := h1.shape; have HL : Hid (L19 = Larder.quoteL (T.take q) ++ [63] ++ Larder.quoteL (T.drop (q + 1))) := hide (by rw [hL19, (unhide k17).1, (unhide k18).1]); have k19 := hide (((unhide k15).next ((chain (unhide k17).2.2.2 (unhide k18).2.2.2 (Nat.le_refl _)).trans h2)).cons h3); have x19 := unhide KX _ _ (unhide k19); clear h1 h2 h3 h4 hL19))
            clear x15 x16 x17 x18
            by_cases hkn : k = n
            · have hqk : q < k := by omega
              have z1 : ((k : Int) == ((n : Int))) = true := beq_iff_eq.2 (by omega)
              have s1 : q ≤ cU := by omega
              have s2 : q ≤ cT := by omega
              have s3 : (q : Int) ≤ (cU : Int) := by omega
              have s4 : (q : Int) ≤ (cT : Int) := by omega
              have s5 : (0 : Int) ≤ (q : Int) := by omega
              have s6 : IntKind.i64.wrap ((q : Int) + 1) = ((q + 1 : Nat) : Int) := by rw [IntKind.wrap_i64]; omega
              have s7 : ((q + 1 : Nat) : Int) ≤ (k : Int) := by omega
              have s8 : ((q + 1 : Nat) : Int) ≤ (n : Int) := by omega
              have HKN := hide hkn
              clear hkn
              have QE1 := hide (fun nq => unhide EQ1 q hqn hqk _ _ nq k19)
              cases hE : E1 q with
              | false =>
                rw [hE] at QE1
                go_quiet (first | (go_at_call 16; with_reducible exact unhide QE1 _))
                all_goals go_wp2_with (go_at_call 11; with_reducible refine (unhide G6a q hqn (unhide HKN) a19 c19 L19 HL _ _ (List.mem_cons_self ..) (hide ((unhide k19).drewN _))).mono ?_; rintro e w22 ⟨rfl, k22, x22⟩)
                all_goals go_ret
                all_goals exact ⟨ret_bool (by first | simp | simp [hE]), (unhide k22).2.1⟩
              | true =>
                rw [hE] at QE1
                by_cases hcU : cU = q + 1
                · have BU2 : Hid (Bytes w aU (U.drop (q + 1))) := hide (.inl (List.eq_nil_of_length_eq_zero (by rw [List.length_drop, ← unhide HU]; omega)))
                  subst hcU
                  go_quiet (first | (go_at_call 16; first | with_reducible exact unhide QE1 _ | with_reducible exact unhide EQ2 q _ _ _ _ _ _ (by omega) (by omega) BU2 BR _ _ _ k19))
                  all_goals go_wp2_with (go_at_call 11; with_reducible refine (unhide G6a q hqn (unhide HKN) a19 c19 L19 HL _ _ (List.mem_cons_self ..) (hide ((unhide k19).drewN _))).mono ?_; rintro e w22 ⟨rfl, k22, x22⟩)
                  all_goals go_ret
                  all_goals exact ⟨ret_bool (by first | simp | simp [hE]), (unhide k22).2.1⟩
                · have BU2 := hide (unhide BUd q)
                  go_quiet (first | (go_at_call 16; first | with_reducible exact unhide QE1 _ | with_reducible exact unhide EQ2 q _ _ _ _ _ _ (by omega) (by omega) BU2 BR _ _ _ k19))
                  all_goals go_wp2_with (go_at_call 11; with_reducible refine (unhide G6a q hqn (unhide HKN) a19 c19 L19 HL _ _ (List.mem_cons_self ..) (hide ((unhide k19).drewN _))).mono ?_; rintro e w22 ⟨rfl, k22, x22⟩)
                  all_goals go_ret
                  all_goals exact ⟨ret_bool (by first | simp | simp [hE]), (unhide k22).2.1⟩
            · have z1 : ((k : Int) == ((n : Int))) = false := beq_eq_false_iff_ne.2 (by omega)
              go_quiet (fail)
              all_goals go_wp2_with (go_at_call 11; with_reducible refine (unhide G6b q hqn hkn a19 c19 L19 HL _ _ (List.mem_cons_self ..) (hide ((unhide k19).drewN _))).mono ?_; rintro e w22 ⟨rfl, k22, x22⟩)
              all_goals go_ret
              all_goals exact ⟨ret_bool (by simp), (unhide k22).2.1⟩
end Go.Proofs.Ytidfbelckdlbhaa
