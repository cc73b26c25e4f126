/- bounds: InLex. -/
import Derived.Test.YtidfbelckdlbhabInx
import Derived.Test.YtidfbelckdlbhabInl
import Derived.Test.YtidfbelckdlbhabHld
import Derived.Test.YtidfbelckdlbhabCpE
import Derived.Deep.RegionHeld3
import Derived.Deep.DeepCutAuto
namespace Go.Proofs.Ytidfbelckdlbhab
open Go.ChangeShapes Go.WideShapes Go.ChangeAt Go.RowKit
set_option linter.unusedVariables false
set_option maxRecDepth 20000
set_option maxHeartbeats 2000000

/-- the Ask's box stands -/
def Bx (w : World) (A : Array Value) (W : World) : Prop := W.heap[w.heap.size]? = some (.cells A 34 (0, 0)) ∧ Below w.heap.size w W
theorem row_lt {W : World} {g : Nat} {o : Obj} (h : W.heap[g]? = some o) : g < W.heap.size := by
  rcases Nat.lt_or_ge g W.heap.size with q | q
  · exact q
  · rw [Array.getElem?_eq_none q] at h
    cases h
theorem Bx.next {w W W' : World} {A : Array Value} (h : Bx w A W) (hb : Below W.heap.size W W') : Bx w A W' := ⟨(hb.block _ (row_lt h.1)).trans h.1, chain h.2 hb (Nat.le_refl _)⟩
theorem Bx.drew {w W : World} {A : Array Value} (h : Bx w A W) : Bx w A W.drew := ⟨h.1, h.2.drew⟩
/-- a LexBound lies at g -/
def LxAt (W : World) (g : Nat) (f : Int) (a : Option Addr) (n c : Nat) (o : Bool) (l : List Nat) : Prop := W.heap[g]? = some (.cells #[.int .i64 f, .slice a n c, .bool o] 32 (0, 0)) ∧ n = l.length ∧ Bytes W a l
theorem LxAt.next {W W' : World} {g : Nat} {f : Int} {a : Option Addr} {n c : Nat} {o : Bool} {l : List Nat} (h : LxAt W g f a n c o l) (hb : Below W.heap.size W W') : LxAt W' g f a n c o l := ⟨(hb.block _ (row_lt h.1)).trans h.1, h.2.1, h.2.2.below hb⟩
theorem LxAt.drew {W : World} {g : Nat} {f : Int} {a : Option Addr} {n c : Nat} {o : Bool} {l : List Nat} (h : LxAt W g f a n c o l) : LxAt W.drew g f a n c o l := ⟨h.1, h.2.1, h.2.2⟩
theorem LxAt.fresh {W : World} {f : Int} {a : Option Addr} {n c : Nat} {o : Bool} {l : List Nat} (h : Bytes W a l) (hn : n = l.length) : LxAt (W.alloc (.cells #[.int .i64 f, .slice a n c, .bool o] 32)) W.heap.size f a n c o l := ⟨heap_alloc_new _ _, hn, h.below ((Below.refl _ _).alloc (Nat.le_refl _) _)⟩

theorem Bytes.stores {W : World} {a : Option Addr} {l : List Nat} {g : Nat} (h : Bytes W a l) (hg : W.heap[g]? = some (.cells #[.int .i64 0, .slice none 0 0, .bool false] 32 (0, 0))) (x0 x1 x2 : Value) : Bytes (((W.setCell ⟨g, 0, none⟩ x0).setCell ⟨g, 1, none⟩ x1).setCell ⟨g, 2, none⟩ x2) a l := by
  rcases h with h | ⟨b, off, h, hb, hc⟩
  · exact .inl h
  · by_cases h0 : 0 < l.length
    · have hne : b ≠ g := by
        intro e
        subst e
        have c0 := hc 0 h0
        rw [cell_of_row _ _ _ _ _ _ hg, Nat.add_zero] at c0
        match off with
        | 0 => simp at c0
        | 1 => simp at c0
        | 2 => simp at c0
        | n + 3 => simp at c0
      refine .inr ⟨b, off, h, by simpa using hb, fun i hi => ?_⟩
      rw [← hc i hi]
      have e1 := fun (V : World) (j : Nat) (x : Value) => Below.heap_setCell V ⟨g, j, none⟩ x b (by show b ≠ g; exact hne)
      exact World.cell?_of_block (w := W) (((e1 _ 2 x2).trans (e1 _ 1 x1)).trans (e1 _ 0 x0))
    · exact .inl (List.eq_nil_of_length_eq_zero (by omega))

theorem bounds_inlex {aT aF aU : Option Addr} {cT cF cU : Nat} {T F U : List Nat} (v1 v3 v4 v5 v6 v7 v8 v9 v10 v11 : Value) (ff uf : Int) (fo uo : Bool) (w : World) (hT : InB w aT cT T) (hF : InB w aF cF F) (hU : InB w aU cU U) :
    Calls Try.prog 18 #[.agg #[.int .i64 6, v1, .slice aT T.length cT, v3, v4, v5, v6, v7, v8, v9, v10, v11, .int .i64 ff, .slice aF F.length cF, .bool fo, .int .i64 uf, .slice aU U.length cU, .bool uo]] w fun e w' => e = .returned (.bool true) ∧ Below w.heap.size w w' := by
  obtain ⟨nT, hnT⟩ : ∃ n, n = T.length := ⟨_, rfl⟩
  obtain ⟨nF, hnF⟩ : ∃ n, n = F.length := ⟨_, rfl⟩
  obtain ⟨nU, hnU⟩ : ∃ n, n = U.length := ⟨_, rfl⟩
  rw [← hnT, ← hnF, ← hnU]
  have h0 : Bx w #[.int .i64 6, v1, .slice aT nT cT, v3, v4, v5, v6, v7, v8, v9, v10, v11, .int .i64 ff, .slice aF nF cF, .bool fo, .int .i64 uf, .slice aU nU cU, .bool uo] (w.alloc (.cells #[.int .i64 6, v1, .slice aT nT cT, v3, v4, v5, v6, v7, v8, v9, v10, v11, .int .i64 ff, .slice aF nF cF, .bool fo, .int .i64 uf, .slice aU nU cU, .bool uo] 34)) := ⟨heap_alloc_new _ _, (Below.refl _ _).alloc (Nat.le_refl _) _⟩
  have H0 := hide h0
  have twin : ∀ (a : Option Addr) (c n : Nat) (l : List Nat), n = l.length → InB w a c l → ∀ W, Bx w #[.int .i64 6, v1, .slice aT nT cT, v3, v4, v5, v6, v7, v8, v9, v10, v11, .int .i64 ff, .slice aF nF cF, .bool fo, .int .i64 uf, .slice aU nU cU, .bool uo] W → Calls Try.prog 15 #[.slice a n c] W fun e w' => ∃ a' c', e = .returned (.slice a' n c') ∧ Bytes w' a' l ∧ Below W.heap.size W w' := fun a c n l hn h W hW => by
    rw [hn]
    exact (twin_any (w := W) a c l (by have := h.2.2.2.2.1; omega) (h.1.below hW.2) h.2.2.2.2.2).mono (fun e w' ⟨a', c', g1, g2, _, _, g5⟩ => ⟨a', c', g1, g2, g5⟩)
  have kx : ∀ W : World, Bx w #[.int .i64 6, v1, .slice aT nT cT, v3, v4, v5, v6, v7, v8, v9, v10, v11, .int .i64 ff, .slice aF nF cF, .bool fo, .int .i64 uf, .slice aU nU cU, .bool uo] W → (fun w' : World => w'.cell? ⟨w.heap.size, 2, none⟩ = some (.slice aT nT cT) ∧ w'.cell? ⟨w.heap.size, 12, none⟩ = some (.int .i64 ff) ∧ w'.cell? ⟨w.heap.size, 13, none⟩ = some (.slice aF nF cF) ∧ w'.cell? ⟨w.heap.size, 14, none⟩ = some (.bool fo) ∧ w'.cell? ⟨w.heap.size, 15, none⟩ = some (.int .i64 uf) ∧ w'.cell? ⟨w.heap.size, 16, none⟩ = some (.slice aU nU cU) ∧ w'.cell? ⟨w.heap.size, 17, none⟩ = some (.bool uo)) W := fun W ⟨h, _⟩ => ⟨by rw [cell_of_row _ _ _ _ _ _ h]; rfl, by rw [cell_of_row _ _ _ _ _ _ h]; rfl, by rw [cell_of_row _ _ _ _ _ _ h]; rfl, by rw [cell_of_row _ _ _ _ _ _ h]; rfl, by rw [cell_of_row _ _ _ _ _ _ h]; rfl, by rw [cell_of_row _ _ _ _ _ _ h]; rfl, by rw [cell_of_row _ _ _ _ _ _ h]; rfl⟩
  have hsz0 : (w.alloc (.cells #[.int .i64 6, v1, .slice aT nT cT, v3, v4, v5, v6, v7, v8, v9, v10, v11, .int .i64 ff, .slice aF nF cF, .bool fo, .int .i64 uf, .slice aU nU cU, .bool uo] 34)).heap.size = w.heap.size + 1 := by simp
  have zed : ∀ (a : Option Addr) (c n : Nat) (l : List Nat), n = l.length → InB w a c l → ∀ W, Bx w #[.int .i64 6, v1, .slice aT nT cT, v3, v4, v5, v6, v7, v8, v9, v10, v11, .int .i64 ff, .slice aF nF cF, .bool fo, .int .i64 uf, .slice aU nU cU, .bool uo] W → Calls Try.prog 15 #[.slice a n c] (W.alloc (.cells #[.int .i64 0, .slice none 0 0, .bool false] 32)).drew fun e w' => ∃ a' c', e = .returned (.slice a' n c') ∧ Bytes w' a' l ∧ w'.heap[W.heap.size]? = some (.cells #[.int .i64 0, .slice none 0 0, .bool false] 32 (0, 0)) ∧ Below W.heap.size W w' := fun a c n l hn h W hW => by
    have hb : Below W.heap.size W (W.alloc (.cells #[.int .i64 0, .slice none 0 0, .bool false] 32)).drew := ((Below.refl _ _).alloc (Nat.le_refl _) _).drew
    refine (twin a c n l hn h _ (hW.next hb)).mono ?_
    rintro e w' ⟨a', c', g1, g2, g3⟩
    have hz : (W.alloc (.cells #[.int .i64 0, .slice none 0 0, .bool false] 32)).drew.heap.size = W.heap.size + 1 := by show (W.alloc (.cells #[.int .i64 0, .slice none 0 0, .bool false] 32)).heap.size = _; simp
    exact ⟨a', c', g1, g2, (g3.block W.heap.size (by rw [hz]; omega)).trans (heap_alloc_new W _), chain hb g3 (Nat.le_refl _)⟩
  have F1 : Hid (Calls Try.prog 15 #[.slice aF nF cF] ((w.alloc (.cells #[.int .i64 6, v1, .slice aT nT cT, v3, v4, v5, v6, v7, v8, v9, v10, v11, .int .i64 ff, .slice aF nF cF, .bool fo, .int .i64 uf, .slice aU nU cU, .bool uo] 34)).alloc (.cells #[.int .i64 0, .slice none 0 0, .bool false] 32)).drew fun e w' => ∃ a' c', e = .returned (.slice a' nF c') ∧ Hid (Bytes w' a' F ∧ w'.heap[w.heap.size + 1]? = some (.cells #[.int .i64 0, .slice none 0 0, .bool false] 32 (0, 0)) ∧ Below (w.alloc (.cells #[.int .i64 6, v1, .slice aT nT cT, v3, v4, v5, v6, v7, v8, v9, v10, v11, .int .i64 ff, .slice aF nF cF, .bool fo, .int .i64 uf, .slice aU nU cU, .bool uo] 34)).heap.size (w.alloc (.cells #[.int .i64 6, v1, .slice aT nT cT, v3, v4, v5, v6, v7, v8, v9, v10, v11, .int .i64 ff, .slice aF nF cF, .bool fo, .int .i64 uf, .slice aU nU cU, .bool uo] 34)) w') ∧ (w'.cell? ⟨w.heap.size + 1, 0, none⟩ = some (.int .i64 0) ∧ w'.cell? ⟨w.heap.size + 1, 1, none⟩ = some (.slice none 0 0) ∧ w'.cell? ⟨w.heap.size + 1, 2, none⟩ = some (.bool false) ∧ w'.frozen? ⟨w.heap.size + 1, 0, none⟩ = false ∧ w'.frozen? ⟨w.heap.size + 1, 1, none⟩ = false ∧ w'.frozen? ⟨w.heap.size + 1, 2, none⟩ = false) ∧ w'.cell? ⟨w.heap.size, 12, none⟩ = some (.int .i64 ff) ∧ w'.cell? ⟨w.heap.size, 13, none⟩ = some (.slice aF nF cF) ∧ w'.cell? ⟨w.heap.size, 14, none⟩ = some (.bool fo)) := hide ((zed aF cF nF F hnF hF _ h0).mono (fun e w' ⟨a', c', g1, g2, g3, g4⟩ => by
    rw [hsz0] at g3
    have hx := h0.next g4
    obtain ⟨_, k1, k2, k3, _, _, _⟩ := kx w' hx
    exact ⟨a', c', g1, hide ⟨g2, g3, g4⟩, cells3 g3, k1, k2, k3⟩))
  have F2 : Hid (∀ W g1 a1 c1, Hid (Bx w #[.int .i64 6, v1, .slice aT nT cT, v3, v4, v5, v6, v7, v8, v9, v10, v11, .int .i64 ff, .slice aF nF cF, .bool fo, .int .i64 uf, .slice aU nU cU, .bool uo] W ∧ LxAt W g1 ff a1 nF c1 fo F) → Calls Try.prog 15 #[.slice aU nU cU] (W.alloc (.cells #[.int .i64 0, .slice none 0 0, .bool false] 32)).drew fun e w' => ∃ a' c', e = .returned (.slice a' nU c') ∧ Hid (Bytes w' a' U ∧ w'.heap[W.heap.size]? = some (.cells #[.int .i64 0, .slice none 0 0, .bool false] 32 (0, 0)) ∧ Below W.heap.size W w') ∧ (w'.cell? ⟨W.heap.size, 0, none⟩ = some (.int .i64 0) ∧ w'.cell? ⟨W.heap.size, 1, none⟩ = some (.slice none 0 0) ∧ w'.cell? ⟨W.heap.size, 2, none⟩ = some (.bool false) ∧ w'.frozen? ⟨W.heap.size, 0, none⟩ = false ∧ w'.frozen? ⟨W.heap.size, 1, none⟩ = false ∧ w'.frozen? ⟨W.heap.size, 2, none⟩ = false) ∧ w'.cell? ⟨w.heap.size, 15, none⟩ = some (.int .i64 uf) ∧ w'.cell? ⟨w.heap.size, 16, none⟩ = some (.slice aU nU cU) ∧ w'.cell? ⟨w.heap.size, 17, none⟩ = some (.bool uo)) := hide (fun W g1 a1 c1 hW => (zed aU cU nU U hnU hU _ (unhide hW).1).mono (fun e w' ⟨a', c', q1, q2, q3, q4⟩ => by
    have hx := (unhide hW).1.next q4
    obtain ⟨_, _, _, _, k1, k2, k3⟩ := kx w' hx
    exact ⟨a', c', q1, hide ⟨q2, q3, q4⟩, cells3 q3, k1, k2, k3⟩))
  have E1 : Hid (Calls Try.prog 15 #[.slice aF nF cF] (w.alloc (.cells #[.int .i64 6, v1, .slice aT nT cT, v3, v4, v5, v6, v7, v8, v9, v10, v11, .int .i64 ff, .slice aF nF cF, .bool fo, .int .i64 uf, .slice aU nU cU, .bool uo] 34)).drew fun e w' => ∃ a' c', e = .returned (.slice a' nF c') ∧ Hid (Bx w #[.int .i64 6, v1, .slice aT nT cT, v3, v4, v5, v6, v7, v8, v9, v10, v11, .int .i64 ff, .slice aF nF cF, .bool fo, .int .i64 uf, .slice aU nU cU, .bool uo] w' ∧ Bytes w' a' F) ∧ w'.cell? ⟨w.heap.size, 12, none⟩ = some (.int .i64 ff) ∧ w'.cell? ⟨w.heap.size, 13, none⟩ = some (.slice aF nF cF) ∧ w'.cell? ⟨w.heap.size, 14, none⟩ = some (.bool fo)) := hide ((twin aF cF nF F hnF hF _ h0.drew).mono (fun e w' ⟨a', c', g1, g2, g3⟩ => by
    have hx := h0.drew.next g3
    obtain ⟨_, k1, k2, k3, _, _, _⟩ := kx w' hx
    exact ⟨a', c', g1, hide ⟨hx, g2⟩, k1, k2, k3⟩))
  have E2 : Hid (∀ W g1 a1 c1, Hid (Bx w #[.int .i64 6, v1, .slice aT nT cT, v3, v4, v5, v6, v7, v8, v9, v10, v11, .int .i64 ff, .slice aF nF cF, .bool fo, .int .i64 uf, .slice aU nU cU, .bool uo] W ∧ LxAt W g1 ff a1 nF c1 fo F) → Calls Try.prog 15 #[.slice aU nU cU] W.drew fun e w' => ∃ a' c', e = .returned (.slice a' nU c') ∧ Hid ((Bx w #[.int .i64 6, v1, .slice aT nT cT, v3, v4, v5, v6, v7, v8, v9, v10, v11, .int .i64 ff, .slice aF nF cF, .bool fo, .int .i64 uf, .slice aU nU cU, .bool uo] w' ∧ LxAt w' g1 ff a1 nF c1 fo F) ∧ Bytes w' a' U) ∧ w'.cell? ⟨w.heap.size, 15, none⟩ = some (.int .i64 uf) ∧ w'.cell? ⟨w.heap.size, 16, none⟩ = some (.slice aU nU cU) ∧ w'.cell? ⟨w.heap.size, 17, none⟩ = some (.bool uo)) := hide (fun W g1 a1 c1 hW => (twin aU cU nU U hnU hU _ (unhide hW).1.drew).mono (fun e w' ⟨a', c', q1, q2, q3⟩ => by
    have hx := (unhide hW).1.drew.next q3
    obtain ⟨_, _, _, _, k1, k2, k3⟩ := kx w' hx
    exact ⟨a', c', q1, hide ⟨⟨hx, (unhide hW).2.drew.next q3⟩, q2⟩, k1, k2, k3⟩))
  have k14 : ∀ (W : World) (g1 : Nat) (a1 : Option Addr) (c1 g2 : Nat) (a2 : Option Addr) (c2 : Nat), (Bx w #[.int .i64 6, v1, .slice aT nT cT, v3, v4, v5, v6, v7, v8, v9, v10, v11, .int .i64 ff, .slice aF nF cF, .bool fo, .int .i64 uf, .slice aU nU cU, .bool uo] W ∧ LxAt W g1 ff a1 nF c1 fo F ∧ LxAt W g2 uf a2 nU c2 uo U) → (fun w' : World => w'.cell? ⟨g1, 0, none⟩ = some (.int .i64 ff) ∧ w'.cell? ⟨g1, 1, none⟩ = some (.slice a1 nF c1) ∧ w'.cell? ⟨g1, 2, none⟩ = some (.bool fo) ∧ w'.cell? ⟨g2, 0, none⟩ = some (.int .i64 uf) ∧ w'.cell? ⟨g2, 1, none⟩ = some (.slice a2 nU c2) ∧ w'.cell? ⟨g2, 2, none⟩ = some (.bool uo) ∧ w'.cell? ⟨w.heap.size, 2, none⟩ = some (.slice aT nT cT) ∧ w'.cell? ⟨w.heap.size, 12, none⟩ = some (.int .i64 ff) ∧ w'.cell? ⟨w.heap.size, 13, none⟩ = some (.slice aF nF cF) ∧ w'.cell? ⟨w.heap.size, 14, none⟩ = some (.bool fo) ∧ w'.cell? ⟨w.heap.size, 15, none⟩ = some (.int .i64 uf) ∧ w'.cell? ⟨w.heap.size, 16, none⟩ = some (.slice aU nU cU) ∧ w'.cell? ⟨w.heap.size, 17, none⟩ = some (.bool uo)) W := fun W g1 a1 c1 g2 a2 c2 ⟨hx, h1, h2⟩ => by
    obtain ⟨p0, p1, p2, _, _, _⟩ := cells3 h1.1
    obtain ⟨r0, r1, r2, _, _, _⟩ := cells3 h2.1
    obtain ⟨k1, k2, k3, k4, k5, k6, k7⟩ := kx W hx
    exact ⟨p0, p1, p2, r0, r1, r2, k1, k2, k3, k4, k5, k6, k7⟩
  have F3 : Hid (∀ W g1 a1 c1 g2 a2 c2, Hid (Bx w #[.int .i64 6, v1, .slice aT nT cT, v3, v4, v5, v6, v7, v8, v9, v10, v11, .int .i64 ff, .slice aF nF cF, .bool fo, .int .i64 uf, .slice aU nU cU, .bool uo] W ∧ LxAt W g1 ff a1 nF c1 fo F ∧ LxAt W g2 uf a2 nU c2 uo U) → Calls Try.prog 15 #[.slice aT nT cT] W fun e w' => ∃ a' c', e = .returned (.slice a' nT c') ∧ Hid ((Bx w #[.int .i64 6, v1, .slice aT nT cT, v3, v4, v5, v6, v7, v8, v9, v10, v11, .int .i64 ff, .slice aF nF cF, .bool fo, .int .i64 uf, .slice aU nU cU, .bool uo] w' ∧ LxAt w' g1 ff a1 nF c1 fo F ∧ LxAt w' g2 uf a2 nU c2 uo U) ∧ Bytes w' a' T) ∧ w'.cell? ⟨g1, 0, none⟩ = some (.int .i64 ff) ∧ w'.cell? ⟨g1, 1, none⟩ = some (.slice a1 nF c1) ∧ w'.cell? ⟨g1, 2, none⟩ = some (.bool fo) ∧ w'.cell? ⟨g2, 0, none⟩ = some (.int .i64 uf) ∧ w'.cell? ⟨g2, 1, none⟩ = some (.slice a2 nU c2) ∧ w'.cell? ⟨g2, 2, none⟩ = some (.bool uo) ∧ w'.cell? ⟨w.heap.size, 2, none⟩ = some (.slice aT nT cT) ∧ w'.cell? ⟨w.heap.size, 12, none⟩ = some (.int .i64 ff) ∧ w'.cell? ⟨w.heap.size, 13, none⟩ = some (.slice aF nF cF) ∧ w'.cell? ⟨w.heap.size, 14, none⟩ = some (.bool fo) ∧ w'.cell? ⟨w.heap.size, 15, none⟩ = some (.int .i64 uf) ∧ w'.cell? ⟨w.heap.size, 16, none⟩ = some (.slice aU nU cU) ∧ w'.cell? ⟨w.heap.size, 17, none⟩ = some (.bool uo)) := hide (fun W g1 a1 c1 g2 a2 c2 hW => (twin aT cT nT T hnT hT _ (unhide hW).1).mono (fun e w' ⟨a', c', q1, q2, q3⟩ => by
    have hz : Bx w #[.int .i64 6, v1, .slice aT nT cT, v3, v4, v5, v6, v7, v8, v9, v10, v11, .int .i64 ff, .slice aF nF cF, .bool fo, .int .i64 uf, .slice aU nU cU, .bool uo] w' ∧ LxAt w' g1 ff a1 nF c1 fo F ∧ LxAt w' g2 uf a2 nU c2 uo U := ⟨(unhide hW).1.next q3, (unhide hW).2.1.next q3, (unhide hW).2.2.next q3⟩
    exact ⟨a', c', q1, hide ⟨hz, q2⟩, k14 w' _ _ _ _ _ _ hz⟩))
  have F4 : Hid (∀ W g1 a1 c1 g2 a2 c2 a3 c3, Hid ((Bx w #[.int .i64 6, v1, .slice aT nT cT, v3, v4, v5, v6, v7, v8, v9, v10, v11, .int .i64 ff, .slice aF nF cF, .bool fo, .int .i64 uf, .slice aU nU cU, .bool uo] W ∧ LxAt W g1 ff a1 nF c1 fo F ∧ LxAt W g2 uf a2 nU c2 uo U) ∧ Bytes W a3 T) → Calls Try.prog 35 #[.agg #[.int .i64 ff, .slice a1 nF c1, .bool fo], .agg #[.int .i64 uf, .slice a2 nU c2, .bool uo], .slice a3 nT c3] W fun e w' => e = .returned (.bool (Larder.inB ff (Larder.cmpL T F) fo uf (Larder.cmpL U T) uo)) ∧ Hid (Bx w #[.int .i64 6, v1, .slice aT nT cT, v3, v4, v5, v6, v7, v8, v9, v10, v11, .int .i64 ff, .slice aF nF cF, .bool fo, .int .i64 uf, .slice aU nU cU, .bool uo] w' ∧ LxAt w' g1 ff a1 nF c1 fo F ∧ LxAt w' g2 uf a2 nU c2 uo U) ∧ w'.cell? ⟨g1, 0, none⟩ = some (.int .i64 ff) ∧ w'.cell? ⟨g1, 1, none⟩ = some (.slice a1 nF c1) ∧ w'.cell? ⟨g1, 2, none⟩ = some (.bool fo) ∧ w'.cell? ⟨g2, 0, none⟩ = some (.int .i64 uf) ∧ w'.cell? ⟨g2, 1, none⟩ = some (.slice a2 nU c2) ∧ w'.cell? ⟨g2, 2, none⟩ = some (.bool uo) ∧ w'.cell? ⟨w.heap.size, 2, none⟩ = some (.slice aT nT cT) ∧ w'.cell? ⟨w.heap.size, 12, none⟩ = some (.int .i64 ff) ∧ w'.cell? ⟨w.heap.size, 13, none⟩ = some (.slice aF nF cF) ∧ w'.cell? ⟨w.heap.size, 14, none⟩ = some (.bool fo) ∧ w'.cell? ⟨w.heap.size, 15, none⟩ = some (.int .i64 uf) ∧ w'.cell? ⟨w.heap.size, 16, none⟩ = some (.slice aU nU cU) ∧ w'.cell? ⟨w.heap.size, 17, none⟩ = some (.bool uo)) := hide (fun W g1 a1 c1 g2 a2 c2 a3 c3 hW => by
    obtain ⟨⟨z1, z2, z3⟩, z4⟩ := unhide hW
    have h := inlex_any (cL := c1) (cH := c2) (cM := c3) ff fo uf uo W hF.2.1 hU.2.1 hT.2.1 z2.2.2 z3.2.2 z4
    rw [← hnT, ← hnF, ← hnU] at h
    exact h.mono (fun e w' ⟨q1, q3⟩ => by
      have hz : Bx w #[.int .i64 6, v1, .slice aT nT cT, v3, v4, v5, v6, v7, v8, v9, v10, v11, .int .i64 ff, .slice aF nF cF, .bool fo, .int .i64 uf, .slice aU nU cU, .bool uo] w' ∧ LxAt w' g1 ff a1 nF c1 fo F ∧ LxAt w' g2 uf a2 nU c2 uo U := ⟨z1.next q3, z2.next q3, z3.next q3⟩
      exact ⟨q1, hide hz, k14 w' _ _ _ _ _ _ hz⟩))
  have F5 : Hid (∀ W g1 a1 c1 g2 a2 c2, Hid (Bx w #[.int .i64 6, v1, .slice aT nT cT, v3, v4, v5, v6, v7, v8, v9, v10, v11, .int .i64 ff, .slice aF nF cF, .bool fo, .int .i64 uf, .slice aU nU cU, .bool uo] W ∧ LxAt W g1 ff a1 nF c1 fo F ∧ LxAt W g2 uf a2 nU c2 uo U) → Calls Try.prog 36 #[.agg #[.int .i64 ff, .slice aF nF cF, .bool fo], .agg #[.int .i64 uf, .slice aU nU cU, .bool uo], .slice aT nT cT] W fun e w' => e = .returned (.bool (Larder.inB ff (Larder.cmpL T F) fo uf (Larder.cmpL U T) uo)) ∧ Hid (Bx w #[.int .i64 6, v1, .slice aT nT cT, v3, v4, v5, v6, v7, v8, v9, v10, v11, .int .i64 ff, .slice aF nF cF, .bool fo, .int .i64 uf, .slice aU nU cU, .bool uo] w' ∧ LxAt w' g1 ff a1 nF c1 fo F ∧ LxAt w' g2 uf a2 nU c2 uo U) ∧ w'.cell? ⟨g1, 0, none⟩ = some (.int .i64 ff) ∧ w'.cell? ⟨g1, 1, none⟩ = some (.slice a1 nF c1) ∧ w'.cell? ⟨g1, 2, none⟩ = some (.bool fo) ∧ w'.cell? ⟨g2, 0, none⟩ = some (.int .i64 uf) ∧ w'.cell? ⟨g2, 1, none⟩ = some (.slice a2 nU c2) ∧ w'.cell? ⟨g2, 2, none⟩ = some (.bool uo) ∧ w'.cell? ⟨w.heap.size, 2, none⟩ = some (.slice aT nT cT) ∧ w'.cell? ⟨w.heap.size, 12, none⟩ = some (.int .i64 ff) ∧ w'.cell? ⟨w.heap.size, 13, none⟩ = some (.slice aF nF cF) ∧ w'.cell? ⟨w.heap.size, 14, none⟩ = some (.bool fo) ∧ w'.cell? ⟨w.heap.size, 15, none⟩ = some (.int .i64 uf) ∧ w'.cell? ⟨w.heap.size, 16, none⟩ = some (.slice aU nU cU) ∧ w'.cell? ⟨w.heap.size, 17, none⟩ = some (.bool uo)) := hide (fun W g1 a1 c1 g2 a2 c2 hW => by
    obtain ⟨z1, z2, z3⟩ := unhide hW
    have h := rinlex_any (cL := cF) (cH := cU) (cM := cT) ff fo uf uo W (by have := hF.2.2.2.2.1; omega) (by have := hU.2.2.2.2.1; omega) (by have := hT.2.2.2.2.1; omega) (hF.1.below z1.2) (hU.1.below z1.2) (hT.1.below z1.2)
    rw [← hnT, ← hnF, ← hnU] at h
    exact h.mono (fun e w' ⟨q1, q3⟩ => by
      have hz : Bx w #[.int .i64 6, v1, .slice aT nT cT, v3, v4, v5, v6, v7, v8, v9, v10, v11, .int .i64 ff, .slice aF nF cF, .bool fo, .int .i64 uf, .slice aU nU cU, .bool uo] w' ∧ LxAt w' g1 ff a1 nF c1 fo F ∧ LxAt w' g2 uf a2 nU c2 uo U := ⟨z1.next q3, z2.next q3, z3.next q3⟩
      exact ⟨q1, hide hz, k14 w' _ _ _ _ _ _ hz⟩))
  have KX := hide kx
  have K14 := hide k14
  have HNF := hide hnF
  have HNU := hide hnU
  have HS0 := hide hsz0
  clear h0 hsz0 zed twin kx k14 hT hF hU hnT hnF hnU
  generalize Larder.inB ff (Larder.cmpL T F) fo uf (Larder.cmpL U T) uo = R at *
  go_enter Try.func18, Try.ntmps18
  go_upto_region 12 with fail
  go_cut [11] (fun p wx => ∃ (g1 : Nat) (a1 : Option Addr) (c1 : Nat), p = .pointer (some ⟨g1, 0, none⟩) ∧ Hid (Bx w #[.int .i64 6, v1, .slice aT nT cT, v3, v4, v5, v6, v7, v8, v9, v10, v11, .int .i64 ff, .slice aF nF cF, .bool fo, .int .i64 uf, .slice aU nU cU, .bool uo] wx ∧ LxAt wx g1 ff a1 nF c1 fo F))
  case first =>
    go_region_held3 (fun w' => w'.cell? ⟨w.heap.size, 12, none⟩ = some (.int .i64 ff) ∧ w'.cell? ⟨w.heap.size, 13, none⟩ = some (.slice aF nF cF) ∧ w'.cell? ⟨w.heap.size, 14, none⟩ = some (.bool fo)) (go_keep) (first | (go_at_call 15; first | (with_reducible refine (unhide E1).mono ?_; rintro e w5 ⟨a1, c1, rfl, g5, x12, x13, x14⟩) | (with_reducible refine (unhide F1).mono ?_; rintro e w5 ⟨a1, c1, rfl, g5, ⟨t1, t2, t3, t4, t5, t6⟩, x12, x13, x14⟩)))
    all_goals go_wp2_with fail
    all_goals go_meet
    all_goals first | exact ⟨w5.heap.size, a1, c1, rfl, hide ⟨(unhide g5).1.next ((Below.refl _ _).alloc (Nat.le_refl _) _), LxAt.fresh (unhide g5).2 (unhide HNF)⟩⟩ | exact ⟨w.heap.size + 1, a1, c1, rfl, hide ⟨(unhide H0).next ((((unhide g5).2.2.setCell (Nat.le_of_eq (unhide HS0)) _).setCell (Nat.le_of_eq (unhide HS0)) _).setCell (Nat.le_of_eq (unhide HS0)) _), store3 (unhide g5).2.1 _ _ _, unhide HNF, Bytes.stores (unhide g5).1 (unhide g5).2.1 _ _ _⟩⟩
  case rest =>
  obtain ⟨g1, a1, c1, rfl, h1⟩ := hcut
  obtain ⟨_, _, _, _, x15, x16, x17⟩ := unhide KX _ (unhide h1).1
  have hnew := World.new_ne _ ⟨w.heap.size, 15, none⟩ x15
  go_upto_region 13 with fail
  go_cut [12] (fun p wx => ∃ (g2 : Nat) (a2 : Option Addr) (c2 : Nat), p = .pointer (some ⟨g2, 0, none⟩) ∧ Hid (Bx w #[.int .i64 6, v1, .slice aT nT cT, v3, v4, v5, v6, v7, v8, v9, v10, v11, .int .i64 ff, .slice aF nF cF, .bool fo, .int .i64 uf, .slice aU nU cU, .bool uo] wx ∧ LxAt wx g1 ff a1 nF c1 fo F ∧ LxAt wx g2 uf a2 nU c2 uo U))
  case first =>
    go_region_held3 (fun w' => w'.cell? ⟨w.heap.size, 15, none⟩ = some (.int .i64 uf) ∧ w'.cell? ⟨w.heap.size, 16, none⟩ = some (.slice aU nU cU) ∧ w'.cell? ⟨w.heap.size, 17, none⟩ = some (.bool uo)) (go_keep) (first | (go_at_call 15; first | (with_reducible refine (unhide E2 _ g1 a1 c1 h1).mono ?_; rintro e w6 ⟨a2, c2, rfl, g6, y15, y16, y17⟩) | (with_reducible refine (unhide F2 _ g1 a1 c1 h1).mono ?_; rintro e w6 ⟨a2, c2, rfl, g6, ⟨t1, t2, t3, t4, t5, t6⟩, y15, y16, y17⟩)))
    all_goals go_wp2_with fail
    all_goals go_meet
    all_goals first | exact ⟨w6.heap.size, a2, c2, rfl, hide ⟨(unhide g6).1.1.next ((Below.refl _ _).alloc (Nat.le_refl _) _), (unhide g6).1.2.next ((Below.refl _ _).alloc (Nat.le_refl _) _), LxAt.fresh (unhide g6).2 (unhide HNU)⟩⟩ | exact ⟨_, a2, c2, rfl, hide ⟨(unhide h1).1.next ((((unhide g6).2.2.setCell (Nat.le_refl _) _).setCell (Nat.le_refl _) _).setCell (Nat.le_refl _) _), (unhide h1).2.next ((((unhide g6).2.2.setCell (Nat.le_refl _) _).setCell (Nat.le_refl _) _).setCell (Nat.le_refl _) _), store3 (unhide g6).2.1 _ _ _, unhide HNU, Bytes.stores (unhide g6).1 (unhide g6).2.1 _ _ _⟩⟩
  case rest =>
  clear x15 x16 x17 h1 hnew
  obtain ⟨g2, a2, c2, rfl, h2⟩ := hcut
  obtain ⟨p0, p1, p2, r0, r1, r2, k2, k12, k13, k14, k15, k16, k17⟩ := unhide K14 _ g1 a1 c1 g2 a2 c2 (unhide h2)
  go_wp2_with fail
  go_region_held3 (fun w' => w'.cell? ⟨g1, 0, none⟩ = some (.int .i64 ff) ∧ w'.cell? ⟨g1, 1, none⟩ = some (.slice a1 nF c1) ∧ w'.cell? ⟨g1, 2, none⟩ = some (.bool fo) ∧ w'.cell? ⟨g2, 0, none⟩ = some (.int .i64 uf) ∧ w'.cell? ⟨g2, 1, none⟩ = some (.slice a2 nU c2) ∧ w'.cell? ⟨g2, 2, none⟩ = some (.bool uo) ∧ w'.cell? ⟨w.heap.size, 2, none⟩ = some (.slice aT nT cT) ∧ w'.cell? ⟨w.heap.size, 12, none⟩ = some (.int .i64 ff) ∧ w'.cell? ⟨w.heap.size, 13, none⟩ = some (.slice aF nF cF) ∧ w'.cell? ⟨w.heap.size, 14, none⟩ = some (.bool fo) ∧ w'.cell? ⟨w.heap.size, 15, none⟩ = some (.int .i64 uf) ∧ w'.cell? ⟨w.heap.size, 16, none⟩ = some (.slice aU nU cU) ∧ w'.cell? ⟨w.heap.size, 17, none⟩ = some (.bool uo)) (go_keep) (first | (go_at_call 15; refine (unhide F3 _ g1 a1 c1 g2 a2 c2 (hide ⟨(unhide h2).1.drew, (unhide h2).2.1.drew, (unhide h2).2.2.drew⟩)).mono ?_; rintro e w7 ⟨a3, c3, rfl, g7, p0, p1, p2, r0, r1, r2, k2, k12, k13, k14, k15, k16, k17⟩) | (go_at_call 35; refine (unhide F4 _ g1 a1 c1 g2 a2 c2 a3 c3 g7).mono ?_; rintro e w8 ⟨rfl, g8, p0, p1, p2, r0, r1, r2, k2, k12, k13, k14, k15, k16, k17⟩) | (go_at_call 36; refine (unhide F5 _ g1 a1 c1 g2 a2 c2 g8).mono ?_; rintro e w9 ⟨rfl, g9, p0, p1, p2, r0, r1, r2, k2, k12, k13, k14, k15, k16, k17⟩))
  all_goals go_wp2
  all_goals go_ret
  all_goals exact ⟨ret_bool (by cases R <;> rfl), (unhide g9).1.2⟩
end Go.Proofs.Ytidfbelckdlbhab
