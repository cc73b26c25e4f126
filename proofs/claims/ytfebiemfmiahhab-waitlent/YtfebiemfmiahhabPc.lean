/- The sides of a script in memory. -/
import Derived.Test.YtfebiemfmiahhabPb
import Derived.Maps.AppendAt
namespace Go.Proofs.Ytfebiemfmiahhab
open Go.ChangeShapes Go.WideShapes Go.ChangeAt Go.RowKit Go.Maps
set_option linter.unusedVariables false
set_option linter.unusedSimpArgs false
set_option maxRecDepth 100000
set_option maxHeartbeats 8000000
theorem and_le (x : Int) (m : Nat) (hm : m < 4611686018427387904) : ∃ k : Nat, k ≤ m ∧ bits BinOp.and IntKind.i64 x (m : Int) = (k : Int) := by
  have h1 : (BitVec.ofInt 64 x &&& BitVec.ofInt 64 (m : Int)).toNat ≤ m := by
    rw [BitVec.toNat_and]
    refine Nat.le_trans Nat.and_le_right ?_
    rw [BitVec.toNat_ofInt]
    omega
  refine ⟨(BitVec.ofInt 64 x &&& BitVec.ofInt 64 (m : Int)).toNat, h1, ?_⟩
  show IntKind.i64.wrap (((BitVec.ofInt 64 x &&& BitVec.ofInt 64 (m : Int)).toNat : Nat) : Int) = _
  exact wrap_small _ (by omega) (by omega)
def pC (p : Nat) : List Value := [.pointer (some ⟨p, 0, none⟩)]
theorem own_lt {w : World} {base : Nat} {e : TypeId} {size : Nat} {v : Value} {n : Nat} {xs : List Value} (h : w.ownsRow base e size v n xs) {g : Nat} (hg : v.ownBlock = some g) : g < w.heap.size := by
  obtain ⟨cur, hc⟩ := own_type h hg
  exact blk_lt hc
structure Hs (w0 w : World) (v : Value) (Ps : List Nat) (N : Nat) : Prop where
  own : w.ownsRow w0.heap.size 29 1 v Ps.length (Ps.flatMap pC)
  bel : Below w0.heap.size w0 w
  sides : ∃ O : Nat → Nat → Prop, (∀ i ps, Ps[i]? = some ps → ∃ P Q p r T E, Sd w0 P Q w ps p r T E (E.map (·.x)) ∧ T ≤ N ∧ O i ps ∧ (∀ b, P b ∨ Q b → O i b)) ∧ (∀ i b, O i b → w0.heap.size ≤ b ∧ b < w.heap.size) ∧ (∀ i k b, O i b → O k b → i = k) ∧ (∀ i b, O i b → v.ownBlock ≠ some b)
theorem Hs.nil {w0 w : World} (h : Below w0.heap.size w0 w) : Hs w0 w (.slice none 0 0) [] 0 :=
  ⟨⟨by simp, .inl ⟨rfl, rfl⟩⟩, h, fun _ _ => False, fun i ps h => by simp at h, fun _ _ h => h.elim, fun _ _ _ h => h.elim, fun _ _ h => h.elim⟩
theorem Hs.below {w0 w w' : World} {v : Value} {Ps : List Nat} {N : Nat} (h : Hs w0 w v Ps N) (hb : Below w.heap.size w w') : Hs w0 w' v Ps N := by
  obtain ⟨O, h1, h2, h3, h4⟩ := h.sides
  refine ⟨ownsRow_same h.own (fun g hg => hb.block g (own_lt h.own hg)), h.bel.trans (hb.mono h.bel.size), O, fun i ps hi => ?_, fun i b o => ⟨(h2 i b o).1, Nat.lt_of_lt_of_le (h2 i b o).2 hb.size⟩, h3, h4⟩
  obtain ⟨P, Q, p, r, T, E, k, q⟩ := h1 i ps hi
  exact ⟨P, Q, p, r, T, E, k.below hb, q⟩
/-- a new side -/
theorem sd_new {w0 w w2 : World} {p : Nat} {O : Nat → Prop} (hb : Below w0.heap.size w0 w) (h : Wa w0 O w2 p 0 []) (hO : ∀ b, O b → w.heap.size ≤ b) (hb2 : Below w.heap.size w w2) :
    Sd w0 O (fun b => b = w2.heap.size) ((w2.alloc (.cells #[.slice none 0 0] 35)).alloc (.cells #[.pointer (some ⟨p, 0, none⟩), .pointer (some ⟨w2.heap.size, 0, none⟩)] 37)) (w2.heap.size + 1) p w2.heap.size 0 [] [] := by
  have b3 := (Below.refl w2.heap.size w2).alloc (Nat.le_refl _) (.cells #[.slice none 0 0] 35)
  have s3 : (w2.alloc (.cells #[.slice none 0 0] 35)).heap.size = w2.heap.size + 1 := by simp
  have b4 := (Below.refl _ (w2.alloc (.cells #[.slice none 0 0] 35))).alloc (Nat.le_refl _) (.cells #[.pointer (some ⟨p, 0, none⟩), .pointer (some ⟨w2.heap.size, 0, none⟩)] 37)
  have hs := Nat.le_trans hb.size hb2.size
  have s4 : ((w2.alloc (.cells #[.slice none 0 0] 35)).alloc (.cells #[.pointer (some ⟨p, 0, none⟩), .pointer (some ⟨w2.heap.size, 0, none⟩)] 37)).heap.size = w2.heap.size + 2 := by simp
  refine ⟨?_, (h.below b3).below b4, ⟨.slice none 0 0, [], ⟨?_, ⟨by simp, .inl ⟨rfl, rfl⟩⟩, fun g hg => (by cases hg), fun d hd => (by simp at hd), rfl, fun b e => (by rw [s4]; omega), fun d hd => (by simp at hd), (by simp)⟩, rfl⟩, fun b ob e => by have := h.lt b ob; omega, fun o => by have := h.lt _ o; omega, by omega, fun b e => by omega, by omega⟩
  · have := heap_alloc_new (w2.alloc (.cells #[.slice none 0 0] 35)) (.cells #[.pointer (some ⟨p, 0, none⟩), .pointer (some ⟨w2.heap.size, 0, none⟩)] 37)
    rw [s3] at this
    exact this
  · exact (b4.block _ (by rw [s3]; omega)).trans (heap_alloc_new _ _)
theorem Hs.add {w0 w w4 w5 w6 : World} {v v' : Value} {Ps : List Nat} {P Q : Nat → Prop} {ps p r : Nat} (h : Hs w0 w v Ps 0) (hb : Below w.heap.size w w4) (k : Sd w0 P Q w4 ps p r 0 [] []) (hP : ∀ b, P b → w.heap.size ≤ b) (hQ : ∀ b, Q b → w.heap.size ≤ b) (hps : w.heap.size ≤ ps)
    (hb5 : Below w4.heap.size w4 w5) (hown : w6.ownsRow w0.heap.size 29 1 v' (Ps.length + 1) (Ps.flatMap pC ++ [.pointer (some ⟨ps, 0, none⟩)])) (hg : w5.grownBy w6 v.ownBlock) (hat : v'.ownBlock = v.ownBlock ∨ v'.ownBlock = some w5.heap.size) : Hs w0 w6 v' (Ps ++ [ps]) 0 := by
  obtain ⟨O, h1, h2, h3, h4⟩ := h.sides
  have hw5 : Below w.heap.size w w5 := hb.trans (hb5.mono hb.size)
  have hrow : ∀ g, v.ownBlock = some g → w0.heap.size ≤ g ∧ g < w.heap.size := fun g hg => ⟨own_ge h.own g hg, own_lt h.own hg⟩
  have hbel : Below w0.heap.size w0 w6 := below_grown (h.bel.trans (hw5.mono h.bel.size)) (Nat.le_refl _) hg (fun g e => (hrow g e).1)
  have hfr : Fr (fun b => v.ownBlock = some b) w5 w6 := ⟨hg.os, hg.tape, hg.output, hg.size, fun i hi hno => hg.block i hi (fun e => hno e.symm)⟩
  have ps4 := blk_lt k.cell
  have s5 := hb5.size
  have s6 := hg.size
  refine ⟨by rw [List.flatMap_append, List.length_append]; exact hown, hbel, fun i b => O i b ∨ (i = Ps.length ∧ (P b ∨ Q b ∨ b = ps)), fun i q hi => ?_, fun i b o => ?_, fun i j b o1 o2 => ?_, fun i b o => ?_⟩
  · by_cases hil : i < Ps.length
    · rw [List.getElem?_append_left hil] at hi
      obtain ⟨P1, Q1, p1, r1, T1, E1, k1, q1, q2, q3⟩ := h1 i q hi
      exact ⟨P1, Q1, p1, r1, T1, E1, (k1.below hw5).other hfr (fun b e => (hrow b e).1) (fun b e z => h4 i b (q3 b (.inl z)) e) (fun b e z => h4 i b (q3 b (.inr z)) e) (fun e => h4 i q q2 e), q1, .inl q2, fun b z => .inl (q3 b z)⟩
    · obtain rfl : i = Ps.length := by
        have := (List.getElem?_eq_some_iff.1 hi).1
        rw [List.length_append, List.length_singleton] at this
        omega
      obtain rfl : ps = q := by simpa using hi
      exact ⟨P, Q, p, r, 0, [], (k.below hb5).other hfr (fun b e => (hrow b e).1) (fun b e z => by have := (hrow b e).2; have := hP b z; omega) (fun b e z => by have := (hrow b e).2; have := hQ b z; omega) (fun e => by have := (hrow _ e).2; omega), Nat.le_refl _, .inr ⟨rfl, .inr (.inr rfl)⟩, fun b z => .inr ⟨rfl, z.elim .inl (fun z => .inr (.inl z))⟩⟩
  · have hs := h.bel.size
    rcases o with o | ⟨-, o | o | o⟩
    · have := h2 i b o
      exact ⟨this.1, by have := hb.size; omega⟩
    · exact ⟨by have := hP b o; omega, by have := k.wa.lt b o; omega⟩
    · exact ⟨by have := hQ b o; omega, by have := k.ra.lt b o; omega⟩
    · subst o; exact ⟨by omega, by omega⟩
  · have hnew : ∀ b, P b ∨ Q b ∨ b = ps → w.heap.size ≤ b := fun b z => by
      rcases z with z | z | z
      · exact hP b z
      · exact hQ b z
      · omega
    rcases o1 with o1 | ⟨e1, o1⟩ <;> rcases o2 with o2 | ⟨e2, o2⟩
    · exact h3 i j b o1 o2
    · have := (h2 i b o1).2; have := hnew b o2; omega
    · have := (h2 j b o2).2; have := hnew b o1; omega
    · rw [e1, e2]
  · have hlt : b < w4.heap.size := by
      rcases o with o | ⟨-, o | o | o⟩
      · have := h2 i b o; have := hb.size; omega
      · exact k.wa.lt b o
      · exact k.ra.lt b o
      · omega
    intro e
    rcases hat with hat | hat
    · rw [hat] at e
      rcases o with o | ⟨-, o | o | o⟩
      · exact h4 i b o e
      · have := (hrow b e).2; have := hP b o; omega
      · have := (hrow b e).2; have := hQ b o; omega
      · have := (hrow b e).2; omega
    · rw [hat] at e
      injection e with e
      omega
/-- a step of one of them -/
theorem plays_any {w0 w : World} {P Q : Nat → Prop} {ps p r T : Nat} {E : List En} {o : Ol} {j : Nat} (hj : Hid (j = o.pl.length)) (hT : T < 1099511627776) (ok : OlOk w0 o) (h : Sd w0 P Q w ps p r T E (E.map (·.x))) :
    Calls Try.prog 10 #[.pointer (some ⟨ps, 0, none⟩), .agg #[.int .i64 o.on, .int .i64 o.act, .int .i64 o.conn, .int .i64 o.kind, .slice o.a j o.cap, .int .u64 (o.time : Nat)]] w fun e w' => e = .returned (.bool true) ∧ Hid (PlEnd w0 w w' (fun b => P b ∨ Q b) ps p r T) := by
  by_cases h0 : o.act < 1 ∨ 7 < o.act
  · exact plays_0 hj hT ok h h0
  rcases (show o.act = 1 ∨ o.act = 2 ∨ o.act = 3 ∨ o.act = 4 ∨ o.act = 5 ∨ o.act = 6 ∨ o.act = 7 by omega) with hk | hk | hk | hk | hk | hk | hk
  · exact plays_1 hj hT ok h hk
  · exact plays_2 hj hT ok h hk
  · exact plays_3 hj hT ok h hk
  · exact plays_4 hj hT ok h hk
  · exact plays_5 hj hT ok h hk
  · exact plays_6 hj hT ok h hk
  · exact plays_7 hj hT ok h hk
theorem hs_plays {w0 w0' w : World} {v : Value} {Ps : List Nat} {N i ps : Nat} {o : Ol} {j : Nat} (hj : Hid (j = o.pl.length)) (hN : N < 1099511627776) (ok : OlOk w0 o) (h0 : Hs w0 w0' v Ps N) (hb0 : Below w0'.heap.size w0' w) (hi : Ps[i]? = some ps) :
    Calls Try.prog 10 #[.pointer (some ⟨ps, 0, none⟩), .agg #[.int .i64 o.on, .int .i64 o.act, .int .i64 o.conn, .int .i64 o.kind, .slice o.a j o.cap, .int .u64 (o.time : Nat)]] w fun e w' => e = .returned (.bool true) ∧ Hid (Hs w0 w' v Ps (N + 1) ∧ ∀ b, w0'.heap.size ≤ b → b < w.heap.size → w'.heap[b]? = w.heap[b]?) := by
  have h := h0.below hb0
  obtain ⟨O, h1, h2', h3, h4⟩ := h0.sides
  have h2 : ∀ i b, O i b → w0.heap.size ≤ b ∧ b < w.heap.size := fun i b z => ⟨(h2' i b z).1, Nat.lt_of_lt_of_le (h2' i b z).2 hb0.size⟩
  obtain ⟨P, Q, p, r, T, E, k0, q1, q2, q3⟩ := h1 i ps hi
  have k := k0.below hb0
  refine (plays_any hj (by omega) ok k).mono ?_
  rintro e w' ⟨rfl, H⟩
  obtain ⟨P', Q', T', E', k', fr, t', sub⟩ := unhide H
  have hR : ∀ b, P b ∨ Q b → w0.heap.size ≤ b := fun b z => (h2 i b (q3 b z)).1
  refine ⟨rfl, hide ⟨⟨ownsRow_same h.own (fun g hg => fr.own g (own_lt h.own hg) (fun z => h4 i g (q3 g z) hg)), fr.bel hR h.bel, fun c b => O c b ∨ (c = i ∧ w.heap.size ≤ b ∧ b < w'.heap.size), fun c q hc => ?_, fun c b z => ?_, fun c d b z1 z2 => ?_, fun c b z => ?_⟩, fun b y1 y2 => fr.own b y2 (fun z => by have := (h2' i b (q3 b z)).2; omega)⟩⟩
  · by_cases hci : c = i
    · subst hci
      obtain rfl : ps = q := by rw [hi] at hc; injection hc
      refine ⟨P', Q', p, r, T', E', k', by omega, .inl q2, fun b z => ?_⟩
      rcases sub b z with y | y
      · exact .inl (q3 b y)
      · exact .inr ⟨rfl, y, z.elim (k'.wa.lt b) (k'.ra.lt b)⟩
    · obtain ⟨P1, Q1, p1, r1, T1, E1, k1, y1, y2, y3⟩ := h1 c q hc
      refine ⟨P1, Q1, p1, r1, T1, E1, (k1.below hb0).other fr hR (fun b z y => hci (h3 c i b (y3 b (.inl y)) (q3 b z))) (fun b z y => hci (h3 c i b (y3 b (.inr y)) (q3 b z))) (fun z => hci (h3 c i q y2 (q3 q z))), by omega, .inl y2, fun b z => .inl (y3 b z)⟩
  · rcases z with z | ⟨-, z1, z2⟩
    · exact ⟨(h2 c b z).1, Nat.lt_of_lt_of_le (h2 c b z).2 fr.size⟩
    · exact ⟨Nat.le_trans h.bel.size z1, z2⟩
  · rcases z1 with z1 | ⟨e1, z1, -⟩ <;> rcases z2 with z2 | ⟨e2, z2, -⟩
    · exact h3 c d b z1 z2
    · have := (h2 c b z1).2; omega
    · have := (h2 d b z2).2; omega
    · rw [e1, e2]
  · rcases z with z | ⟨-, z, -⟩
    · exact h4 c b z
    · intro e
      have := own_lt h.own e
      omega
end Go.Proofs.Ytfebiemfmiahhab
