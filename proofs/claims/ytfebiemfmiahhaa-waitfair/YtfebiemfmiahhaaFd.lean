/- WaitFair: one is taken off: Release and gone. -/
import Derived.Test.YtfebiemfmiahhaaFc
import Derived.Test.YtfebiemfmiahhaaMl
namespace Go.Proofs.Ytfebiemfmiahhaa
open Go.ChangeShapes Go.WideShapes Go.ChangeAt Go.RowKit Go.Maps
set_option linter.unusedVariables false
set_option linter.unusedSimpArgs false
set_option maxRecDepth 100000
set_option maxHeartbeats 8000000
theorem goneE_at {E : List En} (hn : (E.map (·.x.conn)).Nodup) {i : Nat} {e : En} (hi : E[i]? = some e) : goneE E (e.x.conn : Nat) = E.eraseIdx i := by
  unfold goneE
  induction E generalizing i with
  | nil => simp at hi
  | cons a E ih =>
    rw [List.map_cons, List.nodup_cons] at hn
    cases i with
    | zero =>
      obtain rfl : a = e := by simpa using hi
      rw [List.filter_cons_of_neg (by simp), List.eraseIdx_cons_zero, List.filter_eq_self]
      intro b hb
      have : b.x.conn ≠ a.x.conn := fun e1 => hn.1 (by rw [← e1]; exact List.mem_map_of_mem (f := fun z : En => z.x.conn) hb)
      simpa using fun h => this (by omega)
    | succ i =>
      have hi' : E[i]? = some e := by simpa using hi
      have : a.x.conn ≠ e.x.conn := fun e1 => hn.1 (by rw [e1]; exact List.mem_map_of_mem (f := fun z : En => z.x.conn) (List.mem_of_getElem? hi'))
      rw [List.filter_cons_of_pos (by simpa using fun h => this (by omega)), List.eraseIdx_cons_succ, ih hn.2 hi']
theorem map_eraseF {α β : Type} (f : α → β) : ∀ (l : List α) (i : Nat), (l.eraseIdx i).map f = (l.map f).eraseIdx i
  | [], i => by simp
  | a :: l, 0 => by simp
  | a :: l, i + 1 => by simp [map_eraseF f l i]
theorem own_base {w : World} {base b2 : Nat} {e : TypeId} {size : Nat} {v : Value} {n : Nat} {xs : List Value} (h : w.ownsRow base e size v n xs) (hb : b2 ≤ base) : w.ownsRow b2 e size v n xs := by
  refine ⟨h.1, ?_⟩
  rcases h.2 with h2 | ⟨g, cap, cur, h1, h2, h3⟩
  · exact .inl h2
  · exact .inr ⟨g, cap, cur, h1, Nat.le_trans hb h2, h3⟩
/-- the Wait and the book, what the Wait owns left open; X: blocks that are kept as they are -/
structure Fx (w0 : World) (X : Nat → Obj → Prop) (w : World) (p T : Nat) (v : Value) (A : List Ax) : Prop where
  ex : ∃ O E, Fs w0 O w p T E v A ∧ ∀ b x, X b x → ¬ O b
  xw : ∀ b x, X b x → w.heap[b]? = some x
theorem Fx.below {w0 w w' : World} {X : Nat → Obj → Prop} {p T : Nat} {v : Value} {A : List Ax} (h : Fx w0 X w p T v A) (hb : Below w.heap.size w w') : Fx w0 X w' p T v A := by
  obtain ⟨⟨O, E, h1, h2⟩, h3⟩ := h
  exact ⟨⟨O, E, h1.below hb, h2⟩, fun b x hx => (hb.block b (blk_lt (h3 b x hx))).trans (h3 b x hx)⟩
theorem Fx.less {w0 w : World} {X Y : Nat → Obj → Prop} {p T : Nat} {v : Value} {A : List Ax} (h : Fx w0 X w p T v A) (hs : ∀ b x, Y b x → X b x) : Fx w0 Y w p T v A := by
  obtain ⟨⟨O, E, h1, h2⟩, h3⟩ := h
  exact ⟨⟨O, E, h1, fun b x hx => h2 b x (hs b x hx)⟩, fun b x hx => h3 b x (hs b x hx)⟩
theorem Fx.bel {w0 w : World} {X : Nat → Obj → Prop} {p T : Nat} {v : Value} {A : List Ax} (h : Fx w0 X w p T v A) : Below w0.heap.size w0 w := by
  obtain ⟨⟨O, E, h1, h2⟩, h3⟩ := h
  exact h1.wa.bel
theorem Fx.few {w0 w : World} {X : Nat → Obj → Prop} {p T : Nat} {v : Value} {A : List Ax} (h : Fx w0 X w p T v A) : A.length ≤ 8 := by
  obtain ⟨⟨O, E, h1, h2⟩, h3⟩ := h
  have := h1.len
  have := h1.wa.few8
  omega
/-- one more block to be kept -/
def XB (X : Nat → Obj → Prop) (b : Nat) (x : Obj) : Nat → Obj → Prop := fun c y => X c y ∨ (c = b ∧ y = x)
theorem Fx.more {w0 w w' : World} {X : Nat → Obj → Prop} {p T : Nat} {v : Value} {A : List Ax} {b : Nat} {x : Obj} (h : Fx w0 X w p T v A) (hb : Below w.heap.size w w') (hge : w.heap.size ≤ b) (hx : w'.heap[b]? = some x) : Fx w0 (XB X b x) w' p T v A := by
  obtain ⟨-, h3⟩ := h.below hb
  obtain ⟨⟨O', E', h1', h2'⟩, -⟩ := h
  refine ⟨⟨O', E', h1'.below hb, fun c y hy ho => ?_⟩, fun c y hy => ?_⟩
  · rcases hy with hy | ⟨rfl, rfl⟩
    · exact h2' c y hy ho
    · have := h1'.wa.lt c ho; omega
  · rcases hy with hy | ⟨rfl, rfl⟩
    · exact h3 c y hy
    · exact hx
/-- the book's own block among those that are kept -/
theorem Fx.keep {w0 w : World} {X : Nat → Obj → Prop} {p T bv m vc : Nat} {A : List Ax} (h : Fx w0 X w p T (.slice (some ⟨bv, 0, none⟩) m vc) A) : ∃ cur, w.heap[bv]? = some (.cells cur 56 (0, 0)) ∧ Fx w0 (XB X bv (.cells cur 56 (0, 0))) w p T (.slice (some ⟨bv, 0, none⟩) m vc) A := by
  obtain ⟨⟨O, E, h1, h2⟩, h3⟩ := h
  obtain ⟨cur, hc⟩ := own_type h1.own (g := bv) rfl
  refine ⟨cur, hc, ⟨O, E, h1, fun c y hy ho => ?_⟩, fun c y hy => ?_⟩
  · rcases hy with hy | ⟨rfl, rfl⟩
    · exact h2 c y hy ho
    · exact h1.off _ rfl ho
  · rcases hy with hy | ⟨rfl, rfl⟩
    · exact h3 c y hy
    · exact hc
theorem Fx.drop {w0 w : World} {X : Nat → Obj → Prop} {p T : Nat} {v : Value} {A : List Ax} {b : Nat} {x : Obj} (h : Fx w0 (XB X b x) w p T v A) : Fx w0 X w p T v A := h.less fun c y hy => .inl hy
/-- the i-th has left the Wait, and not yet the book -/
structure Fg (w0 : World) (X : Nat → Obj → Prop) (w : World) (p T : Nat) (v : Value) (A : List Ax) (i : Nat) : Prop where
  ex : ∃ O E, Wa w0 O w p T E ∧ (A.eraseIdx i).map (·.x) = E.map (·.x) ∧ A.length ≤ 8 ∧ ∀ b x, X b x → ¬ O b
  own : w.ownsRow w0.heap.size 56 4 v A.length (A.flatMap axC)
  pls : ∀ d ∈ A, PlsAt w0 d.a d.x.places
  xw : ∀ b x, X b x → w.heap[b]? = some x
theorem Fg.below {w0 w w' : World} {X : Nat → Obj → Prop} {p T : Nat} {v : Value} {A : List Ax} {i : Nat} (h : Fg w0 X w p T v A i) (hb : Below w.heap.size w w') : Fg w0 X w' p T v A i := by
  obtain ⟨O, E, h1, h2⟩ := h.ex
  exact ⟨⟨O, E, h1.below hb, h2⟩, ownsRow_same h.own (fun g hg => hb.block g (own_lt2 h.own hg)), h.pls, fun b x hx => (hb.block b (blk_lt (h.xw b x hx))).trans (h.xw b x hx)⟩
theorem Fg.bel {w0 w : World} {X : Nat → Obj → Prop} {p T : Nat} {v : Value} {A : List Ax} {i : Nat} (h : Fg w0 X w p T v A i) : Below w0.heap.size w0 w := by
  obtain ⟨O, E, h1, h2⟩ := h.ex
  exact h1.bel
/-- the cells of the i-th, while the book is as it was -/
theorem Fg.cells {w0 w : World} {X : Nat → Obj → Prop} {p T : Nat} {va : Option Addr} {m vc : Nat} {A : List Ax} {i k : Nat} (h : Fg w0 X w p T (.slice va m vc) A k) {d : Ax} (hd : A[i]? = some d) : ∃ b, va = some ⟨b, 0, none⟩ ∧ w.cell? ⟨b, i * 4, none⟩ = some (.int .i64 (d.x.conn : Nat)) ∧ w.cell? ⟨b, i * 4 + 1, none⟩ = some (.int .i64 d.x.kind) ∧ w.cell? ⟨b, i * 4 + 2, none⟩ = some (.slice d.a d.x.places.length d.cap) ∧ w.cell? ⟨b, i * 4 + 3, none⟩ = some (.int .u64 (d.x.till : Nat)) := by
  have g := fun j (hj : j < 4) => flat_get axC 4 (fun _ => rfl) A i d hd j hj
  obtain ⟨b, cap, e, c0, -⟩ := own_cell h.own (g 0 (by omega))
  cases e
  refine ⟨b, rfl, c0, ?_, ?_, ?_⟩
  · obtain ⟨b', cap', e', c, -⟩ := own_cell h.own (g 1 (by omega))
    cases e'; exact c
  · obtain ⟨b', cap', e', c, -⟩ := own_cell h.own (g 2 (by omega))
    cases e'; exact c
  · obtain ⟨b', cap', e', c, -⟩ := own_cell h.own (g 3 (by omega))
    cases e'; exact c
theorem Fx.cells {w0 w : World} {X : Nat → Obj → Prop} {p T : Nat} {va : Option Addr} {m vc : Nat} {A : List Ax} {i : Nat} (h : Fx w0 X w p T (.slice va m vc) A) {d : Ax} (hd : A[i]? = some d) : ∃ b, va = some ⟨b, 0, none⟩ ∧ w.cell? ⟨b, i * 4, none⟩ = some (.int .i64 (d.x.conn : Nat)) ∧ w.cell? ⟨b, i * 4 + 1, none⟩ = some (.int .i64 d.x.kind) ∧ w.cell? ⟨b, i * 4 + 2, none⟩ = some (.slice d.a d.x.places.length d.cap) ∧ w.cell? ⟨b, i * 4 + 3, none⟩ = some (.int .u64 (d.x.till : Nat)) := by
  obtain ⟨⟨O, E, h1, h2⟩, h3⟩ := h
  obtain ⟨b, cap, e, c0, c1, c2, c3, -⟩ := h1.at hd
  cases e
  exact ⟨b, rfl, c0, c1, c2, c3⟩
theorem conn_iok {cn : Nat} (hcn8 : cn < 8) : IOk (cn : Int) := by
  have : cn = 0 ∨ cn = 1 ∨ cn = 2 ∨ cn = 3 ∨ cn = 4 ∨ cn = 5 ∨ cn = 6 ∨ cn = 7 := by omega
  rcases this with rfl | rfl | rfl | rfl | rfl | rfl | rfl | rfl <;> rfl
/-- what each of the book is -/
theorem Fx.wok {w0 w : World} {X : Nat → Obj → Prop} {p T : Nat} {v : Value} {A : List Ax} (h : Fx w0 X w p T v A) {d : Ax} (hd : d ∈ A) : WOk d.x ∧ PlsAt w d.a d.x.places := by
  obtain ⟨⟨O, E, h1, h2⟩, h3⟩ := h
  obtain ⟨i, hi⟩ := List.mem_iff_getElem?.1 hd
  obtain ⟨b, cap, -, -, -, -, -, en, hen, hx⟩ := h1.at hi
  obtain ⟨bw, bl, q⟩ := h1.wa.ex
  exact ⟨by rw [← hx]; exact q.ok en (List.mem_of_getElem? hen), (h1.pls d hd).below h1.wa.bel⟩
theorem Fx.pls0 {w0 w : World} {X : Nat → Obj → Prop} {p T : Nat} {v : Value} {A : List Ax} (h : Fx w0 X w p T v A) {d : Ax} (hd : d ∈ A) : PlsAt w0 d.a d.x.places := by
  obtain ⟨⟨O, E, h1, h2⟩, h3⟩ := h
  exact h1.pls d hd
theorem fx_release {w0 w : World} {X : Nat → Obj → Prop} {p T : Nat} {v : Value} {A : List Ax} {i : Nat} {d : Ax} (h : Fx w0 X w p T v A) (hd : A[i]? = some d) :
    Calls Try.prog 14 #[.pointer (some ⟨p, 0, none⟩), .int .i64 (d.x.conn : Nat)] w fun e w' => e = .returned (.bool true) ∧ Hid (Fg w0 X w' p T v A i) := by
  obtain ⟨⟨O, E, h, hX⟩, hxw⟩ := h
  obtain ⟨b, cap, -, -, -, -, -, en, hen, hx⟩ := h.at hd
  obtain ⟨bw, bl, q⟩ := h.wa.ex
  have hlk : lookE E (d.x.conn : Int) = some en := by rw [← hx]; exact look_nth q.nd hen
  have hcn8 : d.x.conn < 8 := by rw [← hx]; exact (q.ok en (List.mem_of_getElem? hen)).conn
  have hIc : IOk (d.x.conn : Int) := conn_iok hcn8
  refine (wa_release w0 O w p T E (d.x.conn : Int) h.wa hIc).mono ?_
  rintro e w' ⟨rfl, H⟩
  obtain ⟨O', k1, k2, k3, k4⟩ := unhide H
  refine ⟨by rw [hlk]; rfl, hide ⟨⟨O', _, k1, ?_, ?_, fun b x hb => ?_⟩, ownsRow_same h.own (fun g hg => k2.own g (own_lt2 h.own hg) (h.off g hg)), h.pls, fun b x hb => k2.row (hxw b x hb) (hX b x hb)⟩⟩
  · rw [map_eraseF, h.eq, ← map_eraseF, ← hx, goneE_at q.nd hen]
  · have := h.len
    have := h.wa.few8
    omega
  · intro ho
    rcases k4 b ho with h5 | h5
    · exact hX b x hb h5
    · have := blk_lt (hxw b x hb); omega
theorem fg_gone {w0 w : World} {X : Nat → Obj → Prop} {p T : Nat} {v : Value} {A : List Ax} {i : Nat} (h : Fg w0 X w p T v A i) (hi : i < A.length) :
    Calls Try.prog 36 #[v, .int .i64 (i : Nat)] w fun e w' => ∃ va m vc, e = .returned (.slice va m vc) ∧ Hid (m = (A.eraseIdx i).length ∧ Fx w0 X w' p T (.slice va m vc) (A.eraseIdx i)) := by
  obtain ⟨O, E, h1, h2, h3, hX⟩ := h.ex
  refine (gone_any w w0.heap.size v A i h.own hi (by omega)).mono ?_
  rintro e w' ⟨v', rfl, H⟩
  obtain ⟨k1, k2⟩ := unhide H
  obtain ⟨va, vc, rfl, -⟩ := own_shape k1
  refine ⟨va, _, vc, rfl, hide ⟨rfl, ⟨O, E, ⟨h1.below k2, own_base k1 h1.bel.size, fun g hg ho => ?_, h2, fun d hd => h.pls d (List.eraseIdx_subset hd)⟩, hX⟩, fun b x hb => (k2.block b (blk_lt (h.xw b x hb))).trans (h.xw b x hb)⟩⟩
  have := own_ge k1 g hg
  have := h1.lt g ho
  omega
theorem fx_next {w0 w : World} {X : Nat → Obj → Prop} {p T : Nat} {v : Value} {A : List Ax} (x : Pl) (k : Int) (hx : POk x) (h : Fx w0 X w p T v A) :
    Calls Try.prog 22 #[.pointer (some ⟨p, 0, none⟩), .agg #[.int .i64 x.1, .string (bs x.2)], .int .i64 k] w fun e w' => ∃ (c : Nat) (r : Bool), e = .returned (.tuple #[.int .i64 (c : Nat), .bool r]) ∧ Hid (Fx w0 X w' p T v A ∧ c = ((nextW (A.map (·.x)) x k).map (·.conn)).getD 0 ∧ r = (nextW (A.map (·.x)) x k).isSome) := by
  have hh := h
  obtain ⟨⟨O, E, h, hX⟩, hxw⟩ := h
  refine (wa_next w0 O w p T E x k h.wa hx).mono ?_
  rintro e w' ⟨rfl, H⟩
  obtain ⟨k1, k2⟩ := unhide H
  refine ⟨_, _, rfl, hide ⟨hh.below k2, ?_, ?_⟩⟩
  · rw [h.eq, ← nextE_map]
    cases nextE E x k <;> rfl
  · rw [h.eq, ← nextE_map]
    cases nextE E x k <;> rfl
theorem fx_wants {w0 w : World} {X : Nat → Obj → Prop} {p T : Nat} {v : Value} {A : List Ax} {i : Nat} {d : Ax} (h : Fx w0 X w p T v A) (hd : A[i]? = some d) (y : Pl) (k2 : Int) :
    Calls Try.prog 35 #[.agg #[.int .i64 (d.x.conn : Nat), .int .i64 d.x.kind, .slice d.a d.x.places.length d.cap, .int .u64 (d.x.till : Nat)], .agg #[.int .i64 y.1, .string (bs y.2)], .int .i64 k2] w fun e w' => e = .returned (.bool (wantsB y k2 d.x)) ∧ Hid (Fx w0 X w' p T v A ∧ Below w.heap.size w w') := by
  obtain ⟨h1, h2⟩ := h.wok (List.mem_of_getElem? hd)
  refine (wants_any w d.x d.a d.cap d.x.places.length y k2 rfl (by have := h1.many; omega) h2).mono ?_
  rintro e w' ⟨rfl, H⟩
  exact ⟨rfl, hide ⟨h.below (unhide H), unhide H⟩⟩
theorem next_none {A : List Ax} {x : Pl} {k : Int} (h : ∀ d ∈ A, wantsB x k d.x = false) : nextW (A.map (·.x)) x k = none := by
  unfold nextW
  rw [List.find?_eq_none]
  intro y hy
  obtain ⟨d, hd, rfl⟩ := List.mem_map.1 hy
  rw [h d hd]
  decide
theorem next_some {A : List Ax} {x : Pl} {k : Int} {i : Nat} {d : Ax} (hd : A[i]? = some d) (h : ∀ d ∈ A.take i, wantsB x k d.x = false) (hw : wantsB x k d.x = true) : nextW (A.map (·.x)) x k = some d.x := by
  unfold nextW
  rw [List.find?_map]
  have : A.find? (wantsB x k ∘ fun d => d.x) = some d := by
    rw [List.find?_eq_some_iff_append]
    refine ⟨hw, A.take i, A.drop (i + 1), ?_, fun a ha => by show (!wantsB x k a.x) = true; rw [h a ha]; rfl⟩
    obtain ⟨h1, h2⟩ := List.getElem?_eq_some_iff.1 hd
    rw [← h2, ← List.drop_eq_getElem_cons h1, List.take_append_drop]
  rw [this]
  rfl
end Go.Proofs.Ytfebiemfmiahhaa
