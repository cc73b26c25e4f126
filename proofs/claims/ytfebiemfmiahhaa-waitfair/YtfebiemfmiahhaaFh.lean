/- WaitFair: a turn's Block. -/
import Derived.Test.YtfebiemfmiahhaaFg
import Derived.Test.YtfebiemfmiahhaaFe
import Derived.Maps.AppendAt
namespace Go.Proofs.Ytfebiemfmiahhaa
open Go.ChangeShapes Go.WideShapes Go.ChangeAt Go.RowKit Go.Maps
set_option linter.unusedVariables false
set_option linter.unusedSimpArgs false
set_option maxRecDepth 100000
set_option maxHeartbeats 8000000
/-- a turn, and where its places lie -/
structure Tu where
  act : Int
  conn : Int
  kind : Int
  a : Option Addr
  cap : Nat
  pl : List Pl
  time : Nat
  n : Int
def tuC (o : Tu) : List Value := [.int .i64 o.act, .int .i64 o.conn, .int .i64 o.kind, .slice o.a o.pl.length o.cap, .int .u64 (o.time : Nat), .int .i64 o.n]
structure TuOk (W : World) (o : Tu) : Prop where
  pls : PlsAt W o.a o.pl
  nil : o.a = none → o.cap = 0 ∧ o.pl = []
  len : o.pl.length ≤ 5864062014805
  conn : IOk o.conn
  pok : ∀ x ∈ o.pl, POk x
/-- one more waits, and is not yet in the book -/
structure Fp (w0 : World) (X : Nat → Obj → Prop) (w : World) (p T : Nat) (v : Value) (A : List Ax) (d : Ax) : Prop where
  ex : ∃ O E, Wa w0 O w p T E ∧ A.map (·.x) ++ [d.x] = E.map (·.x) ∧ (∀ g, v.ownBlock = some g → ¬ O g) ∧ ∀ b x, X b x → ¬ O b
  own : w.ownsRow w0.heap.size 56 4 v A.length (A.flatMap axC)
  pls : ∀ e ∈ A ++ [d], PlsAt w0 e.a e.x.places
  xw : ∀ b x, X b x → w.heap[b]? = some x
/-- no kept block is a book's -/
def NoBk (X : Nat → Obj → Prop) : Prop := ∀ b x, X b x → ∀ cs fr, x ≠ .cells cs 56 fr
theorem refR_many {E : List En} {c k : Int} {l : List Pl} {t : Nat} (h : refR E c k l t = 0) : 0 < l.length := by
  by_cases hl : l.length = 0
  · exfalso
    unfold refR at h
    rw [hl] at h
    simp only [true_or, if_true] at h
    split at h
    · omega
    · split at h
      · omega
      · split at h <;> omega
  · omega
theorem fx_block {w0 w : World} {X : Nat → Obj → Prop} {p T : Nat} {v : Value} {A : List Ax} (c k : Int) (a : Option Addr) (n cap : Nat) (l : List Pl) (t : Nat) (a0 : Option Addr) (cap0 : Nat) (h : Fx w0 X w p T v A) (hc : IOk c) (hl : PlsAt w a l) (hl0 : PlsAt w0 a0 l) (hn : n = l.length) (hll : n ≤ 9223372036854775807) (hT : T < 1099511627776) :
    Calls Try.prog 16 #[.pointer (some ⟨p, 0, none⟩), .int .i64 c, .int .i64 k, .slice a n cap, .int .u64 (t : Nat)] w fun e w' => ∃ r, e = .returned (.int .i64 r) ∧ Hid (∃ T', T' ≤ T + 1 ∧ (r ≠ 0 → Fx w0 X w' p T' v A) ∧ (r = 0 → 0 < l.length ∧ ∃ cn : Nat, c = (cn : Nat) ∧ Fp w0 X w' p T' v A ⟨⟨cn, k, l, t⟩, a0, cap0⟩) ∧ ∀ b x, X b x → w'.heap[b]? = some x) := by
  obtain ⟨⟨O, E, h, hX⟩, hxw⟩ := h
  refine (wa_block w0 O w p T E c k a n cap l t h.wa hc hl hn hll hT).mono ?_
  rintro e w' ⟨rfl, H⟩
  obtain ⟨O', T', E', k1, k2, k3, k4, k5, k6, k7⟩ := unhide H
  have hxw' : ∀ b x, X b x → w'.heap[b]? = some x := fun b x hb => k2.row (hxw b x hb) (hX b x hb)
  have hX' : ∀ b x, X b x → ¬ O' b := fun b x hb ho => by
    rcases k5 b ho with h5 | h5
    · exact hX b x hb h5
    · have := blk_lt (hxw b x hb); omega
  have hoff : ∀ g, v.ownBlock = some g → ¬ O' g := fun g hg ho => by
    rcases k5 g ho with h5 | h5
    · exact h.off g hg h5
    · have := own_lt2 h.own hg; omega
  have hown := ownsRow_same (w' := w') h.own (fun g hg => k2.own g (own_lt2 h.own hg) (h.off g hg))
  refine ⟨_, rfl, hide ⟨T', k3, fun hne => ?_, fun h0 => ?_, hxw'⟩⟩
  · obtain ⟨rfl, -⟩ := k6 hne
    exact ⟨⟨O', E', ⟨k1, hown, hoff, h.eq, h.pls⟩, hX'⟩, hxw'⟩
  · obtain ⟨cn, g, e1, rfl⟩ := k7 h0
    refine ⟨refR_many h0, cn, e1, ⟨O', _, k1, ?_, hoff, hX'⟩, hown, fun e he => ?_, hxw'⟩
    · rw [List.map_append, h.eq]; rfl
    · rcases List.mem_append.1 he with he | he
      · exact h.pls e he
      · obtain rfl : e = _ := by simpa using he
        exact hl0
theorem fp_push {w0 w w3 w' : World} {X : Nat → Obj → Prop} {p T : Nat} {v v' : Value} {A : List Ax} {d : Ax} (hno : NoBk X) (h : Fp w0 X w p T v A d) (hb : Below w.heap.size w w3) (ho : w'.ownsRow w0.heap.size 56 4 v' (A.length + 1) (A.flatMap axC ++ axC d)) (hg : w3.grownBy w' v.ownBlock) (hat : v'.ownBlock = v.ownBlock ∨ v'.ownBlock = some w3.heap.size) : Fx w0 X w' p T v' (A ++ [d]) := by
  obtain ⟨⟨O, E, h1, h2, h3, h4⟩, hown, hpls, hxw⟩ := h
  have hxv : ∀ g, v.ownBlock = some g → ∀ x, ¬ X g x := fun g hg x hx => by
    obtain ⟨cur, hc⟩ := own_type hown hg
    have e := hxw g x hx
    rw [hc] at e
    exact hno g x hx cur (0, 0) (Option.some.inj e).symm
  have hsame : ∀ b, b < w.heap.size → (∀ g, v.ownBlock = some g → b ≠ g) → w'.heap[b]? = w.heap[b]? := fun b hb' hne => by
    rw [hg.block b (Nat.lt_of_lt_of_le hb' hb.size) (fun e => hne b e.symm rfl)]
    exact hb.block b hb'
  have hsz : w.heap.size ≤ w'.heap.size := Nat.le_trans hb.size hg.size
  obtain ⟨bw, bl, q⟩ := h1.ex
  refine ⟨⟨O, E, ⟨⟨⟨bw, bl, ?_⟩, h1.ge, ?_⟩, ?_, fun g hg' hog => ?_, ?_, hpls⟩, h4⟩, fun b x hx => ?_⟩
  · exact q.same (fun b ob => hsame b (q.lt b ob) (fun g e e2 => by subst e2; exact h3 b e ob)) (fun b ob => ob) (fun b ob => Nat.lt_of_lt_of_le (q.lt b ob) hsz)
  · exact below_grown (h1.bel.trans (hb.mono h1.bel.size)) (Nat.le_refl _) hg (own_ge hown)
  · rw [List.length_append, List.flatMap_append]
    simpa using ho
  · rcases hat with e | e
    · exact h3 g (by rw [← e]; exact hg') hog
    · rw [e] at hg'
      cases hg'
      have := q.lt _ hog
      have := hb.size
      omega
  · rw [List.map_append]; exact h2
  · rw [hsame b (blk_lt (hxw b x hx)) (fun g e e2 => by subst e2; exact hxv b e x hx)]
    exact hxw b x hx
end Go.Proofs.Ytfebiemfmiahhaa
