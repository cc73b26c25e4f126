/- The document's Block, whole. -/
import Derived.Test.YtfebiemfmiahhaaMj
namespace Go.Proofs.Ytfebiemfmiahhaa
open Go.ChangeShapes Go.WideShapes Go.ChangeAt Go.RowKit Go.Maps
set_option linter.unusedVariables false
set_option linter.unusedSimpArgs false
set_option maxRecDepth 100000
set_option maxHeartbeats 8000000
theorem ownsRow_zero {w : World} {base : Nat} {e : TypeId} {size : Nat} {v : Value} {n : Nat} {xs : List Value} (h : w.ownsRow base e size v n xs) : w.ownsRow 0 e size v n xs := by
  obtain ⟨h0, h1⟩ := h
  refine ⟨h0, h1.imp id ?_⟩
  rintro ⟨g, cap, cur, r1, hb, r⟩
  exact ⟨g, cap, cur, r1, Nat.zero_le _, r⟩
/-- what a call of the document's leaves -/
structure RStep (Q : Nat → Prop) (w w' : World) (p : Nat) (L' : List Wt) : Prop where
  ex : ∃ Q', RAt Q' w' p L' ∧ (∀ b, Q b → Q' b) ∧ ∀ b, Q' b → Q b ∨ w.heap.size ≤ b
  fr : Fr Q w w'
theorem rblock_any (Q : Nat → Prop) (w : World) (p : Nat) (L : List Wt) (c k : Int) (a : Option Addr) (n cap : Nat) (l : List Pl) (t : Nat) (h : RAt Q w p L) (hl : PlsAt w a l) (hn : n = l.length) (hll : n ≤ 9223372036854775807) (hok : ∀ x ∈ l, POk x)
    (hx : refW L c k l t = 0 → ∃ cn : Nat, c = (cn : Nat) ∧ WOk ⟨cn, k, l, t⟩ ∧ L.length < 8) :
    Calls Try.prog 47 #[.pointer (some ⟨p, 0, none⟩), .int .i64 c, .int .i64 k, .slice a n cap, .int .u64 (t : Nat)] w fun e w' => e = .returned (.int .i64 (refW L c k l t)) ∧ Hid (∃ L', RStep Q w w' p L' ∧ (refW L c k l t ≠ 0 → L' = L) ∧ ∀ cn : Nat, refW L c k l t = 0 → c = (cn : Nat) → L' = L ++ [⟨cn, k, l, t⟩]) := by
  by_cases hr : refW L c k l t = 0
  rotate_left
  · refine (rblock_no Q w p L c k a n cap l t h hl hn hll hok hr).mono ?_
    rintro e w' ⟨rfl, rfl⟩
    exact ⟨rfl, hide ⟨L, ⟨⟨Q, h, fun b hb => hb, fun b hb => .inl hb⟩, Fr.of (Below.refl _ _)⟩, fun _ => rfl, fun cn h0 => absurd h0 hr⟩⟩
  obtain ⟨cn, rfl, hw, h8⟩ := hx hr
  rw [hr]
  have C1 := find_any Q w p L (cn : Nat) h
  have C2 := bad_any w a cap l n hn hll hl hok
  obtain ⟨fi, hfi⟩ : ∃ fi, fi = findI L (cn : Nat) := ⟨_, rfl⟩
  have hf := (find_lt (L := L) (c := (cn : Nat))).2
  rw [← hfi] at C1 hf
  have hr' := hr
  unfold refW at hr'
  have hc8 := hw.conn
  simp only at hc8
  rw [if_neg (by omega)] at hr'
  cases hs : (lookW L (cn : Nat)).isSome with
  | true => rw [hs, if_pos rfl] at hr'; cases hr'
  | false =>
  rw [hs] at hf
  rw [hs, if_neg (by simp)] at hr'
  have hkk := hw.kind
  simp only at hkk
  rw [if_neg (by omega)] at hr'
  cases hB : badB l with
  | true => rw [hB, if_pos rfl] at hr'; cases hr'
  | false =>
  rw [hB] at C2
  have ht := hw.till
  simp only at ht
  have hm := hw.many
  simp only at hm
  obtain ⟨lv, D, hRA, hD⟩ := h
  obtain ⟨la, lc, rfl, -⟩ := own_shape hRA.own
  have few := hRA.few
  have hDL : D.length = L.length := by rw [← hD, List.length_map]
  have hpn : some p ≠ Value.ownBlock (.slice la D.length lc) := fun e => by
    obtain ⟨cur, hc⟩ := own_type hRA.own e.symm
    rw [hRA.cell] at hc
    injection hc with hc
    injection hc with _ ht
    exact absurd ht (by decide)
  refine (rblock_walk w p (cn : Nat) k a n cap t la D.length lc (D.flatMap dwC) fi (fun w' => ∃ Q', RAt Q' w' p (L ++ [⟨cn, k, l, t⟩]) ∧ (∀ b, Q b → Q' b) ∧ (∀ b, Q' b → Q b ∨ w.heap.size ≤ b) ∧ Fr Q w w') (decide_eq_false (by omega)) (decide_eq_false (by omega)) hf hkk (decide_eq_false (by omega)) few C1 C2 (hide ?_) (hide (cell_blk hRA.cell 0))).mono ?_
  · refine (copies_any w.drew a cap l n hn (by omega) (hl.below (Below.refl _ _).drew)).mono ?_
    rintro e w2 ⟨v, rfl, H⟩
    obtain ⟨ho, hb⟩ := unhide H
    obtain ⟨va, vc, rfl, -⟩ := own_shape ho
    have hb2 : Below w.heap.size w w2 := (Below.refl w.heap.size w).drew.trans hb
    have hpl : p < w.heap.size := blk_lt hRA.cell
    refine ⟨va, _, vc, rfl, hide ⟨(hb2.cell (p := ⟨p, 0, none⟩) hpl).trans (cell_blk hRA.cell 0), ownsRow_same hRA.own (fun g hg => hb2.block g (hRA.lt g (hRA.lq g hg))), Nat.lt_of_lt_of_le hpl hb2.size, hpn, ?_, fun v' w4 ho4 hg4 ha4 => ?_⟩⟩
    · rw [hb2.frozen (p := ⟨p, 0, none⟩) hpl]
      simp [World.frozen?, hRA.cell]
    · obtain ⟨w3, hw3⟩ : ∃ w3, w2.alloc (.cells #[.int .i64 ((cn : Nat) : Int), .int .i64 k, .slice va l.length vc, .int .u64 (t : Nat)] 106) = w3 := ⟨_, rfl⟩
      rw [hw3] at hg4
      have hb3 : Below w.heap.size w w3 := by rw [← hw3]; exact hb2.alloc hb2.size _
      have s3 : w3.heap.size = w2.heap.size + 1 := by rw [← hw3]; simp
      have hpv : w3.ownsRow 0 40 2 (.slice va l.length vc) l.length (l.flatMap plC) := by rw [← hw3]; exact World.ownsRow.alloc (ownsRow_zero ho) _
      have hge : ∀ g, Value.ownBlock (.slice va l.length vc) = some g → w.heap.size ≤ g := fun g hg => own_ge ho g hg
      have hL := RA.lay (D' := D ++ [⟨⟨cn, k, l, t⟩, .slice va l.length vc⟩]) (w4 := w4) (v' := v') hRA (fun b hb' hne => (hg4.block b (Nat.lt_of_lt_of_le hb' hb3.size) hne).trans (hb3.block b hb')) (hg4.os.trans hb3.os) (hg4.tape.trans hb3.tape) (hg4.output.trans hb3.output) (Nat.le_trans hb3.size hg4.size)
        (by rw [List.length_append, List.flatMap_append]; simpa [dwC] using ho4)
        (fun g hg => by
          rcases ha4 with h1 | h1
          · exact .inl (h1 ▸ hg)
          · rw [h1] at hg
            cases hg
            exact .inr (by have := hb2.size; omega))
        (fun d hd => by
          rcases List.mem_append.1 hd with hd | hd
          · exact .inl hd
          · obtain rfl := List.mem_singleton.1 hd
            refine .inr ⟨hpv.kept hg4 ?_, hge⟩
            by_cases hnn : Value.ownBlock (.slice va l.length vc) = none
            · exact .inl hnn
            · refine .inr fun e => ?_
              obtain ⟨g, hg⟩ := Option.ne_none_iff_exists'.1 hnn
              have h1 := hge g hg
              have h2 := hRA.lt g (hRA.lq g (by rw [← e]; exact hg))
              omega)
        (fun d hd => by
          rcases List.mem_append.1 hd with hd | hd
          · exact hRA.ok d hd
          · obtain rfl := List.mem_singleton.1 hd
            exact hw)
        (by rw [List.length_append]; simp; omega)
      refine ⟨_, ⟨v', _, hL.1, by rw [List.map_append, hD]; rfl⟩, fun b hb => .inl hb, fun b hb => hb.imp id (·.1), hL.2⟩
  · rintro e w' ⟨rfl, H⟩
    obtain ⟨Q', k1, k2, k3, k4⟩ := unhide H
    refine ⟨rfl, hide ⟨_, ⟨⟨Q', k1, k2, k3⟩, k4⟩, fun h0 => absurd rfl h0, fun cn' _ e => ?_⟩⟩
    obtain rfl : cn = cn' := by omega
    rfl
end Go.Proofs.Ytfebiemfmiahhaa
