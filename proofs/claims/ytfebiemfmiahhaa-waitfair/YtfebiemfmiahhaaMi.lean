/- The document's line, one more behind it. -/
import Derived.Test.YtfebiemfmiahhaaMt
namespace Go.Proofs.Ytfebiemfmiahhaa
open Go.ChangeShapes Go.WideShapes Go.ChangeAt Go.RowKit Go.Maps
set_option linter.unusedVariables false
set_option linter.unusedSimpArgs false
set_option maxRecDepth 100000
set_option maxHeartbeats 8000000
theorem own_type {w : World} {base : Nat} {e : TypeId} {size : Nat} {v : Value} {n : Nat} {xs : List Value} (h : w.ownsRow base e size v n xs) {g : Nat} (hg : v.ownBlock = some g) : ∃ cur, w.heap[g]? = some (.cells cur e (0, 0)) := by
  rcases h.2 with ⟨rfl, rfl⟩ | ⟨g', cap, cur, rfl, hb, hc, -⟩
  · cases hg
  · cases hg; exact ⟨cur, hc⟩
/-- a list of those who wait is laid into the field -/
theorem RA.lay {Q : Nat → Prop} {w w4 : World} {p : Nat} {lv v' : Value} {D D' : List Dw} (h : RA Q w p lv D) (hg : ∀ b, b < w.heap.size → some b ≠ lv.ownBlock → w4.heap[b]? = w.heap[b]?) (hos : w4.os = w.os) (htp : w4.tape = w.tape) (hout : w4.output = w.output) (hsz : w.heap.size ≤ w4.heap.size)
    (hown : w4.ownsRow 0 106 4 v' D'.length (D'.flatMap dwC)) (hat : ∀ g, v'.ownBlock = some g → lv.ownBlock = some g ∨ w.heap.size ≤ g)
    (hD : ∀ d ∈ D', d ∈ D ∨ (w4.ownsRow 0 40 2 d.v d.x.places.length (d.x.places.flatMap plC) ∧ ∀ g, d.v.ownBlock = some g → w.heap.size ≤ g)) (hok : ∀ d ∈ D', WOk d.x) (hfew : D'.length ≤ 8) :
    RA (ext Q w (w4.setCell ⟨p, 0, none⟩ v')) (w4.setCell ⟨p, 0, none⟩ v') p v' D' ∧ Fr Q w (w4.setCell ⟨p, 0, none⟩ v') := by
  have hpl : p < w.heap.size := blk_lt h.cell
  have hpn : some p ≠ lv.ownBlock := fun e => by
    obtain ⟨cur, hc⟩ := own_type h.own e.symm
    rw [h.cell] at hc
    injection hc with hc
    injection hc with _ ht
    exact absurd ht (by decide)
  have hp4 := (hg p hpl hpn).trans h.cell
  have s5 : (w4.setCell ⟨p, 0, none⟩ v').heap.size = w4.heap.size := by simp
  have hoth : ∀ b, b ≠ p → (w4.setCell ⟨p, 0, none⟩ v').heap[b]? = w4.heap[b]? := fun b hb => heap_setCell_other w4 ⟨p, 0, none⟩ b v' hb
  have hne : ∀ (b : Nat) (cur : Array Value) (t : TypeId), w4.heap[b]? = some (.cells cur t (0, 0)) → t ≠ 83 → b ≠ p := fun b cur t hb ht e => by
    subst e
    rw [hp4] at hb
    injection hb with hb
    injection hb with _ h2
    exact ht h2.symm
  refine ⟨⟨?_, ?_, ?_, ?_, .inl h.op, ?_, hok, hfew⟩, ⟨hos, htp, hout, by rw [s5]; exact hsz, fun i hi hno => ?_⟩⟩
  · have := heap_setCell_same w4 p 0 #[lv] 83 v' hp4
    rw [this]; rfl
  · refine ownsRow_same hown fun g hgb => hoth g ?_
    obtain ⟨cur, hc⟩ := own_type hown hgb
    exact hne g cur 106 hc (by decide)
  · intro g hgb
    obtain ⟨cur, hc⟩ := own_type hown hgb
    rcases hat g hgb with h1 | h1
    · exact .inl (h.lq g h1)
    · exact .inr ⟨h1, by rw [s5]; exact blk_lt hc⟩
  · intro d hd
    rcases hD d hd with hd | ⟨h1, h2⟩
    · have hpd := h.pl d hd
      refine ⟨ownsRow_same hpd.own fun g hgb => ?_, fun g hgb => .inl (hpd.q g hgb)⟩
      obtain ⟨cur, hc⟩ := own_type hpd.own hgb
      have hgl : some g ≠ lv.ownBlock := fun e => by
        obtain ⟨cur', hc'⟩ := own_type h.own e.symm
        rw [hc] at hc'
        injection hc' with hc'
        injection hc' with _ ht
        exact absurd ht (by decide)
      have h4 := hg g (blk_lt hc) hgl
      rw [hoth g (hne g cur 40 (h4.trans hc) (by decide))]
      exact h4
    · refine ⟨ownsRow_same h1 fun g hgb => ?_, fun g hgb => ?_⟩
      · obtain ⟨cur, hc⟩ := own_type h1 hgb
        exact hoth g (hne g cur 40 hc (by decide))
      · obtain ⟨cur, hc⟩ := own_type h1 hgb
        exact .inr ⟨h2 g hgb, by rw [s5]; exact blk_lt hc⟩
  · intro b hb
    rw [s5]
    rcases hb with hb | hb
    · exact Nat.lt_of_lt_of_le (h.lt b hb) hsz
    · rw [s5] at hb; exact hb.2
  · have hip : i ≠ p := fun e => hno (e ▸ h.op)
    rw [hoth i hip]
    exact hg i hi (fun e => hno (h.lq i e.symm))
end Go.Proofs.Ytfebiemfmiahhaa
