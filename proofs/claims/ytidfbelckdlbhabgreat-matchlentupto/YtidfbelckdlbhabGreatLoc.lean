/- larderlaw3's Loan: Back. -/
import Derived.Test.YtidfbelckdlbhabGreatPla
import Derived.Test.YtidfbelckdlbhabGreatShf
namespace Go.Proofs.YtidfbelckdlbhabGreat
open Go.ChangeShapes Go.WideShapes Go.ChangeAt Go.RowKit
set_option linter.unusedVariables false
set_option linter.unusedSimpArgs false
set_option maxRecDepth 20000
set_option maxHeartbeats 4000000

/-- the loan's struct -/
def loC (fv kv : Value) : Array Value := #[fv, kv, .slice none 0 0, .slice none 0 0]
/-- a loan all of whose memory lies from B on: F j is the list with its marks, K j its copy, D j what it held -/
structure LoAt (w : World) (B px : Nat) (fv kv : Value) (n : Nat) (F K : Nat → Value) (D : Nat → List Nat) : Prop where
  at' : w.heap[px]? = some (.cells (loC fv kv) 63 (0, 0))
  fr : Rws w 34 1 fv n F
  kr : Rws w 34 1 kv n K
  fe : ∀ j, j < n → Rws w 5 1 (F j) (D j).length (byV (D j))
  ke : ∀ j, j < n → Rws w 5 1 (K j) (D j).length (byV (D j))
  fk : ∀ g, fv.ownBlock = some g → kv.ownBlock ≠ some g
  pb : B ≤ px
  fb : ∀ g, fv.ownBlock = some g → B ≤ g
  kb : ∀ g, kv.ownBlock = some g → B ≤ g
  len : ∀ j, j < n → (D j).length ≤ 2147483648
  few : n ≤ 1000
theorem LoAt.below {w w' : World} {B px : Nat} {fv kv : Value} {n : Nat} {F K : Nat → Value} {D : Nat → List Nat} (h : LoAt w B px fv kv n F K D) (hb : Below w.heap.size w w') : LoAt w' B px fv kv n F K D :=
  ⟨by rw [hb.block _ (block_lt h.at')]; exact h.at', h.fr.below hb, h.kr.below hb, fun j hj => (h.fe j hj).below hb, fun j hj => (h.ke j hj).below hb, h.fk, h.pb, h.fb, h.kb, h.len, h.few⟩
theorem LoAt.cells {w : World} {B px : Nat} {fv kv : Value} {n : Nat} {F K : Nat → Value} {D : Nat → List Nat} (h : LoAt w B px fv kv n F K D) : w.cell? ⟨px, 0, none⟩ = some fv ∧ w.cell? ⟨px, 1, none⟩ = some kv ∧ w.cell? ⟨px, 2, none⟩ = some (.slice none 0 0) ∧ (∀ j, w.frozen? ⟨px, j, none⟩ = false) := by
  refine ⟨?_, ?_, ?_, fun j => ?_⟩
  · rw [cell_of_row _ _ _ _ _ _ h.at']; rfl
  · rw [cell_of_row _ _ _ _ _ _ h.at']; rfl
  · rw [cell_of_row _ _ _ _ _ _ h.at']; rfl
  · simp only [World.frozen?, h.at']; simp
/-- one list more -/
theorem LoAt.more {w w1 w3 w4 : World} {B px : Nat} {fv kv : Value} {n : Nat} {F K : Nat → Value} {D : Nat → List Nat} {v c fv' kv' : Value} {l : List Nat} (h : LoAt w B px fv kv n F K D) (hB : B ≤ w.heap.size) (hv : Rws w 5 1 v l.length (byV l))
    (p1 : Put w w1 px 0 (loC fv kv) 63 34 fv fv' (n + 1) (fun k => if k < n * 1 then F k else [v].getD (k - n * 1) undef)) (hb : Below w1.heap.size w1 w3) (hc : Rws w3 5 1 c l.length (byV l))
    (p2 : Put w3 w4 px 1 (loC fv' kv) 63 34 kv kv' (n + 1) (fun k => if k < n * 1 then K k else [c].getD (k - n * 1) undef)) (hl : l.length ≤ 2147483648) (hn : n + 1 ≤ 1000) :
    LoAt w4 B px fv' kv' (n + 1) (fun k => if k < n then F k else v) (fun k => if k < n then K k else c) (fun k => if k < n then D k else l) ∧ Below B w w4 ∧ Rws w4 5 1 v l.length (byV l) := by
  have ad : ∀ (k : Nat) (A B : Nat → Value) (u : Value), k < (n + 1) * 1 → (if k < n * 1 then A k else [u].getD (k - n * 1) undef) = if k < n then A k else u := fun k A _ u hk => by
    by_cases q : k < n
    · rw [if_pos (by omega), if_pos q]
    · rw [if_neg (by omega), if_neg q, show k - n * 1 = 0 by omega]
      rfl
  have x3 : w3.heap[px]? = some (.cells (loC fv' kv) 63 (0, 0)) := by
    rw [hb.block px (block_lt p1.at'), p1.at']
    rfl
  have apx : ∀ g, fv'.ownBlock = some g → kv.ownBlock ≠ some g := fun g hg e => by
    rcases p1.own g hg with q | q
    · exact h.fk g q e
    · have := h.kr.lt g e
      omega
  have s1 := p1.size
  have s2 := hb.size
  have s3 := p2.size
  have all : ∀ b, b < w.heap.size → b ≠ px → fv.ownBlock ≠ some b → kv.ownBlock ≠ some b → w4.heap[b]? = w.heap[b]? := fun b h1 h2 h3 h4 => by
    rw [p2.blk b (by omega) h2 h4, hb.block b (by omega), p1.blk b h1 h2 h3]
  have k5 : ∀ {u : Value} {m : Nat} {f : Nat → Value}, Rws w 5 1 u m f → Rws w4 5 1 u m f := fun {u m f} hR => hR.same' h.at' (by decide) (fun g hg hx => all g (hR.lt g hg) hx (fun q => hR.apart h.fr (by decide) g hg q) (fun q => hR.apart h.kr (by decide) g hg q))
  have xr4 : Rws w4 34 1 fv' (n + 1) (fun k => if k < n * 1 then F k else [v].getD (k - n * 1) undef) := (p1.row.below hb).same' x3 (by decide) (fun g hg hx => p2.blk g ((p1.row.below hb).lt g hg) hx (apx g hg))
  have c4 : Rws w4 5 1 c l.length (byV l) := hc.same' x3 (by decide) (fun g hg hx => p2.blk g (hc.lt g hg) hx (fun q => by
    have hw3 : Rws w3 34 1 kv n K := (h.kr.same' h.at' (by decide) (fun g hg hx => p1.blk g (h.kr.lt g hg) hx (fun q => h.fk g q hg))).below hb
    exact hc.apart hw3 (by decide) g hg q))
  refine ⟨⟨p2.at', xr4.congr (fun k hk => ad k F F v hk), p2.row.congr (fun k hk => ad k K K c hk), fun j hj => ?_, fun j hj => ?_, fun g h1 h2 => ?_, h.pb, fun g hg => ?_, fun g hg => ?_, fun j hj => ?_, hn⟩, ⟨?_, ?_, ?_, by omega, fun b hb1 => all b (by omega) (fun q => ?_) (fun q => ?_) (fun q => ?_)⟩, k5 hv⟩
  · by_cases q : j < n
    · simp only [if_pos q]; exact k5 (h.fe j q)
    · simp only [if_neg q]; exact k5 hv
  · by_cases q : j < n
    · simp only [if_pos q]; exact k5 (h.ke j q)
    · simp only [if_neg q]; exact c4
  · rcases p2.own g h2 with q | q
    · exact apx g h1 q
    · have := (p1.row.below hb).lt g h1
      omega
  · rcases p1.own g hg with q | q
    · exact h.fb g q
    · omega
  · rcases p2.own g hg with q | q
    · exact h.kb g q
    · omega
  · by_cases q : j < n
    · simp only [if_pos q]; exact h.len j q
    · simp only [if_neg q]; exact hl
  · rw [p2.os, hb.os, p1.os]
  · rw [p2.tape, hb.tape, p1.tape]
  · rw [p2.output, hb.output, p1.output]
  · have := h.pb
    omega
  · have := h.fb b q
    omega
  · have := h.kb b q
    omega
/-- b with i marks behind it -/
def lo (l : List Nat) (i : Nat) : List Nat := l ++ (List.range i).map (fun k => 160 + k)
theorem lo_len (l : List Nat) (i : Nat) : (lo l i).length = l.length + i := by unfold lo; simp
theorem lo_zero (l : List Nat) : lo l 0 = l := by unfold lo; simp
theorem lo_old (l : List Nat) (i k : Nat) (h : k < l.length) : (lo l i).getD k 0 = l.getD k 0 := by
  unfold lo
  rw [List.getD_eq_getElem?_getD, List.getElem?_append_left h, ← List.getD_eq_getElem?_getD]
theorem lo_new (l : List Nat) (i k : Nat) (h : k < i) : (lo l i).getD (l.length + k) 0 = 160 + k := by
  unfold lo
  rw [List.getD_eq_getElem?_getD, List.getElem?_append_right (by omega), List.getElem?_map, show l.length + k - l.length = k by omega, List.getElem?_range h]
  rfl
theorem lo_more (l : List Nat) (i k : Nat) (h : k < l.length + (i + 1)) : byV (lo l (i + 1)) k = if k < l.length + i then byV (lo l i) k else .int .u8 ((160 + i : Nat) : Int) := by
  unfold byV
  by_cases q : k < l.length
  · rw [if_pos (by omega), lo_old _ _ _ q, lo_old _ _ _ q]
  · obtain ⟨d, rfl⟩ : ∃ d, k = l.length + d := ⟨k - l.length, by omega⟩
    rw [lo_new _ _ _ (by omega)]
    by_cases q2 : d < i
    · rw [if_pos (by omega), lo_new _ _ _ q2]
    · rw [if_neg (by omega), show d = i by omega]
/-- full while it is made -/
structure Li (w wr : World) (v : Value) (l : List Nat) : Prop where
  be : Below w.heap.size w wr
  row : Rws wr 5 1 v l.length (byV l)
  own : ∀ g, v.ownBlock = some g → w.heap.size ≤ g
theorem Li.first {w w2 : World} {v v' : Value} {l : List Nat} {o : Obj} {f : Nat → Value} (hv : ∀ g, v.ownBlock = some g → w.heap.size ≤ g) (hL : Rws w2 5 1 v' (0 + l.length) (fun k => if k < 0 then f k else byV l (k - 0))) (hG : Gw (w.alloc o) w2 v v') : Li w w2 v' l := by
  have b := (Below.refl w.heap.size w).alloc (Nat.le_refl _) o
  have s := hG.size
  have sb := b.size
  refine ⟨⟨hG.os.trans b.os, hG.tape.trans b.tape, hG.output.trans b.output, by omega, fun k hk => ?_⟩, ?_, fun g hg => ?_⟩
  · rw [hG.oth k (by omega) (fun q => by have := hv k q; omega), b.block k hk]
  · rw [Nat.zero_add] at hL
    exact hL.congr (fun k hk => rfl)
  · rcases hG.own g hg with q | q
    · exact hv g q
    · omega
theorem Li.next {w wr w2 : World} {v v' : Value} {l : List Nat} {i : Nat} {o : Obj} (h : Li w wr v (lo l i)) (hL : Rws w2 5 1 v' (l.length + i + 1) (fun k => if k < (l.length + i) * 1 then byV (lo l i) k else [Value.int .u8 ((160 + i : Nat) : Int)].getD (k - (l.length + i) * 1) undef)) (hG : Gr 5 ((l.length + i) * 1) 1 (wr.alloc o) w2 v v') : Li w w2 v' (lo l (i + 1)) := by
  have b := (Below.refl wr.heap.size wr).alloc (Nat.le_refl _) o
  have sb := b.size
  have s0 := h.be.size
  have bb : Below w.heap.size w (wr.alloc o) := h.be.trans (b.mono s0)
  refine ⟨bb.trans (hG.below _ (by omega) h.own), ?_, hG.own _ (by omega) h.own⟩
  rw [lo_len]
  refine hL.congr (fun k hk => ?_)
  rw [lo_more l i k (by omega)]
  by_cases q : k < l.length + i
  · rw [if_pos (by omega), if_pos q]
  · rw [if_neg (by omega), if_neg q, show k - (l.length + i) * 1 = 0 by omega]
    rfl
theorem Rws.take {w : World} {t : TypeId} {a : Option Addr} {n c m : Nat} {f : Nat → Value} (h : Rws w t 1 (.slice a n c) n f) (hm : m ≤ n) (f' : Nat → Value) (hf : ∀ k, k < m → f k = f' k) : Rws w t 1 (.slice a m c) m f' := by
  rcases h with ⟨e, h0⟩ | ⟨b, cap, cur, e, h1, h2, h3, h4, h5⟩
  · cases e
    obtain rfl : m = 0 := by omega
    exact .inl ⟨rfl, rfl⟩
  · cases e
    exact .inr ⟨b, c, cur, rfl, h1, by omega, h3, h4, fun k hk => by rw [h5 k (by omega), hf k (by omega)]⟩
end Go.Proofs.YtidfbelckdlbhabGreat
namespace Go.Proofs.YtidfbelckdlbhabGreat
open Go.ChangeShapes Go.WideShapes Go.ChangeAt Go.RowKit
set_option linter.unusedVariables false
set_option linter.unusedSimpArgs false
set_option maxRecDepth 20000
set_option maxHeartbeats 4000000

theorem lobytes_any (w : World) (B px : Nat) (fa ka : Option Addr) (fc kc n bc : Nat) (F K : Nat → Value) (D : Nat → List Nat) (ba : Option Addr) (l : List Nat) (h : LoAt w B px (.slice fa n fc) (.slice ka n kc) n F K D) (hW : B ≤ w.heap.size) (hB : Bytes w ba l) (hl : l.length ≤ 1073741824) (hn : n < 1000) :
    Calls Tryz.prog 13 #[.pointer (some ⟨px, 0, none⟩), .slice ba l.length bc] w fun e w' => ∃ va vc, e = .returned (.slice va l.length vc) ∧ Hid (Rws w' 5 1 (.slice va l.length vc) l.length (byV l) ∧ (∀ g, (Value.slice va l.length vc).ownBlock = some g → w.heap.size ≤ g) ∧ Below B w w' ∧ ∃ fa' fc' ka' kc' K', LoAt w' B px (.slice fa' (n + 1) fc') (.slice ka' (n + 1) kc') (n + 1) (fun k => if k < n then F k else .slice va (l.length + 8) vc) K' (fun k => if k < n then D k else lo l 8)) := by
  obtain ⟨i3, hi3, hz3, hs3, hb3⟩ := info_partsS Tryz.info34s
  obtain ⟨i5, hi5, hz5, hs5, hb5⟩ := info_partsS Tryz.info5s
  have H := hide h
  have HB := hide hB
  have HW := hide hW
  obtain ⟨ll, hll⟩ : ∃ ll, ll = l.length := ⟨_, rfl⟩
  have HLL := hide hll
  obtain ⟨mk, hmk⟩ : ∃ mk, mk = madeCells #[.int .u8 0] (ll + 8) := ⟨_, rfl⟩
  rw [← hll] at hl ⊢
  have m1 : ∀ W, (Instr.makeSlice 34 (.int .i64 0) (.int .i64 ((ll : Int) + 8))).run Tryz.prog W = .ok (.slice (some ⟨W.heap.size, 0, none⟩) 0 (ll + 8)) (W.alloc (.cells mk 5)) := fun W => by
    have hr := run_make (P := Tryz.prog) W 34 5 i5 (.int .u8 0) Tryz.underlying34 hi5 hz5 .i64 .i64 0 ((ll : Int) + 8) (by omega) (by omega) (by rw [hb5]; omega) (by omega)
    rw [hmk]
    rw [hs5, show ((ll : Int) + 8).toNat = ll + 8 by omega, Nat.mul_one] at hr
    exact hr
  have HR : Hid (Rws (w.alloc (.cells mk 5)) 5 1 (.slice (some ⟨w.heap.size, 0, none⟩) 0 (ll + 8)) 0 (byV l)) := hide (.inr ⟨w.heap.size, ll + 8, mk, rfl, heap_alloc_new w _, Nat.zero_le _, by unfold maxLen; omega, by rw [hmk, Nat.mul_one]; exact size_madeCells _ _, fun k hk => by omega⟩)
  have HBA : Hid (Bytes (w.alloc (.cells mk 5)) ba l) := hide (hB.below ((Below.refl _ _).alloc (Nat.le_refl _) _))
  clear h hB hW hmk hll
  go_enter Tryz.func13, Tryz.ntmps13
  go_wp2_with (at_builtin; refine append_bytes rfl _ _ 34 rfl i5 Tryz.underlying34 hi5 hz5 hs5 hb5 (.slice (some ⟨w.heap.size, 0, none⟩) 0 (ll + 8)) 0 (byV l) rfl (unhide HR) ba bc l (by rw [← unhide HLL]; rfl) (unhide HBA) (by have := unhide HLL; omega) ?_; intro v2 w2 hL hG; have L2 := hide (Li.first (fun g hg => by simp [Value.ownBlock] at hg; omega) hL hG); obtain ⟨a2, c2, he⟩ := hL.shape; rw [Nat.zero_add, ← unhide HLL] at he; subst he; clear hL hG)
  go_loopw [5, 6] (fun lv iv wr => ∃ (i : Nat) (a : Option Addr) (c : Nat), iv = .int .i64 (i : Nat) ∧ i ≤ 8 ∧ lv = .slice a (ll + i) c ∧ Hid (Li w wr lv (lo l i))) (fun _ iv _ => 8 - (intOf iv).toNat)
  case atStart => exact ⟨0, a2, c2, rfl, Nat.zero_le _, rfl, by rw [lo_zero]; exact L2⟩
  case round =>
    obtain ⟨i, la, lc, rfl, hi, rfl, p⟩ := hrel
    clear L2 m1 HR HBA
    rcases Nat.lt_or_ge i 8 with hlt | hge
    · have f1 : decide ((i : Int) < 8) = true := decide_eq_true (by omega)
      have qb : Hid (Rws (wr.alloc (.cells #[.int .u8 (160 + (i : Int))] 5)) 5 1 (.slice la (ll + i) lc) (ll + i) (byV (lo l i))) := hide (by
        have r := (unhide p).row
        rw [lo_len, ← unhide HLL] at r
        exact r.below ((Below.refl _ _).alloc (Nat.le_refl _) _))
      have NX : Hid (∀ v' w3, Rws w3 5 1 v' (ll + i + 1) (fun k => if k < (ll + i) * 1 then byV (lo l i) k else [Value.int .u8 (160 + (i : Int))].getD (k - (ll + i) * 1) undef) → Gr 5 ((ll + i) * 1) 1 (wr.alloc (.cells #[.int .u8 (160 + (i : Int))] 5)) w3 (.slice la (ll + i) lc) v' → Li w w3 v' (lo l (i + 1))) := hide (fun v' w3 hL hG => by
        have hll := unhide HLL
        subst hll
        refine (unhide p).next ?_ hG
        rw [show ((160 + i : Nat) : Int) = 160 + (i : Int) by omega]
        exact hL)
      go_wp2_with (at_builtin; refine append_rws rfl _ _ 34 rfl 5 i5 _ 1 1 Tryz.underlying34 hi5 hz5 hs5 hb5 rfl 5 (.slice la (ll + i) lc) (ll + i) (byV (lo l i)) rfl (unhide qb) (.inl rfl) wr.heap.size 1 rfl [.int .u8 (160 + (i : Int))] (by decide) rfl (made_cells wr [.int .u8 (160 + (i : Int))] 5) (fun x hx => by simp at hx; subst hx; rfl) (by omega) (by omega) ?_; intro v' w3 hL hG; have q3 := hide (unhide NX v' w3 hL hG); obtain ⟨a3, c3, rfl⟩ := hL.shape; clear hL hG)
      all_goals go_roundw
      all_goals first | exact ⟨i + 1, a3, c3, by simp, by omega, rfl, q3⟩ | (simp only [intOf]; omega)
    · obtain rfl : i = 8 := by omega
      rw [show ((8 : Nat) : Int) = 8 from rfl]
      have f1 : decide ((8 : Int) < 8) = false := decide_eq_false (by omega)
      have HL := hide ((unhide H).below (unhide p).be)
      have HV : Hid (Rws wr 5 1 (.slice la (ll + 8) lc) (ll + 8) (byV (lo l 8))) := hide (by
        have r := (unhide p).row
        rw [lo_len, ← unhide HLL] at r
        exact r)
      have hcap : ll ≤ lc := by
        rcases unhide HV with ⟨e, h0⟩ | ⟨b, cp, cur, e, h1, h2, h3⟩
        · omega
        · cases e
          omega
      have hcap1 : (0 : Int) ≤ (ll : Int) := by omega
      have hcap2 : (ll : Int) ≤ (lc : Int) := by omega
      obtain ⟨X0, X1, -, XZ⟩ := (unhide HL).cells
      have z0 := XZ 0
      have qb := hide ((Below.refl wr.heap.size wr).alloc (Nat.le_refl _) (.cells #[.slice la (ll + 8) lc] 34))
      clear XZ
      go_wp2_with (at_builtin; refine append_rws rfl _ _ 41 rfl 34 i3 _ 1 24 Tryz.underlying41 hi3 hz3 hs3 hb3 rfl 34 (.slice fa n fc) n F rfl ((unhide HL).fr.below (unhide qb)) (.inl rfl) wr.heap.size 1 rfl [.slice la (ll + 8) lc] (by decide) rfl (made_cells wr [.slice la (ll + 8) lc] 34) (fun x hx => by simp at hx; subst hx; rfl) (by omega) (by omega) ?_; intro v' w3 hL hG; obtain ⟨a3, c3, rfl⟩ := hL.shape; obtain ⟨y3, z3, p3⟩ := Put.of (i := 0) (unhide HL).at' (by decide) (unhide qb) (unhide HL).fr hL hG; have P3 := hide p3; clear hL hG p3; rw [show (loC (.slice fa n fc) (.slice ka n kc))[0]? = some (.slice fa n fc) from rfl] at y3)
      have x1 : (w3.setCell ⟨px, 0, none⟩ (.slice a3 (n + 1) c3)).cell? ⟨px, 1, none⟩ = some (.slice ka n kc) := by
        rw [cell_of_row _ _ _ _ _ _ (unhide P3).at']
        rfl
      generalize w3.setCell ⟨px, 0, none⟩ (.slice a3 (n + 1) c3) = W at *
      clear y3 z3 qb X0 X1 z0
      have VW := hide ((unhide HV).same' (w' := W) (unhide HL).at' (by decide) (fun g hg hx => (unhide P3).blk g ((unhide HV).lt g hg) hx (fun q => (unhide HV).apart (unhide HL).fr (by decide) g hg q)))
      have hpx : px < W.heap.size := block_lt (unhide P3).at'
      have CP : Hid (∀ W', Still W W' → Calls Tryz.prog 32 #[.slice la (ll + 8) lc] W' fun e w5 => ∃ ca cc, e = .returned (.slice ca (ll + 8) cc) ∧ Hid (Rws w5 5 1 (.slice ca (ll + 8) cc) (ll + 8) (byV (lo l 8)) ∧ Below W.heap.size W w5) ∧ w5.cell? ⟨px, 1, none⟩ = some (.slice ka n kc) ∧ (w5.alloc (.cells #[.slice ca (ll + 8) cc] 34)).cell? ⟨px, 1, none⟩ = some (.slice ka n kc)) := hide (fun W' hS => by
        have e8 : ll + 8 = (lo l 8).length := by rw [lo_len, ← unhide HLL]
        have r := unhide VW
        rw [e8] at r ⊢
        obtain ⟨a, c, ha, hB, -⟩ := r.bytes
        cases ha
        refine (copyB_any la lc W' (lo l 8) (by omega) (hB.below hS.below)).mono ?_
        rintro e w5 ⟨v, rfl, hO, hb⟩
        have hz : W'.heap.size = W.heap.size := by rw [hS.heap]
        rw [hz] at hb
        have hb' : Below W.heap.size W w5 := hS.below.trans hb
        obtain ⟨ca, cc, rfl⟩ := hO.rws.shape
        exact ⟨ca, cc, rfl, hide ⟨hO.rws, hb'⟩, (hb'.cell (p := ⟨px, 1, none⟩) hpx).trans x1, ((hb'.alloc hb'.size _).cell (p := ⟨px, 1, none⟩) hpx).trans x1⟩)
      have FX : Hid (∀ w5, Below W.heap.size W w5 → w5.heap[px]? = some (.cells (loC (.slice a3 (n + 1) c3) (.slice ka n kc)) 63 (0, 0)) ∧ Rws w5 34 1 (.slice ka n kc) n K) := hide (fun w5 hb => ⟨by rw [hb.block px hpx, (unhide P3).at']; rfl, ((unhide HL).kr.same' (unhide HL).at' (by decide) (fun g hg hx => (unhide P3).blk g ((unhide HL).kr.lt g hg) hx (fun q => (unhide HL).fk g q hg))).below hb⟩)
      go_region_law (first
          | (refine step_append_rws rfl (.tmp 38) (.tmp 41) 41 rfl 34 i3 _ 1 24 Tryz.underlying41 hi3 hz3 hs3 hb3 rfl 34 (.slice ka n kc) n K (by first | rfl | simp [Act.eval, Act.put]) ((unhide FX w5 (unhide k5).2).2.below ((Below.refl _ _).alloc (Nat.le_refl _) _)) (.inl rfl) w5.heap.size 1 (by first | rfl | simp [Act.eval, Act.put]) [.slice ca (ll + 8) cc] (by decide) rfl (made_cells w5 [.slice ca (ll + 8) cc] 34) (fun x hx => by simp at hx; subst hx; rfl) (by omega) (by omega) ?_; intro v' w6 hL hG; obtain ⟨a6, c6, rfl⟩ := hL.shape; obtain ⟨y6, z6, p6⟩ := Put.of (i := 1) (unhide FX w5 (unhide k5).2).1 (by decide) ((Below.refl _ _).alloc (Nat.le_refl _) _) (unhide FX w5 (unhide k5).2).2 hL hG; have P6 := hide p6; clear hL hG p6; rw [show (loC (.slice a3 (n + 1) c3) (.slice ka n kc))[1]? = some (.slice ka n kc) from rfl] at y6)
          | (go_simp; refine (unhide CP W.drew ⟨rfl, rfl, rfl, rfl⟩).mono ?_; rintro e w5 ⟨ca, cc, rfl, k5, s5, t5⟩; dsimp only))
      all_goals go_wp2
      all_goals go_ret
      all_goals
        have hll := unhide HLL
        have e8 : (lo l 8).length = ll + 8 := by rw [lo_len, ← hll]
        have M := (unhide HL).more (l := lo l 8) (Nat.le_trans (unhide HW) (unhide p).be.size) (by rw [e8]; exact unhide HV) (unhide P3) (unhide k5).2 (by rw [e8]; exact (unhide k5).1) (unhide P6) (by omega) (by omega)
        rw [e8] at M
        refine ⟨la, lc, rfl, hide ⟨M.2.2.take (by omega) _ (fun k hk => ?_), fun g hg => (unhide p).own g ?_, ((unhide p).be.mono (unhide HW)).trans M.2.1, _, _, _, _, _, M.1⟩⟩
        · unfold byV
          rw [lo_old _ _ _ (by omega)]
        · cases la <;> exact hg
end Go.Proofs.YtidfbelckdlbhabGreat
namespace Go.Proofs.YtidfbelckdlbhabGreat
open Go.ChangeShapes Go.WideShapes Go.ChangeAt Go.RowKit
set_option linter.unusedVariables false
set_option linter.unusedSimpArgs false
set_option maxRecDepth 20000
set_option maxHeartbeats 4000000

theorem loback_any (w : World) (B px : Nat) (xa wa : Option Addr) (xc wc n : Nat) (F K : Nat → Value) (D : Nat → List Nat) (h : LoAt w B px (.slice xa n xc) (.slice wa n wc) n F K D) :
    Calls Tryz.prog 18 #[.pointer (some ⟨px, 0, none⟩)] w fun e w' => e = .returned (.bool true) ∧ Hid (Still w w') := by
  have H := hide h
  have hn := h.few
  obtain ⟨X0, X1, X2, -⟩ := h.cells
  clear h
  go_enter Tryz.func18, Tryz.ntmps18
  go_wp2_with fail
  go_loopw [3] (fun iv wr => ∃ i : Nat, iv = .int .i64 (i : Nat) ∧ i ≤ n ∧ Hid (Still w wr)) (fun iv _ => n - (intOf iv).toNat)
  case atStart => exact ⟨0, rfl, Nat.zero_le _, hide (Still.refl w)⟩
  case round =>
    rename World => wo
    obtain ⟨i, rfl, hi, p⟩ := hrel
    have x0 := ((unhide p).cell ⟨px, 0, none⟩).trans X0
    have x1 := ((unhide p).cell ⟨px, 1, none⟩).trans X1
    have x2 := ((unhide p).cell ⟨px, 2, none⟩).trans X2
    rcases Nat.lt_or_ge i n with hlt | hge
    · have f1 : decide ((i : Int) < (n : Int)) = true := decide_eq_true (by omega)
      obtain ⟨xg, xc', hxv, -, -, hxat⟩ := (unhide H).fr.at (by omega)
      cases hxv
      obtain ⟨wg, wc', hwv, -, -, hwat⟩ := (unhide H).kr.at (by omega)
      cases hwv
      obtain ⟨a, c, hF, hBa, -⟩ := ((unhide H).fe i hlt).bytes
      obtain ⟨b, d, hG, hBb, -⟩ := ((unhide H).ke i hlt).bytes
      have y1 := ((unhide p).cell ⟨xg, i, none⟩).trans (hxat i (by omega))
      have y2 := ((unhide p).cell ⟨wg, i, none⟩).trans (hwat i (by omega))
      rw [hF] at y1
      rw [hG] at y2
      have hlen := (unhide H).len i hlt
      have EQ : Hid (∀ W, Hid (Still w W) → Calls Tryz.prog 17 #[.slice a (D i).length c, .slice b (D i).length d] W fun e w' => e = .returned (.bool true) ∧ Hid (Still w w') ∧ w'.cell? ⟨px, 0, none⟩ = some (.slice (some ⟨xg, 0, none⟩) n xc) ∧ w'.cell? ⟨px, 1, none⟩ = some (.slice (some ⟨wg, 0, none⟩) n wc) ∧ w'.cell? ⟨xg, i, none⟩ = some (.slice a (D i).length c) ∧ w'.cell? ⟨wg, i, none⟩ = some (.slice b (D i).length d)) := hide (fun W hW => by
        refine (eq_any (by omega) (by omega) (hBa.below (unhide hW).below) (hBb.below (unhide hW).below)).mono ?_
        rintro e w' ⟨rfl, hs⟩
        have h2 := (unhide hW).trans hs
        exact ⟨by simp, hide h2, (h2.cell _).trans X0, (h2.cell _).trans X1, ((h2.cell _).trans (hxat i (by omega))).trans (by rw [hF]), ((h2.cell _).trans (hwat i (by omega))).trans (by rw [hG])⟩)
      have kd : Hid (Still w wo.drew) := hide (unhide p).drew
      clear hF hG hxat hwat x2 hBa hBb
      have g1 : (0 : Int) ≤ (i : Int) := by omega
      have g2 : (i : Int) < (n : Int) := by omega
      generalize (D i).length = dl at *
      go_wp2_with fail
      go_region_held3 (fun w' => w'.cell? ⟨px, 0, none⟩ = some (.slice (some ⟨xg, 0, none⟩) n xc) ∧ w'.cell? ⟨px, 1, none⟩ = some (.slice (some ⟨wg, 0, none⟩) n wc) ∧ w'.cell? ⟨xg, i, none⟩ = some (.slice a dl c) ∧ w'.cell? ⟨wg, i, none⟩ = some (.slice b dl d)) (go_keep) (first | (go_at_call 17; refine (unhide EQ _ kd).mono ?_; rintro e w5 ⟨rfl, k5, s5⟩))
      all_goals go_wp2
      all_goals go_roundw
      all_goals first | exact ⟨i + 1, by simp, by omega, k5⟩ | (simp only [intOf]; omega)
    · obtain rfl : n = i := by omega
      have f1 : decide ((n : Int) < (n : Int)) = false := decide_eq_false (by omega)
      have f1' : (n < n) = False := eq_false (by omega)
      go_wp2_with fail
      go_loopw [4, 5] (fun iv _ wr => iv = .int .i64 0 ∧ wr = wo) (fun _ _ _ => 0)
      case atStart => exact ⟨rfl, rfl⟩
      case round =>
        obtain ⟨rfl, hwo⟩ := hrel
        subst hwo
        go_wp2
        go_ret
        exact ⟨rfl, p⟩
end Go.Proofs.YtidfbelckdlbhabGreat
