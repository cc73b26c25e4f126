/- record: the iterator over a log's records: the walk. -/
import Derived.Test.YtljeedgnjgeopaaYp
namespace Go.Proofs.Ytljeedgnjgeopaa
open Go.ChangeShapes Go.WideShapes Go.ChangeAt Go.RowKit Go.Shelf
set_option linter.unusedVariables false
set_option linter.unusedSimpArgs false
set_option maxRecDepth 100000
set_option maxHeartbeats 4000000
theorem fst_nil {w : Int → Int} {e : Larder.EntP} : ¬ Larder.fstR w [] = some e := fun h => by
  have h1 := (Larder.of_fst h).2.length_le
  have h2 := Larder.recE_pos e
  simp only [List.length_nil] at h1
  omega
theorem fst_nums {b : List Nat} {e : Larder.EntP} (h : Larder.fstR w64i b = some e) (hs : ∀ c ∈ b, c < 256) : 1 ≤ e.seq ∧ e.seq < 9223372036854775808 := by
  have h0 := h
  unfold Larder.fstR at h
  split at h
  · cases h
  · rename_i E r hR
    split at h
    · cases h
      have := rdE_nums (fst_drop hR).2 (fun x hx => hs x (List.mem_of_mem_drop hx))
      have h2 := okE_small (Larder.of_fst h0).1 this.1
      exact ⟨h2.1, h2.2.1⟩
    · cases h
theorem recs_any (n : Nat) (hn : 4 ≤ n) (l box : Nat) (b1 o1 m c : Nat) (b : List Nat) (es : List Larder.EntP) (hrow : Larder.Row w64i b es) (hs : ∀ x ∈ b, x < 256) (hlb : b.length ≤ 1099511627776) (hm : m = b.length) (hmc : m ≤ c)
    (X : World → Nat → Prop) (J : Nat → World → Prop)
    (hJb : ∀ q W W', J q W → Below W.heap.size W W' → J q W')
    (hJr : ∀ q W, J q W → W.cell? ⟨box, 0, none⟩ = some (.slice (some ⟨b1, o1, none⟩) m c) ∧ Rst W W.heap.size (some ⟨b1, o1, none⟩) m c b)
    (hXn : ∀ q W C, J q W → X (W.alloc (.cells C 41)) W.heap.size) (hXb : ∀ W W' k, X W k → k < W.heap.size → Below W.heap.size W W' → X W' k)
    (hJx : ∀ q W k i v, J q W → X W k → J q (W.setCell ⟨k, i, none⟩ v)) (hXx : ∀ W k k' i v, X W k → X W k' → X (W.setCell ⟨k', i, none⟩ v) k)
    (hY : ∀ q vs W, q < es.length → RcE es q vs W → J q W → YieldAt Fence.wide (n - 1) Try.prog l vs W fun e W' => e = .returned (.bool true) ∧ J (q + 1) W' ∧ RcK X W W')
    (W : World) (h0 : J 0 W) :
    CallsIn Fence.wide n Try.prog 47 #[.func (.yield l) #[] #[], .pointer (some ⟨box, 0, none⟩)] W fun e W' => (∃ v, e = .returned v) ∧ J es.length W' := by
  obtain ⟨P, hP⟩ : ∃ P, W.heap.size = P := ⟨_, rfl⟩
  have h1n : 1 ≤ n := by omega
  have h1m : 1 ≤ n - 1 := by omega
  have hle := hrow.le
  have HROW := hide hrow
  have hsq : ∀ k e, Larder.fstR w64i (b.drop k) = some e → 1 ≤ e.seq ∧ e.seq < 9223372036854775808 := fun k e h => fst_nums h (fun x hx => hs x (List.mem_of_mem_drop hx))
  have HLE := hide hle
  refine callsIn_of_wp Try.func47 rfl trivial ?_ rfl
  simp only [Try.ntmps47, List.size_toArray, List.length_cons, List.length_nil, Nat.reduceAdd, Nat.reduceSub, Array.replicate_succ, Array.replicate_zero, List.push_toArray, List.append_toArray, List.nil_append, List.cons_append]
  gi_wp2
  gi_loopw [4] (fun p wr => ∃ q o : Nat, p = .int .i64 ((o : Nat) : Int) ∧ q ≤ es.length ∧ Hid (o = Larder.offR es q) ∧ Hid (J q wr ∧ AhAt X P es q wr ∧ P < wr.heap.size)) (fun p _ => b.length - (intOf p).toNat)
  case atStart =>
    refine ⟨0, 0, rfl, Nat.zero_le _, hide rfl, hide ⟨hJb 0 W _ h0 ((Below.refl _ _).alloc (Nat.le_refl _) _), ⟨?_, .inl ⟨rfl, ?_⟩⟩, ?_⟩⟩
    · rw [← hP]; exact hXn 0 W _ h0
    · rw [← hP]; exact heap_alloc_new W _
    · rw [← hP]; simp
  case round =>
    clear h0
    obtain ⟨q, o, rfl, hq, HOQ, HJ⟩ := hrel
    have ho : o = Larder.offR es q := unhide HOQ
    obtain ⟨hJ, hAh, hPl⟩ := unhide HJ
    obtain ⟨hbx, hrst⟩ := hJr q wr hJ
    have hoq := hle q hq
    obtain ⟨u0, u1, u2, hPc⟩ : ∃ u0 u1 u2, wr.heap[P]? = some (.cells #[u0, u1, u2] 41 (0, 0)) := by
      rcases hAh.2 with ⟨-, h⟩ | ⟨p, a, ga, gn, gc, -, -, h⟩
      · exact ⟨_, _, _, h⟩
      · exact ⟨_, _, _, h⟩
    by_cases hqN : q < es.length
    · obtain ⟨e, he⟩ : ∃ e, es[q]? = some e := ⟨_, List.getElem?_eq_getElem hqN⟩
      have hoe := Larder.offR_succ he
      have hos := hle (q + 1) hqN
      have hrp := Larder.recE_pos e
      have C48 := first_at wr b1 o1 m c (Larder.offR es q) b hm hmc (by omega) hrst hs hlb
      have hst := hrow.step q e he
      obtain ⟨o', ho'⟩ : ∃ o', o' = Larder.offR es (q + 1) := ⟨_, rfl⟩
      obtain ⟨s, hsz⟩ : ∃ s, s = (Larder.recE e).length := ⟨_, rfl⟩
      rw [← ho] at C48 hst hoe hoq
      rw [← ho', ← hsz] at hoe
      rw [← ho'] at hos
      rw [← hsz] at hrp
      have f1 : decide ((s : Int) = 0) = false := decide_eq_false (by omega)
      have f2 : decide (s = 0) = false := decide_eq_false (by omega)
      have f2a : ((s : Int) == 0) = false := beq_eq_false_iff_ne.2 (by omega)
      have f2b : ¬ s = 0 := by omega
      have f2c : ¬ (s : Int) = 0 := by omega
      have f5 : (o : Int) + (s : Int) = (o' : Int) := by omega
      have g0 : (0 : Int) ≤ (o : Int) := by omega
      have g1 : (o : Int) ≤ (m : Int) := by omega
      have g2 : (o : Int) ≤ (c : Int) := by omega
      have g3 : ((m : Int) - (o : Int)).toNat = m - o := by omega
      have g4 : ((c : Int) - (o : Int)).toNat = c - o := by omega
      have g5 : ¬ c = o := by omega
      have HO := hide ho'
      have HOS : Hid (o' ≤ b.length ∧ o < o') := hide ⟨hos, by omega⟩
      by_cases hq0 : q = 0
      · have f6 : decide ((0 : Int) < (o : Int)) = false := decide_eq_false (by rw [ho, hq0, Larder.offR_zero]; omega)
        have f7 : decide ((o : Int) > 0) = false := f6
        have f8 : decide (0 < o) = false := decide_eq_false (by rw [ho, hq0, Larder.offR_zero]; omega)
        have f8a : ¬ 0 < o := by rw [ho, hq0, Larder.offR_zero]; omega
        have f8b : ¬ (0 : Int) < (o : Int) := by omega
        have C48' : Calls Try.prog 48 #[.slice (some ⟨b1, o1 + o, none⟩) (m - o) (c - o)] wr fun e' w3 => ∃ (ga : Option Addr) (gn gc : Nat), e' = .returned (.tuple #[.agg #[.int .i64 (e.seq : Nat), .int .u64 (e.now : Nat), .slice ga gn gc], .int .i64 (s : Nat)]) ∧ (w3.alloc (.cells #[.int .i64 (e.seq : Nat), .int .u64 (e.now : Nat), .slice ga gn gc] 41)).cell? ⟨w3.heap.size, 0, none⟩ = some (.int .i64 (e.seq : Nat)) ∧ (w3.alloc (.cells #[.int .i64 (e.seq : Nat), .int .u64 (e.now : Nat), .slice ga gn gc] 41)).cell? ⟨w3.heap.size, 1, none⟩ = some (.int .u64 (e.now : Nat)) ∧ (w3.alloc (.cells #[.int .i64 (e.seq : Nat), .int .u64 (e.now : Nat), .slice ga gn gc] 41)).cell? ⟨w3.heap.size, 2, none⟩ = some (.slice ga gn gc) ∧
            Hid (J q (w3.alloc (.cells #[.int .i64 (e.seq : Nat), .int .u64 (e.now : Nat), .slice ga gn gc] 41)) ∧ gn = e.group.length ∧ AL (w3.alloc (.cells #[.int .i64 (e.seq : Nat), .int .u64 (e.now : Nat), .slice ga gn gc] 41)) (.slice ga gn gc) e.group ∧ (w3.alloc (.cells #[.int .i64 (e.seq : Nat), .int .u64 (e.now : Nat), .slice ga gn gc] 41)).heap[w3.heap.size]? = some (.cells #[.int .i64 (e.seq : Nat), .int .u64 (e.now : Nat), .slice ga gn gc] 41 (0, 0)) ∧ X (w3.alloc (.cells #[.int .i64 (e.seq : Nat), .int .u64 (e.now : Nat), .slice ga gn gc] 41)) w3.heap.size ∧ (w3.alloc (.cells #[.int .i64 (e.seq : Nat), .int .u64 (e.now : Nat), .slice ga gn gc] 41)).heap[P]? = some (.cells #[u0, u1, u2] 41 (0, 0)) ∧ X (w3.alloc (.cells #[.int .i64 (e.seq : Nat), .int .u64 (e.now : Nat), .slice ga gn gc] 41)) P) := by
          refine C48.mono ?_
          rintro e' w3 (⟨hf, -⟩ | ⟨E, ga, gn, gc, hf, rfl, hgn, H⟩)
          · rw [hst] at hf; cases hf
          · rw [hst] at hf
            cases hf
            obtain ⟨z1, z2, z3⟩ := unhide H
            have hal := (Below.refl w3.heap.size w3).alloc (Nat.le_refl _) (.cells #[.int .i64 (e.seq : Nat), .int .u64 (e.now : Nat), .slice ga gn gc] 41)
            have hnew := heap_alloc_new w3 (.cells #[.int .i64 (e.seq : Nat), .int .u64 (e.now : Nat), .slice ga gn gc] 41)
            have hbb := z1.trans (hal.mono z1.size)
            have hJ3 := hJb q wr w3 hJ z1
            exact ⟨ga, gn, gc, by rw [hsz], cell_blk hnew 0, cell_blk hnew 1, cell_blk hnew 2, hide ⟨hJb q wr _ hJ hbb, hgn, z2.kt (Kt.of (p := fun _ => True) hal) trivial trivial trivial, hnew, hXn q w3 _ hJ3, (hbb.block P hPl).trans hPc, hXb wr _ P hAh.1 hPl hbb⟩⟩
        have RY : Hid (∀ (W : World) (ga : Option Addr) (gn gc B : Nat), (J q W ∧ gn = e.group.length ∧ AL W (.slice ga gn gc) e.group ∧ W.heap[B]? = some (.cells #[.int .i64 (e.seq : Nat), .int .u64 (e.now : Nat), .slice ga gn gc] 41 (0, 0)) ∧ X W B ∧ W.heap[P]? = some (.cells #[u0, u1, u2] 41 (0, 0)) ∧ X W P) → _) := hide (fun W ga gn gc B hh => round_yield hJx hXx hY W e ga gn gc u0 u1 u2 he hh.1 hh.2.1 hh.2.2.1 hh.2.2.2.1 hh.2.2.2.2.1 hh.2.2.2.2.2.1 hh.2.2.2.2.2.2)
        rw [← ho'] at RY
        have f3 : IntKind.i64.wrap ((o : Int) + (s : Int)) = (o' : Int) := by rw [IntKind.wrap_i64]; omega
        have f4b : wrap64 (o' : Int) = (o' : Int) := by (clear f3; unfold wrap64; omega)
        clear C48 hst hoe hos hsz ho ho' hJ hAh hrst hPc hPl hJx hXx hY hXb hXn hJb hJr hrow hle hm hs hlb he HJ hrp
        gi_wp2_with (first
          | (refine ⟨trivial, ?_⟩; gi_at_call 48; refine (callsIn_wide.2 C48').mono ?_; clear C48'; rintro e' w3 ⟨ga, gn, gc, rfl, y0, y1, y2, k3⟩; obtain ⟨fn, tmps, assign, body, hy, hR⟩ := (unhide RY) _ ga gn gc _ (unhide k3)))
        refine ⟨trivial, ?_⟩
        gi_wp2
        refine (unhide hR).mono ?_
        rintro e6 W6 ⟨rfl, z0, z1, z2, x1, x2, x3, x4, x5, x6, H6⟩
        gi_wp2
        go_roundw
        case rel => exact ⟨q + 1, o', rfl, hqN, HO, H6⟩
        case measure =>
          have hz := unhide HOS
          clear f3 f4b
          simp [intOf]
          omega
      · obtain ⟨p, rfl⟩ : ∃ p, q = p + 1 := ⟨q - 1, by omega⟩
        obtain ⟨av, ga0, gn0, gc0, hav, hPv⟩ : ∃ (a : Larder.EntP) (ga0 : Option Addr) (gn0 gc0 : Nat), es[p]? = some a ∧ wr.heap[P]? = some (.cells #[.int .i64 (a.seq : Nat), .int .u64 (a.now : Nat), .slice ga0 gn0 gc0] 41 (0, 0)) := by
          rcases hAh.2 with ⟨h, -⟩ | ⟨p', a, ga, gn, gc, h1, h2, h3⟩
          · omega
          · obtain rfl : p' = p := by omega
            exact ⟨a, ga, gn, gc, h2, h3⟩
        have hop : 0 < o := by
          have h1 := Larder.offR_succ hav
          have h2 := Larder.recE_pos av
          omega
        have f6 : decide ((0 : Int) < (o : Int)) = true := decide_eq_true (by omega)
        have f7 : decide ((o : Int) > 0) = true := f6
        have f8 : decide (0 < o) = true := decide_eq_true hop
        have hfo := hrow.fol p e av he hav
        have hsmE := hsq _ _ hst
        have hsmA := hsq _ _ (hrow.step p av hav)
        have C49 : Hid (∀ W ga gn gc, Calls Try.prog 49 #[.agg #[.int .i64 (e.seq : Nat), .int .u64 (e.now : Nat), .slice ga gn gc], .agg #[.int .i64 (av.seq : Nat), .int .u64 (av.now : Nat), .slice ga0 gn0 gc0]] W fun e' w' => e' = .returned (.bool true) ∧ Hid (Below W.heap.size W w')) := hide (fun W ga gn gc => by
          have := follows_any W e av ga ga0 gn gc gn0 gc0 hsmE.1 hsmE.2 hsmA.2
          rw [hfo] at this
          exact this)
        have C48' : Calls Try.prog 48 #[.slice (some ⟨b1, o1 + o, none⟩) (m - o) (c - o)] wr fun e' w3 => ∃ (ga : Option Addr) (gn gc : Nat), e' = .returned (.tuple #[.agg #[.int .i64 (e.seq : Nat), .int .u64 (e.now : Nat), .slice ga gn gc], .int .i64 (s : Nat)]) ∧ (w3.alloc (.cells #[.int .i64 (e.seq : Nat), .int .u64 (e.now : Nat), .slice ga gn gc] 41)).cell? ⟨w3.heap.size, 0, none⟩ = some (.int .i64 (e.seq : Nat)) ∧ (w3.alloc (.cells #[.int .i64 (e.seq : Nat), .int .u64 (e.now : Nat), .slice ga gn gc] 41)).cell? ⟨w3.heap.size, 1, none⟩ = some (.int .u64 (e.now : Nat)) ∧ (w3.alloc (.cells #[.int .i64 (e.seq : Nat), .int .u64 (e.now : Nat), .slice ga gn gc] 41)).cell? ⟨w3.heap.size, 2, none⟩ = some (.slice ga gn gc) ∧ (w3.alloc (.cells #[.int .i64 (e.seq : Nat), .int .u64 (e.now : Nat), .slice ga gn gc] 41)).cell? ⟨P, 0, none⟩ = some (.int .i64 (av.seq : Nat)) ∧ (w3.alloc (.cells #[.int .i64 (e.seq : Nat), .int .u64 (e.now : Nat), .slice ga gn gc] 41)).cell? ⟨P, 1, none⟩ = some (.int .u64 (av.now : Nat)) ∧ (w3.alloc (.cells #[.int .i64 (e.seq : Nat), .int .u64 (e.now : Nat), .slice ga gn gc] 41)).cell? ⟨P, 2, none⟩ = some (.slice ga0 gn0 gc0) ∧
            Hid (w3.heap.size < (w3.alloc (.cells #[.int .i64 (e.seq : Nat), .int .u64 (e.now : Nat), .slice ga gn gc] 41)).heap.size ∧ P < (w3.alloc (.cells #[.int .i64 (e.seq : Nat), .int .u64 (e.now : Nat), .slice ga gn gc] 41)).heap.size ∧ J (p + 1) (w3.alloc (.cells #[.int .i64 (e.seq : Nat), .int .u64 (e.now : Nat), .slice ga gn gc] 41)) ∧ gn = e.group.length ∧ AL (w3.alloc (.cells #[.int .i64 (e.seq : Nat), .int .u64 (e.now : Nat), .slice ga gn gc] 41)) (.slice ga gn gc) e.group ∧ (w3.alloc (.cells #[.int .i64 (e.seq : Nat), .int .u64 (e.now : Nat), .slice ga gn gc] 41)).heap[w3.heap.size]? = some (.cells #[.int .i64 (e.seq : Nat), .int .u64 (e.now : Nat), .slice ga gn gc] 41 (0, 0)) ∧ X (w3.alloc (.cells #[.int .i64 (e.seq : Nat), .int .u64 (e.now : Nat), .slice ga gn gc] 41)) w3.heap.size ∧ (w3.alloc (.cells #[.int .i64 (e.seq : Nat), .int .u64 (e.now : Nat), .slice ga gn gc] 41)).heap[P]? = some (.cells #[.int .i64 (av.seq : Nat), .int .u64 (av.now : Nat), .slice ga0 gn0 gc0] 41 (0, 0)) ∧ X (w3.alloc (.cells #[.int .i64 (e.seq : Nat), .int .u64 (e.now : Nat), .slice ga gn gc] 41)) P) := by
          refine C48.mono ?_
          rintro e' w3 (⟨hf, -⟩ | ⟨E, ga, gn, gc, hf, rfl, hgn, H⟩)
          · rw [hst] at hf; cases hf
          · rw [hst] at hf
            cases hf
            obtain ⟨z1, z2, z3⟩ := unhide H
            have hal := (Below.refl w3.heap.size w3).alloc (Nat.le_refl _) (.cells #[.int .i64 (e.seq : Nat), .int .u64 (e.now : Nat), .slice ga gn gc] 41)
            have hnew := heap_alloc_new w3 (.cells #[.int .i64 (e.seq : Nat), .int .u64 (e.now : Nat), .slice ga gn gc] 41)
            have hbb := z1.trans (hal.mono z1.size)
            have hJ3 := hJb (p + 1) wr w3 hJ z1
            exact ⟨ga, gn, gc, by rw [hsz], cell_blk hnew 0, cell_blk hnew 1, cell_blk hnew 2, cell_blk ((hbb.block P hPl).trans hPv) 0, cell_blk ((hbb.block P hPl).trans hPv) 1, cell_blk ((hbb.block P hPl).trans hPv) 2, hide ⟨blk_lt hnew, Nat.lt_of_lt_of_le hPl hbb.size, hJb (p + 1) wr _ hJ hbb, hgn, z2.kt (Kt.of (p := fun _ => True) hal) trivial trivial trivial, hnew, hXn (p + 1) w3 _ hJ3, (hbb.block P hPl).trans hPv, hXb wr _ P hAh.1 hPl hbb⟩⟩
        have RY : Hid (∀ (W : World) (ga : Option Addr) (gn gc B : Nat), (J (p + 1) W ∧ gn = e.group.length ∧ AL W (.slice ga gn gc) e.group ∧ W.heap[B]? = some (.cells #[.int .i64 (e.seq : Nat), .int .u64 (e.now : Nat), .slice ga gn gc] 41 (0, 0)) ∧ X W B ∧ W.heap[P]? = some (.cells #[.int .i64 (av.seq : Nat), .int .u64 (av.now : Nat), .slice ga0 gn0 gc0] 41 (0, 0)) ∧ X W P) → _) := hide (fun W ga gn gc B hh => round_yield hJx hXx hY W e ga gn gc _ _ _ he hh.1 hh.2.1 hh.2.2.1 hh.2.2.2.1 hh.2.2.2.2.1 hh.2.2.2.2.2.1 hh.2.2.2.2.2.2)
        rw [← ho'] at RY
        have f3 : IntKind.i64.wrap ((o : Int) + (s : Int)) = (o' : Int) := by rw [IntKind.wrap_i64]; omega
        have f4b : wrap64 (o' : Int) = (o' : Int) := by (clear f3; unfold wrap64; omega)
        have HSTEP : Hid (∀ (V W : World) (ga : Option Addr) (gn gc B : Nat), Below V.heap.size V W → (P < V.heap.size ∧ J (p + 1) V ∧ gn = e.group.length ∧ AL V (.slice ga gn gc) e.group ∧ V.heap[B]? = some (.cells #[.int .i64 (e.seq : Nat), .int .u64 (e.now : Nat), .slice ga gn gc] 41 (0, 0)) ∧ X V B ∧ V.heap[P]? = some (.cells #[.int .i64 (av.seq : Nat), .int .u64 (av.now : Nat), .slice ga0 gn0 gc0] 41 (0, 0)) ∧ X V P) → (J (p + 1) W ∧ gn = e.group.length ∧ AL W (.slice ga gn gc) e.group ∧ W.heap[B]? = some (.cells #[.int .i64 (e.seq : Nat), .int .u64 (e.now : Nat), .slice ga gn gc] 41 (0, 0)) ∧ X W B ∧ W.heap[P]? = some (.cells #[.int .i64 (av.seq : Nat), .int .u64 (av.now : Nat), .slice ga0 gn0 gc0] 41 (0, 0)) ∧ X W P)) := hide (fun V W ga gn gc B hVW hh => ⟨hJb _ V W hh.2.1 hVW, hh.2.2.1, hh.2.2.2.1.kt (Kt.of (p := fun _ => True) hVW) trivial trivial trivial, (hVW.block B (blk_lt hh.2.2.2.2.1)).trans hh.2.2.2.2.1, hXb V W B hh.2.2.2.2.2.1 (blk_lt hh.2.2.2.2.1) hVW, (hVW.block P hh.1).trans hh.2.2.2.2.2.2.1, hXb V W P hh.2.2.2.2.2.2.2 hh.1 hVW⟩)
        clear C48 hst hfo hsmE hsmA hav hPv hop hsq hoe hos hsz ho ho' hJ hAh hrst hPc hPl hJx hXx hY hXb hXn hJb hJr hrow hle hm hs hlb he HJ hrp
        gi_wp2_with (first
          | (refine ⟨trivial, ?_⟩; gi_at_call 48; refine (callsIn_wide.2 C48').mono ?_; clear C48'; rintro e' w3 ⟨ga, gn, gc, rfl, y0, y1, y2, v0, v1, v2, k3⟩)
          | (refine ⟨trivial, ?_⟩; gi_at_call 49; refine (callsIn_wide.2 ((unhide C49) _ ga gn gc)).mono ?_; rintro e' w5 ⟨rfl, k5⟩; have b0 := ((unhide k5).cell (p := ⟨w3.heap.size, 0, none⟩) (unhide k3).1).trans y0; have b1' := ((unhide k5).cell (p := ⟨w3.heap.size, 1, none⟩) (unhide k3).1).trans y1; have b2 := ((unhide k5).cell (p := ⟨w3.heap.size, 2, none⟩) (unhide k3).1).trans y2; obtain ⟨fn, tmps, assign, body, hy, hR⟩ := (unhide RY) w5 ga gn gc w3.heap.size ((unhide HSTEP) _ w5 ga gn gc w3.heap.size (unhide k5) (unhide k3).2)))
        refine (unhide hR).mono ?_
        rintro e6 W6 ⟨rfl, z0, z1, z2, x1, x2, x3, x4, x5, x6, H6⟩
        gi_wp2
        go_roundw
        case rel => exact ⟨p + 1 + 1, o', rfl, hqN, HO, H6⟩
        case measure =>
          have hz := unhide HOS
          clear f3 f4b
          simp [intOf]
          omega
    · obtain rfl : q = es.length := by omega
      by_cases hco : c = o
      · have C48 := first_any wr (some ⟨b1, o1, none⟩) 0 0 [] (by
          rcases hrst with ⟨e, -⟩ | ⟨b2, o2, e, h1, h2, h3, h4⟩
          · cases e
          · cases e
            exact .inr ⟨b1, o1, rfl, h1, rfl, Nat.le_refl _, fun i hi => absurd hi (Nat.not_lt_zero _)⟩) (by simp) (by simp)
        have C48' : Calls Try.prog 48 #[.slice (some ⟨b1, o1, none⟩) 0 0] wr fun e' w3 => e' = .returned (.tuple #[.agg #[.int .i64 0, .int .u64 0, .slice none 0 0], .int .i64 0]) ∧ Hid (J es.length (w3.alloc (.cells #[.int .i64 0, .int .u64 0, .slice none 0 0] 41))) := by
          refine C48.mono ?_
          rintro e' w3 (⟨-, rfl, hb⟩ | ⟨E, ga, gn, gc, hf, -⟩)
          · exact ⟨rfl, hide (hJb _ wr _ hJ ((unhide hb).trans (((Below.refl w3.heap.size w3).alloc (Nat.le_refl _) _).mono (unhide hb).size)))⟩
          · exact absurd hf fst_nil
        have hmo : m = o := by omega
        subst hco
        subst hmo
        have g0 : (0 : Int) ≤ (m : Int) := by omega
        clear C48 ho hJ hAh hrst hPc hPl hJx hXx hY hXb hXn hJb hJr hrow hle hm hs hlb HJ hsq hoq hqN
        gi_wp2_with (first
          | (refine ⟨trivial, ?_⟩; gi_at_call 48; refine (callsIn_wide.2 C48').mono ?_; clear C48'; rintro e' w3 ⟨rfl, k3⟩)
          | (refine ⟨trivial, ?_⟩; fail))
        case h_1.isTrue => rename_i h9 h8; cases h9
        case h_1.isFalse => rename_i h9 h8; cases h9
        refine ⟨trivial, ?_⟩
        gi_wp2
        all_goals first
          | (refine bodyPost_ret (results_none rfl _ _ _) rfl ?_)
          | (refine bodyPost_end (results_none rfl _ _ _) rfl ?_)
          | trace_state
        exact ⟨⟨_, rfl⟩, unhide k3⟩
      have C48 := first_at wr b1 o1 m c (Larder.offR es es.length) b hm hmc (by omega) hrst hs hlb
      rw [← ho] at C48 hoq
      have hstop := hrow.stop
      rw [← ho] at hstop
      rcases hstop with hst | ⟨e, av, hst, hpos, hav, hfo⟩
      · have C48' : Calls Try.prog 48 #[.slice (some ⟨b1, o1 + o, none⟩) (m - o) (c - o)] wr fun e' w3 => e' = .returned (.tuple #[.agg #[.int .i64 0, .int .u64 0, .slice none 0 0], .int .i64 0]) ∧ Hid (J es.length (w3.alloc (.cells #[.int .i64 0, .int .u64 0, .slice none 0 0] 41))) := by
          refine C48.mono ?_
          rintro e' w3 (⟨-, rfl, hb⟩ | ⟨E, ga, gn, gc, hf, -⟩)
          · exact ⟨rfl, hide (hJb _ wr _ hJ ((unhide hb).trans (((Below.refl w3.heap.size w3).alloc (Nat.le_refl _) _).mono (unhide hb).size)))⟩
          · rw [hst] at hf; cases hf
        have g0 : (0 : Int) ≤ (o : Int) := by omega
        have g1 : (o : Int) ≤ (m : Int) := by omega
        have g2 : (o : Int) ≤ (c : Int) := by omega
        have g3 : ((m : Int) - (o : Int)).toNat = m - o := by omega
        have g4 : ((c : Int) - (o : Int)).toNat = c - o := by omega
        have g5 : ¬ c = o := by omega
        clear C48 hst ho hJ hAh hrst hPc hPl hJx hXx hY hXb hXn hJb hJr hrow hle hm hs hlb HJ hsq hoq hqN
        gi_wp2_with (first
          | (refine ⟨trivial, ?_⟩; gi_at_call 48; refine (callsIn_wide.2 C48').mono ?_; clear C48'; rintro e' w3 ⟨rfl, k3⟩)
          | (refine ⟨trivial, ?_⟩; fail))
        case h_1.isTrue => rename_i h9 h8; cases h9
        case h_1.isFalse => rename_i h9 h8; cases h9
        refine ⟨trivial, ?_⟩
        gi_wp2
        all_goals first
          | (refine bodyPost_ret (results_none rfl _ _ _) rfl ?_)
          | (refine bodyPost_end (results_none rfl _ _ _) rfl ?_)
          | trace_state
        exact ⟨⟨_, rfl⟩, unhide k3⟩
      · obtain ⟨s, hsz⟩ : ∃ s, s = (Larder.recE e).length := ⟨_, rfl⟩
        have hrp := Larder.recE_pos e
        rw [← hsz] at hrp
        have f1 : decide ((s : Int) = 0) = false := decide_eq_false (by omega)
        have f2 : decide (s = 0) = false := decide_eq_false (by omega)
        have f2a : ((s : Int) == 0) = false := beq_eq_false_iff_ne.2 (by omega)
        have f2b : ¬ s = 0 := by omega
        have f2c : ¬ (s : Int) = 0 := by omega
        have hav2 : es[es.length - 1 + 1]? = none := List.getElem?_eq_none (by omega)
        obtain ⟨ga0, gn0, gc0, hPv⟩ : ∃ (ga0 : Option Addr) (gn0 gc0 : Nat), wr.heap[P]? = some (.cells #[.int .i64 (av.seq : Nat), .int .u64 (av.now : Nat), .slice ga0 gn0 gc0] 41 (0, 0)) := by
          rcases hAh.2 with ⟨h, -⟩ | ⟨p', a, ga, gn, gc, h1, h2, h3⟩
          · omega
          · have : p' = es.length - 1 := by omega
            rw [this, hav] at h2
            cases h2
            exact ⟨ga, gn, gc, h3⟩
        have hop : 0 < o := by
          have h1 := Larder.offR_succ hav
          have h2 := Larder.recE_pos av
          rw [show es.length - 1 + 1 = es.length by omega] at h1
          omega
        have f6 : decide ((0 : Int) < (o : Int)) = true := decide_eq_true (by omega)
        have f7 : decide ((o : Int) > 0) = true := f6
        have f8 : decide (0 < o) = true := decide_eq_true hop
        have g0 : (0 : Int) ≤ (o : Int) := by omega
        have g1 : (o : Int) ≤ (m : Int) := by omega
        have g2 : (o : Int) ≤ (c : Int) := by omega
        have g3 : ((m : Int) - (o : Int)).toNat = m - o := by omega
        have g4 : ((c : Int) - (o : Int)).toNat = c - o := by omega
        have g5 : ¬ c = o := by omega
        have hsmE := hsq _ _ hst
        have hsmA := hsq _ _ (hrow.step _ av hav)
        have C49 : Hid (∀ W ga gn gc, Calls Try.prog 49 #[.agg #[.int .i64 (e.seq : Nat), .int .u64 (e.now : Nat), .slice ga gn gc], .agg #[.int .i64 (av.seq : Nat), .int .u64 (av.now : Nat), .slice ga0 gn0 gc0]] W fun e' w' => e' = .returned (.bool false) ∧ Hid (Below W.heap.size W w')) := hide (fun W ga gn gc => by
          have := follows_any W e av ga ga0 gn gc gn0 gc0 hsmE.1 hsmE.2 hsmA.2
          rw [hfo] at this
          exact this)
        have C48' : Calls Try.prog 48 #[.slice (some ⟨b1, o1 + o, none⟩) (m - o) (c - o)] wr fun e' w3 => ∃ (ga : Option Addr) (gn gc : Nat), e' = .returned (.tuple #[.agg #[.int .i64 (e.seq : Nat), .int .u64 (e.now : Nat), .slice ga gn gc], .int .i64 (s : Nat)]) ∧ (w3.alloc (.cells #[.int .i64 (e.seq : Nat), .int .u64 (e.now : Nat), .slice ga gn gc] 41)).cell? ⟨w3.heap.size, 0, none⟩ = some (.int .i64 (e.seq : Nat)) ∧ (w3.alloc (.cells #[.int .i64 (e.seq : Nat), .int .u64 (e.now : Nat), .slice ga gn gc] 41)).cell? ⟨w3.heap.size, 1, none⟩ = some (.int .u64 (e.now : Nat)) ∧ (w3.alloc (.cells #[.int .i64 (e.seq : Nat), .int .u64 (e.now : Nat), .slice ga gn gc] 41)).cell? ⟨w3.heap.size, 2, none⟩ = some (.slice ga gn gc) ∧ (w3.alloc (.cells #[.int .i64 (e.seq : Nat), .int .u64 (e.now : Nat), .slice ga gn gc] 41)).cell? ⟨P, 0, none⟩ = some (.int .i64 (av.seq : Nat)) ∧ (w3.alloc (.cells #[.int .i64 (e.seq : Nat), .int .u64 (e.now : Nat), .slice ga gn gc] 41)).cell? ⟨P, 1, none⟩ = some (.int .u64 (av.now : Nat)) ∧ (w3.alloc (.cells #[.int .i64 (e.seq : Nat), .int .u64 (e.now : Nat), .slice ga gn gc] 41)).cell? ⟨P, 2, none⟩ = some (.slice ga0 gn0 gc0) ∧ Hid (J es.length (w3.alloc (.cells #[.int .i64 (e.seq : Nat), .int .u64 (e.now : Nat), .slice ga gn gc] 41))) := by
          refine C48.mono ?_
          rintro e' w3 (⟨hf, -⟩ | ⟨E, ga, gn, gc, hf, rfl, hgn, H⟩)
          · rw [hst] at hf; cases hf
          · rw [hst] at hf
            cases hf
            obtain ⟨z1, z2, z3⟩ := unhide H
            have hal := (Below.refl w3.heap.size w3).alloc (Nat.le_refl _) (.cells #[.int .i64 (e.seq : Nat), .int .u64 (e.now : Nat), .slice ga gn gc] 41)
            have hnew := heap_alloc_new w3 (.cells #[.int .i64 (e.seq : Nat), .int .u64 (e.now : Nat), .slice ga gn gc] 41)
            have hbb := z1.trans (hal.mono z1.size)
            have hP4 := (hbb.block P hPl).trans hPv
            exact ⟨ga, gn, gc, by rw [hsz], cell_blk hnew 0, cell_blk hnew 1, cell_blk hnew 2, cell_blk hP4 0, cell_blk hP4 1, cell_blk hP4 2, hide (hJb _ wr _ hJ hbb)⟩
        have HJB : Hid (∀ V W, J es.length V → Below V.heap.size V W → J es.length W) := hide (fun V W h1 h2 => hJb _ V W h1 h2)
        clear C48 hst ho hJ hAh hrst hPc hPl hJx hXx hY hXb hXn hJb hJr hrow hle hm hs hlb HJ hsq hoq hqN hav hav2 hfo hPv hop hsmE hsmA hpos hsz hrp
        gi_wp2_with (first
          | (refine ⟨trivial, ?_⟩; gi_at_call 48; refine (callsIn_wide.2 C48').mono ?_; clear C48'; rintro e' w3 ⟨ga, gn, gc, rfl, y0, y1, y2, v0, v1, v2, k3⟩)
          | (refine ⟨trivial, ?_⟩; gi_at_call 49; refine (callsIn_wide.2 ((unhide C49) _ ga gn gc)).mono ?_; rintro e' w5 ⟨rfl, k5⟩))
        all_goals first
          | (refine bodyPost_ret (results_none rfl _ _ _) rfl ?_)
          | (refine bodyPost_end (results_none rfl _ _ _) rfl ?_)
          | trace_state
        exact ⟨⟨_, rfl⟩, (unhide HJB) _ _ (unhide k3) (unhide k5)⟩
/-- no log at all -/
theorem recs_nil (n : Nat) (hn : 4 ≤ n) (l box : Nat)
    (J : Nat → World → Prop)
    (hJb : ∀ q W W', J q W → Below W.heap.size W W' → J q W')
    (hJr : ∀ q W, J q W → W.cell? ⟨box, 0, none⟩ = some (.slice none 0 0))
    (W : World) (h0 : J 0 W) :
    CallsIn Fence.wide n Try.prog 47 #[.func (.yield l) #[] #[], .pointer (some ⟨box, 0, none⟩)] W fun e W' => (∃ v, e = .returned v) ∧ J 0 W' := by
  obtain ⟨P, hP⟩ : ∃ P, W.heap.size = P := ⟨_, rfl⟩
  have h1n : 1 ≤ n := by omega
  have h1m : 1 ≤ n - 1 := by omega
  refine callsIn_of_wp Try.func47 rfl trivial ?_ rfl
  simp only [Try.ntmps47, List.size_toArray, List.length_cons, List.length_nil, Nat.reduceAdd, Nat.reduceSub, Array.replicate_succ, Array.replicate_zero, List.push_toArray, List.append_toArray, List.nil_append, List.cons_append]
  gi_wp2
  gi_loopw [4] (fun p wr => p = .int .i64 0 ∧ Hid (J 0 wr)) (fun p _ => 0)
  case atStart =>
    exact ⟨rfl, hide (hJb 0 W _ h0 ((Below.refl _ _).alloc (Nat.le_refl _) _))⟩
  case round =>
    clear h0
    obtain ⟨rfl, HJ⟩ := hrel
    have hJ := unhide HJ
    have hbx := hJr 0 wr hJ
    have C48 := first_any wr none 0 0 [] (.inl ⟨rfl, rfl, rfl, rfl⟩) (by simp) (by simp)
    have C48' : Calls Try.prog 48 #[.slice none 0 0] wr fun e' w3 => e' = .returned (.tuple #[.agg #[.int .i64 0, .int .u64 0, .slice none 0 0], .int .i64 0]) ∧ Hid (J 0 (w3.alloc (.cells #[.int .i64 0, .int .u64 0, .slice none 0 0] 41))) := by
      refine C48.mono ?_
      rintro e' w3 (⟨-, rfl, hb⟩ | ⟨E, ga, gn, gc, hf, -⟩)
      · exact ⟨rfl, hide (hJb _ wr _ hJ ((unhide hb).trans (((Below.refl w3.heap.size w3).alloc (Nat.le_refl _) _).mono (unhide hb).size)))⟩
      · exact absurd hf fst_nil
    clear C48 hJ hJb hJr HJ
    gi_wp2_with (first
      | (refine ⟨trivial, ?_⟩; gi_at_call 48; refine (callsIn_wide.2 C48').mono ?_; clear C48'; rintro e' w3 ⟨rfl, k3⟩)
      | (refine ⟨trivial, ?_⟩; fail))
    case h_1.isTrue => rename_i h9 h8; cases h9
    case h_1.isFalse => rename_i h9 h8; cases h9
    refine ⟨trivial, ?_⟩
    gi_wp2
    all_goals first
      | (refine bodyPost_ret (results_none rfl _ _ _) rfl ?_)
      | (refine bodyPost_end (results_none rfl _ _ _) rfl ?_)
      | trace_state
    exact ⟨⟨_, rfl⟩, unhide k3⟩
end Go.Proofs.Ytljeedgnjgeopaa
