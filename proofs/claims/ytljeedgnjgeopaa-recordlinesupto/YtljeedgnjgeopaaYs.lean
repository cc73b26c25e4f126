/- record: Read. -/
import Derived.Test.YtljeedgnjgeopaaYr
namespace Go.Proofs.Ytljeedgnjgeopaa
open Go.ChangeShapes Go.WideShapes Go.ChangeAt Go.RowKit Go.Shelf
set_option linter.unusedVariables false
set_option linter.unusedSimpArgs false
set_option maxRecDepth 100000
set_option maxHeartbeats 4000000
attribute [local go_sem] Oper.semAt_some
/-- an append of any list, inside a fence -/
theorem appendIn_gen {F : Fence} {N : Nat} {P : Program} {w : World} {ops : Array Oper} {rest : List Oper} {o : Oper} {a : Act} {Q : Exit → Act → World → Prop} (hgd : o.guard = none) (so x : Operand) (t : TypeId) (ho : o.op = .call { callee := .builtin .append, args := #[so, x], argTypes := #[t, t] })
    (e : TypeId) (i : TypeInfo) (z : Value) (s bytes : Nat) (ht : P.underlying t = some (.slice e)) (hi : P.info? e = some i) (hz : i.zero = some z) (hsize : i.size = s) (hby : i.bytes = bytes) (hzs : z.cells.size = s)
    (v : Value) (n : Nat) (f : Nat → Value) (hs : a.eval so = v) (hown : Rws w e s v n f) (b : Option Addr) (m mc : Nat) (hx : a.eval x = .slice b m mc) (news : List Value) (hl : news.length = m * s) (hnil : b = none → m = 0) (hc : ∀ ad, b = some ad → ∀ (j : Nat) (x : Value), news[j]? = some x → w.cell? (ad.add j) = some x) (h1 : ∀ x ∈ news, x.oneCell' = true) (hn : (n + m) * bytes ≤ 140737488355328) (hn2 : n + m ≤ maxLen)
    (h : ∀ v' w', Rws w' e s v' (n + m) (fun k => if k < n * s then f k else news.getD (k - n * s) undef) → Ga e (n * s) news.length w w' v v' → wpListIn F N P ops Q rest (a.put o.dst v') w') : wpListIn F N P ops Q (o :: rest) a w := by
  refine wpListIn_plain hgd fun K hK' => ?_
  obtain ⟨v', w', hrun, h2, h3⟩ := run_append_any (P := P) (w := w) o.type t e i z s bytes ht hi hz hsize hby hzs v n f hown b m mc news hl hnil hc h1 hn hn2
  unfold Oper.wpIn
  refine ⟨?_, ?_⟩
  · simp [Oper.about, ho, resolve, Target.leads, Sem.run_pure]
  · rw [Oper.semAt_plain F _ _ (by rw [ho]; intro c hc'; cases hc')]
    simp [execOp, ho, resolve, invoke, builtin, hs, hx, hrun, Result.andThen]
    exact hK' _ _ (h v' w' h2 h3)
theorem recs_all (n : Nat) (hn : 4 ≤ n) (l box : Nat) (a : Option Addr) (m c : Nat) (b : List Nat) (es : List Larder.EntP) (hrow : Larder.Row w64i b es) (hs : ∀ x ∈ b, x < 256) (hlb : b.length ≤ 1099511627776)
    (X : World → Nat → Prop) (J : Nat → World → Prop)
    (hJb : ∀ q W W', J q W → Below W.heap.size W W' → J q W')
    (hJr : ∀ q W, J q W → W.cell? ⟨box, 0, none⟩ = some (.slice a m c) ∧ Rst W W.heap.size a m c b)
    (hXn : ∀ q W C, J q W → X (W.alloc (.cells C 41)) W.heap.size) (hXb : ∀ W W' k, X W k → k < W.heap.size → Below W.heap.size W W' → X W' k)
    (hJx : ∀ q W k i v, J q W → X W k → J q (W.setCell ⟨k, i, none⟩ v)) (hXx : ∀ W k k' i v, X W k → X W k' → X (W.setCell ⟨k', i, none⟩ v) k)
    (hY : ∀ q vs W, q < es.length → RcE es q vs W → J q W → YieldAt Fence.wide (n - 1) Try.prog l vs W fun e W' => e = .returned (.bool true) ∧ J (q + 1) W' ∧ RcK X W W')
    (W : World) (h0 : J 0 W) :
    CallsIn Fence.wide n Try.prog 47 #[.func (.yield l) #[] #[], .pointer (some ⟨box, 0, none⟩)] W fun e W' => (∃ v, e = .returned v) ∧ J es.length W' := by
  rcases (hJr 0 W h0).2 with ⟨rfl, rfl, rfl, rfl⟩ | ⟨b1, o1, rfl, -, hm, hmc, -⟩
  · have hes : es = [] := by
      cases es with
      | nil => rfl
      | cons e es => exact absurd (hrow.step 0 e rfl) (by rw [List.drop_nil]; exact fst_nil)
    subst hes
    exact recs_nil n hn l box J hJb (fun q W h => (hJr q W h).1) W h0
  · exact recs_any n hn l box b1 o1 m c b es hrow hs hlb hm hmc X J hJb hJr hXn hXb hJx hXx hY W h0
/-- what Read answers -/
def RdEnd (w : World) (es : List Larder.EntP) (e : Ending) (w' : World) : Prop := ∃ (a : Option Addr) (c : Nat), e = .returned (.tuple #[.slice a es.length c, .int .i64 ((Larder.offR es es.length : Nat) : Int)]) ∧ Hid (Below w.heap.size w w' ∧ EL w' (.slice a es.length c) es ∧ ∀ g, (Value.slice a es.length c).ownBlock = some g → w.heap.size ≤ g)
/-- where a round of Read stands -/
def RdA (w : World) (a : Option Addr) (n c : Nat) (es : List Larder.EntP) (q : Nat) (vs : Array Value) (a1 : Act) (W : World) : Prop := ∃ (e : Larder.EntP) (ga : Option Addr) (gn gc B : Nat), es[q]? = some e ∧ gn = e.group.length ∧ a1 = { tmps := #[.slice a n c, undef, .slice none 0 0, .int .i64 0, .pointer (some ⟨w.heap.size, 0, none⟩), .pointer (some ⟨w.heap.size + 1, 0, none⟩), .pointer (some ⟨B, 0, none⟩), .int .i64 ((Larder.offR es (q + 1) : Nat) : Int), .slice a n c, .func (.func 47) #[] #[.pointer (some ⟨w.heap.size + 2, 0, none⟩)], .agg #[.int .i64 (e.seq : Nat), .int .u64 (e.now : Nat), .slice ga gn gc], .int .i64 ((Larder.offR es (q + 1) : Nat) : Int), undef, undef, undef, undef, undef, undef, undef], defers := [] } ∧ Hid (RdS w (.slice a n c) es q W ∧ W.heap[B]? = some (.cells #[.int .i64 (e.seq : Nat), .int .u64 (e.now : Nat), .slice ga gn gc] 41 (0, 0)) ∧ AL W (.slice ga gn gc) e.group)
theorem read_any (w : World) (a : Option Addr) (n c : Nat) (b : List Nat) (es : List Larder.EntP) (hrow : Larder.Row w64i b es) (h : Rst w w.heap.size a n c b) (hs : ∀ x ∈ b, x < 256) (hlb : b.length ≤ 1099511627776) : Calls Try.prog 25 #[.slice a n c] w (RdEnd w es) := by
  unfold RdEnd
  have H := hide h
  have HROW := hide hrow
  have HS := hide hs
  have HNE : Hid (26 * es.length ≤ 1099511627776) := hide (Nat.le_trans (Nat.le_trans (Larder.offR_ge es _ (Nat.le_refl _)) (hrow.le _ (Nat.le_refl _))) hlb)
  have HLB := hide hlb
  clear h hrow hs hlb
  obtain ⟨i0, hi0, hz0, hz1, hz2⟩ := info_parts4 info41
  refine (callsIn_wide (n := 6)).1 ?_
  refine callsIn_of_wp_marks Try.func25 rfl trivial ?_ rfl
  simp only [Try.ntmps25, List.size_toArray, List.length_cons, List.length_nil, Nat.reduceAdd, Nat.reduceSub, Array.replicate_succ, Array.replicate_zero, List.push_toArray, List.append_toArray, List.nil_append, List.cons_append]
  refine wpIn_wide.2 ?_
  go_wp2_with (go_at_call 38; refine (records_any _ a n c).mono ?_; rintro e w' ⟨rfl, rfl⟩)
  obtain ⟨W0, hW0⟩ : ∃ W0, ((w.alloc (.cells #[.slice none 0 0] 26)).alloc (.cells #[.int .i64 0] 3)).alloc (.cells #[.slice a n c] 27) = W0 := ⟨_, rfl⟩
  have hsz : W0.heap.size = w.heap.size + 3 := by rw [← hW0]; simp
  have HI0 : Hid (∀ o1 o2, RdS w (.slice a n c) es 0 ((W0.alloc o1).alloc o2)) := hide (fun o1 o2 => by
    have b1 := (Below.refl w.heap.size w).alloc (Nat.le_refl _) (.cells #[.slice none 0 0] 26)
    have b2 := (Below.refl _ (w.alloc (.cells #[.slice none 0 0] 26))).alloc (Nat.le_refl _) (.cells #[.int .i64 0] 3)
    have b3 := (Below.refl _ ((w.alloc (.cells #[.slice none 0 0] 26)).alloc (.cells #[.int .i64 0] 3))).alloc (Nat.le_refl _) (.cells #[.slice a n c] 27)
    have b4 := ((Below.refl _ W0).alloc (Nat.le_refl _) o1).alloc (by simp) o2
    rw [hW0] at b3
    have s1 : (w.alloc (.cells #[.slice none 0 0] 26)).heap.size = w.heap.size + 1 := by simp
    have s2 : ((w.alloc (.cells #[.slice none 0 0] 26)).alloc (.cells #[.int .i64 0] 3)).heap.size = w.heap.size + 2 := by simp
    have h1 := heap_alloc_new w (.cells #[.slice none 0 0] 26)
    have h2 := heap_alloc_new (w.alloc (.cells #[.slice none 0 0] 26)) (.cells #[.int .i64 0] 3)
    have h3 := heap_alloc_new ((w.alloc (.cells #[.slice none 0 0] 26)).alloc (.cells #[.int .i64 0] 3)) (.cells #[.slice a n c] 27)
    rw [hW0, s2] at h3
    rw [s1] at h2
    refine ⟨b1.trans ((b2.mono (by omega)).trans ((b3.mono (by omega)).trans (b4.mono (by omega)))), by simp; omega, ⟨_, (b4.block _ (by omega)).trans ((b3.block _ (by omega)).trans ((b2.block _ (by omega)).trans h1)), EL.nil _, fun g hg => (by cases hg)⟩, (b4.block _ (by omega)).trans ((b3.block _ (by omega)).trans h2), (b4.block _ (by omega)).trans h3⟩)
  first | rw [hW0] | skip
  clear hW0
  refine (wpIn_wide (n := 6)).1 ?_
  refine wpIn_range_rec (F := Fence.wide) (n := 6) rfl (by omega) (gf := 47) (lb := #[.pointer (some ⟨w.heap.size + 2, 0, none⟩)]) rfl trivial (enters_of Try.func47 (by kernel_rfl) rfl)
    (RdS w (.slice a n c) es) (RcK (RdX w)) ?hKt ?hKb ?hKp es.length (RcE es) ?hps ?hcall (unhide HI0) (fun q W W' h hb => h.below hb) ?hIp (RdA w a n c es) ?hassign ?hAp ?hbody ?hdone
  case hKt => exact fun A B C h1 h2 => ⟨Nat.le_trans h1.1 h2.1, fun k hk hx => ⟨(h2.2 k (Nat.lt_of_lt_of_le hk h1.1) (h1.2 k hk hx).2).1.trans (h1.2 k hk hx).1, (h2.2 k (Nat.lt_of_lt_of_le hk h1.1) (h1.2 k hk hx).2).2⟩⟩
  case hKb => exact fun A B hb => ⟨hb.size, fun k hk hx => ⟨hb.block k hk, hx.below hk hb⟩⟩
  case hKp =>
    intro W o o' ho hc
    rw [hsz] at ho ⊢
    refine ⟨by simp, fun k hk hx => ?_⟩
    have hne : k ≠ w.heap.size + 3 + 1 := by have := hx.1; omega
    obtain ⟨h1, ⟨C, f, h2⟩, h3⟩ := hx
    refine ⟨World.putObj_heap_other hne, h1, ⟨C, f, (World.putObj_heap_other hne).trans h2⟩, fun v hv => h3 v ?_⟩
    rw [← hv]
    simp only [World.cell?]
    rw [World.putObj_heap_other (by omega)]
  case hps =>
    rintro q vs W ⟨e, ga, gn, gc, -, rfl, -⟩
    rfl
  case hcall =>
    rintro J' W1 ⟨o1, o2, rfl⟩ hJ0 hJb hJI hJc hJY
    have HC := hide hJc
    refine recs_all (6 - 1) (by omega) _ (w.heap.size + 2) a n c b es (unhide HROW) (unhide HS) (unhide HLB) (RdX w) J' hJb (fun q W hJ => ⟨cell_blk (hJI q W hJ).bx 0, ?_⟩) (fun q W C hJ => (hJI q W hJ).new C) (fun W W' k hx hk hb => hx.below hk hb) (fun q W k i v hJ hx => hJc q W _ hJ ((hJI q W hJ).set hx) (set_else _ _ _ _ _ ?_) (set_else _ _ _ _ _ ?_)) (fun W k k' i v h1 h2 => h1.set h2) hJY _ hJ0
    · have hb := (hJI q W hJ).bel
      rcases unhide H with h | ⟨b1, o1, e1, z1, z2, z3, z4⟩
      · exact .inl h
      · exact .inr ⟨b1, o1, e1, Nat.lt_of_lt_of_le z1 hb.size, z2, z3, fun i hi => (hb.cell (p := ⟨b1, _, none⟩) z1).trans (z4 i hi)⟩
    · have := hx.1; omega
    · have := hx.1; omega
  case hIp =>
    intro q W o o' ho hc hI
    rw [hsz] at ho ⊢
    exact hI.obj (by omega) ho hc
  case hAp =>
    rintro q vs a1 W o o' ho hc ⟨e, ga, gn, gc, B, he, hgn, rfl, hh⟩
    obtain ⟨h1, h2, h3⟩ := unhide hh
    rw [hsz] at ho ⊢
    have hne : ∀ (b : Nat) (C : Array Value) (t : TypeId) (f : Nat × Nat), W.heap[b]? = some (.cells C t f) → b ≠ w.heap.size + 3 + 1 := fun b C t f hb e => by
      rw [e, ho] at hb
      cases hb
      cases hc
    exact ⟨e, ga, gn, gc, B, he, hgn, rfl, hide ⟨h1.obj (by omega) ho hc, (World.putObj_heap_other (hne _ _ _ _ h2)).trans h2, h3.kt (p := fun _ => True) (fun b C t f hb _ => World.putObj_heap_other (hne b C t f hb)) trivial trivial trivial⟩⟩
  case hassign =>
    rintro q vs W K hq ⟨e, ga, gn, gc, he, rfl, hgn, hA⟩ hI hK
    have HK := hide hK
    replace hgn := hide hgn
    clear hK
    have HAL := hide ((Below.refl W.heap.size W).alloc (Nat.le_refl _) (.cells #[.int .i64 (e.seq : Nat), .int .u64 (e.now : Nat), .slice ga gn gc] 41))
    have HNEW := hide (heap_alloc_new W (.cells #[.int .i64 (e.seq : Nat), .int .u64 (e.now : Nat), .slice ga gn gc] 41))
    gi_wp2
    exact (unhide HK) _ _ (unhide HAL) ⟨e, ga, gn, gc, _, he, unhide hgn, rfl, hide ⟨hI.below (unhide HAL), unhide HNEW, hA.kt (Kt.of (p := fun _ => True) (unhide HAL)) trivial trivial trivial⟩⟩
  case hbody =>
    rintro q vs a1 W hq ⟨e, ga, gn, gc, B, he, hgn, rfl, hh⟩ hlt hrec
    obtain ⟨hI, hB, hA⟩ := unhide hh
    rw [hsz] at hlt hrec ⊢
    obtain ⟨v, f1, f2, f3⟩ := hI.fnd
    obtain ⟨f, r1, r2⟩ := f2
    have hqn : (es.take q).length = q := by rw [List.length_take]; omega
    rw [hqn] at r1
    obtain ⟨va, vc, rfl⟩ := r1.shape
    have c0 := cell_blk f1 0
    have b0 := cell_blk hB 0
    have b1 := cell_blk hB 1
    have b2 := cell_blk hB 2
    have HAL := hide ((Below.refl W.heap.size W).alloc (Nat.le_refl _) (.cells #[.int .i64 (e.seq : Nat), .int .u64 (e.now : Nat), .slice ga gn gc] 41))
    have HP := hide (fun W2 v' h5 k5 => RdS.push (W2 := W2) (v' := v') (cc := q * 3) (m := 3) hI he f1 r2 r1 hgn hA h5 k5 (w.heap.size + 3 + 1) (w.heap.size + 3) (by omega) (by omega) (by omega) (by omega))
    have R1 := hide r1
    have hq40 : (q + 1) * 40 ≤ 140737488355328 := by have := unhide HNE; omega
    have hqm : q + 1 ≤ maxLen := by unfold maxLen; omega
    clear hI hB hA f1 f3 r1 r2 hqn hh hrec hgn HNE HLB H HROW HS HI0
    gi_wp2_with (gi_at_builtin; refine appendIn_gen rfl _ _ 26 rfl 41 i0 _ 3 40 Try.underlying26 hi0 hz0 hz1 hz2 rfl (.slice va q vc) q f rfl ((unhide R1).below (unhide HAL)) (some ⟨W.heap.size, 0, none⟩) 1 1 rfl [.int .i64 (e.seq : Nat), .int .u64 (e.now : Nat), .slice ga gn gc] rfl (by simp) (new_cells W [.int .i64 (e.seq : Nat), .int .u64 (e.now : Nat), .slice ga gn gc] 41) (by simp [Value.oneCell']) hq40 hqm ?_; intro v5 w5 h5 k5; obtain ⟨a5, c5, rfl⟩ := h5.shape; obtain ⟨s0, s1, s2, s3, HE⟩ := (unhide HP) w5 _ h5 k5; clear h5 k5; go_frame)
    exact unhide HE
  case hdone =>
    intro W hI hK hlt
    rw [hsz] at hK hlt ⊢
    obtain ⟨v, f1, f2, f3⟩ := hI.fnd
    rw [List.take_length] at f2
    obtain ⟨f, r1, r2⟩ := f2
    obtain ⟨va, vc, rfl⟩ := r1.shape
    have c0 := cell_blk f1 0
    have c1 := cell_blk hI.sz 0
    have HD : Hid (∀ o, Below w.heap.size w ((W.drew).putObj (w.heap.size + 3) o) ∧ EL ((W.drew).putObj (w.heap.size + 3) o) (.slice va es.length vc) es ∧ ∀ g, (Value.slice va es.length vc).ownBlock = some g → w.heap.size ≤ g) := hide (fun o => by
      have hne : ∀ (b : Nat) (C : Array Value) (t : TypeId) (f : Nat × Nat), W.heap[b]? = some (.cells C t f) → b ≠ w.heap.size + 3 := fun b C t f hb e => by
        rw [e, hK] at hb
        cases hb
      refine ⟨hI.bel.trans ⟨rfl, rfl, rfl, by simp, fun b hb => World.putObj_heap_other (by omega)⟩, EL.kt ⟨f, r1, r2⟩ (fun b C t f hb _ => World.putObj_heap_other (hne b C t f hb)), fun g hg => by have := f3 g hg; omega⟩)
    have HKD := hide hK
    clear hI hK f1 f3 r1 r2 HNE HLB H HROW HS HI0
    go_wp2
    refine wp_region_noPanic ?_
    go_region
    refine NoPanic.normal ?_
    go_wp2
    refine ⟨by simp, .inl ⟨_, _, rfl, run_takeDeferred (show W.drew.heap[w.heap.size + 3]? = _ from unhide HKD), ?_⟩⟩
    exact ⟨_, results_tmp2 rfl _ _ _, va, vc, rfl, hide ((unhide HD) _)⟩
end Go.Proofs.Ytljeedgnjgeopaa
