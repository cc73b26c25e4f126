/- record: an entry whose lists are lent, under way. -/
import Derived.Test.YtljeedgnjgeopaaLa
import Derived.Test.YtljeedgnjgeopaaZh
import Derived.Test.YtljeedgnjgeopaaZd
namespace Go.Proofs.Ytljeedgnjgeopaa
open Go.ChangeShapes Go.WideShapes Go.ChangeAt Go.RowKit Go.Shelf
set_option linter.unusedVariables false
set_option linter.unusedSimpArgs false
set_option maxRecDepth 100000
set_option maxHeartbeats 4000000
/-- a list that was lent: its block, its capacity, its bytes -/
abbrev LT := Nat × Nat × List Nat
def ltV (p : LT) : Value := .slice (some ⟨p.1, 0, none⟩) p.2.2.length p.2.1
theorem RB.ownB {w : World} {g n c base : Nat} {L : List Nat} (h : RB w (.slice (some ⟨g, 0, none⟩) n c) L) (hb : base ≤ g) : Ld.OwnB w base (.slice (some ⟨g, 0, none⟩) n c) L := by
  rcases h with ⟨e, -⟩ | ⟨g', cap, cur, e, q1, q2, q3, q4, q5⟩
  · cases e
  · injection e with e1 e2 e3
    cases e1
    subst e3
    refine ⟨by simp [Ld.cellsOf], .inr ⟨g, c, cur, by rw [e2], hb, q1, q2, q3, q4, ?_⟩⟩
    apply List.ext_getElem?
    intro i
    rw [List.getElem?_take]
    by_cases hi : i < L.length * 1
    · rw [if_pos hi, Ld.cellsOf_at L i (by omega)]
      have := q5 i hi
      simpa using this
    · rw [if_neg hi, List.getElem?_eq_none (by rw [Ld.cellsOf_length]; omega)]
theorem push3 {w2 : World} : Bytes (w2.alloc (.cells #[.int .u8 165, .int .u8 90, .int .u8 165] 5)) (some ⟨w2.heap.size, 0, none⟩) [165, 90, 165] := by
  refine (RB.bytes (RB.of (l := [165, 90, 165]) (n := 3) (heap_alloc_new w2 (.cells #[.int .u8 165, .int .u8 90, .int .u8 165] 5)) rfl (by unfold maxLen; omega) rfl (fun j hj => ?_))).1
  have : j = 0 ∨ j = 1 ∨ j = 2 := by omega
  rcases this with rfl | rfl | rfl <;> rfl
theorem nb_ne {b w : World} {a : Option Addr} {n c : Nat} {L : List Nat} (h : NB2 b w a n c L) (hL : 0 < L.length) : ∃ g, a = some ⟨g, 0, none⟩ := by
  rcases h.2 with ⟨q, q0⟩ | ⟨g, _, _, q, _⟩
  · omega
  · injection q with q1 q2 q3
    exact ⟨g, q1⟩
theorem lend2_any (w : World) (a : Option Addr) (n cap : Nat) (l : List Nat) (hn : n = l.length) (hl : n ≤ 1099511627776) (hB : Bytes w a l) :
    Calls Try.prog 24 #[.slice a n cap] w fun e w' => ∃ g c, e = .returned (.slice (some ⟨g, 0, none⟩) n c) ∧ Hid (Ld.Lent w' w.heap.size g c l ∧ Below w.heap.size w w' ∧ w.heap.size ≤ g) := by
  have HB := hide hB
  have HN := hide hn
  have S1 : Hid (NB2 w w none 0 0 []) := hide ⟨Nw.nil w, .inl ⟨rfl, rfl⟩⟩
  obtain ⟨n3, h3⟩ : ∃ k, n + 3 = k := ⟨_, rfl⟩
  have H3 := hide h3
  have b3 : n3 ≤ 1099511627779 := by omega
  clear hB hn h3
  go_enter Try.func24, Try.ntmps24
  go_wp2_with (first
    | (at_builtin; refine app_rb rfl _ _ rfl none 0 0 [] rfl (unhide S1).2 a n cap rfl l (unhide HN) (unhide HB) n (Nat.zero_add n) (by omega) ?_; intro a2 c2 w2 r2 k2; have S2 := hide (((unhide S1).app r2 k2).on ((Below.refl _ _).alloc (Nat.le_refl _) (.cells #[.int .u8 165, .int .u8 90, .int .u8 165] 5))); have B2 := hide (@push3 w2); clear r2 k2; go_frame)
    | (at_builtin; (refine app_rb rfl _ _ rfl a2 n c2 ([] ++ l) rfl (unhide S2).2 (some ⟨w2.heap.size, 0, none⟩) 3 3 rfl [165, 90, 165] rfl (unhide B2) n3 (unhide H3) (by omega) ?_; intro a4 c4 w4 r4 k4; have S4 := hide ((unhide S2).app r4 k4); clear r4 k4; obtain ⟨g4, hg4⟩ := nb_ne (unhide S4) (by simp); have hnc : n ≤ c4 := (by have h1 := Rst.le (RB.rst (unhide S4).2);  have := unhide H3; omega); subst hg4; go_frame)))
  go_ret
  refine ⟨g4, c4, rfl, hide ⟨?_, (unhide S4).1.bel, (unhide S4).1.own g4 rfl⟩⟩
  unfold Ld.Lent
  have := RB.ownB (unhide S4).2 ((unhide S4).1.own g4 rfl)
  rw [List.nil_append] at this
  have e : (l ++ [165, 90, 165]).length = n3 := by have := unhide H3; have := unhide HN; simp; omega
  rw [e]
  exact this
theorem Lent.kt {w w' : World} {base g c : Nat} {l : List Nat} {p : TypeId → Prop} (h : Ld.Lent w base g c l) (hk : Kt p w w') (h5 : p 5) : Ld.Lent w' base g c l := by
  obtain ⟨h1, h2⟩ := h
  refine ⟨h1, ?_⟩
  rcases h2 with q | ⟨g', cap, cur, e, q1, q2, q3⟩
  · exact .inl q
  · exact .inr ⟨g', cap, cur, e, q1, (hk g' cur 5 (0, 0) q2 h5).trans q2, q3⟩
theorem Lent.blk {w : World} {base g c : Nat} {l : List Nat} (h : Ld.Lent w base g c l) : ∃ cur, w.heap[g]? = some (.cells cur 5 (0, 0)) := by
  rcases h.2 with ⟨q, -⟩ | ⟨g', cap, cur, e, q1, q2, q3⟩
  · cases q
  · cases e; exact ⟨cur, q2⟩
/-- a row of lists that were lent -/
def TR (W : World) (v : Value) (Q : List LT) : Prop := Rws W 27 1 v Q.length (fun j => ltV (Q.getD j (0, 0, [])))
theorem TR.nil (W : World) : TR W (.slice none 0 0) [] := .inl ⟨rfl, rfl⟩
theorem TR.push {W' : World} {v' : Value} {Q : List LT} {p : LT} {n : Nat} (hn : n = Q.length) (h : Rws W' 27 1 v' (n + 1) (fun k => if k < n * 1 then ltV (Q.getD k (0, 0, [])) else [ltV p].getD (k - n * 1) undef)) : TR W' v' (Q ++ [p]) := by
  subst hn
  unfold TR
  rw [List.length_append]
  refine h.congr fun j hj => ?_
  by_cases e : j < Q.length * 1
  · rw [if_pos e, List.getD_eq_getElem?_getD, List.getD_eq_getElem?_getD, List.getElem?_append_left (by omega)]
  · rw [if_neg e, List.getD_eq_getElem?_getD (l := Q ++ [p]), List.getElem?_append_right (by omega), show j - Q.length * 1 = 0 by omega, show j - Q.length = 0 by omega]
    rfl
theorem TR.same {W W' : World} {v : Value} {Q : List LT} (h : TR W v Q) (hv : ∀ g, v.ownBlock = some g → W'.heap[g]? = W.heap[g]?) : TR W' v Q := Rws.same h hv
theorem TR.kt {W W' : World} {v : Value} {Q : List LT} {p : TypeId → Prop} (h : TR W v Q) (hk : Kt p W W') (h27 : p 27) : TR W' v Q := Rws.kt h hk h27
/-- commands whose arguments were lent; their rows keep away from some blocks -/
def AQ (W : World) (v : Value) (A : List (Int × List LT)) (S : Nat → Prop) : Prop := ∃ f, Rws W 64 2 v A.length f ∧ ∀ i x, A[i]? = some x → ∃ ai ci, f (i * 2) = .int .i64 x.1 ∧ f (i * 2 + 1) = .slice ai x.2.length ci ∧ TR W (.slice ai x.2.length ci) x.2 ∧ ∀ q, (Value.slice ai x.2.length ci).ownBlock = some q → ¬ S q
theorem AQ.nil (W : World) (S : Nat → Prop) : AQ W (.slice none 0 0) [] S := ⟨fun _ => undef, .inl ⟨rfl, rfl⟩, fun i x h => by cases h⟩
theorem AQ.frame {W W' : World} {v : Value} {A : List (Int × List LT)} {S S' : Nat → Prop} (h : AQ W v A S) (h64 : Kt (fun t => t = 64) W W') (h27 : ∀ b, b < W.heap.size → ¬ S b → (∃ C f, W.heap[b]? = some (.cells C 27 f)) → W'.heap[b]? = W.heap[b]?) (hS : ∀ q, S' q → S q ∨ W.heap.size ≤ q) : AQ W' v A S' := by
  obtain ⟨f, h1, h2⟩ := h
  refine ⟨f, h1.kt h64 rfl, fun i x hx => ?_⟩
  obtain ⟨ai, ci, q1, q2, q3, q4⟩ := h2 i x hx
  refine ⟨ai, ci, q1, q2, q3.same (fun g hg => ?_), fun q hq hs => ?_⟩
  · obtain ⟨c, hc⟩ := Rws.type q3 g hg
    exact h27 g (blk_lt hc) (q4 g hg) ⟨c, _, hc⟩
  · rcases hS q hs with e | e
    · exact q4 q hq e
    · have := Rws.lt q3 q hq
      omega
theorem AQ.push {W W' : World} {v v' : Value} {A : List (Int × List LT)} {Q : List LT} {d : Int} {aa : Option Addr} {an ac n cc m : Nat} {f : Nat → Value} {S : Nat → Prop} (hn : n = A.length) (han : an = Q.length) (hr : Rws W 64 2 v n f) (hf : ∀ i x, A[i]? = some x → ∃ ai ci, f (i * 2) = .int .i64 x.1 ∧ f (i * 2 + 1) = .slice ai x.2.length ci ∧ TR W (.slice ai x.2.length ci) x.2 ∧ ∀ q, (Value.slice ai x.2.length ci).ownBlock = some q → ¬ S q) (hQ : TR W (.slice aa an ac) Q) (hQS : ∀ q, (Value.slice aa an ac).ownBlock = some q → ¬ S q)
    (hw : Rws W' 64 2 v' (n + 1) (fun k => if k < n * 2 then f k else [Value.int .i64 d, Value.slice aa an ac].getD (k - n * 2) undef)) (hg : Ga 64 cc m W W' v v') : AQ W' v' (A ++ [(d, Q)]) S := by
  subst han
  have hk := Kt.ga hg hr
  refine ⟨_, by rw [List.length_append, ← hn]; exact hw, fun i x hx => ?_⟩
  by_cases hi : i < n
  · rw [if_pos (by omega), if_pos (by omega)]
    rw [List.getElem?_append_left (by omega)] at hx
    obtain ⟨ai, ci, q1, q2, q3, q4⟩ := hf i x hx
    exact ⟨ai, ci, q1, q2, q3.kt hk (by decide), q4⟩
  · rw [if_neg (by omega), if_neg (by omega)]
    rw [List.getElem?_append_right (by omega)] at hx
    have hi2 : i - A.length = 0 := by
      rcases Nat.eq_zero_or_pos (i - A.length) with e | e
      · exact e
      · rw [List.getElem?_eq_none (by simp; omega)] at hx; cases hx
    rw [hi2] at hx
    cases hx
    have e1 : i * 2 - n * 2 = 0 := by omega
    have e2 : i * 2 + 1 - n * 2 = 1 := by omega
    rw [e1, e2]
    exact ⟨aa, ac, rfl, rfl, hQ.kt hk (by decide), hQS⟩
/-- what the commands say -/
def actQ (x : Int × List LT) : Larder.ActI := (x.1, x.2.map (·.2.2))
theorem AQ.grpI {W : World} {a : Option Addr} {n c base : Nat} {A : List (Int × List LT)} {S : Nat → Prop} (h : AQ W (.slice a n c) A S) (hL : ∀ x ∈ A, ∀ p ∈ x.2, Ld.Lent W base p.1 p.2.1 p.2.2) : GrpI W a (A.map actQ) := by
  obtain ⟨f, h1, h2⟩ := h
  rcases h1 with ⟨e, e0⟩ | ⟨g, cap, cur, e, hg, q1, q2, q3, q4⟩
  · exact .inl (by rw [List.length_eq_zero_iff.1 e0]; rfl)
  · cases e
    refine .inr ⟨g, 0, rfl, blk_lt hg, fun i x hx => ?_⟩
    rw [List.getElem?_map] at hx
    obtain ⟨y, hy, rfl⟩ := Option.map_eq_some_iff.1 hx
    obtain ⟨ai, ci, z1, z2, z3, -⟩ := h2 i y hy
    have hi : i < A.length := (List.getElem?_eq_some_iff.1 hy).1
    refine ⟨?_, ai, ci, ?_, ?_⟩
    · rw [cell_blk hg, Nat.zero_add, q4 (i * 2) (by omega), z1]
      rfl
    · rw [cell_blk hg, Nat.zero_add, q4 (i * 2 + 1) (by omega), z2]
      unfold actQ
      rw [List.length_map]
    · rcases z3 with ⟨e, e0⟩ | ⟨g', cap', cur', e, hg', p1, p2, p3, p4⟩
      · exact .inl (by unfold actQ; rw [List.length_eq_zero_iff.1 e0]; rfl)
      · cases e
        refine .inr ⟨g', 0, rfl, blk_lt hg', fun j T hT => ?_⟩
        unfold actQ at hT
        rw [List.getElem?_map] at hT
        obtain ⟨p, hp, rfl⟩ := Option.map_eq_some_iff.1 hT
        have hj : j < y.2.length := (List.getElem?_eq_some_iff.1 hp).1
        refine ⟨some ⟨p.1, 0, none⟩, p.2.1, ?_, (hL y (List.mem_of_getElem? hy) p (List.mem_of_getElem? hp)).bytes⟩
        rw [cell_blk hg', Nat.zero_add, p4 j (by omega)]
        show some (ltV (y.2.getD j (0, 0, []))) = _
        rw [List.getD_eq_getElem?_getD, hp]
        rfl
end Go.Proofs.Ytljeedgnjgeopaa
namespace Go.Proofs.Ytljeedgnjgeopaa
open Go.ChangeShapes Go.WideShapes Go.ChangeAt Go.RowKit Go.Shelf
set_option linter.unusedVariables false
set_option linter.unusedSimpArgs false
set_option maxRecDepth 100000
set_option maxHeartbeats 4000000
theorem ga_own {w w' : World} {v v' : Value} {e : TypeId} {c m : Nat} (h : Ga e c m w w' v v') (q : Nat) (hq : v'.ownBlock = some q) : v.ownBlock = some q ∨ w.heap.size ≤ q := by
  rcases h with ⟨-, rfl⟩ | h
  · exact .inl hq
  · by_cases hs : w.heap.size ≤ q
    · exact .inr hs
    · refine .inl ?_
      obtain ⟨-, -, -, h⟩ := h
      rcases h with ⟨g, cur, cur', e1, e2, -⟩ | ⟨e1, -⟩
      · rw [e2] at hq; rw [e1]; exact hq
      · rw [e1] at hq; cases hq; omega
theorem ga_blk {w w' : World} {v v' : Value} {e : TypeId} {c m : Nat} (h : Ga e c m w w' v v') (k : Nat) (hk : k < w.heap.size) (hv : v.ownBlock ≠ some k) : w'.heap[k]? = w.heap[k]? := by
  rcases h with ⟨rfl, -⟩ | h
  · rfl
  · exact h.other k hk hv
theorem ga_bel {w w' : World} {v v' : Value} {e : TypeId} {c m : Nat} (h : Ga e c m w w' v v') (B : Nat) (hB : B ≤ w.heap.size) (hv : ∀ q, v.ownBlock = some q → B ≤ q) : Below B w w' := by
  rcases h with ⟨rfl, -⟩ | h
  · exact Below.refl _ _
  · exact h.below _ hB hv
theorem lent_mono {w : World} {b b' g c : Nat} {l : List Nat} (h : Ld.Lent w b g c l) (hb : b' ≤ b) : Ld.Lent w b' g c l := by
  obtain ⟨h1, h2⟩ := h
  refine ⟨h1, ?_⟩
  rcases h2 with q | ⟨g', cap, cur, e, q1, q2⟩
  · exact .inl q
  · exact .inr ⟨g', cap, cur, e, by omega, q2⟩
/-- an entry under way: the commands A are there, of one more the arguments Q; LL are all that was lent -/
structure LeS (w : World) (sq : Int) (nw : Nat) (ga : Option Addr) (gn gc : Nat) (A : List (Int × List LT)) (vn : Nat) (va : Option Addr) (vc : Nat) (LL : List LT) (lv : Value) (Q : List LT) (av : Value) (W : World) : Prop where
  bel : Below w.heap.size w W
  e : W.heap[w.heap.size]? = some (.cells #[.int .i64 sq, .int .u64 (nw : Nat), .slice ga gn gc] 41 (0, 0))
  r : W.heap[w.heap.size + 1]? = some (.cells #[.int .i64 0, .int .u64 0, .slice none 0 0] 41 (0, 0))
  f : W.heap[w.heap.size + 2]? = some (.cells #[.int .i64 sq, .int .u64 (nw : Nat), .slice va vn vc] 41 (0, 0))
  hvn : vn = A.length
  a : AQ W (.slice va vn vc) A (fun q => lv.ownBlock = some q ∨ av.ownBlock = some q)
  ao : ∀ q, (Value.slice va vn vc).ownBlock = some q → w.heap.size + 3 ≤ q
  l : TR W lv LL
  lo : ∀ q, lv.ownBlock = some q → w.heap.size + 3 ≤ q
  q : TR W av Q
  qo : ∀ q, av.ownBlock = some q → w.heap.size + 3 ≤ q ∧ lv.ownBlock ≠ some q
  ln : ∀ p ∈ LL, Ld.Lent W w.heap.size p.1 p.2.1 p.2.2
  nd : (LL.map (·.1)).Nodup
theorem LeS.lt {w W : World} {sq : Int} {nw gn gc vn vc : Nat} {ga va : Option Addr} {A : List (Int × List LT)} {LL Q : List LT} {lv av : Value} (h : LeS w sq nw ga gn gc A vn va vc LL lv Q av W) : w.heap.size + 3 ≤ W.heap.size := by
  have := blk_lt h.f; omega
theorem LeS.below {w W W' : World} {sq : Int} {nw gn gc vn vc : Nat} {ga va : Option Addr} {A : List (Int × List LT)} {LL Q : List LT} {lv av : Value} (h : LeS w sq nw ga gn gc A vn va vc LL lv Q av W) (hb : Below W.heap.size W W') : LeS w sq nw ga gn gc A vn va vc LL lv Q av W' :=
  ⟨h.bel.trans (hb.mono (by have := h.lt; omega)), (hb.block _ (blk_lt h.e)).trans h.e, (hb.block _ (blk_lt h.r)).trans h.r, (hb.block _ (blk_lt h.f)).trans h.f, h.hvn,
    h.a.frame (Kt.of hb) (fun b hb' _ _ => hb.block b hb') (fun q hq => .inl hq), h.ao, h.l.kt (p := fun _ => True) (Kt.of hb) trivial, h.lo, h.q.kt (p := fun _ => True) (Kt.of hb) trivial, h.qo,
    fun p hp => (h.ln p hp).below hb, h.nd⟩
theorem LeS.pushQ {w W1 W2 : World} {sq : Int} {nw gn gc vn vc cc m : Nat} {ga va : Option Addr} {A : List (Int × List LT)} {LL Q : List LT} {lv av av' : Value} {p : LT} (h : LeS w sq nw ga gn gc A vn va vc LL lv Q av W1) (ht : TR W2 av' (Q ++ [p])) (hg : Ga 27 cc m W1 W2 av av') : LeS w sq nw ga gn gc A vn va vc LL lv (Q ++ [p]) av' W2 := by
  have hlt := h.lt
  have hk : Kt (fun t => t ≠ 27) W1 W2 := Kt.ga hg h.q
  have hlow : ∀ k, k < w.heap.size + 3 → W2.heap[k]? = W1.heap[k]? := fun k hk => ga_blk hg k (by omega) (fun e => by have := (h.qo k e).1; omega)
  refine ⟨h.bel.trans (ga_bel hg _ (by omega) (fun q hq => by have := (h.qo q hq).1; omega)), (hlow _ (by omega)).trans h.e, (hlow _ (by omega)).trans h.r, (hlow _ (by omega)).trans h.f, h.hvn, ?_, h.ao, ?_, h.lo, ht, ?_, fun p hp => Lent.kt (h.ln p hp) hk (by decide), h.nd⟩
  · refine h.a.frame (fun b C t f hb ht => hk b C t f hb (by rw [ht]; decide)) (fun b hb hs _ => ga_blk hg b hb (fun e => hs (.inr e))) (fun q hq => ?_)
    rcases hq with hq | hq
    · exact .inl (.inl hq)
    · rcases ga_own hg q hq with e | e
      · exact .inl (.inr e)
      · exact .inr e
  · exact h.l.same (fun g hg' => ga_blk hg g (Rws.lt h.l g hg') (fun e => (h.qo g e).2 hg'))
  · intro q hq
    rcases ga_own hg q hq with e | e
    · exact h.qo q e
    · exact ⟨by omega, fun e2 => by have := Rws.lt h.l q e2; omega⟩
theorem LeS.pushL {w W1 W2 : World} {sq : Int} {nw gn gc vn vc cc m : Nat} {ga va : Option Addr} {A : List (Int × List LT)} {LL Q : List LT} {lv lv' av : Value} {p : LT} (h : LeS w sq nw ga gn gc A vn va vc LL lv Q av W1) (hp : Ld.Lent W1 w.heap.size p.1 p.2.1 p.2.2) (hn : p.1 ∉ LL.map (·.1)) (ht : TR W2 lv' (LL ++ [p])) (hg : Ga 27 cc m W1 W2 lv lv') : LeS w sq nw ga gn gc A vn va vc (LL ++ [p]) lv' Q av W2 := by
  have hlt := h.lt
  have hk : Kt (fun t => t ≠ 27) W1 W2 := Kt.ga hg h.l
  have hlow : ∀ k, k < w.heap.size + 3 → W2.heap[k]? = W1.heap[k]? := fun k hk => ga_blk hg k (by omega) (fun e => by have := h.lo k e; omega)
  refine ⟨h.bel.trans (ga_bel hg _ (by omega) (fun q hq => by have := h.lo q hq; omega)), (hlow _ (by omega)).trans h.e, (hlow _ (by omega)).trans h.r, (hlow _ (by omega)).trans h.f, h.hvn, ?_, h.ao, ht, ?_, ?_, ?_, ?_, ?_⟩
  · refine h.a.frame (fun b C t f hb ht => hk b C t f hb (by rw [ht]; decide)) (fun b hb hs _ => ga_blk hg b hb (fun e => hs (.inl e))) (fun q hq => ?_)
    rcases hq with hq | hq
    · rcases ga_own hg q hq with e | e
      · exact .inl (.inl e)
      · exact .inr e
    · exact .inl (.inr hq)
  · intro q hq
    rcases ga_own hg q hq with e | e
    · exact h.lo q e
    · omega
  · exact h.q.same (fun g hg' => ga_blk hg g (Rws.lt h.q g hg') (fun e => (h.qo g hg').2 e))
  · intro q hq
    refine ⟨(h.qo q hq).1, fun e => ?_⟩
    rcases ga_own hg q e with e | e
    · exact (h.qo q hq).2 e
    · have := Rws.lt h.q q hq; omega
  · intro x hx
    rcases List.mem_append.1 hx with hx | hx
    · exact Lent.kt (h.ln x hx) hk (by decide)
    · rw [List.mem_singleton.1 hx]; exact Lent.kt hp hk (by decide)
  · rw [List.map_append, List.nodup_append]
    refine ⟨h.nd, by simp, fun a ha b hb => ?_⟩
    intro e
    simp at hb
    exact hn (by rw [← hb, ← e]; exact ha)
theorem LeS.pushA {w W1 W2 : World} {sq d : Int} {nw gn gc vn vc cc m qn qc : Nat} {ga va qa : Option Addr} {A : List (Int × List LT)} {LL Q : List LT} {lv v' : Value} {F : Nat → Value} (h : LeS w sq nw ga gn gc A vn va vc LL lv Q (.slice qa qn qc) W1) (hqn : qn = Q.length)
    (hF : Rws W1 64 2 (.slice va vn vc) vn F) (hF2 : ∀ i x, A[i]? = some x → ∃ ai ci, F (i * 2) = .int .i64 x.1 ∧ F (i * 2 + 1) = .slice ai x.2.length ci ∧ TR W1 (.slice ai x.2.length ci) x.2 ∧ ∀ q, (Value.slice ai x.2.length ci).ownBlock = some q → ¬ (lv.ownBlock = some q))
    (hw : Rws W2 64 2 v' (vn + 1) (fun k => if k < vn * 2 then F k else [Value.int .i64 d, Value.slice qa qn qc].getD (k - vn * 2) undef)) (hg : Ga 64 cc m W1 W2 (.slice va vn vc) v') :
    W2.cell? ⟨w.heap.size + 2, 2, none⟩ = some (.slice va vn vc) ∧ W2.frozen? ⟨w.heap.size + 2, 2, none⟩ = false ∧ ∃ a' c', v' = .slice a' (vn + 1) c' ∧ Hid (LeS w sq nw ga gn gc (A ++ [(d, Q)]) (vn + 1) a' c' LL lv [] (.slice none 0 0) (W2.setCell ⟨w.heap.size + 2, 2, none⟩ (.slice a' (vn + 1) c'))) := by
  have hlt := h.lt
  have hAQ := AQ.push (S := fun q => lv.ownBlock = some q) h.hvn hqn hF hF2 h.q (fun q hq e => (h.qo q hq).2 e) hw hg
  have hk : Kt (fun t => t ≠ 64) W1 W2 := Kt.ga hg hF
  have hlow : ∀ k, k < w.heap.size + 3 → W2.heap[k]? = W1.heap[k]? := fun k hk => ga_blk hg k (by omega) (fun e => by have := h.ao k e; omega)
  have hbel : Below w.heap.size w W2 := h.bel.trans (ga_bel hg _ (by omega) (fun q hq => by have := h.ao q hq; omega))
  have hown : ∀ q, v'.ownBlock = some q → w.heap.size + 3 ≤ q := fun q hq => by
    rcases ga_own hg q hq with e | e
    · exact h.ao q e
    · omega
  obtain ⟨a', c', rfl⟩ := hw.shape
  have x2 := (hlow _ (by omega)).trans h.f
  have y2 := set_block W2 (w.heap.size + 2) 2 (.slice a' (vn + 1) c') _ _ _ x2
  have hk2 : Kt (fun t => t ≠ 41) W2 (W2.setCell ⟨w.heap.size + 2, 2, none⟩ (.slice a' (vn + 1) c')) := fun b C t f' hb' ht => set_else _ _ _ _ _ (fun e => by
    rw [e, x2] at hb'
    cases hb'
    exact ht rfl)
  refine ⟨cell_blk x2 2, frz x2 2, a', c', rfl, hide ⟨hbel.trans ⟨rfl, rfl, rfl, by simp, fun b hb => set_else _ _ _ _ _ (by omega)⟩, (set_else _ _ _ _ _ (by omega)).trans ((hlow _ (by omega)).trans h.e), (set_else _ _ _ _ _ (by omega)).trans ((hlow _ (by omega)).trans h.r), y2, ?_, ?_, hown, ?_, h.lo, TR.nil _, fun q hq => (by cases hq), ?_, h.nd⟩⟩
  · rw [List.length_append, ← h.hvn]; rfl
  · refine hAQ.frame (fun b C t f hb ht => hk2 b C t f hb (by rw [ht]; decide)) (fun b hb hs hC => ?_) (fun q hq => ?_)
    · obtain ⟨C, f, hC⟩ := hC
      exact hk2 b C 27 f hC (by decide)
    · rcases hq with hq | hq
      · exact .inl hq
      · cases hq
  · exact (h.l.kt hk (by decide)).kt hk2 (by decide)
  · exact fun p hp => Lent.kt (Lent.kt (h.ln p hp) hk (by decide)) hk2 (by decide)
theorem LeS.notin {w W : World} {sq : Int} {nw gn gc vn vc : Nat} {ga va : Option Addr} {A : List (Int × List LT)} {LL Q : List LT} {lv av : Value} (h : LeS w sq nw ga gn gc A vn va vc LL lv Q av W) (g : Nat) (hg : W.heap.size ≤ g) : g ∉ LL.map (·.1) := by
  intro hm
  obtain ⟨p, hp, e⟩ := List.mem_map.1 hm
  obtain ⟨cur, hc⟩ := Lent.blk (h.ln p hp)
  have := blk_lt hc
  omega
end Go.Proofs.Ytljeedgnjgeopaa
