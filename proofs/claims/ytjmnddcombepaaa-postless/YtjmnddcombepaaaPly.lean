/- PostLess: what lies in memory while the law runs, and its calls. -/
import Derived.Test.YtjmnddcombepaaaPox
import Derived.Laws.AppendOwnNone
namespace Go.Proofs.Ytjmnddcombepaaa
open Go.ChangeShapes Go.WideShapes Go.ChangeAt Go.RowKit Go.Maps Go.Sort
set_option linter.unusedVariables false
set_option linter.unusedSimpArgs false
set_option maxRecDepth 100000
set_option maxHeartbeats 8000000
theorem PostAt.cross {w : World} {p b p' b' : Nat} {D D' : Dt} {S S' : List Key} (h : PostAt w p b D S) (h' : PostAt w p' b' D' S') : p ≠ b' := by
  intro e
  subst e
  have h1 := h.cell
  obtain ⟨es, clock, h2, -⟩ := h'.map.own
  rw [h1] at h2
  cases h2
theorem addV_mem {o : List Sv} {x y : Sv} (h : y ∈ o) : y ∈ addV o x := by
  unfold addV
  split
  · exact h
  · exact List.mem_append_left _ h
theorem unV_head (z : Sv) (r : List Sv) : fitV z ∈ unV (z :: r) := by
  unfold unV
  rw [List.foldl_cons]
  have h0 : fitV z ∈ addV [] (fitV z) := by simp [addV, cnts, cntC]
  generalize addV [] (fitV z) = o at h0
  induction r generalizing o with
  | nil => exact h0
  | cons y r ih => exact ih _ (addV_mem h0)
/-- append of seats that came in onto an own list -/
theorem wpList_app_seats {w : World} {ops : Array Oper} {rest : List Oper} {o : Oper} {a : Act} {Q : Exit → Act → World → Prop} (hgd : o.guard = none) (s x : Operand)
    (ho : o.op = .call { callee := .builtin .append, args := #[s, x], argTypes := #[22, 22] })
    (base : Nat) (v : Value) (n : Nat) (xs : List Value) (hs : a.eval s = v) (hown : w.ownsRow base 40 3 v n xs) (sa : Option Addr) (n0 cap : Nat) (l : List Sv) (hx : a.eval x = .slice sa n0 cap) (hn0 : n0 = l.length)
    (hl : SvAt w sa l) (hnil : sa = none → cap = 0 ∧ l = []) (hbytes : (n + l.length) * 40 ≤ 140737488355328) (hbase : base ≤ w.heap.size)
    (h : ∀ v' w', w'.ownsRow base 40 3 v' (n + l.length) (xs ++ l.flatMap seatC) → w.grownBy w' v.ownBlock → wpList Try.prog ops Q rest (a.put o.dst v') w') : wpList Try.prog ops Q (o :: rest) a w := by
  obtain ⟨i0, hi0, hz0, hz1, hz2⟩ := info_parts info40
  cases sa with
  | none =>
    obtain ⟨rfl, rfl⟩ := hnil rfl
    subst hn0
    refine wpList_append_own_none hgd s x 22 ho base 40 i0 3 Try.underlying22 hi0 v n xs hs hown hx ?_
    exact h v w (by simpa using hown) (World.grownBy.refl _ _)
  | some ad =>
    subst hn0
    refine wpList_append_own w hgd s x 22 ho base 40 i0 _ 3 40 Try.underlying22 hi0 hz0 hz1 hz2 rfl (by decide) v n xs hs hown ad l.length cap (l.flatMap seatC) hx ?_ ?_ ?_ (by unfold maxLen; omega) hbytes hbase (fun v' w' h1 h2 _ => h v' w' h1 h2)
    · rw [List.length_flatMap]
      clear hl hx hbytes h hnil
      induction l with
      | nil => rfl
      | cons y r ih =>
        simp only [List.map_cons, List.sum_cons, List.length_cons, ih]
        simp [seatC]
        omega
    · intro j u hj
      rcases hl with h0 | ⟨b, off, e, hb, hc⟩
      · subst h0; simp at hj
      · cases e
        have hjl : j / 3 < l.length := by
          have h1 := (List.getElem?_eq_some_iff.1 hj).1
          have h2 : (l.flatMap seatC).length = l.length * 3 := by
            clear hj hc hx hbytes h hnil h1
            induction l with
            | nil => rfl
            | cons y r ih => simp only [List.flatMap_cons, List.length_append, ih, List.length_cons]; simp [seatC]; omega
          omega
        obtain ⟨y, hy⟩ : ∃ y, l[j / 3]? = some y := ⟨_, List.getElem?_eq_getElem hjl⟩
        obtain ⟨h0, h1, h2⟩ := hc _ y hy
        have hg := flatV_get l (j / 3) y hy (j % 3) (by omega)
        rw [show j / 3 * 3 + j % 3 = j by omega, hj] at hg
        rw [add_plain]
        have h3 : j % 3 = 0 ∨ j % 3 = 1 ∨ j % 3 = 2 := by omega
        rcases h3 with h3 | h3 | h3 <;> rw [h3] at hg
        · rw [show off + j = off + j / 3 * 3 by omega, h0]; simpa [seatC] using hg.symm
        · rw [show off + j = off + j / 3 * 3 + 1 by omega, h1]; simpa [seatC] using hg.symm
        · rw [show off + j = off + j / 3 * 3 + 2 by omega, h2]; simpa [seatC] using hg.symm
    · intro u hu
      obtain ⟨y, -, hy⟩ := List.mem_flatMap.1 hu
      simp [seatC] at hy
      rcases hy with rfl | rfl | rfl <;> rfl
/-- the world behind the letter y -/
def yw (w : World) : World := (w.alloc (.cells #[.int .u8 121] 5)).freeze ⟨w.heap.size, 1, none⟩ 1
theorem yw_old (w : World) (j : Nat) (hj : j < w.heap.size) : (yw w).heap[j]? = w.heap[j]? := by
  have h1 : w.heap.size ≠ j := by omega
  simp [yw, World.freeze, World.alloc, -World.alloc_eq, Array.getElem?_modify, Array.getElem?_push, h1, Ne.symm h1]
theorem yw_new (w : World) : (yw w).heap[w.heap.size]? = some (.cells #[.int .u8 121] 5 (1, 2)) := by
  simp [yw, World.freeze, World.alloc, -World.alloc_eq]
  rw [Array.getElem_modify_self]
  simp
theorem yw_size (w : World) : (yw w).heap.size = w.heap.size + 1 := by
  simp [yw, World.freeze, World.alloc, -World.alloc_eq]
theorem yw_below (w : World) : Below w.heap.size w (yw w) := ⟨rfl, rfl, rfl, by rw [yw_size]; omega, fun k hk => yw_old w k hk⟩
theorem conv_y (w : World) : (convert 23 23 (.slice (some ⟨w.heap.size, 0, none⟩) 1 1)).run Try.prog (w.alloc (.cells #[.int .u8 121] 5)) = .ok (.slice (some ⟨w.heap.size, 0, none⟩) 1 1) (yw w) := by
  have hsh : ∀ c : Array Value, (w.alloc (.cells c 5)).shape? w.heap.size = some (5, c.size) := by
    intro c
    simp [World.shape?, World.alloc, -World.alloc_eq]
  simp [convert, run_underlying Try.underlying23, markStringish, Question.forced, hsh, Result.andThen, yw]
def yed (g cz : Nat) : Sv := (((4 : Int), [121], true), some ⟨g, 0, none⟩, cz)
theorem SvAt.below {W W' : World} {a : Option Addr} {l : List Sv} (h : SvAt W a l) (hb : Below W.heap.size W W') : SvAt W' a l := by
  rcases h with h | ⟨b, off, e, hlt, hc⟩
  · exact .inl h
  · refine .inr ⟨b, off, e, Nat.lt_of_lt_of_le hlt hb.size, fun i x hx => ?_⟩
    obtain ⟨h0, h1, h2⟩ := hc i x hx
    exact ⟨(hb.cell (p := ⟨b, off + i * 3, none⟩) hlt).trans h0, (hb.cell (p := ⟨b, off + i * 3 + 1, none⟩) hlt).trans h1, (hb.cell (p := ⟨b, off + i * 3 + 2, none⟩) hlt).trans h2⟩
/-- the list with y ahead -/
theorem y_laid (w0 : World) (l : List Sv) (hN : ∀ x ∈ l, Named w0 x) (hB : Bnd l) (v4 : Value) (w4 : World)
    (ho : w4.ownsRow (yw w0).heap.size 40 3 v4 (1 + l.length) ([.int .i64 4, .slice (some ⟨w0.heap.size, 0, none⟩) 1 1, .bool true] ++ l.flatMap seatC))
    (hg : ((yw w0).alloc (.cells #[.int .i64 4, .slice (some ⟨w0.heap.size, 0, none⟩) 1 1, .bool true] 40)).grownBy w4 (some (yw w0).heap.size)) : LAt w0 w4 (yw w0).heap.size v4 (yed w0.heap.size 1 :: l) := by
  have hz := yw_size w0
  have hb1 : Below w0.heap.size w0 ((yw w0).alloc (.cells #[.int .i64 4, .slice (some ⟨w0.heap.size, 0, none⟩) 1 1, .bool true] 40)) := (yw_below w0).alloc (by omega) _
  have hsz : ((yw w0).alloc (.cells #[.int .i64 4, .slice (some ⟨w0.heap.size, 0, none⟩) 1 1, .bool true] 40)).heap.size = w0.heap.size + 2 := by simp [hz]
  have hb2 : Below w0.heap.size w0 w4 := hb1.grown hg (by omega) (fun k hk => by cases hk; omega)
  refine ⟨hb2, ?_, by omega, fun x hx => ?_, fun x hx => ?_⟩
  · unfold OwnV
    rw [List.length_cons, Nat.add_comm]
    exact ho
  · rcases List.mem_cons.1 hx with rfl | hx
    · refine bytes_of (T := [121]) (by have := hg.size; omega) (fun j hj => ?_)
      obtain rfl : j = 0 := by simpa using hj
      have h1 := hg.block w0.heap.size (by omega) (fun e => by have := Option.some.inj e; omega)
      have h2 : ((yw w0).alloc (.cells #[.int .i64 4, .slice (some ⟨w0.heap.size, 0, none⟩) 1 1, .bool true] 40)).heap[w0.heap.size]? = (yw w0).heap[w0.heap.size]? := ((Below.refl _ _).alloc (Nat.le_refl _) _).block _ (by omega)
      rw [h2, yw_new] at h1
      rw [cell_blk h1]
      rfl
    · exact (hN x hx).below hb2
  · rcases List.mem_cons.1 hx with rfl | hx
    · exact ⟨⟨by show (-9223372036854775808 : Int) ≤ 4; decide, by show (4 : Int) ≤ 9223372036854775807; decide⟩, Nat.le_refl 1, by show 1 ≤ 9223372036854775807; decide⟩
    · exact hB x hx
theorem seats_y (W wr : World) (base : Nat) (v : Value) (gy : Nat) (M : List Sv) (h : LAt W wr base v (yed gy 1 :: M)) :
    Calls Try.prog 17 #[v] wr fun e w' => ∃ g n cp L, e = .returned (.slice (some ⟨g, 0, none⟩) n cp) ∧ (1 ≤ n ∧ n ≤ 1000) ∧ Hid (SL W wr w' g n cp L ∧ 1 ≤ cntC (L.map (·.1)) 4) := by
  refine (seats_own W wr base v _ h).mono (fun e w' ⟨v', e1, h2, h3⟩ => ?_)
  obtain ⟨h4, h5⟩ := unhide h2
  obtain ⟨a, n, cp, rfl, hn⟩ := h4.own.slice
  have hlen : (unV ((yed gy 1 :: M).take 1000)).length ≤ 1000 := Nat.le_trans (unV_len _) (by rw [List.length_take]; omega)
  have hm : fitV (yed gy 1) ∈ unV ((yed gy 1 :: M).take 1000) := by
    rw [show (1000 : Nat) = 999 + 1 from rfl, List.take_succ_cons]
    exact unV_head _ _
  have h1 : 1 ≤ (unV ((yed gy 1 :: M).take 1000)).length := List.length_pos_of_mem hm
  obtain ⟨g, rfl, -⟩ := h4.own.cell (i := 0) (List.getElem?_eq_getElem h1)
  refine ⟨g, n, cp, _, e1, ⟨by omega, by omega⟩, hide ⟨⟨h4, h5, unV_ok _, hn, unhide h3⟩, ?_⟩⟩
  unfold cntC
  exact List.length_pos_of_mem (List.mem_filter.2 ⟨List.mem_map_of_mem hm, by simp [fitV, yed]⟩)
/-- three Posts and a list -/
structure T3 (w0 R W : World) (g n cp base : Nat) (L : List Sv) (p bp q bq o bo : Nat) (Kp Kq Ko : List Key) : Prop where
  la : LAt w0 R base (.slice (some ⟨g, 0, none⟩) n cp) L
  unl : Unl L
  len : n = L.length
  few : n ≤ 1000
  bel : Below R.heap.size R W
  pp : ∃ D S, PostAt W p bp D S ∧ S.Perm Kp
  qq : ∃ D S, PostAt W q bq D S ∧ S.Perm Kq
  oo : ∃ D S, PostAt W o bo D S ∧ S.Perm Ko
  hp : R.heap.size ≤ bp
  hq : R.heap.size ≤ bq
  npq : bp ≠ bq
  npo : bp ≠ bo
  nqo : bq ≠ bo
  kp : Kp.length ≤ 1000 ∧ ∀ k ∈ Kp, k.2.1.length ≤ 64
  kq : Kq.length ≤ 1000 ∧ ∀ k ∈ Kq, k.2.1.length ≤ 64
  ko : Ko.length ≤ 1000
theorem T3.l {w0 R W : World} {g n cp base : Nat} {L : List Sv} {p bp q bq o bo : Nat} {Kp Kq Ko : List Key} (h : T3 w0 R W g n cp base L p bp q bq o bo Kp Kq Ko) : LAt w0 W base (.slice (some ⟨g, 0, none⟩) n cp) L := h.la.below h.bel
theorem T3.list {w0 R W : World} {g n cp base : Nat} {L : List Sv} {p bp q bq o bo : Nat} {Kp Kq Ko : List Key} (h : T3 w0 R W g n cp base L p bp q bq o bo Kp Kq Ko) {k : Nat} {x : Sv} (hx : L[k]? = some x) : W.cell? ⟨g, k * 3, none⟩ = some (.int .i64 x.1.1) ∧ W.cell? ⟨g, k * 3 + 1, none⟩ = some (.slice x.2.1 x.1.2.1.length x.2.2) ∧ W.cell? ⟨g, k * 3 + 2, none⟩ = some (.bool x.1.2.2) ∧ (convert 23 9 (.slice x.2.1 x.1.2.1.length x.2.2)).run Try.prog W = .ok (.string (bs x.1.2.1)) W := by
  obtain ⟨g', e, -, -, h0, h1, h2⟩ := h.l.own.cell hx
  cases e
  exact ⟨h0, h1, h2, conv_back W _ _ _ (h.l.nam x (List.mem_of_getElem? hx))⟩
theorem T3.below {w0 R W W' : World} {g n cp base : Nat} {L : List Sv} {p bp q bq o bo : Nat} {Kp Kq Ko : List Key} (h : T3 w0 R W g n cp base L p bp q bq o bo Kp Kq Ko) (hb : Below W.heap.size W W') : T3 w0 R W' g n cp base L p bp q bq o bo Kp Kq Ko := by
  obtain ⟨D1, S1, a1, c1⟩ := h.pp
  obtain ⟨D2, S2, a2, c2⟩ := h.qq
  obtain ⟨D3, S3, a3, c3⟩ := h.oo
  exact ⟨h.la, h.unl, h.len, h.few, h.bel.trans (hb.mono h.bel.size), ⟨D1, S1, a1.below hb, c1⟩, ⟨D2, S2, a2.below hb, c2⟩, ⟨D3, S3, a3.below hb, c3⟩, h.hp, h.hq, h.npq, h.npo, h.nqo, h.kp, h.kq, h.ko⟩
theorem kept_below {R W W' : World} {b : Nat} (h : Below R.heap.size R W) (k : KeptB b W W') (hb : R.heap.size ≤ b) : Below R.heap.size R W' :=
  ⟨k.os.trans h.os, k.tape.trans h.tape, k.output.trans h.output, Nat.le_trans h.size k.size, fun j hj => (k.blk j (Nat.lt_of_lt_of_le hj h.size) (by omega)).trans (h.block j hj)⟩
theorem T3.drop {w0 R W : World} {g n cp base : Nat} {L : List Sv} {p bp q bq o bo : Nat} {Kp Kq Ko : List Key} (h : T3 w0 R W g n cp base L p bp q bq o bo Kp Kq Ko) (c : Int) :
    Calls Try.prog 24 #[.pointer (some ⟨p, 0, none⟩), .int .i64 c] W fun e w' => e = .returned (.tuple #[]) ∧ Hid (T3 w0 R w' g n cp base L p bp q bq o bo (restC Kp c) Kq Ko) := by
  obtain ⟨D1, S1, a1, c1⟩ := h.pp
  obtain ⟨D2, S2, a2, c2⟩ := h.qq
  obtain ⟨D3, S3, a3, c3⟩ := h.oo
  have hl := c1.length_eq
  have hf := h.kp.1
  refine (drop_any W p bp D1 S1 c a1 (by omega)).mono (fun e w' ⟨e1, e2⟩ => ?_)
  obtain ⟨D', S', h3, h4, h5⟩ := unhide e2
  exact ⟨e1, hide ⟨h.la, h.unl, h.len, h.few, kept_below h.bel h5 h.hp, ⟨D', S', h3, h4.trans (c1.filter _)⟩, ⟨D2, S2, a2.keep h5 (a2.cross a1) h.npq.symm, c2⟩, ⟨D3, S3, a3.keep h5 (a3.cross a1) h.npo.symm, c3⟩, h.hp, h.hq, h.npq, h.npo, h.nqo, ⟨Nat.le_trans (List.length_filter_le _ _) hf, fun k hk => h.kp.2 k (List.mem_filter.1 hk).1⟩, h.kq, h.ko⟩⟩
theorem T3.leave {w0 R W : World} {g n cp base : Nat} {L : List Sv} {p bp q bq o bo : Nat} {Kp Kq Ko : List Key} (h : T3 w0 R W g n cp base L p bp q bq o bo Kp Kq Ko) (k : Key) (hk : (0 ≤ k.1 ∧ k.1 < 8) ∧ k.2.1.length ≤ 64) (hm : k ∈ Kq) :
    Calls Try.prog 15 #[.pointer (some ⟨q, 0, none⟩), .int .i64 k.1, .string (bs k.2.1), .bool k.2.2] W fun e w' => (∃ m : Int, e = .returned (.tuple #[.int .i64 m, .bool true, .int .i64 0])) ∧ Hid (T3 w0 R w' g n cp base L p bp q bq o bo Kp (Kq.erase k) Ko) := by
  obtain ⟨D1, S1, a1, c1⟩ := h.pp
  obtain ⟨D2, S2, a2, c2⟩ := h.qq
  obtain ⟨D3, S3, a3, c3⟩ := h.oo
  have hl := c2.length_eq
  have hf := h.kq.1
  refine (leave_any W q bq D2 S2 k.1 k.2.1 k.2.2 a2 hk.1 (by omega) (by omega)).mono (fun e w' ⟨e1, e2⟩ => ?_)
  obtain ⟨D', h3, h4⟩ := unhide e2
  refine ⟨⟨_, by rw [e1, show decide ((k.1, k.2.1, k.2.2) ∈ S2) = true from decide_eq_true (c2.mem_iff.2 hm)]⟩, hide ⟨h.la, h.unl, h.len, h.few, kept_below h.bel h4 h.hq, ⟨D1, S1, a1.keep h4 (a1.cross a2) h.npq, c1⟩, ⟨D', _, h3, c2.erase k⟩, ⟨D3, S3, a3.keep h4 (a3.cross a2) h.nqo.symm, c3⟩, h.hp, h.hq, h.npq, h.npo, h.nqo, h.kp, ⟨Nat.le_trans List.length_erase_le hf, fun k' hk' => h.kq.2 k' (List.mem_of_mem_erase hk')⟩, h.ko⟩⟩
theorem T3.countp {w0 R W : World} {g n cp base : Nat} {L : List Sv} {p bp q bq o bo : Nat} {Kp Kq Ko : List Key} (h : T3 w0 R W g n cp base L p bp q bq o bo Kp Kq Ko) (c : Int) :
    Calls Try.prog 13 #[.pointer (some ⟨p, 0, none⟩), .int .i64 c] W fun e w' => e = .returned (.int .i64 (cntC Kp c : Nat)) ∧ Hid (T3 w0 R w' g n cp base L p bp q bq o bo Kp Kq Ko) := by
  obtain ⟨D1, S1, a1, c1⟩ := h.pp
  have hl := c1.length_eq
  have hf := h.kp.1
  have h1 := count_any W p bp D1 S1 c a1 (by omega)
  rw [cntC_perm c1] at h1
  exact h1.mono (fun e w' ⟨e1, e2⟩ => ⟨e1, hide (h.below (unhide e2))⟩)
theorem T3.counto {w0 R W : World} {g n cp base : Nat} {L : List Sv} {p bp q bq o bo : Nat} {Kp Kq Ko : List Key} (h : T3 w0 R W g n cp base L p bp q bq o bo Kp Kq Ko) (c : Int) :
    Calls Try.prog 13 #[.pointer (some ⟨o, 0, none⟩), .int .i64 c] W fun e w' => e = .returned (.int .i64 (cntC Ko c : Nat)) ∧ Hid (T3 w0 R w' g n cp base L p bp q bq o bo Kp Kq Ko) := by
  obtain ⟨D1, S1, a1, c1⟩ := h.oo
  have hl := c1.length_eq
  have hf := h.ko
  have h1 := count_any W o bo D1 S1 c a1 (by omega)
  rw [cntC_perm c1] at h1
  exact h1.mono (fun e w' ⟨e1, e2⟩ => ⟨e1, hide (h.below (unhide e2))⟩)
theorem three_alike {w0 W : World} {g n cp base : Nat} {L : List Sv} {p bp q bq : Nat} {K K' : List Key} (hl : LAt w0 W base (.slice (some ⟨g, 0, none⟩) n cp) L) (hu : Unl L) (hn : n = L.length) (hn1 : n ≤ 1000) (hp : ∃ D S, PostAt W p bp D S ∧ S.Perm K) (hq : ∃ D S, PostAt W q bq D S ∧ S.Perm K') (hK : K.Perm K') (hk : K.length ≤ 1000 ∧ ∀ k ∈ K, k.2.1.length ≤ 64) (C : List UInt8) (hC : C.length ≤ 140737488355328) :
    Calls Try.prog 23 #[.pointer (some ⟨p, 0, none⟩), .pointer (some ⟨q, 0, none⟩), .slice (some ⟨g, 0, none⟩) n cp, .string (bs C)] W fun e w' => e = .returned (.bool true) ∧ Hid (Below W.heap.size W w') := by
  obtain ⟨G, hG⟩ := glob_is
  obtain ⟨D1, S1, a1, c1⟩ := hp
  obtain ⟨D2, S2, a2, c2⟩ := hq
  have hk4 : ∀ k ∈ L.map (·.1), k.2.1.length ≤ 4096 := fun k hk => by
    obtain ⟨x, hx, rfl⟩ := List.mem_map.1 hk
    have := (hu.ok x hx).2
    omega
  exact alike_any G hG W p q bp bq D1 D2 S1 S2 _ n cp (L.map (·.1)) C a1 a2 (c1.trans (hK.trans c2.symm)) (by rw [c1.length_eq]; have := hk.1; omega) (fun k h => by have := hk.2 k (c1.mem_iff.1 h); omega) (hl.own.at.seats hl.nam) (by rw [hn, List.length_map]) hk4 (by omega) hC
theorem T3.alikep {w0 R W : World} {g n cp base : Nat} {L : List Sv} {p bp q bq o bo : Nat} {Kp Kq Ko : List Key} (h : T3 w0 R W g n cp base L p bp q bq o bo Kp Kq Ko) (hK : Kp.Perm Ko) (C : List UInt8) (hC : C.length ≤ 140737488355328) :
    Calls Try.prog 23 #[.pointer (some ⟨p, 0, none⟩), .pointer (some ⟨o, 0, none⟩), .slice (some ⟨g, 0, none⟩) n cp, .string (bs C)] W fun e w' => e = .returned (.bool true) ∧ Hid (T3 w0 R w' g n cp base L p bp q bq o bo Kp Kq Ko) :=
  (three_alike h.l h.unl h.len h.few h.pp h.oo hK h.kp C hC).mono (fun e w' ⟨e1, e2⟩ => ⟨e1, hide (h.below (unhide e2))⟩)
theorem T3.alikeq {w0 R W : World} {g n cp base : Nat} {L : List Sv} {p bp q bq o bo : Nat} {Kp Kq Ko : List Key} (h : T3 w0 R W g n cp base L p bp q bq o bo Kp Kq Ko) (hK : Kq.Perm Ko) (C : List UInt8) (hC : C.length ≤ 140737488355328) :
    Calls Try.prog 23 #[.pointer (some ⟨q, 0, none⟩), .pointer (some ⟨o, 0, none⟩), .slice (some ⟨g, 0, none⟩) n cp, .string (bs C)] W fun e w' => e = .returned (.bool true) ∧ Hid (T3 w0 R w' g n cp base L p bp q bq o bo Kp Kq Ko) :=
  (three_alike h.l h.unl h.len h.few h.qq h.oo hK h.kq C hC).mono (fun e w' ⟨e1, e2⟩ => ⟨e1, hide (h.below (unhide e2))⟩)
/-- left, one by one -/
def lessK (K : List Key) (c : Int) (i : Nat) : List Key := restC (K.take i) c ++ K.drop i
theorem lessK_zero (K : List Key) (c : Int) : lessK K c 0 = K := by simp [lessK, restC]
theorem lessK_all (K : List Key) (c : Int) (n : Nat) (hn : K.length ≤ n) : lessK K c n = restC K c := by
  unfold lessK
  rw [List.take_of_length_le hn, List.drop_of_length_le hn, List.append_nil]
theorem lessK_skip (K : List Key) (c : Int) (i : Nat) (k : Key) (hk : K[i]? = some k) (hc : k.1 ≠ c) : lessK K c (i + 1) = lessK K c i := by
  have hd : K.drop i = k :: K.drop (i + 1) := by
    obtain ⟨h1, h2⟩ := List.getElem?_eq_some_iff.1 hk
    rw [List.drop_eq_getElem_cons h1, h2]
  unfold lessK restC
  rw [List.take_add_one, hk, hd]
  simp [hc]
theorem lessK_next (K : List Key) (c : Int) (i : Nat) (k : Key) (hk : K[i]? = some k) (hc : k.1 = c) : k ∈ lessK K c i ∧ (lessK K c i).erase k = lessK K c (i + 1) := by
  have hd : K.drop i = k :: K.drop (i + 1) := by
    obtain ⟨h1, h2⟩ := List.getElem?_eq_some_iff.1 hk
    rw [List.drop_eq_getElem_cons h1, h2]
  unfold lessK restC
  rw [hd]
  refine ⟨by simp, ?_⟩
  rw [List.erase_append_right _ (fun hm => by have := (List.mem_filter.1 hm).2; simp [hc] at this), List.erase_cons_head, List.take_add_one, hk]
  simp [hc]
/-- the others -/
def othersV (L : List Sv) (c : Int) (i : Nat) : List Sv := (L.take i).filter (fun x => !decide (x.1.1 = c))
theorem othersV_map (L : List Sv) (c : Int) (n : Nat) (hn : L.length ≤ n) : (othersV L c n).map (·.1) = restC (L.map (·.1)) c := by
  unfold othersV restC
  rw [List.take_of_length_le hn, List.filter_map]
  rfl
theorem othersV_skip (L : List Sv) (c : Int) (i : Nat) (x : Sv) (hx : L[i]? = some x) (hc : x.1.1 = c) : othersV L c (i + 1) = othersV L c i := by
  unfold othersV
  rw [List.take_add_one, hx]
  simp [hc]
theorem othersV_next (L : List Sv) (c : Int) (i : Nat) (x : Sv) (hx : L[i]? = some x) (hc : x.1.1 ≠ c) : othersV L c (i + 1) = othersV L c i ++ [x] := by
  unfold othersV
  rw [List.take_add_one, hx]
  simp [hc]
theorem Unl.sub {L M : List Sv} (h : Unl L) (hs : M.Sublist L) : Unl M :=
  ⟨h.nodup.sublist (hs.map _), fun c => by
    have h1 : cnts M c ≤ cnts L c := ((hs.map _).filter _).length_le
    have := h.cnt c
    omega, fun y hy => h.ok y (hs.subset hy)⟩
/-- a list under way beside the list l -/
structure LM (w0 R wr : World) (g n cp base : Nat) (L : List Sv) (mv : Value) (M : List Sv) : Prop where
  bel : Below R.heap.size R wr
  la : LAt w0 R base (.slice (some ⟨g, 0, none⟩) n cp) L
  m : LAt w0 wr R.heap.size mv M
theorem LM.list {w0 R wr : World} {g n cp base : Nat} {L : List Sv} {mv : Value} {M : List Sv} (h : LM w0 R wr g n cp base L mv M) {k : Nat} {x : Sv} (hx : L[k]? = some x) : wr.cell? ⟨g, k * 3, none⟩ = some (.int .i64 x.1.1) ∧ wr.cell? ⟨g, k * 3 + 1, none⟩ = some (.slice x.2.1 x.1.2.1.length x.2.2) ∧ wr.cell? ⟨g, k * 3 + 2, none⟩ = some (.bool x.1.2.2) := by
  obtain ⟨g', e, -, -, h0, h1, h2⟩ := (h.la.below h.bel).own.cell hx
  cases e
  exact ⟨h0, h1, h2⟩
theorem LM.push {w0 R wr w' : World} {g n cp base : Nat} {L : List Sv} {mv v' : Value} {M : List Sv} {o : Obj} {x : Sv} (h : LM w0 R wr g n cp base L mv M) (hM : ∀ y ∈ M, y ∈ L) (hx : x ∈ L) (hN : ∀ y ∈ L, Near R.heap.size y) (hg : (wr.alloc o).grownBy w' mv.ownBlock) (ho : w'.ownsRow R.heap.size 40 3 v' (M.length + 1) (M.flatMap seatC ++ seatC x)) : LM w0 R w' g n cp base L v' (M ++ [x]) := by
  have ha : Below R.heap.size R (wr.alloc o) := h.bel.alloc h.bel.size _
  refine ⟨ha.grown hg ha.size (fun k hk => (h.m.own.ge k hk).1), h.la, h.m.push hg ho ((h.la.nam x hx).below h.bel) (h.la.bnd x hx) (fun y hy gg hgg => ?_)⟩
  have hge := (h.m.own.ge gg hgg).1
  have hyL : y ∈ L := by
    rcases hy with hy | rfl
    · exact hM y hy
    · exact hx
  rcases hN y hyL with h0 | ⟨b, off, e, hb⟩
  · exact .inl h0
  · exact .inr ⟨b, off, e, by omega⟩
end Go.Proofs.Ytjmnddcombepaaa
