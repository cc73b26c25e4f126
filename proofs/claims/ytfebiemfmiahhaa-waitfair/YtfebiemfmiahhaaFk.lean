/- WaitFair: the law. -/
import Derived.Test.YtfebiemfmiahhaaFj
namespace Go.Proofs.Ytfebiemfmiahhaa
open Go.ChangeShapes Go.WideShapes Go.ChangeAt Go.RowKit Go.Maps
set_option linter.unusedVariables false
set_option linter.unusedSimpArgs false
set_option maxRecDepth 100000
set_option maxHeartbeats 8000000
structure TusAt (W : World) (a : Option Addr) (l : List Tu) : Prop where
  ex : l = [] ∨ ∃ b off, a = some ⟨b, off, none⟩ ∧ b < W.heap.size ∧ ∀ (i : Nat) (x : Tu), l[i]? = some x → ∀ j, j < 6 → W.cell? ⟨b, off + i * 6 + j, none⟩ = (tuC x)[j]?
  ok : ∀ x ∈ l, TuOk W x
theorem TusAt.at {W : World} {a : Option Addr} {l : List Tu} (h : TusAt W a l) {i : Nat} {x : Tu} (hx : l[i]? = some x) : ∃ b off, a = some ⟨b, off, none⟩ ∧ b < W.heap.size ∧ TuOk W x ∧ W.cell? ⟨b, off + i * 6, none⟩ = some (.int .i64 x.act) ∧ W.cell? ⟨b, off + i * 6 + 1, none⟩ = some (.int .i64 x.conn) ∧ W.cell? ⟨b, off + i * 6 + 2, none⟩ = some (.int .i64 x.kind) ∧ W.cell? ⟨b, off + i * 6 + 3, none⟩ = some (.slice x.a x.pl.length x.cap) ∧ W.cell? ⟨b, off + i * 6 + 4, none⟩ = some (.int .u64 (x.time : Nat)) ∧ W.cell? ⟨b, off + i * 6 + 5, none⟩ = some (.int .i64 x.n) := by
  rcases h.ex with h0 | ⟨b, off, e, hlt, hc⟩
  · rw [h0] at hx; simp at hx
  · have := hc i x hx
    exact ⟨b, off, e, hlt, h.ok x (List.mem_of_getElem? hx), this 0 (by omega), this 1 (by omega), this 2 (by omega), this 3 (by omega), this 4 (by omega), this 5 (by omega)⟩
theorem turn_any (w0 : World) (X : Nat → Obj → Prop) (w : World) (p T : Nat) (va : Option Addr) (m vc : Nat) (A : List Ax) (o : Tu) (ho : TuOk w0 o) (hno : NoBk X) (hT : T < 1099511627776) (hm : m = A.length) (h : Fx w0 X w p T (.slice va m vc) A) :
    Calls Try.prog 18 #[.pointer (some ⟨p, 0, none⟩), .slice va m vc, .agg (tuC o).toArray] w fun e w' => TurnEnd w0 X p T e w' := by
  by_cases h0 : o.act = 0
  · exact turn_block w0 X w p T va m vc A o ho hno h0 hT hm h
  · by_cases h1 : o.act = 1
    · exact turn_serve w0 X w p T va m vc A o ho h1 hm h
    · exact turn_leave w0 X w p T va m vc A o h0 h1 hm h
theorem fx_lined {w0 w : World} {X : Nat → Obj → Prop} {p T : Nat} {v : Value} {A : List Ax} (h : Fx w0 X w p T v A) :
    Calls Try.prog 19 #[.pointer (some ⟨p, 0, none⟩), v] w fun e w' => e = .returned (.bool true) ∧ Hid (Fx w0 X w' p T v A) := by
  obtain ⟨⟨O, E, h1, h2⟩, h3⟩ := id h
  refine (lined_any w0 O w p T E v A h1).mono ?_
  rintro e w' ⟨rfl, H⟩
  exact ⟨rfl, hide (h.below (unhide H))⟩
theorem fx_waiting {w0 w : World} {X : Nat → Obj → Prop} {p T : Nat} {v : Value} {A : List Ax} (h : Fx w0 X w p T v A) :
    Calls Try.prog 11 #[.pointer (some ⟨p, 0, none⟩)] w fun e w' => ∃ g n, e = .returned (.slice (some ⟨g, 0, none⟩) n n) ∧ Hid (n = A.length ∧ Below w0.heap.size w0 w') := by
  obtain ⟨⟨O, E, h1, h2⟩, h3⟩ := h
  refine (wa_waiting w0 O w p T E h1.wa).mono ?_
  rintro e w' ⟨g, n, rfl, H⟩
  obtain ⟨k1, k2, k3, k4, k5⟩ := unhide H
  exact ⟨g, n, rfl, hide ⟨by rw [k2, h1.len], k4.bel⟩⟩
def lenFair : Value → Nat
  | .slice _ m _ => m
  | _ => 0
theorem fair_law (W : World) (a : Option Addr) (cap : Nat) (n : Nat) (l : List Tu) (hn : n = l.length) (hn2 : n ≤ 9223372036854775807) (h : TusAt W a l) :
    Calls Try.prog 4 #[.agg #[.slice a n cap]] W fun e w' => e = .returned (.bool true) ∧ Hid (Below W.heap.size W w') := by
  have HN := hide hn
  have HL := hide h
  clear hn h
  obtain ⟨X, hX⟩ : ∃ X : Nat → Obj → Prop, X = fun c y => c = W.heap.size ∧ y = (.cells #[.slice a n cap] 47 (0, 0)) := ⟨_, rfl⟩
  obtain ⟨w1, hw1⟩ : ∃ w1, W.alloc (.cells #[.slice a n cap] 47) = w1 := ⟨_, rfl⟩
  have hb1 : Below W.heap.size W w1 := by rw [← hw1]; exact (Below.refl _ _).alloc (Nat.le_refl _) _
  have hc1 : w1.heap[W.heap.size]? = some (.cells #[.slice a n cap] 47 (0, 0)) := by rw [← hw1]; exact heap_alloc_new _ _
  have HXc : Hid (∀ w' T' v' A' p, Fx W X w' p T' v' A' → w'.cell? ⟨W.heap.size, 0, none⟩ = some (.slice a n cap)) := hide fun w' T' v' A' p q => by
    have := q.xw W.heap.size _ (by rw [hX]; exact ⟨rfl, rfl⟩)
    exact cell_blk this 0
  have C9 : Hid (Calls Try.prog 9 #[] w1 fun e w' => e = .returned (.bool true) ∧ Hid (Below w1.heap.size w1 w')) := hide (wakes_any w1)
  have C10 : Hid (∀ w2, Hid (Below w1.heap.size w1 w2) → Calls Try.prog 10 #[] w2 fun e w' => ∃ p, e = .returned (.pointer (some ⟨p, 0, none⟩)) ∧ Hid (Fx W X w' p 0 (.slice none 0 0) [])) := hide fun w2 h2 => by
    have hb2 := hb1.trans ((unhide h2).mono hb1.size)
    refine (wa_new W w2 hb2).mono ?_
    rintro e w' ⟨p, rfl, H⟩
    obtain ⟨O, k1, k2, k3⟩ := unhide H
    have hlt := blk_lt hc1
    refine ⟨p, rfl, hide ⟨⟨O, [], ⟨k1, ⟨rfl, .inl ⟨rfl, rfl⟩⟩, fun g hg => (by cases hg), rfl, fun d hd => (by cases hd)⟩, fun b x hx ho => ?_⟩, fun b x hx => ?_⟩⟩
    · rw [hX] at hx
      obtain ⟨rfl, rfl⟩ := hx
      have := k2 _ ho
      have := (unhide h2).size
      omega
    · rw [hX] at hx
      obtain ⟨rfl, rfl⟩ := hx
      have e1 := (unhide h2).block _ hlt
      have e2 := k3.block _ (Nat.lt_of_lt_of_le hlt (unhide h2).size)
      rw [e2, e1]
      exact hc1
  have HNB : Hid (NoBk X) := hide fun b x hx cs fr e => by
    rw [hX] at hx
    rw [hx.2] at e
    cases e
  clear hX hb1 hc1
  go_enter Try.func4, Try.ntmps4
  go_wp2_with fail
  clear hw1
  go_wp2_with (first
    | (go_at_call 9; refine (unhide C9).mono ?_; clear C9; rintro e w2 ⟨rfl, H2⟩)
    | (go_at_call 10; refine (unhide C10 _ H2).mono ?_; clear C10 H2; rintro e w3 ⟨p, rfl, H3⟩))
  go_loopw [4, 5, 6] (fun lv bv iv wr => ∃ (va : Option Addr) (m vc i : Nat), lv = .slice va m vc ∧ bv = .bool true ∧ iv = .int .i64 ((i : Nat) : Int) ∧ i ≤ n ∧ i ≤ 300 ∧ Hid (∃ A T, T ≤ i ∧ m = A.length ∧ Fx W X wr p T (.slice va m vc) A)) (fun _ _ iv _ => 300 - (intOf iv).toNat)
  case atStart => exact ⟨none, 0, 0, 0, rfl, rfl, rfl, Nat.zero_le _, Nat.zero_le _, hide ⟨[], 0, Nat.le_refl _, rfl, unhide H3⟩⟩
  case round =>
    obtain ⟨va, m, vc, i, rfl, rfl, rfl, hi, hi3, HO⟩ := hrel
    clear H3
    obtain ⟨A, T, t1, t2, t3⟩ := unhide HO
    have HM := hide t2
    have HT := hide t1
    have HF := hide t3
    have z0 := unhide HXc _ _ _ _ _ t3
    clear t1 t2 t3 HO
    by_cases hlast : i < n ∧ i < 300
    · obtain ⟨h1, h2⟩ := hlast
      have f1 : decide ((i : Int) < (n : Int)) = true := decide_eq_true (by omega)
      have f2 : decide ((i : Int) < 300) = true := decide_eq_true (by omega)
      have f3 : decide (i < 300) = true := decide_eq_true (by omega)
      have g1 : (0 : Int) ≤ (i : Int) := by omega
      have g2 : (i : Int) < (n : Int) := by omega
      obtain ⟨o, ho⟩ : ∃ o, l[i]? = some o := ⟨_, List.getElem?_eq_getElem (by have := unhide HN; omega)⟩
      obtain ⟨tb, toff, rfl, tlt, tok, e0, e1, e2, e3, e4, e5⟩ := (unhide HL).at ho
      have CT : Hid (Calls Try.prog 18 #[.pointer (some ⟨p, 0, none⟩), .slice va m vc, .agg (tuC o).toArray] wr fun e w' => ∃ va' m' vc', e = .returned (.tuple #[.slice va' m' vc', .bool true]) ∧ Hid (∃ A' T', T' ≤ T + 1 ∧ m' = A'.length ∧ Fx W X w' p T' (.slice va' m' vc') A')) := hide ((turn_any W X wr p T va m vc A o tok (unhide HNB) (by have := unhide HT; omega) (unhide HM) (unhide HF)).mono (fun e w' q => q))
      have hb := (unhide HF).bel
      have q0 := (hb.cell (p := ⟨tb, toff + i * 6, none⟩) tlt).trans e0
      have q1 := (hb.cell (p := ⟨tb, toff + i * 6 + 1, none⟩) tlt).trans e1
      have q2 := (hb.cell (p := ⟨tb, toff + i * 6 + 2, none⟩) tlt).trans e2
      have q3 := (hb.cell (p := ⟨tb, toff + i * 6 + 3, none⟩) tlt).trans e3
      have q4 := (hb.cell (p := ⟨tb, toff + i * 6 + 4, none⟩) tlt).trans e4
      have q5 := (hb.cell (p := ⟨tb, toff + i * 6 + 5, none⟩) tlt).trans e5
      obtain ⟨act, conn, kind, pa, pc, pl, time, tn⟩ := o
      have CU : Hid (Calls Try.prog 18 #[.pointer (some ⟨p, 0, none⟩), .slice va m vc, .agg #[.int .i64 act, .int .i64 conn, .int .i64 kind, .slice pa pl.length pc, .int .u64 (time : Nat), .int .i64 tn]] wr fun e w' => ∃ va' m' vc', e = .returned (.tuple #[.slice va' m' vc', .bool true]) ∧ Hid (∃ A' T', T' ≤ T + 1 ∧ m' = A'.length ∧ Fx W X w' p T' (.slice va' m' vc') A')) := CT
      dsimp only at q0 q1 q2 q3 q4 q5
      clear CT e0 e1 e2 e3 e4 e5 hb tok tlt ho h1
      go_wp2_with (first
        | (go_at_call 18; refine (unhide CU).mono ?_; clear CU z0 q0 q1 q2 q3 q4 q5; rintro e w4 ⟨va2, m2, vc2, rfl, H4⟩; obtain ⟨A2, T2, k1, k2, k3⟩ := unhide H4; have H5 := hide k3; have H6 := hide (And.intro k1 k2); clear k1 k2 k3 H4)
        | (go_at_call 19; refine (fx_lined (unhide H5)).mono ?_; clear H5; rintro e w6 ⟨rfl, H7⟩))
      exact ⟨⟨va2, m2, vc2, i + 1, rfl, rfl, congrArg (Value.int .i64) (by omega), by omega, by omega, hide ⟨A2, T2, by have := (unhide H6).1; have := unhide HT; omega, (unhide H6).2, unhide H7⟩⟩, by simp [intOf]; omega⟩
    rcases Nat.lt_or_ge i n with h1 | h1
    all_goals first
      | (have f1 : decide ((i : Int) < (n : Int)) = true := decide_eq_true (by omega)
         have f2 : decide ((i : Int) < 300) = false := decide_eq_false (by omega)
         have f3 : decide (i < 300) = false := decide_eq_false (by omega)
         have f6 : decide (i < n) = true := decide_eq_true (by omega)
         clear hlast h1
         go_wp2_with fail)
      | (have f1 : decide ((i : Int) < (n : Int)) = false := decide_eq_false (by omega)
         have f6 : decide (i < n) = false := decide_eq_false (by omega)
         clear hlast h1
         go_wp2_with fail)
    all_goals
      go_loopw [4, 5] (fun lv bv wx => ∃ (va' : Option Addr) (m' vc' : Nat), lv = .slice va' m' vc' ∧ bv = .bool true ∧ m' ≤ 8 ∧ Hid (∃ A, m' = A.length ∧ Fx W X wx p T (.slice va' m' vc') A)) (fun lv _ _ => lenFair lv)
      case atStart => exact ⟨va, m, vc, rfl, rfl, by have := (unhide HF).few; have := unhide HM; omega, hide ⟨A, unhide HM, unhide HF⟩⟩
      case round =>
        obtain ⟨va', m', vc', rfl, rfl, hm8, HQ⟩ := hrel
        obtain ⟨A', a1, a2⟩ := unhide HQ
        have HA := hide a1
        have HG := hide a2
        clear HF a1 a2 HQ z0
        by_cases hm0 : m' = 0
        · have f4 : decide ((0 : Int) < (m' : Int)) = false := decide_eq_false (by omega)
          have f5 : decide (0 < m') = false := decide_eq_false (by omega)
          have HM0 := hide hm0
          clear hm0
          go_wp2_with (go_at_call 11; refine (fx_waiting (unhide HG)).mono ?_; rintro e w6 ⟨g6, n6, rfl, H6⟩; obtain ⟨k1, k2⟩ := unhide H6; obtain rfl : n6 = 0 := (by rw [k1, ← unhide HA, unhide HM0]); have H7 := hide k2; clear H6 k1 k2)
          go_ret
          exact ⟨rfl, H7⟩
        · have f4 : decide ((0 : Int) < (m' : Int)) = true := decide_eq_true (by omega)
          have f5 : decide (0 < m') = true := decide_eq_true (by omega)
          have g5 : (0 : Int) < (m' : Int) := by omega
          have g9 : 0 < m' := by omega
          obtain ⟨d, hd⟩ : ∃ d, A'[0]? = some d := ⟨_, List.getElem?_eq_getElem (by have := unhide HA; omega)⟩
          obtain ⟨bv, rfl, -⟩ := (unhide HG).cells hd
          obtain ⟨cur, hcur, hkeep⟩ := (unhide HG).keep
          obtain ⟨X2, hX2⟩ : ∃ X2, X2 = XB X bv (.cells cur 56 (0, 0)) := ⟨_, rfl⟩
          rw [← hX2] at hkeep
          obtain ⟨bv', e9, -, x1, x2, -⟩ := (unhide HG).cells hd
          cases e9
          have hwk := ((unhide HG).wok (List.mem_of_getElem? hd)).1
          have hpl0 := (unhide HG).pls0 (List.mem_of_getElem? hd)
          obtain ⟨⟨cn, kd, pl, tl⟩, pa, pc⟩ := d
          have hmany : 1 ≤ pl.length := hwk.many.1
          have hgood : ∀ z ∈ pl, PGood z := hwk.places
          obtain ⟨x, hx⟩ : ∃ x, pl[0]? = some x := ⟨_, List.getElem?_eq_getElem (by omega)⟩
          have hpx : POk x := (hgood x (List.mem_of_getElem? hx)).ok
          obtain ⟨pb, po, rfl, hlt, hpc⟩ : ∃ pb po, pa = some ⟨pb, po, none⟩ ∧ pb < W.heap.size ∧ W.cell? ⟨pb, po, none⟩ = some (.int .i64 x.1) ∧ W.cell? ⟨pb, po + 1, none⟩ = some (.string (bs x.2)) := by
            rcases hpl0 with h0 | ⟨pb, po, e, hlt, hc⟩
            · have : pl = [] := h0
              rw [this] at hx; cases hx
            · exact ⟨pb, po, e, hlt, by simpa using hc 0 x hx⟩
          have hw : wantsB x kd ⟨cn, kd, pl, tl⟩ = true := by
            unfold wantsB
            rw [decide_eq_true rfl, Bool.true_and]
            exact decide_eq_true (List.mem_of_getElem? hx)
          have HC : Hid (∀ w' v' A'', Fx W X2 w' p T v' A'' → w'.cell? ⟨bv, 1, none⟩ = some (.int .i64 kd) ∧ w'.cell? ⟨bv, 2, none⟩ = some (.slice (some ⟨pb, po, none⟩) pl.length pc) ∧ w'.cell? ⟨pb, po, none⟩ = some (.int .i64 x.1) ∧ w'.cell? ⟨pb, po + 1, none⟩ = some (.string (bs x.2))) := hide fun w' v' A'' q => by
            have e := (q.xw bv _ (by rw [hX2]; exact .inr ⟨rfl, rfl⟩)).trans hcur.symm
            exact ⟨(World.cell?_of_block (a := ⟨bv, 1, none⟩) e).trans (by simpa using x1), (World.cell?_of_block (a := ⟨bv, 2, none⟩) e).trans (by simpa using x2), (q.bel.cell (p := ⟨pb, po, none⟩) hlt).trans hpc.1, (q.bel.cell (p := ⟨pb, po + 1, none⟩) hlt).trans hpc.2⟩
          have HX : Hid (∀ w' v' A'', Fx W X2 w' p T v' A'' → Fx W X w' p T v' A'') := hide fun w' v' A'' q => by rw [hX2] at q; exact q.drop
          have HS := hide (serve_any W X2 wr.drew p T (some ⟨bv, 0, none⟩) m' vc' A' x kd 1 hpx (unhide HA) (hkeep.below ⟨rfl, rfl, rfl, Nat.le_refl _, fun _ _ => rfl⟩))
          obtain ⟨y1, y2, y3, y4⟩ := unhide HC _ _ _ hkeep
          have HW : Hid (Wanted A' x kd) := hide ⟨_, List.mem_of_getElem? hd, hw⟩
          have g6 : (0 : Int) < (pl.length : Int) := by omega
          have g7 : 0 < pl.length := hmany
          clear hpc hlt hpx hx hgood hmany hwk hpl0 x1 x2 hX2 hkeep hcur hw hd
          go_wp2_with fail
          go_region_held3 (fun W => W.cell? ⟨bv, 1, none⟩ = some (.int .i64 kd) ∧ W.cell? ⟨bv, 2, none⟩ = some (.slice (some ⟨pb, po, none⟩) pl.length pc) ∧ W.cell? ⟨pb, po, none⟩ = some (.int .i64 x.1) ∧ W.cell? ⟨pb, po + 1, none⟩ = some (.string (bs x.2))) (go_keep) (first | (go_at_call 20; refine (unhide HS).mono ?_; rintro e w2 ⟨va2, m2, vc2, rfl, H2⟩; obtain ⟨A2, k1, k2, k3⟩ := unhide H2; obtain ⟨c1, c2, c3, c4⟩ := unhide HC _ _ _ k2; have H3 := hide (And.intro k1 (unhide HX _ _ _ k2)); have hm2 : m2 + 1 = m' := k3 (by simp) (unhide HW); clear k1 k2 k3 H2))
          all_goals
            have f6 : ((m2 : Int) != (m' : Int) - 1) = false := by simp; omega
            have HM2 := hide hm2
            have g8 : m2 ≤ 8 := by omega
            clear hm2
            go_wp2_with (go_at_call 19; refine (fx_lined (unhide H3).2).mono ?_; rintro e w6 ⟨rfl, H7⟩)
            exact ⟨⟨va2, m2, vc2, rfl, rfl, g8, hide ⟨A2, (unhide H3).1, unhide H7⟩⟩, by have := unhide HM2; simp [lenFair]; omega⟩
end Go.Proofs.Ytfebiemfmiahhaa
