/- alike: two Posts that hold the same. -/
import Derived.Test.YtjmnddcombepaaaPsm
namespace Go.Proofs.Ytjmnddcombepaaa
open Go.ChangeShapes Go.WideShapes Go.ChangeAt Go.RowKit Go.Maps Go.Sort
set_option linter.unusedVariables false
set_option linter.unusedSimpArgs false
set_option maxRecDepth 100000
set_option maxHeartbeats 8000000

theorem hearN_perm {S S' : List Key} (h : S.Perm S') (T : List UInt8) (M : List (List UInt8)) : ∀ n, hearN S T M n = hearN S' T M n
  | 0 => rfl
  | n + 1 => by
    simp only [hearN]
    rw [hearN_perm h T M n]
    have e1 : hearT S T n = hearT S' T n := by
      unfold hearT
      by_cases hm : ((n : Int), T, false) ∈ S
      · rw [if_pos hm, if_pos (h.mem_iff.1 hm)]
      · rw [if_neg hm, if_neg (fun e => hm (h.mem_iff.2 e))]
    have e2 : hearP S n M = hearP S' n M := by
      unfold hearP
      congr 1
      apply List.filter_congr
      intro P _
      rw [decide_eq_decide]
      exact h.mem_iff
    rw [e1, e2]
theorem hearL_perm {G : List UInt8 → List UInt8 → Bool} {S S' : List Key} (h : S.Perm S') (T : List UInt8) : hearL G S T = hearL G S' T := by
  unfold hearL metL unlikeL
  rw [textsL_perm h, hearN_perm h]
theorem chanL_perm {G : List UInt8 → List UInt8 → Bool} {S S' : List Key} (h : S.Perm S') (P : List UInt8) : chanL G S P = chanL G S' P := by
  unfold chanL unlikeL
  rw [textsL_perm h]
theorem namesL_perm {S S' : List Key} (h : S.Perm S') (c : Int) (q : Bool) : namesL S c q = namesL S' c q := textsL_perm h _
theorem unlikeL_perm {S S' : List Key} (h : S.Perm S') (q : Bool) : unlikeL S q = unlikeL S' q := textsL_perm h _
theorem hearL_len (G : List UInt8 → List UInt8 → Bool) (S : List Key) (T : List UInt8) : (hearL G S T).length ≤ 8 * (S.length + 1) := by
  have h1 := hearN_len S T (metL G S T) 8
  have h2 : (metL G S T).length ≤ S.length := Nat.le_trans (List.length_filter_le _ _) (textsL_len S _)
  unfold hearL
  have : 8 * ((metL G S T).length + 1) ≤ 8 * (S.length + 1) := Nat.mul_le_mul_left _ (by omega)
  omega
/-- seats in memory -/
def SeatsAt (W : World) (a : Option Addr) (l : List Key) : Prop := l = [] ∨ ∃ b off, a = some ⟨b, off, none⟩ ∧ b < W.heap.size ∧ ∀ i x, l[i]? = some x → W.cell? ⟨b, off + i * 3, none⟩ = some (.int .i64 x.1) ∧ (∃ na nc, W.cell? ⟨b, off + i * 3 + 1, none⟩ = some (.slice na x.2.1.length nc) ∧ Bytes W na (nb x.2.1)) ∧ W.cell? ⟨b, off + i * 3 + 2, none⟩ = some (.bool x.2.2)
theorem SeatsAt.below {W W' : World} {a : Option Addr} {l : List Key} (h : SeatsAt W a l) (hb : Below W.heap.size W W') : SeatsAt W' a l := by
  rcases h with h | ⟨b, off, e, hlt, hc⟩
  · exact .inl h
  · refine .inr ⟨b, off, e, Nat.lt_of_lt_of_le hlt hb.size, fun i x hx => ?_⟩
    obtain ⟨h0, ⟨na, nc, h1, h2⟩, h3⟩ := hc i x hx
    exact ⟨(hb.cell hlt).trans h0, ⟨na, nc, (hb.cell hlt).trans h1, h2.below hb⟩, (hb.cell hlt).trans h3⟩
theorem conv_back (W : World) (na : Option Addr) (nc : Nat) (T : List UInt8) (h : Bytes W na (nb T)) : (convert 23 9 (.slice na T.length nc)).run Try.prog W = .ok (.string (bs T)) W := by
  have := conv_any na nc W (nb T) h
  rw [nb_len] at this
  rw [this]
  congr 2
  unfold strOfNums bs nb
  congr 2
  rw [List.map_map, List.map_map]
  conv => rhs; rw [← List.map_id T]
  apply List.map_congr_left
  intro x _
  simp
/-- a list was told -/
structure T1 (W wr : World) (v : Value) (l : List (List UInt8)) : Prop where
  bel : Below W.heap.size W wr
  own : ∃ base, OwnS wr base v l
structure T2 (W wr : World) (v v' : Value) (l : List (List UInt8)) : Prop where
  bel : Below W.heap.size W wr
  own : ∃ base, OwnS wr base v l
  own' : ∃ base, OwnS wr base v' l
structure H1 (W wr : World) (v : Value) (l : List Hit) : Prop where
  bel : Below W.heap.size W wr
  own : ∃ base, OwnH wr base v l
structure H2 (W wr : World) (v v' : Value) (l : List Hit) : Prop where
  bel : Below W.heap.size W wr
  own : ∃ base, OwnH wr base v l
  own' : ∃ base, OwnH wr base v' l
theorem T1.of {W wr w' : World} {f : Nat} {args : Array Value} {l : List (List UInt8)} (hb : Below W.heap.size W wr) (h : Calls Try.prog f args wr (SEnd wr l)) : Calls Try.prog f args wr fun e w' => ∃ a n cap, e = .returned (.slice a n cap) ∧ n = l.length ∧ Hid (T1 W w' (.slice a n cap) l) :=
  h.mono (fun e w' ⟨a, n, cap, h1, h2⟩ => ⟨a, n, cap, h1, (unhide h2).2.2, hide ⟨hb.trans ((unhide h2).2.1.mono hb.size), ⟨_, (unhide h2).1⟩⟩⟩)
theorem T1.then {W wr : World} {v : Value} {f : Nat} {args : Array Value} {l : List (List UInt8)} (h1 : T1 W wr v l) (h : Calls Try.prog f args wr (SEnd wr l)) : Calls Try.prog f args wr fun e w' => ∃ a n cap, e = .returned (.slice a n cap) ∧ n = l.length ∧ Hid (T2 W w' v (.slice a n cap) l) :=
  h.mono (fun e w' ⟨a, n, cap, e1, h2⟩ => by
    obtain ⟨base, ho⟩ := h1.own
    exact ⟨a, n, cap, e1, (unhide h2).2.2, hide ⟨h1.bel.trans ((unhide h2).2.1.mono h1.bel.size), ⟨base, ho.below (unhide h2).2.1⟩, ⟨_, (unhide h2).1⟩⟩⟩)
theorem T2.same {W wr : World} {a a' : Option Addr} {n n' cap cap' : Nat} {l : List (List UInt8)} (h : T2 W wr (.slice a n cap) (.slice a' n' cap') l) (hn : n = l.length) (hn' : n' = l.length) (hl : l.length < 4611686018427387904) : Calls Try.prog 41 #[.slice a n cap, .slice a' n' cap'] wr fun e w' => e = .returned (.bool true) ∧ Hid (Below W.heap.size W w') := by
  obtain ⟨b1, o1⟩ := h.own
  obtain ⟨b2, o2⟩ := h.own'
  exact (sameTexts_any wr b1 b2 a a' n n' cap cap' l o1 o2 hn hn' hl).mono (fun e w' ⟨e1, h2⟩ => ⟨e1, hide (h.bel.trans ((unhide h2).mono h.bel.size))⟩)
theorem H1.of {W wr : World} {f : Nat} {args : Array Value} {l : List Hit} (hb : Below W.heap.size W wr) (h : Calls Try.prog f args wr (HEnd wr l)) : Calls Try.prog f args wr fun e w' => ∃ a n cap, e = .returned (.slice a n cap) ∧ n = l.length ∧ Hid (H1 W w' (.slice a n cap) l) :=
  h.mono (fun e w' ⟨a, n, cap, h1, h2⟩ => ⟨a, n, cap, h1, (unhide h2).2.2, hide ⟨hb.trans ((unhide h2).2.1.mono hb.size), ⟨_, (unhide h2).1⟩⟩⟩)
theorem H1.then {W wr : World} {v : Value} {f : Nat} {args : Array Value} {l : List Hit} (h1 : H1 W wr v l) (h : Calls Try.prog f args wr (HEnd wr l)) : Calls Try.prog f args wr fun e w' => ∃ a n cap, e = .returned (.slice a n cap) ∧ n = l.length ∧ Hid (H2 W w' v (.slice a n cap) l) :=
  h.mono (fun e w' ⟨a, n, cap, e1, h2⟩ => by
    obtain ⟨base, ho⟩ := h1.own
    exact ⟨a, n, cap, e1, (unhide h2).2.2, hide ⟨h1.bel.trans ((unhide h2).2.1.mono h1.bel.size), ⟨base, ho.below (unhide h2).2.1⟩, ⟨_, (unhide h2).1⟩⟩⟩)
theorem H2.same {W wr : World} {a a' : Option Addr} {n n' cap cap' : Nat} {l : List Hit} (h : H2 W wr (.slice a n cap) (.slice a' n' cap') l) (hn : n = l.length) (hn' : n' = l.length) (hl : l.length < 4611686018427387) : Calls Try.prog 42 #[.slice a n cap, .slice a' n' cap'] wr fun e w' => e = .returned (.bool true) ∧ Hid (Below W.heap.size W w') := by
  obtain ⟨b1, o1⟩ := h.own
  obtain ⟨b2, o2⟩ := h.own'
  exact (sameHits_any wr b1 b2 a a' n n' cap cap' l o1 o2 hn hn' hl).mono (fun e w' ⟨e1, h2⟩ => ⟨e1, hide (h.bel.trans ((unhide h2).mono h.bel.size))⟩)
theorem alike_any (G : List UInt8 → List UInt8 → Bool) (hG : GlobIs G) (W : World) (p q bp bq : Nat) (Dp Dq : Dt) (S S' : List Key) (la : Option Addr) (ln lc : Nat) (l : List Key) (C : List UInt8) (hp : PostAt W p bp Dp S) (hq : PostAt W q bq Dq S') (hs : S.Perm S') (hS : S.length ≤ 1000000) (hk : ∀ k ∈ S, k.2.1.length ≤ 4096) (hl : SeatsAt W la l) (hln : ln = l.length) (hl64 : ∀ x ∈ l, x.2.1.length ≤ 4096) (hlb : ln ≤ 1000000) (hC : C.length ≤ 140737488355328) :
    Calls Try.prog 23 #[.pointer (some ⟨p, 0, none⟩), .pointer (some ⟨q, 0, none⟩), .slice la ln lc, .string (bs C)] W fun e w' => e = .returned (.bool true) ∧ Hid (Below W.heap.size W w') := by
  have hS' : S'.length ≤ 1000000 := by rw [← hs.length_eq]; exact hS
  have hk' : ∀ k ∈ S', k.2.1.length ≤ 4096 := fun k h => hk k (hs.mem_iff.2 h)
  have hkb : ∀ k ∈ S, k.2.1.length ≤ 281474976710656 := fun k h => Nat.le_trans (hk k h) (by decide)
  have hkb' : ∀ k ∈ S', k.2.1.length ≤ 281474976710656 := fun k h => Nat.le_trans (hk' k h) (by decide)
  have PB : ∀ {wr}, Below W.heap.size W wr → PostAt wr p bp Dp S ∧ PostAt wr q bq Dq S' := fun h => ⟨hp.below h, hq.below h⟩
  have C1 : Hid (∀ wr c, Hid (Below W.heap.size W wr) → Calls Try.prog 13 #[.pointer (some ⟨p, 0, none⟩), .int .i64 c] wr fun e w' => e = .returned (.int .i64 (cntC S c : Nat)) ∧ Hid (Below W.heap.size W w')) := hide (fun wr c h => (count_any wr p bp Dp S c (PB (unhide h)).1 (by omega)).mono (fun e w' ⟨h1, h2⟩ => ⟨h1, hide ((unhide h).trans ((unhide h2).mono (unhide h).size))⟩))
  have C2 : Hid (∀ wr c, Hid (Below W.heap.size W wr) → Calls Try.prog 13 #[.pointer (some ⟨q, 0, none⟩), .int .i64 c] wr fun e w' => e = .returned (.int .i64 (cntC S c : Nat)) ∧ Hid (Below W.heap.size W w')) := hide (fun wr c h => by
    rw [cntC_perm hs]
    exact (count_any wr q bq Dq S' c (PB (unhide h)).2 (by omega)).mono (fun e w' ⟨h1, h2⟩ => ⟨h1, hide ((unhide h).trans ((unhide h2).mono (unhide h).size))⟩))
  have N1 : Hid (∀ wr c k, Hid (Below W.heap.size W wr) → Calls Try.prog 25 #[.pointer (some ⟨p, 0, none⟩), .int .i64 c, .bool k] wr fun e w' => ∃ a n cap, e = .returned (.slice a n cap) ∧ n = (namesL S c k).length ∧ Hid (T1 W w' (.slice a n cap) (namesL S c k))) := hide (fun wr c k h => T1.of (w' := wr) (unhide h) (names_any wr p bp Dp S c k (PB (unhide h)).1 (by omega) hkb))
  have N2 : Hid (∀ wr c k v, Hid (T1 W wr v (namesL S c k)) → Calls Try.prog 25 #[.pointer (some ⟨q, 0, none⟩), .int .i64 c, .bool k] wr fun e w' => ∃ a n cap, e = .returned (.slice a n cap) ∧ n = (namesL S c k).length ∧ Hid (T2 W w' v (.slice a n cap) (namesL S c k))) := hide (fun wr c k v h => T1.then (unhide h) (by rw [namesL_perm hs]; exact names_any wr q bq Dq S' c k (PB (unhide h).bel).2 (by omega) hkb'))
  have NL : Hid (∀ c k, (namesL S c k).length < 4611686018427387904) := hide (fun c k => by have := textsL_len S (fun x => decide (x.1 = c) && (x.2.2 == k)); unfold namesL; omega)
  have TS : Hid (∀ wr a n cap a' n' cap' l, Hid (T2 W wr (.slice a n cap) (.slice a' n' cap') l) → n = l.length → n' = l.length → l.length < 4611686018427387904 → Calls Try.prog 41 #[.slice a n cap, .slice a' n' cap'] wr fun e w' => e = .returned (.bool true) ∧ Hid (Below W.heap.size W w')) := hide (fun wr a n cap a' n' cap' l h h1 h2 h3 => (unhide h).same h1 h2 h3)
  have HS : Hid (∀ wr a n cap a' n' cap' l, Hid (H2 W wr (.slice a n cap) (.slice a' n' cap') l) → n = l.length → n' = l.length → l.length < 4611686018427387 → Calls Try.prog 42 #[.slice a n cap, .slice a' n' cap'] wr fun e w' => e = .returned (.bool true) ∧ Hid (Below W.heap.size W w')) := hide (fun wr a n cap a' n' cap' l h h1 h2 h3 => (unhide h).same h1 h2 h3)
  have E1 : Hid (∀ wr T, T.length ≤ 140737488355328 → Hid (Below W.heap.size W wr) → Calls Try.prog 14 #[.pointer (some ⟨p, 0, none⟩), .string (bs T)] wr fun e w' => ∃ a n cap, e = .returned (.slice a n cap) ∧ n = (hearL G S T).length ∧ Hid (H1 W w' (.slice a n cap) (hearL G S T))) := hide (fun wr T hT h => H1.of (unhide h) (heard_any G hG wr p bp Dp S T (PB (unhide h)).1 (by omega) hk hT))
  have E2 : Hid (∀ wr T v, T.length ≤ 140737488355328 → Hid (H1 W wr v (hearL G S T)) → Calls Try.prog 14 #[.pointer (some ⟨q, 0, none⟩), .string (bs T)] wr fun e w' => ∃ a n cap, e = .returned (.slice a n cap) ∧ n = (hearL G S T).length ∧ Hid (H2 W w' v (.slice a n cap) (hearL G S T))) := hide (fun wr T v hT h => H1.then (unhide h) (by rw [hearL_perm hs]; exact heard_any G hG wr q bq Dq S' T (PB (unhide h).bel).2 (by omega) hk' hT))
  have EL : Hid (∀ T, (hearL G S T).length < 4611686018427387) := hide (fun T => by have := hearL_len G S T; omega)
  have L1 : Hid (∀ wr T, T.length ≤ 140737488355328 → Hid (Below W.heap.size W wr) → Calls Try.prog 16 #[.pointer (some ⟨p, 0, none⟩), .string (bs T)] wr fun e w' => e = .returned (.int .i64 (cntT S T : Nat)) ∧ Hid (Below W.heap.size W w')) := hide (fun wr T hT h => (listeners_any wr p bp Dp S T (PB (unhide h)).1 (by omega) (by omega)).mono (fun e w' ⟨h1, h2⟩ => ⟨h1, hide ((unhide h).trans ((unhide h2).mono (unhide h).size))⟩))
  have L2 : Hid (∀ wr T, T.length ≤ 140737488355328 → Hid (Below W.heap.size W wr) → Calls Try.prog 16 #[.pointer (some ⟨q, 0, none⟩), .string (bs T)] wr fun e w' => e = .returned (.int .i64 (cntT S T : Nat)) ∧ Hid (Below W.heap.size W w')) := hide (fun wr T hT h => by
    rw [cntT_perm hs]
    exact (listeners_any wr q bq Dq S' T (PB (unhide h)).2 (by omega) (by omega)).mono (fun e w' ⟨h1, h2⟩ => ⟨h1, hide ((unhide h).trans ((unhide h2).mono (unhide h).size))⟩))
  have K1 : Hid (∀ wr P, P.length ≤ 1073741824 → Hid (Below W.heap.size W wr) → Calls Try.prog 21 #[.pointer (some ⟨p, 0, none⟩), .string (bs P)] wr fun e w' => ∃ a n cap, e = .returned (.slice a n cap) ∧ n = (chanL G S P).length ∧ Hid (T1 W w' (.slice a n cap) (chanL G S P))) := hide (fun wr P hP h => T1.of (w' := wr) (unhide h) (channels_any G hG wr p bp Dp S P (PB (unhide h)).1 (by omega) hk hP))
  have K2 : Hid (∀ wr P v, P.length ≤ 1073741824 → Hid (T1 W wr v (chanL G S P)) → Calls Try.prog 21 #[.pointer (some ⟨q, 0, none⟩), .string (bs P)] wr fun e w' => ∃ a n cap, e = .returned (.slice a n cap) ∧ n = (chanL G S P).length ∧ Hid (T2 W w' v (.slice a n cap) (chanL G S P))) := hide (fun wr P v hP h => T1.then (unhide h) (by rw [chanL_perm hs]; exact channels_any G hG wr q bq Dq S' P (PB (unhide h).bel).2 (by omega) hk' hP))
  have KL : Hid (∀ P, (chanL G S P).length < 4611686018427387904) := hide (fun P => by
    have := textsL_len S (fun x => x.2.2 == false)
    have h2 : (chanL G S P).length ≤ (textsL S (fun x => x.2.2 == false)).length := List.length_filter_le _ _
    omega)
  have P1 : Hid (∀ wr, Hid (Below W.heap.size W wr) → Calls Try.prog 43 #[.pointer (some ⟨p, 0, none⟩)] wr fun e w' => e = .returned (.int .i64 ((unlikeL S true).length : Nat)) ∧ Hid (Below W.heap.size W w')) := hide (fun wr h => (patterns_any wr p bp Dp S (PB (unhide h)).1 (by omega) hkb).mono (fun e w' ⟨h1, h2⟩ => ⟨h1, hide ((unhide h).trans ((unhide h2).mono (unhide h).size))⟩))
  have P2 : Hid (∀ wr, Hid (Below W.heap.size W wr) → Calls Try.prog 43 #[.pointer (some ⟨q, 0, none⟩)] wr fun e w' => e = .returned (.int .i64 ((unlikeL S true).length : Nat)) ∧ Hid (Below W.heap.size W w')) := hide (fun wr h => by
    rw [unlikeL_perm hs]
    exact (patterns_any wr q bq Dq S' (PB (unhide h)).2 (by omega) hkb').mono (fun e w' ⟨h1, h2⟩ => ⟨h1, hide ((unhide h).trans ((unhide h2).mono (unhide h).size))⟩))
  have HL := hide hl
  have HN := hide hln
  have H64 := hide hl64
  clear PB hp hq hl hln hl64 hk hk' hkb hkb'
  go_enter Try.func23, Try.ntmps23
  go_wp2_with fail
  go_loopw [9] (fun cv wr => ∃ k : Nat, cv = .int .i64 ((k : Int) - 1) ∧ k ≤ 10 ∧ Hid (Below W.heap.size W wr)) (fun cv _ => (9 - intOf cv).toNat)
  case atStart => exact ⟨0, by simp, by omega, hide (Below.refl _ _)⟩
  case round =>
    obtain ⟨k, rfl, hk, HB⟩ := hrel
    by_cases hk10 : k < 10
    · have f1 : decide ((k : Int) - 1 ≤ 8) = true := decide_eq_true (by omega)
      obtain ⟨c, hc⟩ : ∃ c : Int, c = (k : Int) - 1 := ⟨_, rfl⟩
      rw [← hc] at f1 ⊢
      have hcb : -1 ≤ c ∧ c ≤ 8 := by omega
      have HC := hide hc
      have g0 : ∀ x : Nat, (((x : Nat) : Int) != ((x : Nat) : Int)) = false := fun x => by simp
      clear hc
      go_wp2_with (first
        | (go_at_call 13; with_reducible refine (unhide C2 _ c k1).mono ?_; rintro e w2 ⟨rfl, k2⟩)
        | (go_at_call 13; with_reducible refine (unhide C1 _ c HB).mono ?_; rintro e w1 ⟨rfl, k1⟩)
        | (go_at_call 25; with_reducible refine (unhide N2 _ c false _ k6).mono ?_; rintro e w7 ⟨a7, n7, c7, rfl, h7, k7⟩; replace h7 := hide h7)
        | (go_at_call 25; with_reducible refine (unhide N1 _ c false k5).mono ?_; rintro e w6 ⟨a6, n6, c6, rfl, h6, k6⟩; replace h6 := hide h6)
        | (go_at_call 25; with_reducible refine (unhide N2 _ c true _ k3).mono ?_; rintro e w4 ⟨a4, n4, c4, rfl, h4, k4⟩; replace h4 := hide h4)
        | (go_at_call 25; with_reducible refine (unhide N1 _ c true k2).mono ?_; rintro e w3 ⟨a3, n3, c3, rfl, h3, k3⟩; replace h3 := hide h3)
        | (go_at_call 41; with_reducible refine (unhide TS _ _ _ _ _ _ _ _ k7 (unhide h6) (unhide h7) (unhide NL _ _)).mono ?_; rintro e w8 ⟨rfl, k8⟩)
        | (go_at_call 41; with_reducible refine (unhide TS _ _ _ _ _ _ _ _ k4 (unhide h3) (unhide h4) (unhide NL _ _)).mono ?_; rintro e w5 ⟨rfl, k5⟩))
      all_goals go_roundw
      case rel => exact ⟨k + 1, by rw [unhide HC]; go_num, by omega, k8⟩
      case measure => have hcc := unhide HC; simp only [intOf]; omega
    · have e9 : (k : Int) - 1 = 9 := by omega
      rw [e9]
      have f1' : decide ((9 : Int) ≤ 8) = false := by decide
      clear hk10 hk e9
      go_wp2_with fail
      go_loopw [10] (fun cv wr => ∃ k : Nat, cv = .int .i64 (k : Nat) ∧ k ≤ ln ∧ Hid (RowKit.Below W.heap.size W wr)) (fun cv _ => ln - (intOf cv).toNat)
      case atStart => exact ⟨0, rfl, Nat.zero_le _, HB⟩
      case round =>
        clear HB
        obtain ⟨i, rfl, hi, HB⟩ := hrel
        by_cases hlt : i < ln
        · have f2 : decide ((i : Int) < (ln : Int)) = true := decide_eq_true (by omega)
          have g1 : (0 : Int) ≤ (i : Int) := by omega
          have g2 : (i : Int) < (ln : Int) := by omega
          have hil : i < l.length := by rw [← unhide HN]; exact hlt
          obtain ⟨b, off, rfl, hbl, hc⟩ : ∃ b off, la = some ⟨b, off, none⟩ ∧ b < W.heap.size ∧ ∀ i x, l[i]? = some x → W.cell? ⟨b, off + i * 3, none⟩ = some (.int .i64 x.1) ∧ (∃ na nc, W.cell? ⟨b, off + i * 3 + 1, none⟩ = some (.slice na x.2.1.length nc) ∧ Bytes W na (nb x.2.1)) ∧ W.cell? ⟨b, off + i * 3 + 2, none⟩ = some (.bool x.2.2) := by
            rcases unhide HL with h | h
            · rw [h] at hil; exact absurd hil (Nat.not_lt_zero _)
            · exact h
          obtain ⟨-, ⟨na, nc, h1, h2⟩, -⟩ := hc i l[i] (List.getElem?_eq_getElem hil)
          have hT64 : l[i].2.1.length ≤ 4096 := unhide H64 _ (List.getElem_mem hil)
          have c1 : wr.cell? ⟨b, off + i * 3 + 1, none⟩ = some (.slice na l[i].2.1.length nc) := ((unhide HB).cell (p := ⟨b, off + i * 3 + 1, none⟩) hbl).trans h1
          have HBy := h2.below (unhide HB)
          have R1 := conv_back wr na nc _ HBy
          generalize l[i].2.1 = T at hT64 c1 HBy R1
          have hT1 : T.length ≤ 140737488355328 := by omega
          have hT2 : T.length ≤ 1073741824 := by omega
          have g0 : ∀ x : Nat, (((x : Nat) : Int) != ((x : Nat) : Int)) = false := fun x => by simp
          clear hc h1 h2 hil HBy
          go_wp2_with (first
            | (go_at_call 14; with_reducible refine (unhide E2 _ T _ hT1 k1).mono ?_; rintro e w2 ⟨a2, n2, c2, rfl, h2, k2⟩; replace h2 := hide h2)
            | (go_at_call 14; with_reducible refine (unhide E1 _ T hT1 HB).mono ?_; rintro e w1 ⟨a1, n1, c1, rfl, h1, k1⟩; replace h1 := hide h1)
            | (go_at_call 42; with_reducible refine (unhide HS _ _ _ _ _ _ _ _ k2 (unhide h1) (unhide h2) (unhide EL _)).mono ?_; rintro e w3 ⟨rfl, k3⟩)
            | (go_at_call 16; with_reducible refine (unhide L2 _ T hT1 k4).mono ?_; rintro e w5 ⟨rfl, k5⟩)
            | (go_at_call 16; with_reducible refine (unhide L1 _ T hT1 k3).mono ?_; rintro e w4 ⟨rfl, k4⟩)
            | (go_at_call 21; with_reducible refine (unhide K2 _ T _ hT2 k6).mono ?_; rintro e w7 ⟨a7, n7, c7, rfl, h7, k7⟩; replace h7 := hide h7)
            | (go_at_call 21; with_reducible refine (unhide K1 _ T hT2 k5).mono ?_; rintro e w6 ⟨a6, n6, c6, rfl, h6, k6⟩; replace h6 := hide h6)
            | (go_at_call 41; with_reducible refine (unhide TS _ _ _ _ _ _ _ _ k7 (unhide h6) (unhide h7) (unhide KL _)).mono ?_; rintro e w8 ⟨rfl, k8⟩))
          all_goals go_roundw
          case rel => exact ⟨i + 1, by go_num, by omega, k8⟩
          case measure => simp [intOf]; omega
        · obtain rfl : i = ln := by omega
          have f2 : decide ((i : Int) < (i : Int)) = false := decide_eq_false (by omega)
          have hT2 : ([42] : List UInt8).length ≤ 1073741824 := by decide
          have hbs : ByteArray.mk #[42] = bs [42] := rfl
          have g0 : ((((unlikeL S true).length : Nat) : Int) == (((unlikeL S true).length : Nat) : Int)) = true := by simp
          go_wp2_with (first
            | (go_at_call 14; with_reducible refine (unhide E2 _ C _ hC k1).mono ?_; rintro e w2 ⟨a2, n2, c2, rfl, h2, k2⟩; replace h2 := hide h2)
            | (go_at_call 14; with_reducible refine (unhide E1 _ C hC HB).mono ?_; rintro e w1 ⟨a1, n1, c1, rfl, h1, k1⟩; replace h1 := hide h1)
            | (go_at_call 42; with_reducible refine (unhide HS _ _ _ _ _ _ _ _ k2 (unhide h1) (unhide h2) (unhide EL _)).mono ?_; rintro e w3 ⟨rfl, k3⟩)
            | (go_at_call 21; with_reducible refine (unhide K2 _ [42] _ hT2 k6).mono ?_; rintro e w7 ⟨a7, n7, c7, rfl, h7, k7⟩; replace h7 := hide h7)
            | (go_at_call 21; with_reducible refine (unhide K1 _ [42] hT2 k3).mono ?_; rintro e w6 ⟨a6, n6, c6, rfl, h6, k6⟩; replace h6 := hide h6)
            | (go_at_call 41; with_reducible refine (unhide TS _ _ _ _ _ _ _ _ k7 (unhide h6) (unhide h7) (unhide KL _)).mono ?_; rintro e w8 ⟨rfl, k8⟩)
            | (go_at_call 43; with_reducible refine (unhide P2 _ k9).mono ?_; rintro e w10 ⟨rfl, k10⟩)
            | (go_at_call 43; with_reducible refine (unhide P1 _ k8).mono ?_; rintro e w9 ⟨rfl, k9⟩))
          go_ret
          exact ⟨rfl, k10⟩
end Go.Proofs.Ytjmnddcombepaaa
