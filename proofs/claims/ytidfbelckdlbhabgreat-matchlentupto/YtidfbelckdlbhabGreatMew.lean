/- lentMarked: the walk. -/
import Derived.Test.YtidfbelckdlbhabGreatMsa
import Derived.Test.YtidfbelckdlbhabGreatHew
namespace Go.Proofs.YtidfbelckdlbhabGreat
open Go.ChangeShapes Go.WideShapes Go.ChangeAt Go.RowKit
set_option linter.unusedVariables false
set_option linter.unusedSimpArgs false
set_option maxRecDepth 20000
set_option maxHeartbeats 4000000
/-- while the loan lasts: the three lists that were lent -/
structure Lx (w3 W : World) (B : Nat) (p t l : Value) (P T : List Nat) : Prop where
  bel : Below B w3 W
  sz : B < W.heap.size
  lo : ∃ fa fc ka kc F K D, LoAt W B B (.slice fa 3 fc) (.slice ka 3 kc) 3 F K D
  rp : Rws W 5 1 p P.length (byV P)
  rt : Rws W 5 1 t T.length (byV T)
  rl : Rws W 5 1 l (91 :: P).length (byV (91 :: P))
theorem Lx.below {w3 W W' : World} {B : Nat} {p t l : Value} {P T : List Nat} (h : Lx w3 W B p t l P T) (hb : Below W.heap.size W W') : Lx w3 W' B p t l P T := by
  obtain ⟨fa, fc, ka, kc, F, K, D, q⟩ := h.lo
  exact ⟨h.bel.trans (hb.mono (Nat.le_of_lt h.sz)), Nat.lt_of_lt_of_le h.sz hb.size, ⟨fa, fc, ka, kc, F, K, D, q.below hb⟩, h.rp.below hb, h.rt.below hb, h.rl.below hb⟩
structure Ly (w3 W : World) (B : Nat) (p t l x k f : Value) (P T K F : List Nat) (sx : Nat) (so : Obj) : Prop where
  lx : Lx w3 W B p t l P T
  rx : Rws W 5 1 x P.length (byV P)
  rk : Rws W 5 1 k K.length (byV K)
  rf : Rws W 5 1 f F.length (byV F)
  xb : W.heap[sx]? = some so
theorem Ly.below {w3 W W' : World} {B : Nat} {p t l x k f : Value} {P T K F : List Nat} {sx : Nat} {so : Obj} (h : Ly w3 W B p t l x k f P T K F sx so) (hb : Below W.heap.size W W') : Ly w3 W' B p t l x k f P T K F sx so :=
  ⟨h.lx.below hb, h.rx.below hb, h.rk.below hb, h.rf.below hb, (hb.block _ (block_lt h.xb)).trans h.xb⟩
theorem apart6 {p t l x k f : Value × List Nat} (s1 s2 s3 s4 : Nat) (hp : ∀ g, p.1.ownBlock = some g → g < s1) (ht : ∀ g, t.1.ownBlock = some g → s1 ≤ g ∧ g < s2) (hl : ∀ g, l.1.ownBlock = some g → s2 ≤ g ∧ g < s3) (hx : ∀ g, x.1.ownBlock = some g → s3 ≤ g ∧ g < s4) (hk : ∀ g, k.1.ownBlock = some g → s4 ≤ g) (hf : ∀ g, f.1.ownBlock = some g → s4 ≤ g) (kf : ∀ g, k.1.ownBlock = some g → f.1.ownBlock ≠ some g) (h12 : s1 ≤ s2) (h23 : s2 ≤ s3) (h34 : s3 ≤ s4) :
    List.Pairwise (fun x y : Value × List Nat => ∀ g, x.1.ownBlock = some g → y.1.ownBlock ≠ some g) [p, t, l, x, k, f] := by
  simp only [List.pairwise_cons, List.mem_cons, List.not_mem_nil, or_false, forall_eq_or_imp, forall_eq, List.Pairwise.nil, and_true]
  refine ⟨⟨fun g a b => ?_, fun g a b => ?_, fun g a b => ?_, fun g a b => ?_, fun g a b => ?_⟩, ⟨fun g a b => ?_, fun g a b => ?_, fun g a b => ?_, fun g a b => ?_⟩, ⟨fun g a b => ?_, fun g a b => ?_, fun g a b => ?_⟩, ⟨fun g a b => ?_, fun g a b => ?_⟩, fun g a b => kf g a b, fun _ h => by cases h⟩
  · have := hp g a; have := ht g b; omega
  · have := hp g a; have := hl g b; omega
  · have := hp g a; have := hx g b; omega
  · have := hp g a; have := hk g b; omega
  · have := hp g a; have := hf g b; omega
  · have := ht g a; have := hl g b; omega
  · have := ht g a; have := hx g b; omega
  · have := ht g a; have := hk g b; omega
  · have := ht g a; have := hf g b; omega
  · have := hl g a; have := hx g b; omega
  · have := hl g a; have := hk g b; omega
  · have := hl g a; have := hf g b; omega
  · have := hx g a; have := hk g b; omega
  · have := hx g a; have := hf g b; omega
theorem marked_walk (w : World) (b off n cap : Nat) (m : Int) (hn0 : 0 < n) (hn : n ≤ 95325) (hb : b < w.heap.size) (hm : w.cell? ⟨0, 0, none⟩ = some (.int .i64 m))
    (hE : ∀ k, k < n → ∃ x : AskD, AskAt w b (off + k * 18) x ∧ AskOk w x ∧ AskFew x) :
    Calls Tryz.prog 5 #[.agg #[.slice (some ⟨b, off, none⟩) n cap]] w fun e w' => e = .returned (.bool true) ∧ Below w.heap.size w w' := by
  have HE := hide hE
  have HM := hide hm
  have HB := hide hb
  have H00 : Hid (0 < w.heap.size) := hide (by omega)
  obtain ⟨w1, hw1⟩ : ∃ w1, w1 = ((w.alloc (.cells #[.slice (some ⟨b, off, none⟩) n cap] 24)).alloc (.cells #[.slice none 0 0, .slice none 0 0, .int .i64 0, .slice none 0 0, .slice none 0 0, .int .i64 0, .slice none 0 0, .slice none 0 0, .int .i64 0, .slice none 0 0, .slice none 0 0, .int .i64 0, .slice none 0 0, .slice none 0 0, .int .i64 0, .slice none 0 0, .slice none 0 0, .int .i64 0, .slice none 0 0, .slice none 0 0, .int .i64 0, .slice none 0 0, .slice none 0 0, .int .i64 0, .slice none 0 0, .slice none 0 0, .int .i64 0, .slice none 0 0, .slice none 0 0, .int .i64 0, .int .i64 0, .int .i64 0, .int .i64 0] 53)).alloc (.cells #[.int .i64 0] 56) := ⟨_, rfl⟩
  have HW1 := hide hw1
  have B1 : Hid (Below w.heap.size w w1) := hide (by
    rw [hw1]
    exact (((Below.refl _ _).alloc (Nat.le_refl _) _).alloc (by simp) _).alloc (by simp; omega) _)
  have HS1 : Hid (Ms w1 w1 w.heap.size 0 0 [] []) := hide (by
    rw [hw1]
    have z1 := heap_alloc_new (w.alloc (.cells #[.slice (some ⟨b, off, none⟩) n cap] 24)) (.cells #[.slice none 0 0, .slice none 0 0, .int .i64 0, .slice none 0 0, .slice none 0 0, .int .i64 0, .slice none 0 0, .slice none 0 0, .int .i64 0, .slice none 0 0, .slice none 0 0, .int .i64 0, .slice none 0 0, .slice none 0 0, .int .i64 0, .slice none 0 0, .slice none 0 0, .int .i64 0, .slice none 0 0, .slice none 0 0, .int .i64 0, .slice none 0 0, .slice none 0 0, .int .i64 0, .slice none 0 0, .slice none 0 0, .int .i64 0, .slice none 0 0, .slice none 0 0, .int .i64 0, .int .i64 0, .int .i64 0, .int .i64 0] 53)
    have z2 := heap_alloc_new ((w.alloc (.cells #[.slice (some ⟨b, off, none⟩) n cap] 24)).alloc (.cells #[.slice none 0 0, .slice none 0 0, .int .i64 0, .slice none 0 0, .slice none 0 0, .int .i64 0, .slice none 0 0, .slice none 0 0, .int .i64 0, .slice none 0 0, .slice none 0 0, .int .i64 0, .slice none 0 0, .slice none 0 0, .int .i64 0, .slice none 0 0, .slice none 0 0, .int .i64 0, .slice none 0 0, .slice none 0 0, .int .i64 0, .slice none 0 0, .slice none 0 0, .int .i64 0, .slice none 0 0, .slice none 0 0, .int .i64 0, .slice none 0 0, .slice none 0 0, .int .i64 0, .int .i64 0, .int .i64 0, .int .i64 0] 53)) (.cells #[.int .i64 0] 56)
    simp only [size_alloc'] at z1 z2
    refine Ms.start w.heap.size ?_ ?_
    · exact (Below.heap_alloc _ _ _ (by simp)).trans z1
    · exact z2)
  have S1 : Hid (w1.cell? ⟨w.heap.size, 0, none⟩ = some (.slice (some ⟨b, off, none⟩) n cap)) := hide (by
    rw [hw1]
    have z0 := (Below.heap_alloc _ (.cells #[.int .i64 0] 56) _ (by simp; omega)).trans ((Below.heap_alloc _ (.cells #[.slice none 0 0, .slice none 0 0, .int .i64 0, .slice none 0 0, .slice none 0 0, .int .i64 0, .slice none 0 0, .slice none 0 0, .int .i64 0, .slice none 0 0, .slice none 0 0, .int .i64 0, .slice none 0 0, .slice none 0 0, .int .i64 0, .slice none 0 0, .slice none 0 0, .int .i64 0, .slice none 0 0, .slice none 0 0, .int .i64 0, .slice none 0 0, .slice none 0 0, .int .i64 0, .slice none 0 0, .slice none 0 0, .int .i64 0, .slice none 0 0, .slice none 0 0, .int .i64 0, .int .i64 0, .int .i64 0, .int .i64 0] 53) _ (by simp)).trans (heap_alloc_new w (.cells #[.slice (some ⟨b, off, none⟩) n cap] 24)))
    rw [cell_of_row _ _ _ _ _ _ z0]
    rfl)
  clear hE hm hb hw1
  go_enter Tryz.func5, Tryz.ntmps5
  go_wp2
  go_loopw [5] (fun iv wr => ∃ (i q : Nat), iv = .int .i64 (i : Nat) ∧ i ≤ n ∧ i ≤ 60 ∧ q ≤ i * 7400000 ∧ Hid (Ms w1 wr w.heap.size (6 * i) q [] [])) (fun iv _ => n - (intOf iv).toNat)
  case atStart => exact ⟨0, 0, rfl, by omega, by omega, by omega, by rw [← unhide HW1]; exact HS1⟩
  case round =>
    obtain ⟨i, q, rfl, hi, hi6, hq, H0⟩ := hrel
    have hq1 : q ≤ (i + 1) * 7400000 := Nat.le_trans hq (Nat.mul_le_mul_right _ (Nat.le_succ i))
    have hq2 : ∀ k, k ≤ 7340032 → q + k + 200 ≤ (i + 1) * 7400000 := fun k hk => by omega
    have hq3 : q ≤ 444000000 := by omega
    have hq4 : 6 * i ≤ 6 * (i + 1) := by omega
    have c0 : wr.cell? ⟨w.heap.size, 0, none⟩ = some (.slice (some ⟨b, off, none⟩) n cap) := by rw [(unhide H0).cell (Nat.le_refl _)]; exact unhide S1
    have LOOK : Hid (Calls Tryz.prog 21 #[.pointer (some ⟨w.heap.size + 1, 0, none⟩)] wr fun e w' => e = .returned (.bool true) ∧ Hid (Below w.heap.size w w')) := hide ((unhide H0).look.mono (fun e w' h => ⟨h.1, hide ((unhide B1).trans ((unhide h.2).kept.low (unhide B1).size))⟩))
    rcases Nat.lt_or_ge i n with hin | hin
    rotate_left
    · obtain rfl : i = n := by omega
      have f1 : decide ((i : Int) < (i : Int)) = false := decide_eq_false (by omega)
      go_wp2_with (go_at_call 21; refine (unhide LOOK).mono ?_; rintro e w5 ⟨rfl, k5⟩)
      all_goals go_ret
      all_goals exact ⟨rfl, unhide k5⟩
    have f1 : decide ((i : Int) < (n : Int)) = true := decide_eq_true (by omega)
    rcases Nat.lt_or_ge i 60 with hi60 | hi60
    rotate_left
    · obtain rfl : i = 60 := by omega
      have f2 : decide (((60 : Nat) : Int) < 60) = false := by decide
      have f2' : decide ((60 : Int) < 60) = false := by decide
      go_wp2_with (go_at_call 21; refine (unhide LOOK).mono ?_; rintro e w5 ⟨rfl, k5⟩)
      all_goals go_ret
      all_goals exact ⟨rfl, unhide k5⟩
    have f2 : decide ((i : Int) < 60) = true := decide_eq_true (by omega)
    clear LOOK
    obtain ⟨x, hx0, hok, hfew⟩ := unhide HE i hin
    have hx : AskAt wr b (off + i * 18) x := fun j v hj => by
      rw [(unhide H0).cell (Nat.le_of_lt (unhide HB)), (unhide B1).cell (p := ⟨b, off + i * 18 + j, none⟩) (unhide HB)]
      exact hx0 j v hj
    obtain ⟨D, P, aP, cP, T, aT, cT, I, J, N, lf, ls, lo', hf', hs, ho, ff, F, aF, cF, fo, uf, U, aU, cU, uo⟩ := x
    obtain ⟨-, iP, iT, -⟩ := hok
    obtain ⟨fP, fT, -⟩ := hfew
    have IP : Hid (InB w aP cP P) := hide iP
    have IT : Hid (InB w aT cT T) := hide iT
    have FP : Hid (P.length ≤ 1048576) := hide fP
    have FT : Hid (T.length ≤ 1048576) := hide fT
    have HRA : Hid (wr.rangeAt b (off + i * 18) [.int .i64 D, .slice aP P.length cP, .slice aT T.length cT, .int .i64 I, .int .i64 J, .int .i64 N, .int .i64 lf, .int .i64 ls, .bool lo', .int .i64 hf', .int .i64 hs, .bool ho, .int .i64 ff, .slice aF F.length cF, .bool fo, .int .i64 uf, .slice aU U.length cU, .bool uo]) := hide (fun j v hv => hx j v hv)
    clear hx hx0 iP iT fP fT
    have H58 : Hid ((Tryz.prog.info? 58).map (·.size) = some (#[.int .i64 D, .slice aP P.length cP, .slice aT T.length cT, .int .i64 I, .int .i64 J, .int .i64 N, .int .i64 lf, .int .i64 ls, .bool lo', .int .i64 hf', .int .i64 hs, .bool ho, .int .i64 ff, .slice aF F.length cF, .bool fo, .int .i64 uf, .slice aU U.length cU, .bool uo] : Array Value).size) := hide (by kernel_rfl)
    have HONE : Hid ((#[.int .i64 D, .slice aP P.length cP, .slice aT T.length cT, .int .i64 I, .int .i64 J, .int .i64 N, .int .i64 lf, .int .i64 ls, .bool lo', .int .i64 hf', .int .i64 hs, .bool ho, .int .i64 ff, .slice aF F.length cF, .bool fo, .int .i64 uf, .slice aU U.length cU, .bool uo] : Array Value).all (·.oneCell') = true) := hide (by simp [Value.oneCell'])
    have HRB : Hid ((wr.alloc (.cells #[.int .i64 D, .slice aP P.length cP, .slice aT T.length cT, .int .i64 I, .int .i64 J, .int .i64 N, .int .i64 lf, .int .i64 ls, .bool lo', .int .i64 hf', .int .i64 hs, .bool ho, .int .i64 ff, .slice aF F.length cF, .bool fo, .int .i64 uf, .slice aU U.length cU, .bool uo] 58)).rangeAt wr.heap.size 0 [.int .i64 D, .slice aP P.length cP, .slice aT T.length cT, .int .i64 I, .int .i64 J, .int .i64 N, .int .i64 lf, .int .i64 ls, .bool lo', .int .i64 hf', .int .i64 hs, .bool ho, .int .i64 ff, .slice aF F.length cF, .bool fo, .int .i64 uf, .slice aU U.length cU, .bool uo]) := hide (fun j v hv => by rw [cell_of_row _ _ _ _ _ _ (heap_alloc_new _ _), Nat.zero_add, List.getElem?_toArray]; exact hv)
    have KP : Hid (∀ W t q Z X, Ms w1 W w.heap.size t q Z X → Bytes W aP P) := hide (fun W t q Z X h => h.bytes ((unhide IP).1.below (unhide B1)) (fun b off hp e => by
      rcases (unhide IP).1 with q | ⟨b', off', q, hb', _⟩
      · rw [q] at hp; simp at hp
      · rw [e] at q; cases q; omega))
    have KT : Hid (∀ W t q Z X, Ms w1 W w.heap.size t q Z X → Bytes W aT T) := hide (fun W t q Z X h => h.bytes ((unhide IT).1.below (unhide B1)) (fun b off hp e => by
      rcases (unhide IT).1 with q | ⟨b', off', q, hb', _⟩
      · rw [q] at hp; simp at hp
      · rw [e] at q; cases q; omega))
    have H1 : Hid (Ms w1 (wr.alloc (.cells #[.int .i64 D, .slice aP P.length cP, .slice aT T.length cT, .int .i64 I, .int .i64 J, .int .i64 N, .int .i64 lf, .int .i64 ls, .bool lo', .int .i64 hf', .int .i64 hs, .bool ho, .int .i64 ff, .slice aF F.length cF, .bool fo, .int .i64 uf, .slice aU U.length cU, .bool uo] 58)) w.heap.size (6 * i) q [] [(wr.heap.size, Obj.cells #[.int .i64 D, .slice aP P.length cP, .slice aT T.length cT, .int .i64 I, .int .i64 J, .int .i64 N, .int .i64 lf, .int .i64 ls, .bool lo', .int .i64 hf', .int .i64 hs, .bool ho, .int .i64 ff, .slice aF F.length cF, .bool fo, .int .i64 uf, .slice aU U.length cU, .bool uo] 58 (0, 0))]) := hide ((unhide H0).more ((Below.refl _ _).alloc (Nat.le_refl _) _) [] (fun z hz => by cases hz) List.Pairwise.nil [(wr.heap.size, Obj.cells #[.int .i64 D, .slice aP P.length cP, .slice aT T.length cT, .int .i64 I, .int .i64 J, .int .i64 N, .int .i64 lf, .int .i64 ls, .bool lo', .int .i64 hf', .int .i64 hs, .bool ho, .int .i64 ff, .slice aF F.length cF, .bool fo, .int .i64 uf, .slice aU U.length cU, .bool uo] 58 (0, 0))] (fun x hx => by
      obtain rfl := List.mem_singleton.1 hx
      exact ⟨Nat.le_refl _, heap_alloc_new _ _, fun z hz => by cases hz⟩))
    have DG : Hid (∀ W, Calls Tryz.prog 11 #[.agg #[.int .i64 D, .slice aP P.length cP, .slice aT T.length cT, .int .i64 I, .int .i64 J, .int .i64 N, .int .i64 lf, .int .i64 ls, .bool lo', .int .i64 hf', .int .i64 hs, .bool ho, .int .i64 ff, .slice aF F.length cF, .bool fo, .int .i64 uf, .slice aU U.length cU, .bool uo]] W fun e w' => e = .returned (.bool (greatB P.length T.length)) ∧ Below W.heap.size W w') := hide (fun W => great_any aP aT P.length T.length cP cT (.int .i64 D) (.int .i64 I) (.int .i64 J) (.int .i64 N) (.int .i64 lf) (.int .i64 ls) (.bool lo') (.int .i64 hf') (.int .i64 hs) (.bool ho) (.int .i64 ff) (.slice aF F.length cF) (.bool fo) (.int .i64 uf) (.slice aU U.length cU) (.bool uo) W (unhide FP) (unhide FT))
    generalize greatB P.length T.length = G at *
    go_wp2_with (first
      | (refine wpList_load_mid rfl 58 _ rfl b (off + i * 18) rfl [.int .i64 D, .slice aP P.length cP, .slice aT T.length cT, .int .i64 I, .int .i64 J, .int .i64 N, .int .i64 lf, .int .i64 ls, .bool lo', .int .i64 hf', .int .i64 hs, .bool ho, .int .i64 ff, .slice aF F.length cF, .bool fo, .int .i64 uf, .slice aU U.length cU, .bool uo] _ (unhide HRA) Tryz.underlying58 rfl (unhide H58) ?_)
      | (refine wpList_load_mid rfl 58 (.tmp 6) rfl wr.heap.size 0 rfl [.int .i64 D, .slice aP P.length cP, .slice aT T.length cT, .int .i64 I, .int .i64 J, .int .i64 N, .int .i64 lf, .int .i64 ls, .bool lo', .int .i64 hf', .int .i64 hs, .bool ho, .int .i64 ff, .slice aF F.length cF, .bool fo, .int .i64 uf, .slice aU U.length cU, .bool uo] _ (unhide HRB) Tryz.underlying58 rfl (unhide H58) ?_)
      | (refine wpList_store_fresh rfl 58 (.tmp 6) _ rfl _ #[.int .i64 D, .slice aP P.length cP, .slice aT T.length cT, .int .i64 I, .int .i64 J, .int .i64 N, .int .i64 lf, .int .i64 ls, .bool lo', .int .i64 hf', .int .i64 hs, .bool ho, .int .i64 ff, .slice aF F.length cF, .bool fo, .int .i64 uf, .slice aU U.length cU, .bool uo] rfl rfl (unhide H58) rfl (unhide HONE) ?_))
    refine (unhide DG _).mono ?_
    rintro e w2 ⟨rfl, k2⟩
    have H2 := hide ((unhide H1).below k2)
    clear k2 H1 c0 HRA HRB DG
    have fP := unhide FP
    have fT := unhide FT
    cases G with
    | true =>
      have H3 := hide (unhide H2).forget
      go_wp2_with fail
      go_roundw
      case rel => exact ⟨i + 1, q, by go_num, hin, hi60, hq1, hide ((unhide H3).later hq4)⟩
      case measure => simp [intOf]; omega
    | false =>
      have xA := (unhide H2).at _ _ (List.mem_cons_self ..)
      have x1 : w2.cell? ⟨wr.heap.size, 1, none⟩ = some (.slice aP P.length cP) := by rw [cell_of_row _ _ _ _ _ _ xA]; rfl
      have x2 : w2.cell? ⟨wr.heap.size, 2, none⟩ = some (.slice aT T.length cT) := by rw [cell_of_row _ _ _ _ _ _ xA]; rfl
      have q1 := hq3
      have q2 : 4 * P.length + 3 * T.length ≤ 7340032 := by omega
      have TK := takes_any w2 (w.heap.size + 1 + 1) q (4 * P.length + 3 * T.length) #[] (unhide H2).budget (Nat.le_trans q1 (by decide)) (Nat.le_trans q2 (by decide))
      have e4 : ((4 * P.length + 3 * T.length : Nat) : Int) = 4 * (P.length : Int) + 3 * (T.length : Int) := by simp
      rw [e4] at TK
      obtain ⟨w3, hw3⟩ : ∃ w3, w3 = w2.setCell ⟨w.heap.size + 1 + 1, 0, none⟩ (.int .i64 ((q + (4 * P.length + 3 * T.length) + 200 : Nat) : Int)) := ⟨_, rfl⟩
      rw [← hw3] at TK
      have H3 : Hid (Ms w1 w3 w.heap.size (6 * i) (q + (4 * P.length + 3 * T.length) + 200) [] [(wr.heap.size, Obj.cells #[.int .i64 D, .slice aP P.length cP, .slice aT T.length cT, .int .i64 I, .int .i64 J, .int .i64 N, .int .i64 lf, .int .i64 ls, .bool lo', .int .i64 hf', .int .i64 hs, .bool ho, .int .i64 ff, .slice aF F.length cF, .bool fo, .int .i64 uf, .slice aU U.length cU, .bool uo] 58 (0, 0))]) := hide (by rw [hw3]; exact (unhide H2).spend)
      have HTK := hide (TK.mono (fun e w' h => (⟨h.1, h.2.symm⟩ : e = .returned (.bool (decide (q + (4 * P.length + 3 * T.length) + 200 ≤ 4194304))) ∧ w3 = w')))
      clear TK hw3 xA H2 e4
      generalize decide (q + (4 * P.length + 3 * T.length) + 200 ≤ 4194304) = Gt at *
      have g4 : (0 : Int) ≤ (P.length : Int) := by omega
      have g5 : (0 : Int) ≤ (T.length : Int) := by omega
      have g6 : (P.length : Int) ≤ 1048576 := by omega
      have g7 : (T.length : Int) ≤ 1048576 := by omega
      cases Gt with
      | false =>
        have H4 := hide (unhide H3).forget
        go_wp2_with (go_at_call 12; refine (unhide HTK).mono ?_; rintro e w3' ⟨rfl, rfl⟩)
        go_roundw
        case rel => exact ⟨i + 1, _, by go_num, hin, hi60, hq2 _ q2, hide ((unhide H4).later hq4)⟩
        case measure => simp [intOf]; omega
      | true =>
        have xA := (unhide H3).at _ _ (List.mem_cons_self ..)
        have lA := block_lt xA
        have y1 : (w3.alloc (.cells #[.slice none 0 0, .slice none 0 0, .slice none 0 0, .slice none 0 0] 63)).cell? ⟨wr.heap.size, 1, none⟩ = some (.slice aP P.length cP) := by
          rw [cell_of_row _ _ _ _ _ _ ((Below.heap_alloc _ _ _ lA).trans xA)]; rfl
        have L4 : Hid (LoAt (w3.alloc (.cells #[.slice none 0 0, .slice none 0 0, .slice none 0 0, .slice none 0 0] 63)) w3.heap.size w3.heap.size (.slice none 0 0) (.slice none 0 0) 0 (fun _ => undef) (fun _ => undef) (fun _ => [])) := hide (LoAt.start _ (heap_alloc_new _ _))
        have b4 : Hid (Below w3.heap.size w3 (w3.alloc (.cells #[.slice none 0 0, .slice none 0 0, .slice none 0 0, .slice none 0 0] 63))) := hide ((Below.refl _ _).alloc (Nat.le_refl _) _)
        have PB : Hid (∀ W, Below w3.heap.size w3 W → Bytes W aP P ∧ Bytes W aT T) := hide (fun W hW => ⟨(unhide KP _ _ _ _ _ (unhide H3)).below hW, (unhide KT _ _ _ _ _ (unhide H3)).below hW⟩)
        have AA : Hid (∀ W, Below w3.heap.size w3 W → W.cell? ⟨wr.heap.size, 1, none⟩ = some (.slice aP P.length cP) ∧ W.cell? ⟨wr.heap.size, 2, none⟩ = some (.slice aT T.length cT)) := hide (fun W hW => by
          have g0 := (hW.block _ lA).trans xA
          exact ⟨by rw [cell_of_row _ _ _ _ _ _ g0]; rfl, by rw [cell_of_row _ _ _ _ _ _ g0]; rfl⟩)
        have s4 : (w3.alloc (.cells #[.slice none 0 0, .slice none 0 0, .slice none 0 0, .slice none 0 0] 63)).heap.size = w3.heap.size + 1 := by simp
        go_wp2_with (go_at_call 12; refine (unhide HTK).mono ?_; rintro e w3' ⟨rfl, rfl⟩)
        refine (lobytes_any _ w3.heap.size w3.heap.size none none 0 0 0 cP (fun _ => undef) (fun _ => undef) (fun _ => []) aP P (unhide L4) (by omega) (unhide PB _ (unhide b4)).1 (by omega) (by omega)).mono ?_
        rintro e w5 ⟨a5, c5, rfl, k5⟩
        clear HTK y1 L4 x1 x2
        obtain ⟨r5, o5, d5, fa5, fc5, ka5, kc5, K5, l5⟩ := unhide k5
        clear k5
        have b5 : Hid (Below w3.heap.size w3 w5) := hide ((unhide b4).trans d5)
        have L5 := hide l5
        have O5 : Hid (∀ g, (Value.slice a5 P.length c5).ownBlock = some g → w3.heap.size ≤ g ∧ g < w5.heap.size) := hide (fun g hg => ⟨by have := o5 g hg; omega, r5.lt g hg⟩)
        have z5 : Hid (w3.heap.size < w5.heap.size) := hide (by have := d5.size; omega)
        clear r5 o5 d5 l5 b4 s4
        have y2 := (unhide AA w5 (unhide b5)).2
        go_wp2_with fail
        refine (lobytes_any _ w3.heap.size w3.heap.size _ _ _ _ 1 cT _ _ _ aT T (unhide L5) (Nat.le_of_lt (unhide z5)) (unhide PB _ (unhide b5)).2 (by omega) (by omega)).mono ?_
        rintro e w6 ⟨a6, c6, rfl, k6⟩
        clear y2 L5
        obtain ⟨r6, o6, d6, fa6, fc6, ka6, kc6, K6, l6⟩ := unhide k6
        clear k6
        have b6 : Hid (Below w3.heap.size w3 w6) := hide ((unhide b5).trans d6)
        have L6 := hide l6
        have O6 : Hid (∀ g, (Value.slice a6 T.length c6).ownBlock = some g → w5.heap.size ≤ g ∧ g < w6.heap.size) := hide (fun g hg => ⟨o6 g hg, r6.lt g hg⟩)
        have z6 : Hid (w5.heap.size ≤ w6.heap.size) := hide d6.size
        clear r6 o6 d6 l6 b5
        have kc7 := Lib.run_convert_bytes_const (P := Tryz.prog) w6 34 5 #[.int .u8 91] 1 1 Tryz.underlying34 Tryz.underlying5
        have b6' : Hid (Below w3.heap.size w3 (w6.alloc (.cells #[.int .u8 91] 5 (1, 2)))) := hide ((unhide b6).alloc (unhide b6).size _)
        have y1 := (unhide AA _ (unhide b6')).1
        have g7' : Hid ((w6.alloc (.cells #[.int .u8 91] 5 (1, 2))).cell? ⟨w6.heap.size, 0, none⟩ = some (.int .u8 (91 : Nat))) := hide (by
          have := heap_alloc_new w6 (.cells #[.int .u8 91] 5 (1, 2))
          rw [cell_of_row _ _ _ _ _ _ this]; rfl)
        go_wp2_with (at_builtin; refine wpList_app1 rfl _ _ rfl rfl w6.heap.size 91 P aP P.length cP rfl rfl (unhide g7') rfl (unhide PB _ (unhide b6')).1 (unhide IP).2.2.2.2.2 (by omega) ?_; intro a7 c7 w7 y7 z7 q7 r7)
        have d7 : Below w6.heap.size w6 w7 := ((Below.refl _ _).alloc (Nat.le_refl _) _).trans (z7.mono (by simp))
        have b7 : Hid (Below w3.heap.size w3 w7) := hide ((unhide b6).trans (d7.mono (unhide b6).size))
        have z7' : Hid (w6.heap.size ≤ w7.heap.size) := hide d7.size
        refine (lobytes_any _ w3.heap.size w3.heap.size _ _ _ _ 2 c7 _ _ _ a7 (91 :: P) ((unhide L6).below d7) (unhide b7).size y7 (by rw [List.length_cons]; omega) (by omega)).mono ?_
        rintro e w8 ⟨a8, c8, rfl, k8⟩
        clear kc7 b6' y1 g7' y7 z7 q7 r7 d7 L6 b6
        obtain ⟨r8, o8, d8, fa8, fc8, ka8, kc8, K8, l8⟩ := unhide k8
        clear k8
        have O8 : Hid (∀ g, (Value.slice a8 (P.length + 1) c8).ownBlock = some g → w6.heap.size ≤ g ∧ g < w8.heap.size) := hide (fun g hg => ⟨by have := o8 g hg; have := unhide z7'; omega, r8.lt g hg⟩)
        have z8 : Hid (w6.heap.size ≤ w8.heap.size) := hide (by have := d8.size; have := unhide z7'; omega)
        have L8 : Hid (Lx w3 w8 w3.heap.size (.slice a5 P.length c5) (.slice a6 T.length c6) (.slice a8 (P.length + 1) c8) P T) := hide ⟨(unhide b7).trans d8, by have := unhide z5; have := unhide z6; have := unhide z8; omega, ⟨_, _, _, _, _, _, _, l8⟩, l8.row 0 (by decide) _ _ _ rfl rfl, l8.row 1 (by decide) _ _ _ rfl rfl, r8⟩
        clear r8 o8 d8 l8 b7 z7'
        simp only [List.length_cons] at *
        as_aux_lemma =>
          have rp := (unhide L8).rp.inb'
          have rt := (unhide L8).rt.inb'
          go_wp2_with fail
          refine (glob_any a5 a6 c5 c6 w8 P T (by omega) (by omega) (unhide IP).2.1 (unhide IT).2.1 rp.1 rt.1).mono ?_
          rintro e w9 ⟨r9, rfl, -, k9⟩
          have L9 := hide ((unhide L8).below k9)
          have z9 : Hid (w8.heap.size ≤ w9.heap.size) := hide k9.size
          clear rp rt k9 L8
          have rp := (unhide L9).rp.inb'
          go_wp2_with fail
          refine (fold_any a5 c5 w9 P (by omega) (unhide IP).2.1 rp.1).mono ?_
          rintro e w10 ⟨rfl, k10⟩
          have L10 := hide ((unhide L9).below k10)
          have z10 : Hid (w8.heap.size ≤ w10.heap.size) := hide (Nat.le_trans (unhide z9) k10.size)
          clear rp k10 L9 z9
          have rp := (unhide L10).rp.inb'
          go_wp2_with fail
          refine (score_any a5 c5 w10 P (by omega) (unhide IP).2.1 rp.2.1 rp.2.2.1 rp.1).mono ?_
          rintro e w11 ⟨rfl, k11⟩
          have L11 := hide ((unhide L10).below k11)
          have z11 : Hid (w8.heap.size ≤ w11.heap.size) := hide (Nat.le_trans (unhide z10) k11.size)
          clear rp k11 L10 z10
          generalize boundV (Larder.scoreRes P) = bv at *
          have rp := (unhide L11).rp.inb'
          have rt := (unhide L11).rt.inb'
          go_wp2_with fail
          refine (inlex_any 0 false 0 false w11 (unhide IP).2.1 (unhide IT).2.1 (unhide IT).2.1 rp.1 rt.1 rt.1).mono ?_
          rintro e w12 ⟨rfl, k12⟩
          have L12 := hide ((unhide L11).below k12)
          have z12 : Hid (w8.heap.size ≤ w12.heap.size) := hide (Nat.le_trans (unhide z11) k12.size)
          clear rp rt k12 L11 z11
          generalize Larder.inB 0 (Larder.cmpL T P) false 0 (Larder.cmpL T T) false = ib at *
          have rl := (unhide L12).rl.inb'
          go_wp2_with fail
          refine (lex_of P a8 c8 w12 (by omega) (unhide IP).2.1 rl.1 rl.2.1).mono ?_
          rintro e w13 ⟨a13, c13, rfl, k13⟩
          have b13 : Below w13.heap.size w13 (w13.alloc (.cells #[.int .i64 0, .slice a13 P.length c13, .bool false] 36)) := (Below.refl _ _).alloc (Nat.le_refl _) _
          have L13 := hide (((unhide L12).below (unhide k13).2).below b13)
          have R13 := hide ((unhide k13).1.rws.below b13)
          have z13 : Hid (w8.heap.size ≤ w13.heap.size) := hide (Nat.le_trans (unhide z12) (unhide k13).2.size)
          have O13 : Hid (∀ g, (Value.slice a13 P.length c13).ownBlock = some g → w8.heap.size ≤ g ∧ g < w13.heap.size) := hide (fun g hg => ⟨Nat.le_trans (unhide z12) ((unhide k13).1.ge g hg), (unhide k13).1.rws.lt g hg⟩)
          clear rl k13 b13 L12 z12
          have rp := (unhide L13).rp.inb'
          have rt := (unhide L13).rt.inb'
          have m13 : Hid ((w13.alloc (.cells #[.int .i64 0, .slice a13 P.length c13, .bool false] 36)).cell? ⟨0, 0, none⟩ = some (.int .i64 m)) := hide (((unhide L13).bel.cell (p := ⟨0, 0, none⟩) (Nat.lt_of_le_of_lt (Nat.zero_le _) (unhide H3).lt)).trans (((unhide H3).cell (Nat.zero_le _)).trans (((unhide B1).cell (p := ⟨0, 0, none⟩) (unhide H00)).trans (unhide HM))))
          have p13 : Hid (0 < (w13.alloc (.cells #[.int .i64 0, .slice a13 P.length c13, .bool false] 36)).heap.size) := hide (by simp)
          go_wp2_with fail
          refine (fill_any a5 a6 c5 c6 _ P T m fP fT (unhide IP).2.1 rp.1 rt.1 rp.2.1 rp.2.2.1 rp.2.2.2 rt.2.2.2 (unhide m13) (unhide p13)).mono ?_
          rintro e w15 ⟨a15, c15, b15, d15, K15, F15, s15, rfl, i15, -, -, bel15, o15, q15, ap15⟩
          have L15 : Hid (Ly w3 w15 w3.heap.size (.slice a5 P.length c5) (.slice a6 T.length c6) (.slice a8 (P.length + 1) c8) (.slice a13 P.length c13) (.slice a15 K15.length c15) (.slice b15 F15.length d15) P T K15 F15 w13.heap.size (.cells #[.int .i64 0, .slice a13 P.length c13, .bool false] 36 (0, 0))) := hide ⟨(unhide L13).below bel15, (unhide R13).below bel15, o15.rws, q15.rws, (bel15.block _ (by simp)).trans (heap_alloc_new _ _)⟩
          have O15 : Hid ((∀ g, (Value.slice a15 K15.length c15).ownBlock = some g → w13.heap.size + 1 ≤ g) ∧ (∀ g, (Value.slice b15 F15.length d15).ownBlock = some g → w13.heap.size + 1 ≤ g) ∧ ∀ g, (Value.slice a15 K15.length c15).ownBlock = some g → (Value.slice b15 F15.length d15).ownBlock ≠ some g) := hide ⟨fun g hg => by have := o15.ge g hg; simpa using this, fun g hg => by have := q15.ge g hg; simpa using this, ap15⟩
          have I15 := hide i15
          clear bel15 o15 q15 ap15 i15 rp rt m13 p13 L13 R13
          have SS : Hid (∀ w', Below w15.heap.size w15 w' → w'.cell? ⟨w13.heap.size, 1, none⟩ = some (.slice a13 P.length c13) ∧ w'.cell? ⟨wr.heap.size, 1, none⟩ = some (.slice aP P.length cP) ∧ w'.cell? ⟨wr.heap.size, 2, none⟩ = some (.slice aT T.length cT)) := hide (fun w' hb => by
            have g1 := (hb.block _ (block_lt (unhide L15).xb)).trans (unhide L15).xb
            have g2 := unhide AA w' ((unhide L15).lx.bel.trans (hb.mono (Nat.le_of_lt (unhide L15).lx.sz)))
            exact ⟨by rw [cell_of_row _ _ _ _ _ _ g1]; rfl, g2.1, g2.2⟩)
          have TT : ∀ {f : Nat} {args : Array Value} {r : Value}, (∀ W, Below w15.heap.size w15 W → Calls Tryz.prog f args W fun e w' => e = .returned r ∧ Below W.heap.size W w') → Hid (∀ W, Hid (Below w15.heap.size w15 W) → Calls Tryz.prog f args W fun e w' => e = .returned r ∧ Hid (Below w15.heap.size w15 w') ∧ w'.cell? ⟨w13.heap.size, 1, none⟩ = some (.slice a13 P.length c13) ∧ w'.cell? ⟨wr.heap.size, 1, none⟩ = some (.slice aP P.length cP) ∧ w'.cell? ⟨wr.heap.size, 2, none⟩ = some (.slice aT T.length cT)) := fun h => hide (fun W hW => by
            refine (h W (unhide hW)).mono ?_
            rintro e w' ⟨h1, h2⟩
            have b : Below w15.heap.size w15 w' := (unhide hW).trans (h2.mono (unhide hW).size)
            exact ⟨h1, hide b, unhide SS w' b⟩)
          have rx := (unhide L15).rx.inb'
          have pa := (unhide PB w15 (unhide L15).lx.bel).1
          have E1 := TT (r := .bool true) (fun W hW => (eq_any (c1 := c13) (c2 := cP) (la := P) (lb := P) (by omega) (by omega) (rx.1.below hW) (pa.below hW)).mono (fun e w' h => ⟨by rw [h.1, decide_eq_true rfl], h.2.below⟩))
          have EB := TT (f := 18) (args := #[.pointer (some ⟨w3.heap.size, 0, none⟩)]) (r := .bool true) (fun W hW => by
            obtain ⟨fa, fc, ka, kc, F', K', D', q⟩ := (unhide L15).lx.lo
            exact (loback_any W w3.heap.size w3.heap.size fa ka fc kc 3 F' K' D' (q.below hW)).mono (fun e w' h => ⟨h.1, (unhide h.2).below⟩))
          obtain ⟨q0, qa, qb⟩ := unhide SS w15 (Below.refl _ _)
          have kd2 : Hid (Below w15.heap.size w15 w15) := hide (Below.refl _ _)
          clear TT SS rx pa
          go_wp2_with (first
            | (go_at_call 17; with_reducible refine (unhide E1 _ (by assumption)).mono ?_; rintro e w16 ⟨rfl, k16, s16, t16, v16⟩)
            | (go_at_call 18; with_reducible refine (unhide EB _ (by assumption)).mono ?_; rintro e w16 ⟨rfl, k16, s16, t16, v16⟩))
          have L16 := hide ((unhide L15).below (unhide k16))
          have pp := unhide PB w16 (unhide L16).lx.bel
          refine (rfill_any aP aT cP cT _ P T fP fT (unhide IP).2.1 pp.1 pp.2 (unhide IP).2.2.1 (unhide IP).2.2.2.1 (unhide IT).2.2.2.2.2).mono ?_
          rintro e w17 ⟨a17, c17, b17, d17, K17, F17, s17, rfl, i17, bk17, bf17, bel17⟩
          obtain ⟨rfl, rfl, rfl⟩ := (unhide I15).one i17
          have LEN := Larder.FillIs.len (s := s15) (unhide I15)
          have L17 := hide ((unhide L16).below bel17)
          have BK := hide bk17
          have BF := hide bf17
          clear k16 s16 t16 v16 pp i17 bk17 bf17 bel17 L16 L15 E1 EB q0 qa qb kd2 I15
          have rk := (unhide L17).rk.inb'
          have rf := (unhide L17).rf.inb'
          have TT : ∀ {f : Nat} {args : Array Value} {r : Value}, (∀ W, Below w17.heap.size w17 W → Calls Tryz.prog f args W fun e w' => e = .returned r ∧ Below W.heap.size W w') → Hid (∀ W, Hid (Below w17.heap.size w17 W) → Calls Tryz.prog f args W fun e w' => e = .returned r ∧ Hid (Below w17.heap.size w17 w')) := fun h => hide (fun W hW => by
            refine (h W (unhide hW)).mono ?_
            rintro e w' ⟨h1, h2⟩
            exact ⟨h1, hide ((unhide hW).trans (h2.mono (unhide hW).size))⟩)
          have E2 := TT (r := .bool true) (fun W hW => (eq_any (c1 := c15) (c2 := c17) (la := K15) (lb := K15) (by omega) (by omega) (rk.1.below hW) ((unhide BK).below hW)).mono (fun e w' h => ⟨by rw [h.1, decide_eq_true rfl], h.2.below⟩))
          have E3 := TT (r := .bool true) (fun W hW => (eq_any (c1 := d15) (c2 := d17) (la := F15) (lb := F15) (by omega) (by omega) (rf.1.below hW) ((unhide BF).below hW)).mono (fun e w' h => ⟨by rw [h.1, decide_eq_true rfl], h.2.below⟩))
          have kd2 : Hid (Below w17.heap.size w17 w17) := hide (Below.refl _ _)
          clear TT rk rf BK BF
          go_wp2_with (first
            | (go_at_call 17; first | (with_reducible refine (unhide E2 _ (by assumption)).mono ?_; rintro e w18 ⟨rfl, k18⟩) | (with_reducible refine (unhide E3 _ (by assumption)).mono ?_; rintro e w18 ⟨rfl, k18⟩)))
          have H18 : Hid (Ms w1 w18 w.heap.size (6 * i) (q + (4 * P.length + 3 * T.length) + 200) [(.slice a5 P.length c5, P), (.slice a6 T.length c6, T), (.slice a8 (P.length + 1) c8, 91 :: P), (.slice a13 P.length c13, P), (.slice a15 K15.length c15, K15), (.slice b15 F15.length d15, F15)] ([(w13.heap.size, Obj.cells #[.int .i64 0, .slice a13 P.length c13, .bool false] 36 (0, 0))] ++ [(wr.heap.size, Obj.cells #[.int .i64 D, .slice aP P.length cP, .slice aT T.length cT, .int .i64 I, .int .i64 J, .int .i64 N, .int .i64 lf, .int .i64 ls, .bool lo', .int .i64 hf', .int .i64 hs, .bool ho, .int .i64 ff, .slice aF F.length cF, .bool fo, .int .i64 uf, .slice aU U.length cU, .bool uo] 58 (0, 0))])) := hide (by
            have L18 := (unhide L17).below (unhide k18)
            have t5 := unhide z5
            have t6 := unhide z6
            have t8 := unhide z8
            have t13 := unhide z13
            have ok := unhide O15
            refine (unhide H3).more L18.lx.bel _ (fun z hz => ?_) (apart6 w5.heap.size w6.heap.size w8.heap.size w13.heap.size (fun g hg => (unhide O5 g hg).2) (fun g hg => unhide O6 g hg) (fun g hg => unhide O8 g hg) (fun g hg => unhide O13 g hg) (fun g hg => by have := ok.1 g hg; omega) (fun g hg => by have := ok.2.1 g hg; omega) ok.2.2 t6 t8 t13) _ (fun x hx => ?_)
            · simp only [List.mem_cons, List.not_mem_nil, or_false] at hz
              rcases hz with rfl | rfl | rfl | rfl | rfl | rfl
              · exact ⟨L18.lx.rp, fun g hg => (unhide O5 g hg).1⟩
              · exact ⟨L18.lx.rt, fun g hg => by have := (unhide O6 g hg).1; omega⟩
              · exact ⟨L18.lx.rl, fun g hg => by have := (unhide O8 g hg).1; omega⟩
              · exact ⟨L18.rx, fun g hg => by have := (unhide O13 g hg).1; omega⟩
              · exact ⟨L18.rk, fun g hg => by have := ok.1 g hg; omega⟩
              · exact ⟨L18.rf, fun g hg => by have := ok.2.1 g hg; omega⟩
            · obtain rfl := List.mem_singleton.1 hx
              refine ⟨by show w3.heap.size ≤ w13.heap.size; omega, L18.xb, fun z hz e => ?_⟩
              simp only [List.mem_cons, List.not_mem_nil, or_false] at hz
              rcases hz with rfl | rfl | rfl | rfl | rfl | rfl
              · have := (unhide O5 _ e).2; simp only at this; omega
              · have := (unhide O6 _ e).2; simp only at this; omega
              · have := (unhide O8 _ e).2; simp only at this; omega
              · have := (unhide O13 _ e).2; simp only at this; omega
              · have := ok.1 _ e; simp only at this; omega
              · have := ok.2.1 _ e; simp only at this; omega)
          clear E2 E3 kd2 k18 L17 O5 O6 O8 O13 O15 z5 z6 z8 z13 H3
          as_aux_lemma =>
            refine ((unhide H18).hand (Below.refl _ _) (by omega) (by omega)).mono ?_
            rintro e w19 ⟨rfl, H19⟩
            clear H18
            go_wp2_with fail
            refine ((unhide H19).hand (Below.refl _ _) (by omega) (by omega)).mono ?_
            rintro e w20 ⟨rfl, H20⟩
            clear H19
            go_wp2_with fail
            refine ((unhide H20).hand (Below.refl _ _) (by omega) (by rw [List.length_cons]; omega)).mono ?_
            rintro e w21 ⟨rfl, H21⟩
            clear H20
            have y21 : w21.cell? ⟨w13.heap.size, 1, none⟩ = some (.slice a13 P.length c13) := by rw [cell_of_row _ _ _ _ _ _ ((unhide H21).at _ _ (List.mem_cons_self ..))]; rfl
            go_wp2_with fail
            refine ((unhide H21).hand (Below.refl _ _) (by omega) (by omega)).mono ?_
            rintro e w22 ⟨rfl, H22⟩
            clear H21 y21
            go_wp2_with fail
            refine ((unhide H22).hand (Below.refl _ _) (by omega) (by omega)).mono ?_
            rintro e w23 ⟨rfl, H23⟩
            clear H22
            go_wp2_with fail
            refine ((unhide H23).hand (Below.refl _ _) (by omega) (by omega)).mono ?_
            rintro e w24 ⟨rfl, H24⟩
            clear H23
            go_wp2_with fail
            refine ((unhide H24).look).mono ?_
            rintro e w25 ⟨rfl, H25⟩
            clear H24
            have H26 := hide ((unhide H25).forget.later (show 6 * i + 1 + 1 + 1 + 1 + 1 + 1 ≤ 6 * (i + 1) by omega))
            go_wp2_with fail
            go_roundw
            case rel => exact ⟨i + 1, _, by go_num, hin, hi60, hq2 _ q2, H26⟩
            case measure => simp [intOf]; omega
end Go.Proofs.YtidfbelckdlbhabGreat
