/- DeleteFunc of a list of texts. -/
import Derived.Test.YtjmnddcombepaaaPch
namespace Go.Proofs.Ytjmnddcombepaaa
open Go.ChangeShapes Go.WideShapes Go.ChangeAt Go.RowKit Go.Maps Go.Sort
set_option linter.unusedVariables false
set_option linter.unusedSimpArgs false
set_option maxRecDepth 100000
set_option maxHeartbeats 4000000

theorem DelAt.start {W wr : World} {base g cap k : Nat} {l : List (List UInt8)} {pr : List UInt8 → Bool} (h : OwnS W base (.slice (some ⟨g, 0, none⟩) l.length cap) l) (hb : Below W.heap.size W wr) (hB : base ≤ W.heap.size) (hk : k < l.length) (hp : pr (l.getD k []) = true) (hq : ∀ j, j < k → pr (l.getD j []) = false) : DelAt W wr base g cap l pr k (k + 1) l := by
  refine ⟨hb.mono hB, hb.size, h.below hb, rfl, ?_, rfl, Nat.lt_succ_self _⟩
  rw [take_snoc hk, List.filter_append]
  have e1 : (l.take k).filter (fun T => !pr T) = l.take k := by
    rw [List.filter_eq_self]
    intro T hT
    obtain ⟨j, hj, rfl⟩ := List.mem_iff_getElem.1 hT
    have hj2 : j < k := by rw [List.length_take] at hj; omega
    have := hq j hj2
    rw [List.getD_eq_getElem?_getD, List.getElem?_eq_getElem (by omega)] at this
    rw [List.getElem_take]
    simpa using this
  rw [e1]
  simp only [List.filter_cons, List.filter_nil, hp, Bool.not_true, Bool.false_eq_true, if_false, List.append_nil]
theorem DelAt.done {W wr : World} {base g cap i : Nat} {l c : List (List UInt8)} {pr : List UInt8 → Bool} (h : DelAt W wr base g cap l pr i l.length c) (hg : base ≤ g) : OwnS (wr.setCells g i (List.replicate (l.length - i) (.string ⟨#[]⟩))) base (.slice (some ⟨g, 0, none⟩) i cap) (l.filter (fun T => !pr T)) ∧ Below base W (wr.setCells g i (List.replicate (l.length - i) (.string ⟨#[]⟩))) ∧ i = (l.filter (fun T => !pr T)).length := by
  have hf := h.fst
  rw [List.take_length] at hf
  have hil : i = (l.filter (fun T => !pr T)).length := by
    rw [← hf, List.length_take, h.len]
    have := h.le
    omega
  refine ⟨?_, scs_below hg _ _ _ h.bel, hil⟩
  have ho := h.own
  generalize hn : l.length = n at ho
  rcases ho.2 with ⟨e, _⟩ | ⟨g', cap', cur, e, k1, k2, k3, k4, k5, k6⟩
  · cases e
  · cases e
    obtain ⟨cur', q1, q2, q3⟩ := scs_block g 9 (List.replicate (l.length - i) (.string ⟨#[]⟩)) wr i cur k2
    have hlen := h.len
    have hle := h.le
    rw [hn] at q1
    refine ⟨by simp, .inr ⟨g, cap, cur', by rw [← hil], k1, q1, by omega, k4, by omega, ?_⟩⟩
    rw [Nat.mul_one] at k6 ⊢
    rw [← hil, ← hf]
    apply List.ext_getElem?
    intro k
    by_cases hk : k < i
    · rw [List.getElem?_take_of_lt hk, Array.getElem?_toList, q3 k hk, ← Array.getElem?_toList]
      have e2 : (cur.toList.take c.length)[k]? = (c.map encStr)[k]? := by rw [k6]
      rw [List.getElem?_take_of_lt (by omega)] at e2
      rw [e2, List.getElem?_map, List.getElem?_map, List.getElem?_take_of_lt hk]
    · rw [List.getElem?_eq_none (by rw [List.length_take]; omega), List.getElem?_eq_none (by rw [List.length_map, List.length_take]; omega)]
theorem delete_own (W : World) (base g : Nat) (lb : Array Value) (a : Option Addr) (n cap : Nat) (l : List (List UInt8)) (pr : List UInt8 → Bool) (h : OwnS W base (.slice a n cap) l) (hn : n = l.length) (hl : l.length < 4611686018427387904) (hb : base ≤ W.heap.size) (eg : ∀ args w, (callFunc g args).run Try.prog w = .ok (.enter g args) w) (hp : PredS W base g lb l pr) :
    Calls Try.prog 36 #[.slice a n cap, .func (.func g) #[] lb] W fun e w' => ∃ n', e = .returned (.slice a n' cap) ∧ Hid (OwnS w' base (.slice a n' cap) (l.filter (fun T => !pr T)) ∧ Below base W w' ∧ n' = (l.filter (fun T => !pr T)).length) := by
  have CI := hide (idx_own W base g lb a n cap l pr h hn hl hb eg hp)
  have HO := hide h
  have HP := hide hp
  have HN := hide hn
  have hnl : n < 4611686018427387904 := by omega
  clear h hp hl hn
  go_enter Try.func36, Try.ntmps36
  go_wp2_with fail
  refine (unhide CI).mono ?_
  rintro e w1 ⟨i, rfl, k1⟩
  rcases (unhide k1).1 with ⟨rfl, hall⟩ | ⟨k, hk, rfl, hpk, hq⟩
  · have HA : Hid (OwnS w1 base (.slice a n cap) (l.filter (fun T => !pr T)) ∧ Below base W w1 ∧ n = (l.filter (fun T => !pr T)).length) := hide (by
      have e1 : l.filter (fun T => !pr T) = l := by
        rw [List.filter_eq_self]
        intro T hT
        rw [hall T hT]
        rfl
      rw [e1]
      exact ⟨(unhide HO).below (unhide k1).2, (unhide k1).2.mono hb, unhide HN⟩)
    clear hall k1 CI
    go_wp2
    go_ret
    exact ⟨n, rfl, HA⟩
  · have hkn : k < n := by rw [unhide HN]; exact hk
    obtain ⟨gb, rfl, -, hgl, -⟩ := (unhide HO).cell hk
    have hbg : base ≤ gb := ((unhide HO).ge gb rfl).1
    have HD0 : Hid (DelAt W w1 base gb cap l pr k (k + 1) l) := hide (DelAt.start (by rw [← unhide HN]; exact unhide HO) (unhide k1).2 hb hk hpk hq)
    have hcap : n ≤ cap := by
      have ho := unhide HO
      rw [unhide HN] at ho ⊢
      rcases ho.2 with ⟨e, _⟩ | ⟨g', cap', cur, e, q1, q2, q3, q4, q5, q6⟩
      · cases e
      · cases e
        exact q3
    have f0 : ((k : Int) == -1) = false := by rw [beq_eq_false_iff_ne]; omega
    have f0' : decide ((k : Int) = -1) = false := decide_eq_false (by omega)
    clear hpk hq k1 CI hk
    go_wp2_with fail
    go_loopw [5, 6] (fun iv jv wr => ∃ (i j : Nat) (c : List (List UInt8)), iv = .int .i64 (i : Nat) ∧ jv = .int .i64 (j : Nat) ∧ i < j ∧ j ≤ n ∧ Hid (DelAt W wr base gb cap l pr i j c)) (fun _ jv _ => n - (intOf jv).toNat)
    case atStart => exact ⟨k, k + 1, l, rfl, by go_num, Nat.lt_succ_self _, hkn, HD0⟩
    case round =>
      obtain ⟨i, j, c, rfl, rfl, hij, hj, HD⟩ := hrel
      by_cases hlt : j < n
      · have f1 : decide ((j : Int) < (n : Int)) = true := decide_eq_true (by omega)
        have g1 : (0 : Int) ≤ (j : Int) := by omega
        have g2 : (j : Int) < (n : Int) := by omega
        have g3 : (0 : Int) ≤ (i : Int) := by omega
        have g4 : (i : Int) < (n : Int) := by omega
        have hjl : Hid (j < l.length) := hide (by rw [← unhide HN]; exact hlt)
        have hc2 := (unhide HD).cell (unhide hjl)
        have hBr : Hid (base ≤ wr.heap.size) := hide (Nat.le_trans hb (unhide HD).sz)
        have CG : Hid (Calls Try.prog g (#[.string (bs (l.getD j []))] ++ lb) wr fun e w' => e = .returned (.bool (pr (l.getD j []))) ∧ Hid (DelAt W w' base gb cap l pr i j c) ∧ (∃ u, w'.cell? ⟨gb, i, none⟩ = some u) ∧ w'.frozen? ⟨gb, i, none⟩ = false) := hide ((unhide HP wr _ (getD_mem (unhide hjl)) (unhide HD).bel (unhide hBr)).mono (fun e w' ⟨h1, h2⟩ => by
          have hd := (unhide HD).pass (unhide h2) (unhide hBr)
          exact ⟨h1, hide hd, hd.cellSome i (by have := unhide hjl; omega), hd.froz i⟩))
        have KEEP : Hid (∀ w', Hid (DelAt W w' base gb cap l pr i j c) → pr (l.getD j []) = false → DelAt W (w'.setCell ⟨gb, i, none⟩ (.string (bs (l.getD j [])))) base gb cap l pr (i + 1) (j + 1) (c.set i (l.getD j []))) := hide (fun w' hd hq => (unhide hd).keep (unhide hjl) hq hbg)
        have DROP : Hid (∀ w', Hid (DelAt W w' base gb cap l pr i j c) → pr (l.getD j []) = true → DelAt W w' base gb cap l pr i (j + 1) c) := hide (fun w' hd hq => (unhide hd).drop (unhide hjl) hq)
        generalize l.getD j [] = T at hc2 CG KEEP DROP
        cases hq : pr T with
        | true =>
          rw [hq] at CG
          go_wp2_with (go_at_fn g; with_reducible refine (unhide CG).mono ?_; rintro e w2 ⟨rfl, k2, ⟨u2, x2⟩, y2⟩)
          all_goals go_roundw
          case rel => exact ⟨i, j + 1, c, rfl, by go_num, by omega, by omega, hide (unhide DROP w2 k2 hq)⟩
          case measure => simp [intOf]; omega
        | false =>
          rw [hq] at CG
          go_wp2_with (go_at_fn g; with_reducible refine (unhide CG).mono ?_; rintro e w2 ⟨rfl, k2, ⟨u2, x2⟩, y2⟩)
          all_goals go_roundw
          case rel => exact ⟨i + 1, j + 1, _, by go_num, by go_num, by omega, by omega, hide (unhide KEEP w2 k2 hq)⟩
          case measure => simp [intOf]; omega
      · obtain rfl : j = n := by omega
        have f1 : decide ((j : Int) < (j : Int)) = false := decide_eq_false (by omega)
        have g3 : (0 : Int) ≤ (i : Int) := by omega
        have g4 : (i : Int) ≤ (j : Int) := by omega
        have g5 : (i : Int) ≤ (cap : Int) := by omega
        have g6 : (cap = i) = False := eq_false (by omega)
        have g7 : (j : Int) ≤ (cap : Int) := by omega
        have zE : ∀ W, (zeroValue 9).run Try.prog W = .ok (.string ⟨#[]⟩) W := fun W => by kernel_rfl
        have CLR : ∀ ty, (Builtin.clear_ #[47] ty #[.slice (some ⟨gb, i, none⟩) (j - i) (cap - i)]).run Try.prog wr = .ok (.tuple #[]) (wr.setCells gb i (List.replicate (j - i) (.string ⟨#[]⟩))) := fun ty => by
          refine Lib.run_clear_slice wr 47 9 ty _ Try.underlying47 zE rfl rfl gb i (j - i) (cap - i) (by omega) (fun q hq => ?_) (fun q hq => (unhide HD).froz _)
          obtain ⟨u, hu⟩ := (unhide HD).cellSome (i + q) (by rw [← unhide HN]; omega)
          rw [hu]
          rfl
        have KD : Hid (OwnS (wr.setCells gb i (List.replicate (j - i) (.string ⟨#[]⟩))) base (.slice (some ⟨gb, 0, none⟩) i cap) (l.filter (fun T => !pr T)) ∧ Below base W (wr.setCells gb i (List.replicate (j - i) (.string ⟨#[]⟩))) ∧ i = (l.filter (fun T => !pr T)).length) := hide (by
          have hd := unhide HD
          rw [unhide HN] at hd ⊢
          exact hd.done hbg)
        go_wp2
        go_ret
        exact ⟨i, rfl, KD⟩
end Go.Proofs.Ytjmnddcombepaaa
