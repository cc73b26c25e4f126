/- slices.Grow at nil, slices.Concat of three. -/
import Derived.Test.YtidfbelckdlbhabGreatCln
import Derived.Lib.AppendZeros
namespace Go.Proofs.YtidfbelckdlbhabGreat
open Go.ChangeShapes Go.WideShapes Go.ChangeAt Go.RowKit
set_option linter.unusedVariables false
set_option maxRecDepth 20000
set_option maxHeartbeats 1000000

theorem grow_zero (w : World) : Calls Tryz.prog 64 #[.slice none 0 0, .int .i64 0] w fun e w' => ∃ v, e = .returned v ∧ OwnB w' w.heap.size v [] ∧ Below w.heap.size w w' := by
  go_enter Tryz.func64, Tryz.ntmps64
  go_wp2
  all_goals go_ret
  all_goals exact ⟨_, rfl, OwnB.nil _ _, Below.refl _ _⟩

theorem grow_more (w : World) (n : Nat) (h0 : 0 < n) (hn : n ≤ 140737488355328) : Calls Tryz.prog 64 #[.slice none 0 0, .int .i64 n] w fun e w' => ∃ v, e = .returned v ∧ OwnB w' w.heap.size v [] ∧ Below w.heap.size w w' := by
  obtain ⟨i0, hi, hz0, hz1, hz2⟩ := info_parts Tryz.info5
  have happ := Lib.run_append_nil_zeros (P := Tryz.prog) w 34 3 34 5 i0 (.int .u8 0) .i64 .i64 Tryz.underlying34 Tryz.underlying3 hi hz0 n h0 (by omega) (by omega) (by rw [hz2]; omega)
  generalize hcap : grownCap w n 0 5 = cap2 at happ
  have hcapge : n ≤ cap2 := by rw [← hcap]; exact grownCap_ge w _ 0 5
  have hcaple : cap2 ≤ maxLen := by rw [← hcap]; exact grownCap_le_maxLen w _ 0 5 (by unfold maxLen; omega)
  generalize hZ : (Builtin.zeroCells (Value.int .u8 0).cells n ++ Builtin.zeroCells (Value.int .u8 0).cells (cap2 - n)) = Z at happ
  have hZs : Z.size = cap2 := by rw [← hZ]; simp [size_zeroCells, Value.cells]; omega
  clear hcap hZ
  go_enter Tryz.func64, Tryz.ntmps64
  go_wp2_with (at_builtin; refine Lib.wpList_append_run _ rfl _ _ _ _ rfl _ _ rfl rfl _ _ happ ?_)
  all_goals go_ret
  all_goals exact ⟨_, rfl, ⟨rfl, .inr ⟨w.heap.size, cap2, Z, by simp, Nat.le_refl _, heap_alloc_new w _, Nat.zero_le _, hcaple, by omega, by simp [cellsOf]⟩⟩, ⟨rfl, rfl, rfl, by simp, fun k hk => Below.heap_alloc w _ k hk⟩⟩

/-- append(v, m...): v is the call's own, m lies wherever -/
theorem wpList_app {w : World} {ops : Array Oper} {rest : List Oper} {o : Oper} {act : Act} {Q : Exit → Act → World → Prop} (hgd : o.guard = none) (s x : Operand)
    (ho : o.op = .call { callee := .builtin .append, args := #[s, x], argTypes := #[34, 34] })
    (base : Nat) (v : Value) (l m : List Nat) (a : Option Addr) (n c : Nat) (hs : act.eval s = v) (hx : act.eval x = .slice a n c) (hO : OwnB w base v l) (hn : n = m.length) (hB : Bytes w a m) (hz : a = none → c = 0) (hlen : l.length + m.length ≤ 140737488355328) (hbase : base ≤ w.heap.size)
    (h : ∀ v' w', OwnB w' base v' (l ++ m) → Below base w w' → wpList Tryz.prog ops Q rest (act.put o.dst v') w') : wpList Tryz.prog ops Q (o :: rest) act w := by
  obtain ⟨i0, hi, hz0, hz1, hz2⟩ := info_parts Tryz.info5
  subst hn
  cases a with
  | none =>
    have hm : m = [] := by
      rcases hB with h | ⟨b, off, h, _⟩
      · exact h
      · cases h
    subst hm
    obtain rfl := hz rfl
    refine wpList_append_own_none hgd s x 34 ho base 5 i0 1 Tryz.underlying34 hi v l.length (cellsOf l) hs hO hx ?_
    refine h v w ?_ (Below.refl _ _)
    rw [List.append_nil]
    exact hO
  | some ad =>
    have hnews : ∀ j u, (cellsOf m)[j]? = some u → w.cell? (ad.add j) = some u := by
      intro j u hu
      obtain ⟨hj, rfl⟩ := cellsOf_get m j u hu
      rcases hB with rfl | ⟨b, off, h, hb, hc⟩
      · simp at hj
      · cases h
        rw [add_plain]; exact hc j hj
    refine wpList_append_own _ hgd s x 34 ho base 5 i0 (.int .u8 0) 1 1 Tryz.underlying34 hi hz0 hz1 hz2 rfl (by decide) v l.length (cellsOf l) hs hO ad m.length c (cellsOf m) hx (by simp [cellsOf]) hnews (cellsOf_one m) (by simp [maxLen]; omega) (by omega) hbase ?_
    intro v' w' h1 h2 _
    refine h v' w' ?_ ((Below.refl _ _).grown h2 hbase (fun k hk => ?_))
    · unfold OwnB
      rw [List.length_append]
      have e : cellsOf (l ++ m) = cellsOf l ++ cellsOf m := by simp [cellsOf]
      rw [e]
      exact h1
    · rcases hO.2 with ⟨rfl, _⟩ | ⟨g, cap, cur, rfl, hb, _⟩
      · simp [Value.ownBlock] at hk
      · simp [Value.ownBlock] at hk
        omega

theorem concat3 (w : World) (g : Nat) (a0 a1 a2 : Option Addr) (c0 c1 c2 : Nat) (l0 l1 l2 : List Nat) (hl : l0.length + l1.length + l2.length ≤ 140737488355328)
    (h0 : w.cell? ⟨g, 0, none⟩ = some (.slice a0 l0.length c0)) (h1 : w.cell? ⟨g, 1, none⟩ = some (.slice a1 l1.length c1)) (h2 : w.cell? ⟨g, 2, none⟩ = some (.slice a2 l2.length c2)) (b0 : Bytes w a0 l0) (b1 : Bytes w a1 l1) (b2 : Bytes w a2 l2) (hg : g < w.heap.size) (z0 : a0 = none → c0 = 0) (z1 : a1 = none → c1 = 0) (z2 : a2 = none → c2 = 0) :
    Calls Tryz.prog 38 #[.slice (some ⟨g, 0, none⟩) 3 3] w fun e w' => ∃ v, e = .returned v ∧ OwnB w' w.heap.size v (l0 ++ l1 ++ l2) ∧ Below w.heap.size w w' := by
  have H0 := hide h0
  have H1 := hide h1
  have H2 := hide h2
  have B0 := hide b0
  have B1 := hide b1
  have B2 := hide b2
  have Z0 := hide z0
  have Z1 := hide z1
  have Z2 := hide z2
  have HG := hide hg
  clear z0 z1 z2 hg
  have G : Hid (∀ n : Nat, n ≤ 140737488355328 → ∀ W, Calls Tryz.prog 64 #[.slice none 0 0, .int .i64 n] W fun e w' => ∃ v, e = .returned v ∧ OwnB w' W.heap.size v [] ∧ Below W.heap.size W w') := hide (fun n hn W => by
    rcases Nat.eq_zero_or_pos n with rfl | hp
    · exact grow_zero W
    · exact grow_more W n hp hn)
  obtain ⟨n0, e0⟩ : ∃ n, n = l0.length := ⟨_, rfl⟩
  obtain ⟨n1, e1⟩ : ∃ n, n = l1.length := ⟨_, rfl⟩
  obtain ⟨n2, e2⟩ : ∃ n, n = l2.length := ⟨_, rfl⟩
  rw [← e0] at h0 H0
  rw [← e1] at h1 H1
  rw [← e2] at h2 H2
  rw [← e0, ← e1, ← e2] at hl
  have E0 := hide e0
  have E1 := hide e1
  have E2 := hide e2
  clear b0 b1 b2 e0 e1 e2
  go_enter Tryz.func38, Tryz.ntmps38
  go_wp2_with fail
  go_loopw [3, 5, 11] (fun sv s5 iv wr => wr = w ∧ ∃ i : Nat, iv = .int .i64 (i : Nat) ∧ i ≤ 3 ∧ sv = .int .i64 ((if i = 0 then 0 else if i = 1 then n0 else if i = 2 then n0 + n1 else n0 + n1 + n2 : Nat) : Int)) (fun _ _ iv _ => 3 - (intOf iv).toNat)
  case atStart => exact ⟨rfl, 0, rfl, by omega, rfl⟩
  case round =>
    obtain ⟨hwr, i, rfl, hi, rfl⟩ := hrel
    have hwr' := hwr.symm
    clear hwr
    subst hwr'
    match i, hi with
    | 0, _ =>
      have k1 : IntKind.i64.wrap ((0 : Int) + (n0 : Int)) = ((n0 : Nat) : Int) := by rw [IntKind.wrap_i64]; omega
      have k2 : decide ((n0 : Int) < 0) = false := decide_eq_false (by omega)
      go_wp2
      go_roundw
      case rel => exact ⟨trivial, 1, by simp, by omega, by simp⟩
      case measure => simp [intOf]
    | 1, _ =>
      have k1 : IntKind.i64.wrap ((n0 : Int) + (n1 : Int)) = ((n0 + n1 : Nat) : Int) := by rw [IntKind.wrap_i64]; omega
      have k2 : decide (((n0 + n1 : Nat) : Int) < 0) = false := decide_eq_false (by omega)
      go_wp2
      go_roundw
      case rel => exact ⟨trivial, 2, by simp, by omega, by simp⟩
      case measure => simp [intOf]
    | 2, _ =>
      have k1 : IntKind.i64.wrap (((n0 + n1 : Nat) : Int) + (n2 : Int)) = ((n0 + n1 + n2 : Nat) : Int) := by rw [IntKind.wrap_i64]; omega
      have k2 : decide (((n0 + n1 + n2 : Nat) : Int) < 0) = false := decide_eq_false (by omega)
      go_wp2
      go_roundw
      case rel => exact ⟨trivial, 3, by simp, by omega, by simp⟩
      case measure => simp [intOf]
    | 3, _ =>
      clear h0 h1 h2
      go_wp2_with (go_at_call 64; refine (unhide G (n0 + n1 + n2) hl _).mono ?_; rintro e w1 ⟨v, rfl, hO, hb⟩)
      have HO := hide hO
      have HB := hide hb
      clear hO hb
      go_loopw [6, 8, 27] (fun v6 s8 iv w2 => ∃ i : Nat, iv = .int .i64 (i : Nat) ∧ i ≤ 3 ∧ OwnB w2 w.heap.size v6 (if i = 0 then [] else if i = 1 then l0 else if i = 2 then l0 ++ l1 else l0 ++ l1 ++ l2) ∧ Below w.heap.size w w2) (fun _ _ iv _ => 3 - (intOf iv).toNat)
      case atStart => exact ⟨0, rfl, by omega, unhide HO, unhide HB⟩
      case round =>
        obtain ⟨i, rfl, hi, ho, hb⟩ := hrel
        have HO2 := hide ho
        have HB2 := hide hb
        have hsz := hb.size
        match i, hi with
        | 0, _ =>
          have HO3 : Hid (OwnB _ _ _ []) := hide ho
          have cc0 := (hb.cell (p := ⟨g, 0, none⟩) (unhide HG)).trans (unhide H0)
          clear ho hb
          go_wp2_with (at_builtin; refine wpList_app rfl _ _ rfl w.heap.size _ [] l0 a0 n0 c0 rfl rfl (unhide HO3) (unhide E0) ((unhide B0).below (unhide HB2)) (unhide Z0) (by have q0 := unhide E0; have q1 := unhide E1; have q2 := unhide E2; simp only [List.length_nil]; omega) hsz ?_)
          intro v' w' h1' h2'
          have HX := hide h1'
          have HY := hide ((unhide HB2).trans h2')
          clear h1' h2'
          go_wp2
          go_roundw
          case rel => exact ⟨1, by simp, by omega, by simpa using unhide HX, unhide HY⟩
          case measure => simp [intOf]
        | 1, _ =>
          have HO3 : Hid (OwnB _ _ _ l0) := hide ho
          have cc1 := (hb.cell (p := ⟨g, 1, none⟩) (unhide HG)).trans (unhide H1)
          clear ho hb
          go_wp2_with (at_builtin; refine wpList_app rfl _ _ rfl w.heap.size _ l0 l1 a1 n1 c1 rfl rfl (unhide HO3) (unhide E1) ((unhide B1).below (unhide HB2)) (unhide Z1) (by have q0 := unhide E0; have q1 := unhide E1; have q2 := unhide E2; omega) hsz ?_)
          intro v' w' h1' h2'
          have HX := hide h1'
          have HY := hide ((unhide HB2).trans h2')
          clear h1' h2'
          go_wp2
          go_roundw
          case rel => exact ⟨2, by simp, by omega, by simpa using unhide HX, unhide HY⟩
          case measure => simp [intOf]
        | 2, _ =>
          have HO3 : Hid (OwnB _ _ _ (l0 ++ l1)) := hide ho
          have cc2 := (hb.cell (p := ⟨g, 2, none⟩) (unhide HG)).trans (unhide H2)
          clear ho hb
          go_wp2_with (at_builtin; refine wpList_app rfl _ _ rfl w.heap.size _ (l0 ++ l1) l2 a2 n2 c2 rfl rfl (unhide HO3) (unhide E2) ((unhide B2).below (unhide HB2)) (unhide Z2) (by have q0 := unhide E0; have q1 := unhide E1; have q2 := unhide E2; simp only [List.length_append]; omega) hsz ?_)
          intro v' w' h1' h2'
          have HX := hide h1'
          have HY := hide ((unhide HB2).trans h2')
          clear h1' h2'
          go_wp2
          go_roundw
          case rel => exact ⟨3, by simp, by omega, by simpa using unhide HX, unhide HY⟩
          case measure => simp [intOf]
        | 3, _ =>
          clear ho hb
          go_wp2
          go_ret
          exact ⟨_, rfl, unhide HO2, unhide HB2⟩
end Go.Proofs.YtidfbelckdlbhabGreat
