/- The document's Block, accepted. -/
import Derived.Test.YtfebiemfmiahhabMi
namespace Go.Proofs.Ytfebiemfmiahhab
open Go.ChangeShapes Go.WideShapes Go.ChangeAt Go.RowKit Go.Maps
set_option linter.unusedVariables false
set_option linter.unusedSimpArgs false
set_option maxRecDepth 100000
set_option maxHeartbeats 8000000
theorem info106 : (Try.prog.info? 78).map (fun i => (i.zero, i.size, i.bytes)) = some (some (.agg #[.int .i64 0, .int .i64 0, .slice none 0 0, .int .u64 0]), 4, 48) := by kernel_rfl
theorem cell_four_new (w : World) (a b c d : Value) (t : TypeId) : ∀ j u, [a, b, c, d][j]? = some u → (w.alloc (.cells #[a, b, c, d] t)).cell? ((⟨w.heap.size, 0, none⟩ : Addr).add j) = some u := by
  intro j u hj
  have h := heap_alloc_new w (.cells #[a, b, c, d] t)
  have hadd : (⟨w.heap.size, 0, none⟩ : Addr).add j = ⟨w.heap.size, j, none⟩ := by unfold Addr.add; split <;> simp_all
  rw [hadd, cell_blk h]
  simpa using hj
theorem op_append {P : Program} {o : Oper} {a : Act} {w w' : World} {K : Act → World → Prop} {Q : Exit → Act → World → Prop} {t : TypeId} {u v v' : Value} (s x : Operand) (hop : o.op = Op.call { callee := Callee.builtin Builtin.append, args := #[s, x], argTypes := #[t, t] })
    (hs : a.eval s = u) (hx : a.eval x = v) (hr : (Builtin.append_ #[t, t] o.type #[u, v]).run P w = .ok v' w') (hK : K (a.put o.dst v') w') : Oper.wp P o a w K Q := by
  unfold Oper.wp
  simp [execOp, hop, resolve, invoke, builtin, hs, hx, hr, Result.andThen]
  exact hK
/-- the walk of an accepted Block -/
theorem rblock_walk (w : World) (p : Nat) (c k : Int) (a : Option Addr) (n cap : Nat) (t : Nat) (la : Option Addr) (n0 lc : Nat) (xs : List Value) (fi : Int) (R : World → Prop)
    (f1 : decide (c < 0) = false) (f2 : decide ((8 : Int) ≤ c) = false) (hf : decide ((0 : Int) ≤ fi) = false) (h3 : k = 2 ∨ k = 5) (f5 : decide ((4503599627370496 : Int) < (t : Int)) = false) (hn0 : n0 ≤ 8)
    (C1 : Calls Try.prog 39 #[.pointer (some ⟨p, 0, none⟩), .int .i64 c] w fun e w' => e = .returned (.int .i64 fi) ∧ w' = w)
    (C2 : Calls Try.prog 40 #[.slice a n cap] w fun e w' => e = .returned (.bool false) ∧ w' = w)
    (HC3 : Hid (Calls Try.prog 41 #[.slice a n cap] w.drew fun e w' => ∃ va vn vc, e = .returned (.slice va vn vc) ∧ Hid (w'.cell? ⟨p, 0, none⟩ = some (.slice la n0 lc) ∧ w'.ownsRow 0 78 4 (.slice la n0 lc) n0 xs ∧ p < w'.heap.size ∧ some p ≠ Value.ownBlock (.slice la n0 lc) ∧ w'.frozen? ⟨p, 0, none⟩ = false ∧ ∀ v' w4, w4.ownsRow 0 78 4 v' (n0 + 1) (xs ++ [.int .i64 c, .int .i64 k, .slice va vn vc, .int .u64 (t : Nat)]) → (w'.alloc (.cells #[.int .i64 c, .int .i64 k, .slice va vn vc, .int .u64 (t : Nat)] 78)).grownBy w4 (Value.ownBlock (.slice la n0 lc)) → (v'.ownBlock = Value.ownBlock (.slice la n0 lc) ∨ v'.ownBlock = some (w'.heap.size + 1)) → R (w4.setCell ⟨p, 0, none⟩ v'))))
    (HS : Hid (w.cell? ⟨p, 0, none⟩ = some (.slice la n0 lc))) :
    Calls Try.prog 13 #[.pointer (some ⟨p, 0, none⟩), .int .i64 c, .int .i64 k, .slice a n cap, .int .u64 (t : Nat)] w fun e w' => e = .returned (.int .i64 0) ∧ Hid (R w') := by
  obtain ⟨i0, hi0, hzz⟩ := Option.map_eq_some_iff.1 info106
  simp only [Prod.mk.injEq] at hzz
  obtain ⟨hz0, hz1, hz2⟩ := hzz
  rcases h3 with rfl | rfl
  all_goals go_enter Try.func13, Try.ntmps13
  all_goals go_wp2_with (first | (go_at_call 39; refine C1.mono ?_; clear C1; rintro e w1 ⟨rfl, hww1⟩; obtain rfl := hww1.symm; clear hww1) | (go_at_call 40; refine C2.mono ?_; clear C2; rintro e w2 ⟨rfl, hww2⟩; obtain rfl := hww2.symm; clear hww2))
  all_goals clear f1 f2 hf f5
  · have hSS : (fun w' : World => w'.cell? ⟨p, 0, none⟩ = some (.slice la n0 lc)) w.drew := unhide HS
    clear HS
    refine till_begin (fun w' : World => w'.cell? ⟨p, 0, none⟩ = some (.slice la n0 lc)) 15 (by kernel_rfl) ?_
    refine AnyTill.take 0 (v := ?_) rfl (by kernel_rfl) (by kernel_rfl) (by kernel_rfl) (by kernel_rfl) (fun _ _ _ h => h) ?_ rfl hSS ?_
    rotate_left
    · intro w hSw
      go_simp
      all_goals with_reducible rfl
    try simp only [Act.put, List.getElem_toArray, List.getElem_cons_succ, List.getElem_cons_zero, List.setIfInBounds_toArray, List.set_cons_zero, List.set_cons_succ]
    refine AnyTill.take 1 (v := ?_) rfl (by kernel_rfl) (by kernel_rfl) (by kernel_rfl) (by kernel_rfl) (fun _ _ _ h => h) ?_ rfl hSS ?_
    rotate_left
    · intro w hSw
      go_simp
      all_goals with_reducible rfl
    try simp only [Act.put, List.getElem_toArray, List.getElem_cons_succ, List.getElem_cons_zero, List.setIfInBounds_toArray, List.set_cons_zero, List.set_cons_succ]
    refine AnyTill.take 2 (v := ?_) rfl (by kernel_rfl) (by kernel_rfl) (by kernel_rfl) (by kernel_rfl) (fun _ _ _ h => h) ?_ rfl hSS ?_
    rotate_left
    · intro w hSw
      go_simp
      all_goals with_reducible rfl
    try simp only [Act.put, List.getElem_toArray, List.getElem_cons_succ, List.getElem_cons_zero, List.setIfInBounds_toArray, List.set_cons_zero, List.set_cons_succ]
    refine AnyTill.take 3 (v := ?_) rfl (by kernel_rfl) (by kernel_rfl) (by kernel_rfl) (by kernel_rfl) (fun _ _ _ h => h) ?_ rfl hSS ?_
    rotate_left
    · intro w hSw
      go_simp
      all_goals with_reducible rfl
    try simp only [Act.put, List.getElem_toArray, List.getElem_cons_succ, List.getElem_cons_zero, List.setIfInBounds_toArray, List.set_cons_zero, List.set_cons_succ]
    refine AnyTill.take 4 (v := ?_) rfl (by kernel_rfl) (by kernel_rfl) (by kernel_rfl) (by kernel_rfl) (fun _ _ _ h => h) ?_ rfl hSS ?_
    rotate_left
    · intro w hSw
      go_simp
      all_goals with_reducible rfl
    try simp only [Act.put, List.getElem_toArray, List.getElem_cons_succ, List.getElem_cons_zero, List.setIfInBounds_toArray, List.set_cons_zero, List.set_cons_succ]
    refine AnyTill.take 5 (v := ?_) rfl (by kernel_rfl) (by kernel_rfl) (by kernel_rfl) (by kernel_rfl) (fun _ _ _ h => h) ?_ rfl hSS ?_
    rotate_left
    · intro w hSw
      go_simp
      all_goals with_reducible rfl
    try simp only [Act.put, List.getElem_toArray, List.getElem_cons_succ, List.getElem_cons_zero, List.setIfInBounds_toArray, List.set_cons_zero, List.set_cons_succ]
    refine AnyTill.take 6 (v := ?_) rfl (by kernel_rfl) (by kernel_rfl) (by kernel_rfl) (by kernel_rfl) (fun _ _ _ h => h) ?_ rfl hSS ?_
    rotate_left
    · intro w hSw
      go_simp
      all_goals with_reducible rfl
    try simp only [Act.put, List.getElem_toArray, List.getElem_cons_succ, List.getElem_cons_zero, List.setIfInBounds_toArray, List.set_cons_zero, List.set_cons_succ]
    refine AnyTill.take 7 (v := ?_) rfl (by kernel_rfl) (by kernel_rfl) (by kernel_rfl) (by kernel_rfl) (fun _ _ _ h => h) ?_ rfl hSS ?_
    rotate_left
    · intro w hSw
      go_simp
      all_goals with_reducible rfl
    try simp only [Act.put, List.getElem_toArray, List.getElem_cons_succ, List.getElem_cons_zero, List.setIfInBounds_toArray, List.set_cons_zero, List.set_cons_succ]
    refine AnyTill.take 9 (v := ?_) rfl (by kernel_rfl) (by kernel_rfl) (by kernel_rfl) (by kernel_rfl) (fun _ _ _ h => h) ?_ rfl hSS ?_
    rotate_left
    · intro w hSw
      go_simp
      all_goals with_reducible rfl
    try simp only [Act.put, List.getElem_toArray, List.getElem_cons_succ, List.getElem_cons_zero, List.setIfInBounds_toArray, List.set_cons_zero, List.set_cons_succ]
    refine AnyTill.one (i := 8) (by kernel_rfl) (AnyTill.op rfl rfl fun K hK => ?_)
    go_simp
    go_at_call 41
    with_reducible refine (unhide HC3).mono ?_
    clear HC3
    rintro e w2 ⟨va, vn, vc, rfl, H2⟩
    have hSS2 : (fun w' : World => w'.cell? ⟨p, 0, none⟩ = some (.slice la n0 lc)) w2 := (unhide H2).1
    refine hK _ _ (fun _ => hSS2) ?_
    clear hK K hSS
    try simp only [Act.put, List.getElem_toArray, List.getElem_cons_succ, List.getElem_cons_zero, List.setIfInBounds_toArray, List.set_cons_zero, List.set_cons_succ]
    refine AnyTill.one (i := 10) (by kernel_rfl) (AnyTill.op rfl rfl fun K hK => ?_)
    go_simp
    refine hK _ _ (fun _ => hSS2) ?_
    clear hK K
    try simp only [Act.put, List.getElem_toArray, List.getElem_cons_succ, List.getElem_cons_zero, List.setIfInBounds_toArray, List.set_cons_zero, List.set_cons_succ]
    refine AnyTill.one (i := 11) (by kernel_rfl) (AnyTill.op rfl rfl fun K hK => ?_)
    go_simp
    have hSS3 : (fun w' : World => w'.cell? ⟨p, 0, none⟩ = some (.slice la n0 lc)) (w2.alloc (.cells #[.int .i64 c, .int .i64 2, .slice va vn vc, .int .u64 (t : Nat)] 78)) := by
      obtain ⟨k1, -, k3, -⟩ := unhide H2
      exact (((Below.refl w2.heap.size w2).alloc (Nat.le_refl _) _).cell (p := ⟨p, 0, none⟩) k3).trans k1
    refine hK _ _ (fun _ => hSS3) ?_
    clear hK K
    try simp only [Act.put, List.getElem_toArray, List.getElem_cons_succ, List.getElem_cons_zero, List.setIfInBounds_toArray, List.set_cons_zero, List.set_cons_succ]
    refine AnyTill.one (i := 12) (by kernel_rfl) (AnyTill.op rfl rfl fun K hK => ?_)
    obtain ⟨v4, w4, hr4, ho4, hg4, -, ha4⟩ := run_append_own_at (P := Try.prog) (w2.alloc (.cells #[.int .i64 c, .int .i64 2, .slice va vn vc, .int .u64 (t : Nat)] 78)) 0 33 33 78 i0 _ 4 48 Try.underlying33 hi0 hz0 hz1 hz2 rfl (by decide) (.slice la n0 lc) n0 xs (World.ownsRow.alloc (unhide H2).2.1 _) ⟨w2.heap.size, 0, none⟩ 1 1 [.int .i64 c, .int .i64 2, .slice va vn vc, .int .u64 (t : Nat)] rfl (cell_four_new _ _ _ _ _ _) (by simp [Value.oneCell']) (by unfold maxLen; omega) (by omega) (Nat.zero_le _)
    obtain ⟨a4, c4, rfl, -⟩ := own_shape ho4
    refine op_append (.tmp 40) (.tmp 47) rfl rfl rfl hr4 ?_
    have hp4 : (fun w' : World => w'.cell? ⟨p, 0, none⟩ = some (.slice la n0 lc)) w4 ∧ w4.frozen? ⟨p, 0, none⟩ = false := by
      obtain ⟨k1, k2, k3, k4, k5, -⟩ := unhide H2
      have hb := hg4.block p (by simp; omega) k4
      refine ⟨(World.cell?_of_block (a := ⟨p, 0, none⟩) hb).trans hSS3, ?_⟩
      rw [World.frozen?_of_block (a := ⟨p, 0, none⟩) hb, ((Below.refl w2.heap.size w2).alloc (Nat.le_refl _) _).frozen (p := ⟨p, 0, none⟩) k3]
      exact k5
    have hSS4 := hp4.1
    have hfz4 := hp4.2
    have HR4 : Hid (R (w4.setCell ⟨p, 0, none⟩ (.slice a4 (n0 + 1) c4))) := hide ((unhide H2).2.2.2.2.2 _ w4 ho4 hg4 (ha4.imp id (fun e => by rw [e]; simp)))
    clear hp4 hr4 ho4 hg4 ha4 H2 hSS2 hSS3
    refine hK _ _ (fun _ => hSS4) ?_
    clear hK K
    try simp only [Act.put, List.getElem_toArray, List.getElem_cons_succ, List.getElem_cons_zero, List.setIfInBounds_toArray, List.set_cons_zero, List.set_cons_succ]
    refine AnyTill.one (i := 13) (by kernel_rfl) (AnyTill.op rfl rfl fun K hK => ?_)
    go_simp
    refine hK _ _ (fun _ => hSS4) ?_
    clear hK K
    try simp only [Act.put, List.getElem_toArray, List.getElem_cons_succ, List.getElem_cons_zero, List.setIfInBounds_toArray, List.set_cons_zero, List.set_cons_succ]
    refine AnyTill.one (i := 14) (by kernel_rfl) (AnyTill.op rfl rfl fun K hK => ?_)
    go_simp
    refine hK _ _ (fun _ => hSS4) ?_
    clear hK K
    try simp only [Act.put, List.getElem_toArray, List.getElem_cons_succ, List.getElem_cons_zero, List.setIfInBounds_toArray, List.set_cons_zero, List.set_cons_succ]
    refine AnyTill.one (i := 15) (by kernel_rfl) (AnyTill.op rfl rfl fun K hK => ?_)
    have hc4 : w4.cell? ⟨p, 0, none⟩ = some (.slice la n0 lc) := hSS4
    go_simp
    refine hK _ _ (fun h => absurd rfl h) ?_
    clear hK K
    try simp only [Act.put, List.getElem_toArray, List.getElem_cons_succ, List.getElem_cons_zero, List.setIfInBounds_toArray, List.set_cons_zero, List.set_cons_succ]
    refine AnyTill.done (by kernel_rfl) ?_
    go_wp2_with fail
    go_ret
    exact ⟨rfl, HR4⟩
  · have hSS : (fun w' : World => w'.cell? ⟨p, 0, none⟩ = some (.slice la n0 lc)) w.drew := unhide HS
    clear HS
    refine till_begin (fun w' : World => w'.cell? ⟨p, 0, none⟩ = some (.slice la n0 lc)) 15 (by kernel_rfl) ?_
    refine AnyTill.take 0 (v := ?_) rfl (by kernel_rfl) (by kernel_rfl) (by kernel_rfl) (by kernel_rfl) (fun _ _ _ h => h) ?_ rfl hSS ?_
    rotate_left
    · intro w hSw
      go_simp
      all_goals with_reducible rfl
    try simp only [Act.put, List.getElem_toArray, List.getElem_cons_succ, List.getElem_cons_zero, List.setIfInBounds_toArray, List.set_cons_zero, List.set_cons_succ]
    refine AnyTill.take 1 (v := ?_) rfl (by kernel_rfl) (by kernel_rfl) (by kernel_rfl) (by kernel_rfl) (fun _ _ _ h => h) ?_ rfl hSS ?_
    rotate_left
    · intro w hSw
      go_simp
      all_goals with_reducible rfl
    try simp only [Act.put, List.getElem_toArray, List.getElem_cons_succ, List.getElem_cons_zero, List.setIfInBounds_toArray, List.set_cons_zero, List.set_cons_succ]
    refine AnyTill.take 2 (v := ?_) rfl (by kernel_rfl) (by kernel_rfl) (by kernel_rfl) (by kernel_rfl) (fun _ _ _ h => h) ?_ rfl hSS ?_
    rotate_left
    · intro w hSw
      go_simp
      all_goals with_reducible rfl
    try simp only [Act.put, List.getElem_toArray, List.getElem_cons_succ, List.getElem_cons_zero, List.setIfInBounds_toArray, List.set_cons_zero, List.set_cons_succ]
    refine AnyTill.take 3 (v := ?_) rfl (by kernel_rfl) (by kernel_rfl) (by kernel_rfl) (by kernel_rfl) (fun _ _ _ h => h) ?_ rfl hSS ?_
    rotate_left
    · intro w hSw
      go_simp
      all_goals with_reducible rfl
    try simp only [Act.put, List.getElem_toArray, List.getElem_cons_succ, List.getElem_cons_zero, List.setIfInBounds_toArray, List.set_cons_zero, List.set_cons_succ]
    refine AnyTill.take 4 (v := ?_) rfl (by kernel_rfl) (by kernel_rfl) (by kernel_rfl) (by kernel_rfl) (fun _ _ _ h => h) ?_ rfl hSS ?_
    rotate_left
    · intro w hSw
      go_simp
      all_goals with_reducible rfl
    try simp only [Act.put, List.getElem_toArray, List.getElem_cons_succ, List.getElem_cons_zero, List.setIfInBounds_toArray, List.set_cons_zero, List.set_cons_succ]
    refine AnyTill.take 5 (v := ?_) rfl (by kernel_rfl) (by kernel_rfl) (by kernel_rfl) (by kernel_rfl) (fun _ _ _ h => h) ?_ rfl hSS ?_
    rotate_left
    · intro w hSw
      go_simp
      all_goals with_reducible rfl
    try simp only [Act.put, List.getElem_toArray, List.getElem_cons_succ, List.getElem_cons_zero, List.setIfInBounds_toArray, List.set_cons_zero, List.set_cons_succ]
    refine AnyTill.take 6 (v := ?_) rfl (by kernel_rfl) (by kernel_rfl) (by kernel_rfl) (by kernel_rfl) (fun _ _ _ h => h) ?_ rfl hSS ?_
    rotate_left
    · intro w hSw
      go_simp
      all_goals with_reducible rfl
    try simp only [Act.put, List.getElem_toArray, List.getElem_cons_succ, List.getElem_cons_zero, List.setIfInBounds_toArray, List.set_cons_zero, List.set_cons_succ]
    refine AnyTill.take 7 (v := ?_) rfl (by kernel_rfl) (by kernel_rfl) (by kernel_rfl) (by kernel_rfl) (fun _ _ _ h => h) ?_ rfl hSS ?_
    rotate_left
    · intro w hSw
      go_simp
      all_goals with_reducible rfl
    try simp only [Act.put, List.getElem_toArray, List.getElem_cons_succ, List.getElem_cons_zero, List.setIfInBounds_toArray, List.set_cons_zero, List.set_cons_succ]
    refine AnyTill.take 9 (v := ?_) rfl (by kernel_rfl) (by kernel_rfl) (by kernel_rfl) (by kernel_rfl) (fun _ _ _ h => h) ?_ rfl hSS ?_
    rotate_left
    · intro w hSw
      go_simp
      all_goals with_reducible rfl
    try simp only [Act.put, List.getElem_toArray, List.getElem_cons_succ, List.getElem_cons_zero, List.setIfInBounds_toArray, List.set_cons_zero, List.set_cons_succ]
    refine AnyTill.one (i := 8) (by kernel_rfl) (AnyTill.op rfl rfl fun K hK => ?_)
    go_simp
    go_at_call 41
    with_reducible refine (unhide HC3).mono ?_
    clear HC3
    rintro e w2 ⟨va, vn, vc, rfl, H2⟩
    have hSS2 : (fun w' : World => w'.cell? ⟨p, 0, none⟩ = some (.slice la n0 lc)) w2 := (unhide H2).1
    refine hK _ _ (fun _ => hSS2) ?_
    clear hK K hSS
    try simp only [Act.put, List.getElem_toArray, List.getElem_cons_succ, List.getElem_cons_zero, List.setIfInBounds_toArray, List.set_cons_zero, List.set_cons_succ]
    refine AnyTill.one (i := 10) (by kernel_rfl) (AnyTill.op rfl rfl fun K hK => ?_)
    go_simp
    refine hK _ _ (fun _ => hSS2) ?_
    clear hK K
    try simp only [Act.put, List.getElem_toArray, List.getElem_cons_succ, List.getElem_cons_zero, List.setIfInBounds_toArray, List.set_cons_zero, List.set_cons_succ]
    refine AnyTill.one (i := 11) (by kernel_rfl) (AnyTill.op rfl rfl fun K hK => ?_)
    go_simp
    have hSS3 : (fun w' : World => w'.cell? ⟨p, 0, none⟩ = some (.slice la n0 lc)) (w2.alloc (.cells #[.int .i64 c, .int .i64 5, .slice va vn vc, .int .u64 (t : Nat)] 78)) := by
      obtain ⟨k1, -, k3, -⟩ := unhide H2
      exact (((Below.refl w2.heap.size w2).alloc (Nat.le_refl _) _).cell (p := ⟨p, 0, none⟩) k3).trans k1
    refine hK _ _ (fun _ => hSS3) ?_
    clear hK K
    try simp only [Act.put, List.getElem_toArray, List.getElem_cons_succ, List.getElem_cons_zero, List.setIfInBounds_toArray, List.set_cons_zero, List.set_cons_succ]
    refine AnyTill.one (i := 12) (by kernel_rfl) (AnyTill.op rfl rfl fun K hK => ?_)
    obtain ⟨v4, w4, hr4, ho4, hg4, -, ha4⟩ := run_append_own_at (P := Try.prog) (w2.alloc (.cells #[.int .i64 c, .int .i64 5, .slice va vn vc, .int .u64 (t : Nat)] 78)) 0 33 33 78 i0 _ 4 48 Try.underlying33 hi0 hz0 hz1 hz2 rfl (by decide) (.slice la n0 lc) n0 xs (World.ownsRow.alloc (unhide H2).2.1 _) ⟨w2.heap.size, 0, none⟩ 1 1 [.int .i64 c, .int .i64 5, .slice va vn vc, .int .u64 (t : Nat)] rfl (cell_four_new _ _ _ _ _ _) (by simp [Value.oneCell']) (by unfold maxLen; omega) (by omega) (Nat.zero_le _)
    obtain ⟨a4, c4, rfl, -⟩ := own_shape ho4
    refine op_append (.tmp 40) (.tmp 47) rfl rfl rfl hr4 ?_
    have hp4 : (fun w' : World => w'.cell? ⟨p, 0, none⟩ = some (.slice la n0 lc)) w4 ∧ w4.frozen? ⟨p, 0, none⟩ = false := by
      obtain ⟨k1, k2, k3, k4, k5, -⟩ := unhide H2
      have hb := hg4.block p (by simp; omega) k4
      refine ⟨(World.cell?_of_block (a := ⟨p, 0, none⟩) hb).trans hSS3, ?_⟩
      rw [World.frozen?_of_block (a := ⟨p, 0, none⟩) hb, ((Below.refl w2.heap.size w2).alloc (Nat.le_refl _) _).frozen (p := ⟨p, 0, none⟩) k3]
      exact k5
    have hSS4 := hp4.1
    have hfz4 := hp4.2
    have HR4 : Hid (R (w4.setCell ⟨p, 0, none⟩ (.slice a4 (n0 + 1) c4))) := hide ((unhide H2).2.2.2.2.2 _ w4 ho4 hg4 (ha4.imp id (fun e => by rw [e]; simp)))
    clear hp4 hr4 ho4 hg4 ha4 H2 hSS2 hSS3
    refine hK _ _ (fun _ => hSS4) ?_
    clear hK K
    try simp only [Act.put, List.getElem_toArray, List.getElem_cons_succ, List.getElem_cons_zero, List.setIfInBounds_toArray, List.set_cons_zero, List.set_cons_succ]
    refine AnyTill.one (i := 13) (by kernel_rfl) (AnyTill.op rfl rfl fun K hK => ?_)
    go_simp
    refine hK _ _ (fun _ => hSS4) ?_
    clear hK K
    try simp only [Act.put, List.getElem_toArray, List.getElem_cons_succ, List.getElem_cons_zero, List.setIfInBounds_toArray, List.set_cons_zero, List.set_cons_succ]
    refine AnyTill.one (i := 14) (by kernel_rfl) (AnyTill.op rfl rfl fun K hK => ?_)
    go_simp
    refine hK _ _ (fun _ => hSS4) ?_
    clear hK K
    try simp only [Act.put, List.getElem_toArray, List.getElem_cons_succ, List.getElem_cons_zero, List.setIfInBounds_toArray, List.set_cons_zero, List.set_cons_succ]
    refine AnyTill.one (i := 15) (by kernel_rfl) (AnyTill.op rfl rfl fun K hK => ?_)
    have hc4 : w4.cell? ⟨p, 0, none⟩ = some (.slice la n0 lc) := hSS4
    go_simp
    refine hK _ _ (fun h => absurd rfl h) ?_
    clear hK K
    try simp only [Act.put, List.getElem_toArray, List.getElem_cons_succ, List.getElem_cons_zero, List.setIfInBounds_toArray, List.set_cons_zero, List.set_cons_succ]
    refine AnyTill.done (by kernel_rfl) ?_
    go_wp2_with fail
    go_ret
    exact ⟨rfl, HR4⟩
end Go.Proofs.Ytfebiemfmiahhab
