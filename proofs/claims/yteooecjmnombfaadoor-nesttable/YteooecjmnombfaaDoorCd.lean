/- commands: the same rows? -/
import Derived.Test.YteooecjmnombfaaDoorRw
import Derived.Laws.StructEq
namespace Go.Proofs.YteooecjmnombfaaDoor
open Go.ChangeShapes Go.WideShapes Go.ChangeAt Go.RowKit
set_option linter.unusedVariables false
set_option maxRecDepth 20000
set_option maxHeartbeats 4000000

theorem fields29 : (Tryd.prog.fieldsOf 29).toList.map (fun f => (f.type, f.offset)) = [(9, 0), (3, 1), (4, 2), (3, 3), (3, 4), (3, 5), (3, 6)] := by kernel_rfl
theorem eqFields_self {P : Program} (d : Nat) (xs : Array Value) (W : World) : ∀ fs : List Field, (∀ f ∈ fs, ∃ a, (part f.type xs f.offset).run P W = .ok a W ∧ (Op.equalIn d f.type a a).run P W = .ok true W) → (Op.eqFields d xs xs fs).run P W = .ok true W
  | [], _ => by simp [Op.eqFields]
  | f :: fs, h => by
    have ih := eqFields_self d xs W fs (fun g hg => h g (List.mem_cons_of_mem _ hg))
    obtain ⟨a, h1, h2⟩ := h f (List.mem_cons_self ..)
    unfold Op.eqFields
    split
    · simp only [Sem.run_bind, h1, h2, Result.andThen_ok, Bool.not_true, Bool.false_eq_true, if_false]
      exact ih
    · exact ih
theorem neq_cmd (W : World) (n : ByteArray) (a : Int) (b : Bool) (f l s k : Int) : (binOp .neq 29 (.agg #[.string n, .int .i64 a, .bool b, .int .i64 f, .int .i64 l, .int .i64 s, .int .i64 k]) (.agg #[.string n, .int .i64 a, .bool b, .int .i64 f, .int .i64 l, .int .i64 s, .int .i64 k])).run Tryd.prog W = .ok (.bool false) W := by
  rw [run_neq_struct]
  have h : (Op.equalIn 10000 29 (.agg #[.string n, .int .i64 a, .bool b, .int .i64 f, .int .i64 l, .int .i64 s, .int .i64 k]) (.agg #[.string n, .int .i64 a, .bool b, .int .i64 f, .int .i64 l, .int .i64 s, .int .i64 k])).run Tryd.prog W = .ok true W := by
    rw [run_equalIn_struct W 9999 29 _ _ (by kernel_rfl) (by kernel_rfl)]
    refine eqFields_self 9999 _ W _ (fun x hx => ?_)
    have hm : (x.type, x.offset) ∈ (Tryd.prog.fieldsOf 29).toList.map (fun f => (f.type, f.offset)) := List.mem_map.2 ⟨x, hx, rfl⟩
    rw [fields29] at hm
    generalize x.type = T at *
    generalize x.offset = O at *
    clear hx
    simp only [List.mem_cons, List.not_mem_nil, or_false, Prod.mk.injEq] at hm
    have hs : ∀ v : ByteArray, (Op.equalIn 9999 9 (.string v) (.string v)).run Tryd.prog W = .ok true W := fun v => by rw [run_equalIn_string W 9998 9 v v Tryd.underlying9]; simp
    have hi : ∀ v : Int, (Op.equalIn 9999 3 (.int .i64 v) (.int .i64 v)).run Tryd.prog W = .ok true W := fun v => by rw [run_equalIn_int W 9998 3 .i64 .i64 v v Tryd.underlying3]; simp
    have hb : ∀ v : Bool, (Op.equalIn 9999 4 (.bool v) (.bool v)).run Tryd.prog W = .ok true W := fun v => by rw [run_equalIn_bool W 9998 4 v v Tryd.underlying4]; simp
    rcases hm with ⟨rfl, rfl⟩ | ⟨rfl, rfl⟩ | ⟨rfl, rfl⟩ | ⟨rfl, rfl⟩ | ⟨rfl, rfl⟩ | ⟨rfl, rfl⟩ | ⟨rfl, rfl⟩
    · exact ⟨_, rfl, hs n⟩
    · exact ⟨_, rfl, hi a⟩
    · exact ⟨_, rfl, hb b⟩
    · exact ⟨_, rfl, hi f⟩
    · exact ⟨_, rfl, hi l⟩
    · exact ⟨_, rfl, hi s⟩
    · exact ⟨_, rfl, hi k⟩
  rw [h]
  rfl
/-- two lists of the table's commands -/
theorem commands_same (b1 c1 b2 c2 : Nat) (w : World) (h1 : ∀ k, k < 203 → w.cell? ⟨b1, k, none⟩ = tabA[k]?) (h2 : ∀ k, k < 203 → w.cell? ⟨b2, k, none⟩ = tabA[k]?) : Calls Tryd.prog 7 #[.slice (some ⟨b1, 0, none⟩) 29 c1, .slice (some ⟨b2, 0, none⟩) 29 c2] w fun e w' => e = .returned (.bool true) ∧ ∃ m, w' = w.drewN m := by
  have hc := hide h1
  have hd := hide h2
  clear h1 h2
  go_enter Tryd.func7, Tryd.ntmps7
  go_wp2
  go_loopw [5] (fun iv wr => ∃ i : Nat, iv = .int .i64 (i : Nat) ∧ i ≤ 29 ∧ Hid (∃ m, wr = w.drewN m)) (fun iv _ => 29 - (intOf iv).toNat)
  case atStart => exact ⟨0, rfl, Nat.zero_le _, hide ⟨0, rfl⟩⟩
  case round =>
    obtain ⟨i, rfl, hi, HM⟩ := hrel
    have hcell : ∀ x, wr.cell? x = w.cell? x := fun x => by obtain ⟨m, rfl⟩ := unhide HM; rfl
    rcases Nat.lt_or_ge i 29 with hlt | hge
    · obtain ⟨⟨cn, ca, cb, cf, cl, cs, ck⟩, -, hrow⟩ := tab_at i hlt
      have A : ∀ j v, j < 7 → (Cm.row ⟨cn, ca, cb, cf, cl, cs, ck⟩)[j]? = some v → wr.cell? ⟨b1, i * 7 + j, none⟩ = some v := fun j v hj hv => by
        rw [hcell, unhide hc _ (by omega), Nat.mul_comm i 7, hrow j hj, hv]
      have B : ∀ j v, j < 7 → (Cm.row ⟨cn, ca, cb, cf, cl, cs, ck⟩)[j]? = some v → wr.cell? ⟨b2, i * 7 + j, none⟩ = some v := fun j v hj hv => by
        rw [hcell, unhide hd _ (by omega), Nat.mul_comm i 7, hrow j hj, hv]
      have xa0 : wr.cell? ⟨b1, i * 7, none⟩ = some (.string ⟨cn.toArray⟩) := A 0 _ (by decide) rfl
      have xa1 : wr.cell? ⟨b1, i * 7 + 1, none⟩ = some (.int .i64 ca) := A 1 _ (by decide) rfl
      have xa2 : wr.cell? ⟨b1, i * 7 + 2, none⟩ = some (.bool cb) := A 2 _ (by decide) rfl
      have xa3 : wr.cell? ⟨b1, i * 7 + 3, none⟩ = some (.int .i64 cf) := A 3 _ (by decide) rfl
      have xa4 : wr.cell? ⟨b1, i * 7 + 4, none⟩ = some (.int .i64 cl) := A 4 _ (by decide) rfl
      have xa5 : wr.cell? ⟨b1, i * 7 + 5, none⟩ = some (.int .i64 cs) := A 5 _ (by decide) rfl
      have xa6 : wr.cell? ⟨b1, i * 7 + 6, none⟩ = some (.int .i64 ck) := A 6 _ (by decide) rfl
      have xb0 : wr.cell? ⟨b2, i * 7, none⟩ = some (.string ⟨cn.toArray⟩) := B 0 _ (by decide) rfl
      have xb1 : wr.cell? ⟨b2, i * 7 + 1, none⟩ = some (.int .i64 ca) := B 1 _ (by decide) rfl
      have xb2 : wr.cell? ⟨b2, i * 7 + 2, none⟩ = some (.bool cb) := B 2 _ (by decide) rfl
      have xb3 : wr.cell? ⟨b2, i * 7 + 3, none⟩ = some (.int .i64 cf) := B 3 _ (by decide) rfl
      have xb4 : wr.cell? ⟨b2, i * 7 + 4, none⟩ = some (.int .i64 cl) := B 4 _ (by decide) rfl
      have xb5 : wr.cell? ⟨b2, i * 7 + 5, none⟩ = some (.int .i64 cs) := B 5 _ (by decide) rfl
      have xb6 : wr.cell? ⟨b2, i * 7 + 6, none⟩ = some (.int .i64 ck) := B 6 _ (by decide) rfl
      clear A B hrow hcell
      have NE : ∀ W, (binOp .neq 29 (.agg #[.string ⟨cn.toArray⟩, .int .i64 ca, .bool cb, .int .i64 cf, .int .i64 cl, .int .i64 cs, .int .i64 ck]) (.agg #[.string ⟨cn.toArray⟩, .int .i64 ca, .bool cb, .int .i64 cf, .int .i64 cl, .int .i64 cs, .int .i64 ck])).run Tryd.prog W = .ok (.bool false) W := fun W => neq_cmd W _ _ _ _ _ _ _
      have f1 : decide ((i : Int) < 29) = true := decide_eq_true (by omega)
      have g1 : (0 : Int) ≤ (i : Int) := by omega
      have g2 : (i : Int) < 29 := by omega
      go_wp2_with fail
      go_region_held3 (fun w' => w'.cell? ⟨b1, i * 7, none⟩ = some (.string ⟨cn.toArray⟩) ∧ w'.cell? ⟨b1, i * 7 + 1, none⟩ = some (.int .i64 ca) ∧ w'.cell? ⟨b1, i * 7 + 2, none⟩ = some (.bool cb) ∧ w'.cell? ⟨b1, i * 7 + 3, none⟩ = some (.int .i64 cf) ∧ w'.cell? ⟨b1, i * 7 + 4, none⟩ = some (.int .i64 cl) ∧ w'.cell? ⟨b1, i * 7 + 5, none⟩ = some (.int .i64 cs) ∧ w'.cell? ⟨b1, i * 7 + 6, none⟩ = some (.int .i64 ck) ∧ w'.cell? ⟨b2, i * 7, none⟩ = some (.string ⟨cn.toArray⟩) ∧ w'.cell? ⟨b2, i * 7 + 1, none⟩ = some (.int .i64 ca) ∧ w'.cell? ⟨b2, i * 7 + 2, none⟩ = some (.bool cb) ∧ w'.cell? ⟨b2, i * 7 + 3, none⟩ = some (.int .i64 cf) ∧ w'.cell? ⟨b2, i * 7 + 4, none⟩ = some (.int .i64 cl) ∧ w'.cell? ⟨b2, i * 7 + 5, none⟩ = some (.int .i64 cs) ∧ w'.cell? ⟨b2, i * 7 + 6, none⟩ = some (.int .i64 ck)) (go_keep) (fail)
      all_goals go_wp2
      all_goals go_roundw
      all_goals first | exact ⟨i + 1, by simp, by omega, hide (by obtain ⟨m, rfl⟩ := unhide HM; exact ⟨m + 1, rfl⟩)⟩ | (simp only [intOf]; omega)
    · clear hcell
      have hii : i = 29 := by omega
      subst hii
      rw [show ((29 : Nat) : Int) = 29 from rfl]
      have f1 : decide ((29 : Int) < 29) = false := decide_eq_false (by omega)
      go_wp2
      go_ret
      exact ⟨rfl, unhide HM⟩
end Go.Proofs.YteooecjmnombfaaDoor
