/- The document's Post: Join. -/
import Derived.Test.YtjmnddcombepaaaDa
import Derived.Test.YtjmnddcombepaaaMt
namespace Go.Proofs.Ytjmnddcombepaaa
open Go.ChangeShapes Go.WideShapes Go.ChangeAt Go.RowKit Go.Maps
set_option linter.unusedVariables false
set_option linter.unusedSimpArgs false
set_option maxRecDepth 100000
set_option maxHeartbeats 8000000
theorem info113 : (Try.prog.info? 113).map (fun i => (i.zero, i.size, i.bytes)) = some (some (.agg #[.int .i64 0, .string ⟨#[]⟩, .bool false]), 3, 32) := by kernel_rfl
theorem op_append {P : Program} {o : Oper} {a : Act} {w w' : World} {K : Act → World → Prop} {Q : Exit → Act → World → Prop} {t : TypeId} {u v v' : Value} (s x : Operand) (hop : o.op = Op.call { callee := Callee.builtin Builtin.append, args := #[s, x], argTypes := #[t, t] })
    (hs : a.eval s = u) (hx : a.eval x = v) (hr : (Builtin.append_ #[t, t] o.type #[u, v]).run P w = .ok v' w') (hK : K (a.put o.dst v') w') : Oper.wp P o a w K Q := by
  unfold Oper.wp
  simp [execOp, hop, resolve, invoke, builtin, hs, hx, hr, Result.andThen]
  exact hK
/-- only the document's Post has changed -/
structure DCh (w w' : World) (q : Nat) (v v' : Value) : Prop where
  os : w'.os = w.os
  tape : w'.tape = w.tape
  output : w'.output = w.output
  size : w.heap.size ≤ w'.heap.size
  block : ∀ b, b < w.heap.size → b ≠ q → v.ownBlock ≠ some b → w'.heap[b]? = w.heap[b]?
  own : ∀ g, v'.ownBlock = some g → v.ownBlock = some g ∨ w.heap.size ≤ g
theorem DCh.of {w w' : World} {q : Nat} {v : Value} (h : Below w.heap.size w w') : DCh w w' q v v := ⟨h.os, h.tape, h.output, h.size, fun b hb _ _ => h.block b hb, fun g hg => .inl hg⟩
theorem DCh.trans {w w' w'' : World} {q : Nat} {v v' v'' : Value} (h : DCh w w' q v v') (k : DCh w' w'' q v' v'') : DCh w w'' q v v'' :=
  ⟨k.os.trans h.os, k.tape.trans h.tape, k.output.trans h.output, Nat.le_trans h.size k.size, fun b hb h1 h2 => (k.block b (Nat.lt_of_lt_of_le hb h.size) h1 (fun e => by
    rcases h.own b e with z | z
    · exact h2 z
    · omega)).trans (h.block b hb h1 h2), fun g hg => by
    rcases k.own g hg with z | z
    · exact h.own g z
    · have := h.size; exact .inr (by omega)⟩
def wrongD (c : Int) (T : List UInt8) : Int := if c < 0 ∨ 8 ≤ c then 170 else if 4096 < T.length then 171 else 0
/-- what Join leaves and answers -/
def djoinR (L : List Key) (k : Key) : List Key × Nat × Bool × Int := if wrongD k.1 k.2.1 ≠ 0 then (L, 0, false, wrongD k.1 k.2.1) else if k ∈ L then (L, cntC L k.1, false, 0) else if 64 ≤ cntC L k.1 then (L, 0, false, 172) else (L ++ [k], cntC L k.1 + 1, true, 0)
theorem findDI_ge {L : List Key} {k : Key} : 0 ≤ findDI L k ↔ k ∈ L := by
  unfold findDI findD
  cases hf : L.findIdx? (fun y => decide (y = k)) with
  | none =>
    rw [List.findIdx?_eq_none_iff] at hf
    constructor
    · intro h; simp at h
    · intro h
      have := hf k h
      simp at this
  | some i =>
    rw [List.findIdx?_eq_some_iff_getElem] at hf
    obtain ⟨hi, h1, -⟩ := hf
    constructor
    · intro _
      have : L[i] = k := by simpa using h1
      exact this ▸ List.getElem_mem hi
    · intro _; simp
theorem RPv.q4 {w w4 : World} {q : Nat} {v v' : Value} {L : List Key} {c m : Nat} (h : RPv w q v L) (hg : Gr 113 c m w w4 v v') : w4.heap[q]? = some (.cells #[v] 99 (0, 0)) := (hg.other q h.lt (fun e => h.ne q e rfl)).trans h.cell
/-- a list is stored as the document's Post's list -/
theorem RP_store {w : World} {q : Nat} {v v' : Value} {L' : List Key} (hq : w.heap[q]? = some (.cells #[v] 99 (0, 0))) (hr : Rws w 113 3 v' L'.length (fun k => (L'.flatMap nmC).getD k undef)) : RPv (w.setCell ⟨q, 0, none⟩ v') q v' L' ∧ ∀ b, b ≠ q → (w.setCell ⟨q, 0, none⟩ v').heap[b]? = w.heap[b]? := by
  have ho : ∀ b, b ≠ q → (w.setCell ⟨q, 0, none⟩ v').heap[b]? = w.heap[b]? := fun b hb => heap_setCell_other w ⟨q, 0, none⟩ b v' hb
  refine ⟨⟨?_, hr.same fun g hg => ho g (fun e => ?_)⟩, ho⟩
  · have := heap_setCell_same w q 0 #[v] 99 v' hq
    simpa using this
  · obtain ⟨c, hc⟩ := hr.type g hg
    rw [e, hq] at hc
    simp at hc
theorem RPv.grown {w w4 : World} {q : Nat} {v v' : Value} {L L' : List Key} {c m : Nat} (h : RPv w q v L) (hr : Rws w4 113 3 v' L'.length (fun k => (L'.flatMap nmC).getD k undef)) (hg : Gr 113 c m w w4 v v') : RPv (w4.setCell ⟨q, 0, none⟩ v') q v' L' ∧ DCh w (w4.setCell ⟨q, 0, none⟩ v') q v v' := by
  obtain ⟨k1, k2⟩ := RP_store (h.q4 hg) hr
  refine ⟨k1, hg.os, hg.tape, hg.output, by simpa using hg.size, fun b hb h1 h2 => (k2 b h1).trans (hg.other b hb h2), fun g hg' => ?_⟩
  rcases hg.how with ⟨g', cur, cur', e1, e2, -⟩ | ⟨e2, e3, -⟩
  · rw [e2] at hg'; cases hg'; exact .inl e1
  · rw [e2] at hg'; cases hg'; exact .inr (Nat.le_refl _)
theorem nm_snoc {L : List Key} {k : Key} {w : World} {v : Value} {n : Nat} (hn : n = L.length) (h : Rws w 113 3 v (n + 1) (fun j => if j < n * 3 then (L.flatMap nmC).getD j undef else (nmC k).getD (j - n * 3) undef)) : Rws w 113 3 v (L ++ [k]).length (fun j => ((L ++ [k]).flatMap nmC).getD j undef) := by
  subst hn
  have e : (L ++ [k]).length = L.length + 1 := by rw [List.length_append]; rfl
  rw [e]
  refine h.congr fun j hj => ?_
  have hl := nm_len L
  by_cases z : j < L.length * 3
  · simp only [if_pos z]
    rw [List.flatMap_append, List.getD_eq_getElem?_getD, List.getD_eq_getElem?_getD, List.getElem?_append_left (by omega)]
  · simp only [if_neg z]
    rw [List.flatMap_append, List.getD_eq_getElem?_getD, List.getD_eq_getElem?_getD, List.getElem?_append_right (by omega), hl]
    rfl
theorem djoin_any (w : World) (q : Nat) (v : Value) (L : List Key) (c : Int) (T : List UInt8) (p : Bool) (h : RPv w q v L) (hL : L.length ≤ 500000) (hT : T.length ≤ 140737488355328) :
    Calls Try.prog 46 #[.pointer (some ⟨q, 0, none⟩), .int .i64 c, .string (bs T), .bool p] w fun e w' => e = .returned (.tuple #[.int .i64 ((djoinR L (c, T, p)).2.1 : Nat), .bool (djoinR L (c, T, p)).2.2.1, .int .i64 (djoinR L (c, T, p)).2.2.2]) ∧ Hid (∃ v', RPv w' q v' (djoinR L (c, T, p)).1 ∧ DCh w w' q v v') := by
  obtain ⟨i0, hi0, hz0, hz1, hz2⟩ : ∃ i, Try.prog.info? 113 = some i ∧ i.zero = some (.agg #[.int .i64 0, .string ⟨#[]⟩, .bool false]) ∧ i.size = 3 ∧ i.bytes = 32 := by
    obtain ⟨i0, hi0, hzz⟩ := Option.map_eq_some_iff.1 info113
    simp only [Prod.mk.injEq] at hzz
    exact ⟨i0, hi0, hzz.1, hzz.2.1, hzz.2.2⟩
  obtain ⟨a, cap, rfl⟩ := h.row.shape
  have hcl := cntC_le L c
  have C66 := dwrong_any w c T hT
  obtain ⟨er, her⟩ : ∃ er, er = wrongD c T := ⟨_, rfl⟩
  have C66 : Calls Try.prog 66 #[.int .i64 c, .string (bs T)] w fun e w' => e = .returned (.int .i64 er) ∧ w' = w := by rw [her]; exact C66
  have HE := hide her
  clear her
  by_cases h1 : er = 0
  rotate_left
  · have f1 : (er != 0) = true := by simpa using h1
    have hr : djoinR L (c, T, p) = (L, 0, false, er) := by unfold djoinR; simp only [← unhide HE]; rw [if_pos h1]
    rw [hr]
    have HH := hide h
    clear h h1 hr
    go_enter Try.func46, Try.ntmps46
    go_wp2_with (go_at_call 66; refine C66.mono ?_; clear C66; rintro e w1 ⟨rfl, rfl⟩)
    go_ret3
    exact ⟨rfl, hide ⟨_, unhide HH, DCh.of (Below.refl _ _)⟩⟩
  subst h1
  have f1 : ((0 : Int) != 0) = false := by decide
  have C53 := dcount_any (w.alloc (.cells #[.int .i64 c, .string (bs T), .bool p] 113)) q L c (RP.below ⟨_, h⟩ ((Below.refl _ _).alloc (Nat.le_refl _) _)) (by omega)
  have C67 := dfind_any (w.alloc (.cells #[.int .i64 c, .string (bs T), .bool p] 113)) q L (c, T, p) (RP.below ⟨_, h⟩ ((Below.refl _ _).alloc (Nat.le_refl _) _)) (by omega)
  obtain ⟨W1, hW1⟩ : ∃ W1, w.alloc (.cells #[.int .i64 c, .string (bs T), .bool p] 113) = W1 := ⟨_, rfl⟩
  rw [hW1] at C53 C67
  have hx : W1.heap[w.heap.size]? = some (.cells #[.int .i64 c, .string (bs T), .bool p] 113 (0, 0)) := by rw [← hW1]; exact heap_alloc_new _ _
  have HB1 : Hid (Below w.heap.size w W1) := by rw [← hW1]; exact hide ((Below.refl _ _).alloc (Nat.le_refl _) _)
  have x0 : W1.cell? ⟨w.heap.size, 0, none⟩ = some (.int .i64 c) := cell_blk hx 0
  have x1 : W1.cell? ⟨w.heap.size, 1, none⟩ = some (.string (bs T)) := cell_blk hx 1
  have x2 : W1.cell? ⟨w.heap.size, 2, none⟩ = some (.bool p) := cell_blk hx 2
  have HX := hide hx
  have HH := hide h
  clear hx h
  obtain ⟨m, hm⟩ : ∃ m, m = cntC L c := ⟨_, rfl⟩
  obtain ⟨fi, hfi⟩ : ∃ fi, fi = findDI L (c, T, p) := ⟨_, rfl⟩
  rw [← hm] at C53 hcl
  rw [← hfi] at C67
  have HM := hide hm
  have HF := hide hfi
  clear hm hfi
  by_cases h2 : 0 ≤ fi
  · have f2 : decide ((0 : Int) ≤ fi) = true := decide_eq_true h2
    have f3 : decide (fi ≥ 0) = true := decide_eq_true h2
    have hr : djoinR L (c, T, p) = (L, m, false, 0) := by
      unfold djoinR; simp only [← unhide HE]
      rw [if_neg (by simp), if_pos (findDI_ge.1 (by rw [← unhide HF]; exact h2)), unhide HM]
    rw [hr]
    clear h2 hr
    go_enter Try.func46, Try.ntmps46
    go_wp2_with (first
      | (go_at_call 67; refine C67.mono ?_; clear C67; rintro e w3 ⟨rfl, H3⟩)
      | (go_at_call 53; refine C53.mono ?_; clear C53; rintro e w2 ⟨rfl, rfl⟩)
      | (go_at_call 66; refine C66.mono ?_; clear C66; rintro e w1 ⟨rfl, rfl⟩))
    go_ret3
    have hb : Below w1.heap.size w1 w3 := (unhide HB1).trans ((unhide H3).mono (unhide HB1).size)
    exact ⟨rfl, hide ⟨_, (unhide HH).below hb, DCh.of hb⟩⟩
  · have f2 : decide ((0 : Int) ≤ fi) = false := decide_eq_false h2
    have f3 : decide (fi ≥ 0) = false := decide_eq_false h2
    have HK : Hid ((c, T, p) ∉ L) := hide fun z => h2 (by rw [unhide HF]; exact findDI_ge.2 z)
    clear h2
    by_cases h3 : 64 ≤ m
    · have f4 : decide ((64 : Int) ≤ (m : Int)) = true := decide_eq_true (by omega)
      have f5 : decide ((m : Int) ≥ 64) = true := decide_eq_true (by omega)
      have f6 : decide (64 ≤ m) = true := decide_eq_true h3
      have hr : djoinR L (c, T, p) = (L, 0, false, 172) := by
        unfold djoinR; simp only [← unhide HE]
        rw [if_neg (by simp), if_neg (unhide HK), if_pos (by rw [← unhide HM]; exact h3)]
      rw [hr]
      clear h3 hr
      go_enter Try.func46, Try.ntmps46
      go_wp2_with (first
        | (go_at_call 67; refine C67.mono ?_; clear C67; rintro e w3 ⟨rfl, H3⟩)
        | (go_at_call 53; refine C53.mono ?_; clear C53; rintro e w2 ⟨rfl, rfl⟩)
        | (go_at_call 66; refine C66.mono ?_; clear C66; rintro e w1 ⟨rfl, rfl⟩))
      go_ret3
      have hb : Below w1.heap.size w1 w3 := (unhide HB1).trans ((unhide H3).mono (unhide HB1).size)
      exact ⟨rfl, hide ⟨_, (unhide HH).below hb, DCh.of hb⟩⟩
    · have f4 : decide ((64 : Int) ≤ (m : Int)) = false := decide_eq_false (by omega)
      have f5 : decide ((m : Int) ≥ 64) = false := decide_eq_false (by omega)
      have f6 : decide (64 ≤ m) = false := decide_eq_false h3
      have hr : djoinR L (c, T, p) = (L ++ [(c, T, p)], m + 1, true, 0) := by
        unfold djoinR; simp only [← unhide HE]
        rw [if_neg (by simp), if_neg (unhide HK), if_neg (by rw [← unhide HM]; exact h3), unhide HM]
      have q1 : IntKind.i64.wrap ((m : Int) + 1) = (m : Int) + 1 := by rw [IntKind.wrap_i64]; omega
      rw [hr]
      clear h3 hr
      obtain ⟨n, hn⟩ : ∃ n, n = L.length := ⟨_, rfl⟩
      have HN := hide hn
      rw [← hn] at HH hL hcl
      clear hn
      go_enter Try.func46, Try.ntmps46
      go_wp2_with (first
        | (go_at_call 67; refine C67.mono ?_; clear C67; rintro e w3 ⟨rfl, H3⟩)
        | (go_at_call 53; refine C53.mono ?_; clear C53; rintro e w2 ⟨rfl, rfl⟩)
        | (go_at_call 66; refine C66.mono ?_; clear C66; rintro e w1 ⟨rfl, rfl⟩))
      have hb : Below w1.heap.size w1 w3 := (unhide HB1).trans ((unhide H3).mono (unhide HB1).size)
      have HV : Hid (RPv w3 q (.slice a n cap) L) := hide (by have := (unhide HH).below hb; exact this)
      have hx3 : w3.heap[w1.heap.size]? = some (.cells #[.int .i64 c, .string (bs T), .bool p] 113 (0, 0)) := ((unhide H3).block _ (blk_lt (unhide HX))).trans (unhide HX)
      have hSS : (fun w' : World => w'.cell? ⟨q, 0, none⟩ = some (.slice a n cap) ∧ w'.cell? ⟨w1.heap.size, 0, none⟩ = some (.int .i64 c) ∧ w'.cell? ⟨w1.heap.size, 1, none⟩ = some (.string (bs T)) ∧ w'.cell? ⟨w1.heap.size, 2, none⟩ = some (.bool p)) w3 := ⟨cell_blk (unhide HV).cell 0, cell_blk hx3 0, cell_blk hx3 1, cell_blk hx3 2⟩
      clear hx3 x0 x1 x2 f1 f2 f3 f4 f5 f6
      refine till_begin (fun w' : World => w'.cell? ⟨q, 0, none⟩ = some (.slice a n cap) ∧ w'.cell? ⟨w1.heap.size, 0, none⟩ = some (.int .i64 c) ∧ w'.cell? ⟨w1.heap.size, 1, none⟩ = some (.string (bs T)) ∧ w'.cell? ⟨w1.heap.size, 2, none⟩ = some (.bool p)) 10 (by kernel_rfl) ?_
      refine AnyTill.take 0 (v := ?_) rfl (by kernel_rfl) (by kernel_rfl) (by kernel_rfl) (by kernel_rfl) (fun _ _ _ h => h) ?_ rfl hSS ?_
      rotate_left
      · intro w hSw
        go_simp
        all_goals with_reducible rfl
      try simp only [Act.put, List.getElem_toArray, List.getElem_cons_succ, List.getElem_cons_zero, List.setIfInBounds_toArray, List.set_cons_zero, List.set_cons_succ]
      refine AnyTill.take 1 (v := ?_) rfl (by kernel_rfl) (by kernel_rfl) (by kernel_rfl) (by kernel_rfl) (fun _ _ _ h => h) ?_ rfl hSS ?_
      rotate_left
      · intro w hSw
        go_simp
        all_goals with_reducible rfl
      try simp only [Act.put, List.getElem_toArray, List.getElem_cons_succ, List.getElem_cons_zero, List.setIfInBounds_toArray, List.set_cons_zero, List.set_cons_succ]
      refine AnyTill.take 2 (v := ?_) rfl (by kernel_rfl) (by kernel_rfl) (by kernel_rfl) (by kernel_rfl) (fun _ _ _ h => h) ?_ rfl hSS ?_
      rotate_left
      · intro w hSw
        go_simp
        all_goals with_reducible rfl
      try simp only [Act.put, List.getElem_toArray, List.getElem_cons_succ, List.getElem_cons_zero, List.setIfInBounds_toArray, List.set_cons_zero, List.set_cons_succ]
      refine AnyTill.take 3 (v := ?_) rfl (by kernel_rfl) (by kernel_rfl) (by kernel_rfl) (by kernel_rfl) (fun _ _ _ h => h) ?_ rfl hSS ?_
      rotate_left
      · intro w hSw
        go_simp
        all_goals with_reducible rfl
      try simp only [Act.put, List.getElem_toArray, List.getElem_cons_succ, List.getElem_cons_zero, List.setIfInBounds_toArray, List.set_cons_zero, List.set_cons_succ]
      refine AnyTill.take 4 (v := ?_) rfl (by kernel_rfl) (by kernel_rfl) (by kernel_rfl) (by kernel_rfl) (fun _ _ _ h => h) ?_ rfl hSS ?_
      rotate_left
      · intro w hSw
        go_simp
        all_goals with_reducible rfl
      try simp only [Act.put, List.getElem_toArray, List.getElem_cons_succ, List.getElem_cons_zero, List.setIfInBounds_toArray, List.set_cons_zero, List.set_cons_succ]
      refine AnyTill.take 5 (v := ?_) rfl (by kernel_rfl) (by kernel_rfl) (by kernel_rfl) (by kernel_rfl) (fun _ _ _ h => h) ?_ rfl hSS ?_
      rotate_left
      · intro w hSw
        go_simp
        all_goals with_reducible rfl
      try simp only [Act.put, List.getElem_toArray, List.getElem_cons_succ, List.getElem_cons_zero, List.setIfInBounds_toArray, List.set_cons_zero, List.set_cons_succ]
      refine AnyTill.one (i := 6) (by kernel_rfl) (AnyTill.op rfl rfl fun K hK => ?_)
      go_simp
      obtain ⟨W4, hW4⟩ : ∃ W4, (w3.alloc (.cells #[.int .i64 c, .string (bs T), .bool p] 113)).drew = W4 := ⟨_, rfl⟩
      have hb4 : Below w3.heap.size w3 W4 := by rw [← hW4]; exact (show Below w3.heap.size w3 (w3.alloc _).drew from by have hz := (Below.refl w3.heap.size w3).alloc (Nat.le_refl _) (.cells #[.int .i64 c, .string (bs T), .bool p] 113); exact ⟨hz.os, hz.tape, hz.output, hz.size, hz.block⟩)
      have hn4 : ∀ j x, [Value.int .i64 c, .string (bs T), .bool p][j]? = some x → W4.cell? ⟨w3.heap.size, j, none⟩ = some x := by rw [← hW4]; exact made_cells w3 [Value.int .i64 c, .string (bs T), .bool p] 113
      have hV4 := (unhide HV).below hb4
      have hl1 : w1.heap.size < w3.heap.size := Nat.lt_of_lt_of_le (blk_lt (unhide HX)) (unhide H3).size
      have hx4 : W4.heap[w1.heap.size]? = some (.cells #[.int .i64 c, .string (bs T), .bool p] 113 (0, 0)) := (hb4.block _ hl1).trans (((unhide H3).block _ (blk_lt (unhide HX))).trans (unhide HX))
      have hSS4 : (fun w' : World => w'.cell? ⟨q, 0, none⟩ = some (.slice a n cap) ∧ w'.cell? ⟨w1.heap.size, 0, none⟩ = some (.int .i64 c) ∧ w'.cell? ⟨w1.heap.size, 1, none⟩ = some (.string (bs T)) ∧ w'.cell? ⟨w1.heap.size, 2, none⟩ = some (.bool p)) W4 := ⟨cell_blk hV4.cell 0, cell_blk hx4 0, cell_blk hx4 1, cell_blk hx4 2⟩
      rw [hW4]
      refine hK _ _ (fun _ => hSS4) ?_
      clear hK K
      try simp only [Act.put, List.getElem_toArray, List.getElem_cons_succ, List.getElem_cons_zero, List.setIfInBounds_toArray, List.set_cons_zero, List.set_cons_succ]
      refine AnyTill.one (i := 7) (by kernel_rfl) (AnyTill.op rfl rfl fun K hK => ?_)
      obtain ⟨v5, W5, hr5, ho5, hg5⟩ := run_append_rws (P := Try.prog) (w := W4) 97 97 113 i0 _ 3 32 Try.underlying97 hi0 hz0 hz1 hz2 rfl 113 (.slice a n cap) n _ (by have := hV4.row; rw [← unhide HN] at this; exact this) (.inl rfl) w3.heap.size 1 1 [.int .i64 c, .string (bs T), .bool p] (by decide) rfl hn4 (by simp [Value.oneCell']) (by omega) (by omega)
      obtain ⟨a5, c5, rfl⟩ := ho5.shape
      refine op_append (.tmp 38) (.tmp 40) rfl rfl rfl hr5 ?_
      have hV5 := hV4.q4 hg5
      have hx5 : W5.heap[w1.heap.size]? = some (.cells #[.int .i64 c, .string (bs T), .bool p] 113 (0, 0)) := (hg5.other _ (blk_lt hx4) (fun e => by have := (unhide HH).row.lt _ e; omega)).trans hx4
      have hSS5 : (fun w' : World => w'.cell? ⟨q, 0, none⟩ = some (.slice a n cap) ∧ w'.cell? ⟨w1.heap.size, 0, none⟩ = some (.int .i64 c) ∧ w'.cell? ⟨w1.heap.size, 1, none⟩ = some (.string (bs T)) ∧ w'.cell? ⟨w1.heap.size, 2, none⟩ = some (.bool p)) W5 := ⟨cell_blk hV5 0, cell_blk hx5 0, cell_blk hx5 1, cell_blk hx5 2⟩
      have HF5 : Hid (RPv (W5.setCell ⟨q, 0, none⟩ (.slice a5 (n + 1) c5)) q (.slice a5 (n + 1) c5) (L ++ [(c, T, p)]) ∧ DCh w1 (W5.setCell ⟨q, 0, none⟩ (.slice a5 (n + 1) c5)) q (.slice a n cap) (.slice a5 (n + 1) c5)) := by
        obtain ⟨z1, z2⟩ := hV4.grown (nm_snoc (k := (c, T, p)) (unhide HN) ho5) hg5
        exact hide ⟨z1, (DCh.of ((unhide HB1).trans (((unhide H3).trans (hb4.mono (unhide H3).size)).mono (unhide HB1).size))).trans z2⟩
      have hfz : W5.frozen? ⟨q, 0, none⟩ = false := by simp [World.frozen?, hV5]
      have hc5 : W5.cell? ⟨q, 0, none⟩ = some (.slice a n cap) := hSS5.1
      clear hV5 hx5 hr5 ho5 hg5 hV4 hx4 hn4 hb4 hl1 hSS4
      refine hK _ _ (fun _ => hSS5) ?_
      clear hK K
      try simp only [Act.put, List.getElem_toArray, List.getElem_cons_succ, List.getElem_cons_zero, List.setIfInBounds_toArray, List.set_cons_zero, List.set_cons_succ]
      refine AnyTill.one (i := 8) (by kernel_rfl) (AnyTill.op rfl rfl fun K hK => ?_)
      go_simp
      refine hK _ _ (fun _ => hSS5) ?_
      clear hK K
      try simp only [Act.put, List.getElem_toArray, List.getElem_cons_succ, List.getElem_cons_zero, List.setIfInBounds_toArray, List.set_cons_zero, List.set_cons_succ]
      refine AnyTill.one (i := 9) (by kernel_rfl) (AnyTill.op rfl rfl fun K hK => ?_)
      go_simp
      refine hK _ _ (fun _ => hSS5) ?_
      clear hK K
      try simp only [Act.put, List.getElem_toArray, List.getElem_cons_succ, List.getElem_cons_zero, List.setIfInBounds_toArray, List.set_cons_zero, List.set_cons_succ]
      refine AnyTill.one (i := 10) (by kernel_rfl) (AnyTill.op rfl rfl fun K hK => ?_)
      go_simp
      refine hK _ _ (fun h => absurd rfl h) ?_
      clear hK K
      try simp only [Act.put, List.getElem_toArray, List.getElem_cons_succ, List.getElem_cons_zero, List.setIfInBounds_toArray, List.set_cons_zero, List.set_cons_succ]
      refine AnyTill.done (by kernel_rfl) ?_
      go_wp2_with fail
      go_ret3
      exact ⟨rfl, hide (by rw [← unhide HN]; exact ⟨_, unhide HF5⟩)⟩
end Go.Proofs.Ytjmnddcombepaaa
