/- The document's Post: Leave. -/
import Derived.Test.YtjmnddcombepaaaDb
import Derived.Test.YtjmnddcombepaaaRc
namespace Go.Proofs.Ytjmnddcombepaaa
open Go.ChangeShapes Go.WideShapes Go.ChangeAt Go.RowKit Go.Maps
set_option linter.unusedVariables false
set_option linter.unusedSimpArgs false
set_option maxRecDepth 100000
set_option maxHeartbeats 8000000
theorem nm_one (L : List Key) : ∀ v ∈ L.flatMap nmC, v.oneCell' = true := fun v hv => by
  obtain ⟨k, -, hk⟩ := List.mem_flatMap.1 hv
  simp [nmC] at hk
  rcases hk with rfl | rfl | rfl <;> rfl
theorem findDI_lt {L : List Key} {k : Key} {i : Nat} (h : findDI L k = (i : Int)) : i < L.length ∧ L[i]? = some k := by
  unfold findDI findD at h
  cases hf : L.findIdx? (fun y => decide (y = k)) with
  | none =>
    rw [hf] at h
    have h2 : (-1 : Int) = (i : Int) := h
    omega
  | some j =>
    rw [hf] at h
    have e : j = i := by have h2 : (j : Int) = (i : Int) := h; omega
    subst e
    rw [List.findIdx?_eq_some_iff_getElem] at hf
    obtain ⟨hi, h1, -⟩ := hf
    refine ⟨hi, ?_⟩
    rw [List.getElem?_eq_getElem hi]
    have : L[j] = k := by simpa using h1
    rw [this]
/-- what Leave leaves and answers -/
def dleaveR (L : List Key) (k : Key) : List Key × Nat × Bool × Int := if wrongD k.1 k.2.1 ≠ 0 then (L, 0, false, wrongD k.1 k.2.1) else if k ∈ L then (L.eraseIdx (findDI L k).toNat, cntC (L.eraseIdx (findDI L k).toNat) k.1, true, 0) else (L, cntC L k.1, false, 0)
/-- a part of a list, its cells -/
theorem RPv.part {w : World} {q n : Nat} {a : Option Addr} {cap : Nat} {L : List Key} (h : RPv w q (.slice a n cap) L) (hn : n = L.length) (hp : 0 < n) : ∃ g, a = some ⟨g, 0, none⟩ ∧ n ≤ cap ∧ ∀ (s t j : Nat) (x : Value), (((L.drop s).take t).flatMap nmC)[j]? = some x → w.cell? ⟨g, s * 3 + j, none⟩ = some x := by
  rcases h.row with ⟨e, e0⟩ | ⟨b, cp, cur, e, hg, hc, hm, hs, hf⟩
  · omega
  · simp only [Value.slice.injEq] at e
    obtain ⟨e1, e2, e3⟩ := e
    refine ⟨b, e1, by omega, fun s t j x hx0 => ?_⟩
    have hx : ((L.drop s).flatMap nmC)[j]? = some x := by
      have hj0 := (List.getElem?_eq_some_iff.1 hx0).1
      have hsp : (L.drop s).flatMap nmC = ((L.drop s).take t).flatMap nmC ++ ((L.drop s).drop t).flatMap nmC := by rw [← List.flatMap_append, List.take_append_drop]
      rw [hsp, List.getElem?_append_left hj0]
      exact hx0
    have hl := nm_len (L.drop s)
    have hj := (List.getElem?_eq_some_iff.1 hx).1
    rw [hl, List.length_drop] at hj
    rw [cell_blk hg, hf (s * 3 + j) (by omega)]
    have hsp : L.flatMap nmC = (L.take s).flatMap nmC ++ (L.drop s).flatMap nmC := by rw [← List.flatMap_append, List.take_append_drop]
    have hts : (L.take s).length = s := by rw [List.length_take]; omega
    show some (List.getD _ _ undef) = _
    rw [hsp, List.getD_eq_getElem?_getD, List.getElem?_append_right (by rw [nm_len, hts]; omega), nm_len, hts, Nat.add_sub_cancel_left, hx]
    rfl
/-- at a plain region -/
theorem append_gen {P : Program} {w : World} {ops : Array Oper} {rest : List Oper} {o : Oper} {a : Act} {Q : Exit → Act → World → Prop} (hgd : o.guard = none) (so x : Operand) (t : TypeId) (ho : o.op = .call { callee := .builtin .append, args := #[so, x], argTypes := #[t, t] })
    (e : TypeId) (i : TypeInfo) (z : Value) (s bytes : Nat) (ht : P.underlying t = some (.slice e)) (hi : P.info? e = some i) (hz : i.zero = some z) (hsize : i.size = s) (hby : i.bytes = bytes) (hzs : z.cells.size = s)
    (v : Value) (n : Nat) (f : Nat → Value) (hs : a.eval so = v) (hown : Rws w e s v n f) (b : Option Addr) (m mc : Nat) (hx : a.eval x = .slice b m mc) (news : List Value) (hl : news.length = m * s) (hnil : b = none → m = 0) (hc : ∀ ad, b = some ad → ∀ (j : Nat) (x : Value), news[j]? = some x → w.cell? (ad.add j) = some x) (h1 : ∀ x ∈ news, x.oneCell' = true) (hn : (n + m) * bytes ≤ 140737488355328) (hn2 : n + m ≤ maxLen)
    (h : ∀ v' w', Rws w' e s v' (n + m) (fun k => if k < n * s then f k else news.getD (k - n * s) undef) → Ga e (n * s) news.length w w' v v' → wpList P ops Q rest (a.put o.dst v') w') : wpList P ops Q (o :: rest) a w := by
  refine wpList_plain hgd fun _ hK => ?_
  obtain ⟨v', w', hr, h2, h3⟩ := run_append_any (P := P) (w := w) o.type t e i z s bytes ht hi hz hsize hby hzs v n f hown b m mc news hl hnil hc h1 hn hn2
  exact wp_appended so x t ho _ _ hs hx _ _ hr (hK _ _ (h v' w' h2 h3))
/-- a list in new memory -/
structure Nw (w W : World) (v : Value) : Prop where
  bel : Below w.heap.size w W
  own : ∀ g, v.ownBlock = some g → w.heap.size ≤ g
theorem Nw.nil (w : World) : Nw w w (.slice none 0 0) := ⟨Below.refl _ _, fun g hg => (by cases hg)⟩
theorem Nw.on {w W W' : World} {v : Value} (h : Nw w W v) (hb : Below W.heap.size W W') : Nw w W' v := ⟨h.bel.trans (hb.mono h.bel.size), h.own⟩
theorem Nw.ga {w W W' : World} {v v' : Value} {e : TypeId} {c m : Nat} (h : Nw w W v) (hg : Ga e c m W W' v v') : Nw w W' v' := by
  rcases hg with ⟨rfl, rfl⟩ | hg
  · exact h
  · refine ⟨h.bel.trans (hg.below _ h.bel.size h.own), fun g hg' => ?_⟩
    exact hg.own _ h.bel.size h.own g hg'
theorem DCh.stored {w W W5 : World} {q : Nat} {v v5 : Value} (h : Below w.heap.size w W) (h5 : Nw W W5 v5) (hs : ∀ b, b ≠ q → (W5.setCell ⟨q, 0, none⟩ v5).heap[b]? = W5.heap[b]?) : DCh w (W5.setCell ⟨q, 0, none⟩ v5) q v v5 := by
  have hb := h.trans (h5.bel.mono h.size)
  exact ⟨hb.os, hb.tape, hb.output, by simpa using hb.size, fun b hb' h1 _ => (hs b h1).trans (hb.block b hb'), fun g hg => .inr (Nat.le_trans h.size (h5.own g hg))⟩
/-- two parts, one behind the other -/
theorem nm_two {w : World} {v : Value} {A B : List Key} {n m : Nat} (ha : n = A.length) (hb : m = B.length) (h : Rws w 113 3 v (n + m) (fun j => if j < n * 3 then (A.flatMap nmC).getD j undef else (B.flatMap nmC).getD (j - n * 3) undef)) : Rws w 113 3 v (A ++ B).length (fun j => ((A ++ B).flatMap nmC).getD j undef) := by
  subst ha
  subst hb
  rw [List.length_append]
  refine h.congr fun j hj => ?_
  have hl := nm_len A
  by_cases z : j < A.length * 3
  · simp only [if_pos z]
    rw [List.flatMap_append, List.getD_eq_getElem?_getD, List.getD_eq_getElem?_getD, List.getElem?_append_left (by omega)]
  · simp only [if_neg z]
    rw [List.flatMap_append, List.getD_eq_getElem?_getD, List.getD_eq_getElem?_getD, List.getElem?_append_right (by omega), hl]
theorem dleave_any (w : World) (q : Nat) (v : Value) (L : List Key) (c : Int) (T : List UInt8) (p : Bool) (h : RPv w q v L) (hL : L.length ≤ 500000) (hT : T.length ≤ 140737488355328) :
    Calls Try.prog 47 #[.pointer (some ⟨q, 0, none⟩), .int .i64 c, .string (bs T), .bool p] w fun e w' => e = .returned (.tuple #[.int .i64 ((dleaveR L (c, T, p)).2.1 : Nat), .bool (dleaveR L (c, T, p)).2.2.1, .int .i64 (dleaveR L (c, T, p)).2.2.2]) ∧ Hid (∃ v', RPv w' q v' (dleaveR L (c, T, p)).1 ∧ DCh w w' q v v') := by
  obtain ⟨i0, hi0, hz0, hz1, hz2⟩ : ∃ i, Try.prog.info? 113 = some i ∧ i.zero = some (.agg #[.int .i64 0, .string ⟨#[]⟩, .bool false]) ∧ i.size = 3 ∧ i.bytes = 32 := by
    obtain ⟨i0, hi0, hzz⟩ := Option.map_eq_some_iff.1 info113
    simp only [Prod.mk.injEq] at hzz
    exact ⟨i0, hi0, hzz.1, hzz.2.1, hzz.2.2⟩
  obtain ⟨a, cap, rfl⟩ := h.row.shape
  have C66 := dwrong_any w c T hT
  obtain ⟨er, her⟩ : ∃ er, er = wrongD c T := ⟨_, rfl⟩
  have C66 : Calls Try.prog 66 #[.int .i64 c, .string (bs T)] w fun e w' => e = .returned (.int .i64 er) ∧ w' = w := by rw [her]; exact C66
  have HE := hide her
  clear her
  by_cases h1 : er = 0
  rotate_left
  · have f1 : (er != 0) = true := by simpa using h1
    have hr : dleaveR L (c, T, p) = (L, 0, false, er) := by unfold dleaveR; simp only [← unhide HE]; rw [if_pos h1]
    rw [hr]
    have HH := hide h
    clear h h1 hr
    go_enter Try.func47, Try.ntmps47
    go_wp2_with (go_at_call 66; refine C66.mono ?_; clear C66; rintro e w1 ⟨rfl, rfl⟩)
    go_ret3
    exact ⟨rfl, hide ⟨_, unhide HH, DCh.of (Below.refl _ _)⟩⟩
  subst h1
  have f1 : ((0 : Int) != 0) = false := by decide
  have C67 := dfind_any w q L (c, T, p) ⟨_, h⟩ (by omega)
  obtain ⟨fi, hfi⟩ : ∃ fi, fi = findDI L (c, T, p) := ⟨_, rfl⟩
  rw [← hfi] at C67
  have HF := hide hfi
  have HH := hide h
  clear hfi h
  by_cases h2 : fi < 0
  · have f2 : decide (fi < 0) = true := decide_eq_true h2
    have hr : dleaveR L (c, T, p) = (L, cntC L c, false, 0) := by
      unfold dleaveR; simp only [← unhide HE]
      rw [if_neg (by simp), if_neg (fun z => by have := findDI_ge.2 z; rw [← unhide HF] at this; omega)]
    rw [hr]
    clear h2 hr
    go_enter Try.func47, Try.ntmps47
    go_wp2_with (first
      | (go_at_call 53; refine (dcount_any _ q L c (RP.below ⟨_, unhide HH⟩ (unhide H3)) (by omega)).mono ?_; rintro e w2 ⟨rfl, rfl⟩)
      | (go_at_call 67; refine C67.mono ?_; clear C67; rintro e w3 ⟨rfl, H3⟩)
      | (go_at_call 66; refine C66.mono ?_; clear C66; rintro e w1 ⟨rfl, rfl⟩))
    go_ret3
    exact ⟨rfl, hide ⟨_, (unhide HH).below (unhide H3), DCh.of (unhide H3)⟩⟩
  · have f2 : decide (fi < 0) = false := decide_eq_false h2
    obtain ⟨i, rfl⟩ : ∃ i : Nat, fi = (i : Int) := ⟨fi.toNat, by omega⟩
    obtain ⟨hi, hik⟩ := findDI_lt (unhide HF).symm
    have hr : dleaveR L (c, T, p) = (L.eraseIdx i, cntC (L.eraseIdx i) c, true, 0) := by
      unfold dleaveR; simp only [← unhide HE]
      rw [if_neg (by simp), if_pos (findDI_ge.1 (by rw [← unhide HF]; omega)), ← unhide HF, Int.toNat_natCast]
    rw [hr]
    obtain ⟨n, hn⟩ : ∃ n, n = L.length := ⟨_, rfl⟩
    rw [← hn] at HH hi
    have HN := hide hn
    have hn5 : n ≤ 500000 := by omega
    obtain ⟨g, rfl, hcap, hpt⟩ := (unhide HH).part hn (by omega)
    have HPT := hide hpt
    have q1 : IntKind.i64.wrap ((i : Int) + 1) = (i : Int) + 1 := by rw [IntKind.wrap_i64]; omega
    have g1 : (0 : Int) ≤ (i : Int) := by omega
    have g2 : (i : Int) ≤ (cap : Int) := by omega
    have g3 : i ≤ cap := by omega
    have g4 : (0 : Int) ≤ (i : Int) + 1 := by omega
    have g5 : (i : Int) + 1 ≤ (n : Int) := by omega
    have g6 : i + 1 ≤ n := by omega
    clear h2 hr hn hik hpt hL
    have HC0 : Hid (w.cell? ⟨q, 0, none⟩ = some (.slice (some ⟨g, 0, none⟩) n cap)) := hide (cell_blk (unhide HH).cell 0)
    go_enter Try.func47, Try.ntmps47
    have HAd : Hid (∀ (o j : Nat), (⟨g, o, none⟩ : Addr).add j = ⟨g, o + j, none⟩) := hide fun o j => by unfold Addr.add; split <;> simp_all
    have HER : Hid (L.eraseIdx i = L.take i ++ L.drop (i + 1)) := hide (List.eraseIdx_eq_take_drop_succ ..)
    by_cases hy : cap = i + 1
    · obtain rfl : n = i + 1 := by omega
      subst hy
      go_wp2_with (first
      | (go_at_call 53; refine (dcount_any _ q (L.eraseIdx i) c ⟨_, (unhide S5).1⟩ (by have := unhide HN; rw [unhide HER, List.length_append, List.length_take, List.length_drop]; omega)).mono ?_; rintro e w6 ⟨rfl, rfl⟩)
      | (at_builtin; refine append_gen rfl _ _ 97 rfl 113 i0 _ 3 32 Try.underlying97 hi0 hz0 hz1 hz2 rfl (.slice a4 i c4) i (fun k => ((L.take i).flatMap nmC).getD k undef) rfl (unhide R4) (some ⟨g, 0, none⟩) (0) (0) rfl ((L.drop (i + 1)).flatMap nmC) (by have := unhide HN; rw [nm_len, List.length_drop]; omega) (fun z => by cases z) (fun ad had j x hx => by cases had; have hz := (List.getElem?_eq_some_iff.1 hx).1; rw [nm_len, List.length_drop, ← unhide HN] at hz; omega) (nm_one _) (by omega) (by unfold maxLen; omega) ?_; intro v5 w5 h5 k5; obtain ⟨a5, c5, rfl⟩ := h5.shape; have N5 := hide ((unhide N4).ga k5); have R5 := hide (nm_two (A := L.take i) (B := L.drop (i + 1)) (by have := unhide HN; rw [List.length_take]; omega) (by have := unhide HN; rw [List.length_drop]; omega) h5); clear h5 k5; have hq5 : w5.heap[q]? = some (.cells #[.slice (some ⟨g, 0, none⟩) (i + 1) (i + 1)] 99 (0, 0)) := ((unhide N5).bel.block q (Nat.lt_of_lt_of_le (unhide HH).lt (unhide H3).size)).trans (((unhide H3).block q (unhide HH).lt).trans (unhide HH).cell); have S5 := hide (RP_store hq5 (by rw [← unhide HER] at R5; exact unhide R5)); have c5' : w5.cell? ⟨q, 0, none⟩ = some (.slice (some ⟨g, 0, none⟩) (i + 1) (i + 1)) := cell_blk hq5 0; have hfz : w5.frozen? ⟨q, 0, none⟩ = false := (by simp [World.frozen?, hq5]); clear hq5; go_frame)
      | (at_builtin; refine append_gen rfl _ _ 97 rfl 113 i0 _ 3 32 Try.underlying97 hi0 hz0 hz1 hz2 rfl (.slice none 0 0) 0 (fun _ => undef) rfl (.inl ⟨rfl, rfl⟩) (some ⟨g, 0, none⟩) i (i + 1) rfl ((L.take i).flatMap nmC) (by rw [nm_len, List.length_take, ← unhide HN]; congr 1; omega) (fun z => by cases z) (fun ad had j x hx => by cases had; rw [unhide HAd, Nat.zero_add]; have := unhide HPT 0 i j x (by rw [List.drop_zero]; exact hx); rw [Nat.zero_mul, Nat.zero_add] at this; exact ((unhide H3).cell (p := ⟨g, j, none⟩) ((unhide HH).row.lt g rfl)).trans this) (nm_one _) (by omega) (by simp only [maxLen]; omega) ?_; intro v4 w4 h4 k4; obtain ⟨a4, c4, e4⟩ := h4.shape; rw [Nat.zero_add] at e4; subst e4; have N4 := hide ((Nw.nil w3).ga k4); have R4 : Hid (Rws w4 113 3 (.slice a4 i c4) i (fun k => ((L.take i).flatMap nmC).getD k undef)) := hide (by have h5 := h4; rw [Nat.zero_add] at h5; exact h5.congr (fun j hj => by simp)); clear h4 k4; have c4' : w4.cell? ⟨q, 0, none⟩ = some (.slice (some ⟨g, 0, none⟩) (i + 1) (i + 1)) := ((unhide N4).bel.cell (p := ⟨q, 0, none⟩) (Nat.lt_of_lt_of_le (unhide HH).lt (unhide H3).size)).trans c3; go_frame)
      | (go_at_call 67; refine C67.mono ?_; clear C67; rintro e w3 ⟨rfl, H3⟩; have c3 : w3.cell? ⟨q, 0, none⟩ = some (.slice (some ⟨g, 0, none⟩) (i + 1) (i + 1)) := ((unhide H3).cell (p := ⟨q, 0, none⟩) (unhide HH).lt).trans (unhide HC0))
      | (go_at_call 66; refine C66.mono ?_; clear C66; rintro e w1 ⟨rfl, rfl⟩))
      go_ret3
      exact ⟨rfl, hide ⟨_, (unhide S5).1, DCh.stored (unhide H3) (unhide N5) (unhide S5).2⟩⟩
    · have hy2 : cap - (i + 1) ≠ 0 := by omega
      go_wp2_with (first
      | (go_at_call 53; refine (dcount_any _ q (L.eraseIdx i) c ⟨_, (unhide S5).1⟩ (by have := unhide HN; rw [unhide HER, List.length_append, List.length_take, List.length_drop]; omega)).mono ?_; rintro e w6 ⟨rfl, rfl⟩)
      | (at_builtin; refine append_gen rfl _ _ 97 rfl 113 i0 _ 3 32 Try.underlying97 hi0 hz0 hz1 hz2 rfl (.slice a4 i c4) i (fun k => ((L.take i).flatMap nmC).getD k undef) rfl (unhide R4) (some ⟨g, (i + 1) * 3, none⟩) (n - (i + 1)) (cap - (i + 1)) rfl ((L.drop (i + 1)).flatMap nmC) (by have := unhide HN; rw [nm_len, List.length_drop]; omega) (fun z => by cases z) (fun ad had j x hx => by cases had; rw [unhide HAd]; have := unhide HPT (i + 1) n j x (by rw [List.take_of_length_le (by have := unhide HN; rw [List.length_drop]; omega)]; exact hx); have hz := ((unhide H3).cell (p := ⟨g, (i + 1) * 3 + j, none⟩) ((unhide HH).row.lt g rfl)).trans this; exact ((unhide N4).bel.cell (p := ⟨g, (i + 1) * 3 + j, none⟩) (Nat.lt_of_lt_of_le ((unhide HH).row.lt g rfl) (unhide H3).size)).trans hz) (nm_one _) (by omega) (by unfold maxLen; omega) ?_; intro v5 w5 h5 k5; obtain ⟨a5, c5, rfl⟩ := h5.shape; have N5 := hide ((unhide N4).ga k5); have R5 := hide (nm_two (A := L.take i) (B := L.drop (i + 1)) (by have := unhide HN; rw [List.length_take]; omega) (by have := unhide HN; rw [List.length_drop]; omega) h5); clear h5 k5; have hq5 : w5.heap[q]? = some (.cells #[.slice (some ⟨g, 0, none⟩) (n) (cap)] 99 (0, 0)) := ((unhide N5).bel.block q (Nat.lt_of_lt_of_le (unhide HH).lt (unhide H3).size)).trans (((unhide H3).block q (unhide HH).lt).trans (unhide HH).cell); have S5 := hide (RP_store hq5 (by rw [← unhide HER] at R5; exact unhide R5)); have c5' : w5.cell? ⟨q, 0, none⟩ = some (.slice (some ⟨g, 0, none⟩) (n) (cap)) := cell_blk hq5 0; have hfz : w5.frozen? ⟨q, 0, none⟩ = false := (by simp [World.frozen?, hq5]); clear hq5; go_frame)
      | (at_builtin; refine append_gen rfl _ _ 97 rfl 113 i0 _ 3 32 Try.underlying97 hi0 hz0 hz1 hz2 rfl (.slice none 0 0) 0 (fun _ => undef) rfl (.inl ⟨rfl, rfl⟩) (some ⟨g, 0, none⟩) i cap rfl ((L.take i).flatMap nmC) (by rw [nm_len, List.length_take, ← unhide HN]; congr 1; omega) (fun z => by cases z) (fun ad had j x hx => by cases had; rw [unhide HAd, Nat.zero_add]; have := unhide HPT 0 i j x (by rw [List.drop_zero]; exact hx); rw [Nat.zero_mul, Nat.zero_add] at this; exact ((unhide H3).cell (p := ⟨g, j, none⟩) ((unhide HH).row.lt g rfl)).trans this) (nm_one _) (by omega) (by simp only [maxLen]; omega) ?_; intro v4 w4 h4 k4; obtain ⟨a4, c4, e4⟩ := h4.shape; rw [Nat.zero_add] at e4; subst e4; have N4 := hide ((Nw.nil w3).ga k4); have R4 : Hid (Rws w4 113 3 (.slice a4 i c4) i (fun k => ((L.take i).flatMap nmC).getD k undef)) := hide (by have h5 := h4; rw [Nat.zero_add] at h5; exact h5.congr (fun j hj => by simp)); clear h4 k4; have c4' : w4.cell? ⟨q, 0, none⟩ = some (.slice (some ⟨g, 0, none⟩) n cap) := ((unhide N4).bel.cell (p := ⟨q, 0, none⟩) (Nat.lt_of_lt_of_le (unhide HH).lt (unhide H3).size)).trans c3; go_frame)
      | (go_at_call 67; refine C67.mono ?_; clear C67; rintro e w3 ⟨rfl, H3⟩; have c3 : w3.cell? ⟨q, 0, none⟩ = some (.slice (some ⟨g, 0, none⟩) n cap) := ((unhide H3).cell (p := ⟨q, 0, none⟩) (unhide HH).lt).trans (unhide HC0))
      | (go_at_call 66; refine C66.mono ?_; clear C66; rintro e w1 ⟨rfl, rfl⟩))
      go_ret3
      exact ⟨rfl, hide ⟨_, (unhide S5).1, DCh.stored (unhide H3) (unhide N5) (unhide S5).2⟩⟩
end Go.Proofs.Ytjmnddcombepaaa
