/- kept: every list bears its mark. -/
import Derived.Test.YtfebiemfmiahhabRf
import Derived.Test.YtfebiemfmiahhabKb
import Derived.Deep.RegionHeld3
namespace Go.Proofs.Ytfebiemfmiahhab
open Go.ChangeShapes Go.WideShapes Go.ChangeAt Go.RowKit
set_option linter.unusedVariables false
set_option linter.unusedSimpArgs false
set_option maxRecDepth 100000
set_option maxHeartbeats 16000000
theorem below_drewN' {B : Nat} {w w' : World} (h : Below B w w') (n : Nat) : Below B w (w'.drewN n) := ⟨h.os, h.tape, h.output, h.size, h.block⟩
/-- lists of elements of type e, s cells, in a row of lists (type le); their marks in a row; five lists a mark -/
structure KpR (w : World) (e le : TypeId) (s : Nat) (A : List Ent) (aa : Option Addr) (na ac : Nat) (C : List (List Value)) (ma : Option Addr) (mn mc : Nat) : Prop where
  an : na = A.length
  row : Rws w le 1 (.slice aa na ac) na (fun k => (A.getD k ⟨undef, 0, []⟩).v)
  ent : ∀ x ∈ A, (Rws w e s x.v x.n (mkF x.c) ∧ x.c.length = s) ∧ (∃ a cap, x.v = .slice a x.n cap) ∧ x.n ≤ 200000
  mnn : mn = C.length
  mrk : Rws w e s (.slice ma mn mc) mn (fun k => C.flatten.getD k undef)
  clen : ∀ c ∈ C, c.length = s
  rel : ∀ i x, A[i]? = some x → C[i / 5]? = some x.c
theorem KpR.below {w w' : World} {e le : TypeId} {s : Nat} {A : List Ent} {aa : Option Addr} {na ac : Nat} {C : List (List Value)} {ma : Option Addr} {mn mc : Nat} (h : KpR w e le s A aa na ac C ma mn mc) (hb : Below w.heap.size w w') : KpR w' e le s A aa na ac C ma mn mc :=
  ⟨h.an, h.row.below hb, fun x hx => ⟨⟨(h.ent x hx).1.1.below hb, (h.ent x hx).1.2⟩, (h.ent x hx).2⟩, h.mnn, h.mrk.below hb, h.clen, h.rel⟩
theorem flatten_get {s : Nat} {C : List (List Value)} (hC : ∀ c ∈ C, c.length = s) {q : Nat} {c : List Value} (hq : C[q]? = some c) {j : Nat} (hj : j < s) : C.flatten.getD (q * s + j) undef = c.getD j undef := by
  induction C generalizing q with
  | nil => simp at hq
  | cons d C ih =>
    have hd : d.length = s := hC d (List.mem_cons_self ..)
    rw [List.flatten_cons]
    cases q with
    | zero =>
      obtain rfl : d = c := by simpa using hq
      rw [Nat.zero_mul, Nat.zero_add, List.getD_eq_getElem?_getD, List.getElem?_append_left (by omega), List.getD_eq_getElem?_getD]
    | succ q =>
      have := ih (fun c hc => hC c (List.mem_cons_of_mem _ hc)) (q := q) (by simpa using hq)
      rw [← this, List.getD_eq_getElem?_getD, List.getElem?_append_right (by rw [hd, Nat.add_mul]; omega), List.getD_eq_getElem?_getD, hd]
      congr 2
      rw [Nat.add_mul]; omega
/-- what is read at list i -/
theorem KpR.list {w : World} {e le : TypeId} {s : Nat} {A : List Ent} {aa : Option Addr} {na ac : Nat} {C : List (List Value)} {ma : Option Addr} {mn mc : Nat} (h : KpR w e le s A aa na ac C ma mn mc) {i : Nat} {x : Ent} (hx : A[i]? = some x) : ∃ g a cap, aa = some ⟨g, 0, none⟩ ∧ x.v = .slice a x.n cap ∧ w.cell? ⟨g, i, none⟩ = some (.slice a x.n cap) ∧ x.n ≤ 200000 := by
  obtain ⟨hi, he⟩ := List.getElem?_eq_some_iff.1 hx
  obtain ⟨g, cap', e1, -, -, hc⟩ := h.row.at (by rw [h.an]; omega)
  cases e1
  obtain ⟨-, ⟨a, cap, ev⟩, hn⟩ := h.ent x (List.mem_of_getElem? hx)
  have := hc i (by rw [h.an]; omega)
  have e2 : A.getD i ⟨undef, 0, []⟩ = x := by rw [List.getD_eq_getElem?_getD, hx]; rfl
  rw [e2, ev] at this
  exact ⟨g, a, cap, rfl, ev, this, hn⟩
/-- and at its place k, cell j -/
theorem KpR.place {w : World} {e le : TypeId} {s : Nat} {A : List Ent} {aa : Option Addr} {na ac : Nat} {C : List (List Value)} {ma : Option Addr} {mn mc : Nat} (h : KpR w e le s A aa na ac C ma mn mc) {i : Nat} {x : Ent} (hx : A[i]? = some x) {k : Nat} (hk : k < x.n) {a : Option Addr} {cap : Nat} (hv : x.v = .slice a x.n cap) : ∃ g gm, a = some ⟨g, 0, none⟩ ∧ ma = some ⟨gm, 0, none⟩ ∧ i / 5 < mn ∧ ∀ j, j < s → w.cell? ⟨g, k * s + j, none⟩ = some (x.c.getD j undef) ∧ w.cell? ⟨gm, i / 5 * s + j, none⟩ = some (x.c.getD j undef) := by
  obtain ⟨⟨hr, hl⟩, -, -⟩ := h.ent x (List.mem_of_getElem? hx)
  rw [hv] at hr
  obtain ⟨g, cap1, e1, -, -, hc⟩ := hr.at (by omega)
  cases e1
  have hq := h.rel i x hx
  have hq2 : i / 5 < mn := by rw [h.mnn]; exact (List.getElem?_eq_some_iff.1 hq).1
  obtain ⟨gm, cap2, e2, -, -, hm⟩ := h.mrk.at (by omega)
  cases e2
  refine ⟨g, gm, rfl, rfl, hq2, fun j hj => ⟨?_, ?_⟩⟩
  · have h1 : k * s + j < x.n * s := by
      have := Nat.mul_le_mul_right s (show k + 1 ≤ x.n by omega)
      rw [Nat.add_mul] at this
      omega
    rw [hc _ h1, ← hl, mkF_shift]
    unfold mkF
    rw [Nat.mod_eq_of_lt (by rw [hl]; exact hj)]
  · have h1 : i / 5 * s + j < mn * s := by
      have := Nat.mul_le_mul_right s (show i / 5 + 1 ≤ mn by omega)
      rw [Nat.add_mul] at this
      omega
    rw [hm _ h1, flatten_get h.clen hq hj]
theorem kept_any (w : World) (A : List Ent) (aa : Option Addr) (na ac : Nat) (C : List (List Value)) (ma : Option Addr) (mn mc : Nat) (A' : List Ent) (ba : Option Addr) (nb bc : Nat) (C' : List (List Value)) (na' : Option Addr) (nn nc : Nat)
    (h : KpR w 46 38 2 A aa na ac C ma mn mc) (h' : KpR w 3 51 1 A' ba nb bc C' na' nn nc) (hna : na ≤ 1000000) (hnb : nb ≤ 1000000) (hp : ∀ x ∈ A, ∃ m : Pl, x.c = [.int .i64 m.1, .string (bs m.2)]) (hp' : ∀ x ∈ A', ∃ m : Int, x.c = [.int .i64 m]) :
    Calls Try.prog 24 #[.slice aa na ac, .slice ma mn mc, .slice ba nb bc, .slice na' nn nc] w fun e w' => e = .returned (.bool true) ∧ Hid (Below w.heap.size w w') := by
  have H1 := hide h
  have H2 := hide h'
  have HP := hide hp
  have HP' := hide hp'
  clear h h' hp hp'
  go_enter Try.func24, Try.ntmps24
  go_wp2_with fail
  go_loopw [9] (fun iv wr => ∃ i : Nat, iv = .int .i64 ((i : Nat) : Int) ∧ i ≤ na ∧ Hid (Below w.heap.size w wr)) (fun iv _ => na - (intOf iv).toNat)
  case atStart => exact ⟨0, rfl, Nat.zero_le _, hide (Below.refl _ _)⟩
  case round =>
    obtain ⟨i, rfl, hi, HO⟩ := hrel
    by_cases hin : i < na
    · have f1 : decide ((i : Int) < (na : Int)) = true := decide_eq_true (by omega)
      have g1 : (0 : Int) ≤ (i : Int) := by omega
      have g2 : (i : Int) < (na : Int) := by omega
      obtain ⟨x, hx⟩ : ∃ x, A[i]? = some x := ⟨_, List.getElem?_eq_getElem (by have := (unhide H1).an; omega)⟩
      obtain ⟨g, a, cap, rfl, hv, -, hn⟩ := (unhide H1).list hx
      obtain ⟨m, hm⟩ := unhide HP x (List.mem_of_getElem? hx)
      obtain ⟨xn, hxn⟩ : ∃ xn, xn = x.n := ⟨_, rfl⟩
      rw [← hxn] at hn
      have HX := hide hx
      have HV := hide hv
      have HXN := hide hxn
      have HMm := hide hm
      clear hx hv hxn hm
      go_wp2_with fail
      go_loopw [10] (fun kv wx => ∃ k : Nat, kv = .int .i64 ((k : Nat) : Int) ∧ k ≤ xn ∧ Hid (Below w.heap.size w wx)) (fun kv _ => xn - (intOf kv).toNat)
      case atStart => exact ⟨0, rfl, Nat.zero_le _, HO⟩
      case round =>
        obtain ⟨k, rfl, hk, HQ⟩ := hrel
        have hK := (unhide H1).below (unhide HQ)
        obtain ⟨g', a', cap', e1, hv1, c0, -⟩ := hK.list (unhide HX)
        cases e1
        have e3 : (Value.slice a' x.n cap') = .slice a x.n cap := hv1.symm.trans (unhide HV)
        cases e3
        rw [← unhide HXN] at c0
        by_cases hkn : k < xn
        · have f2 : decide ((k : Int) < (xn : Int)) = true := decide_eq_true (by omega)
          have g3 : (0 : Int) ≤ (k : Int) := by omega
          have g4 : (k : Int) < (xn : Int) := by omega
          obtain ⟨gx, gm, rfl, rfl, hq, hc⟩ := hK.place (unhide HX) (k := k) (by rw [← unhide HXN]; exact hkn) (unhide HV)
          obtain ⟨q, hqq⟩ : ∃ q, q = i / 5 := ⟨_, rfl⟩
          rw [← hqq] at hq hc
          have x0 : wr.cell? ⟨gx, k * 2, none⟩ = some (.int .i64 m.1) := by have := (hc 0 (by omega)).1; rw [unhide HMm] at this; exact this
          have x1 : wr.cell? ⟨gx, k * 2 + 1, none⟩ = some (.string (bs m.2)) := by have := (hc 1 (by omega)).1; rw [unhide HMm] at this; exact this
          have y0 : wr.cell? ⟨gm, q * 2, none⟩ = some (.int .i64 m.1) := by have := (hc 0 (by omega)).2; rw [unhide HMm] at this; exact this
          have y1 : wr.cell? ⟨gm, q * 2 + 1, none⟩ = some (.string (bs m.2)) := by have := (hc 1 (by omega)).2; rw [unhide HMm] at this; exact this
          have hdv : (i : Int).tdiv 5 = (q : Int) := by rw [Int.tdiv_eq_ediv_of_nonneg (by omega)]; omega
          have hw1 : IntKind.i64.wrap (q : Int) = (q : Int) := by rw [IntKind.wrap_i64]; omega
          have g5 : (0 : Int) ≤ (q : Int) := by omega
          have g6 : (q : Int) < (mn : Int) := by omega
          have f3 : (m.1 != m.1) = false := bne_self_eq_false _
          have f4 : ((bs m.2).toList != (bs m.2).toList) = false := bne_self_eq_false _
          have hdv2 : (i : Int) / 5 = (q : Int) := by omega
          clear hc hK hqq
          go_wp2_with fail
          go_quiet (fail)
          go_wp2_with fail
          exact ⟨⟨k + 1, congrArg (Value.int .i64) (by omega), by omega, hide (below_drewN' (unhide HQ) _)⟩, by simp [intOf]; omega⟩
        · obtain rfl : k = xn := by omega
          have f2 : decide ((k : Int) < (k : Int)) = false := decide_eq_false (by omega)
          clear hK
          go_wp2_with fail
          exact ⟨⟨i + 1, congrArg (Value.int .i64) (by omega), by omega, HQ⟩, by simp [intOf]; omega⟩
    · obtain rfl : i = na := by omega
      have f1 : decide ((i : Int) < (i : Int)) = false := decide_eq_false (by omega)
      clear H1
      go_wp2_with fail
      go_loopw [11] (fun iv wr => ∃ i : Nat, iv = .int .i64 ((i : Nat) : Int) ∧ i ≤ nb ∧ Hid (Below w.heap.size w wr)) (fun iv _ => nb - (intOf iv).toNat)
      case atStart => exact ⟨0, rfl, Nat.zero_le _, HO⟩
      case round =>
        obtain ⟨i2, rfl, hi2, HO⟩ := hrel
        by_cases hin : i2 < nb
        · have f1 : decide ((i2 : Int) < (nb : Int)) = true := decide_eq_true (by omega)
          have g1 : (0 : Int) ≤ (i2 : Int) := by omega
          have g2 : (i2 : Int) < (nb : Int) := by omega
          obtain ⟨x, hx⟩ : ∃ x, A'[i2]? = some x := ⟨_, List.getElem?_eq_getElem (by have := (unhide H2).an; omega)⟩
          obtain ⟨g, a, cap, rfl, hv, -, hn⟩ := (unhide H2).list hx
          obtain ⟨m, hm⟩ := unhide HP' x (List.mem_of_getElem? hx)
          obtain ⟨xn, hxn⟩ : ∃ xn, xn = x.n := ⟨_, rfl⟩
          rw [← hxn] at hn
          have HX := hide hx
          have HV := hide hv
          have HXN := hide hxn
          have HMm := hide hm
          clear hx hv hxn hm
          go_wp2_with fail
          go_loopw [12] (fun kv wx => ∃ k : Nat, kv = .int .i64 ((k : Nat) : Int) ∧ k ≤ xn ∧ Hid (Below w.heap.size w wx)) (fun kv _ => xn - (intOf kv).toNat)
          case atStart => exact ⟨0, rfl, Nat.zero_le _, HO⟩
          case round =>
            obtain ⟨k, rfl, hk, HQ⟩ := hrel
            have hK := (unhide H2).below (unhide HQ)
            obtain ⟨g', a', cap', e1, hv1, c0, -⟩ := hK.list (unhide HX)
            cases e1
            have e3 : (Value.slice a' x.n cap') = .slice a x.n cap := hv1.symm.trans (unhide HV)
            cases e3
            rw [← unhide HXN] at c0
            by_cases hkn : k < xn
            · have f2 : decide ((k : Int) < (xn : Int)) = true := decide_eq_true (by omega)
              have g3 : (0 : Int) ≤ (k : Int) := by omega
              have g4 : (k : Int) < (xn : Int) := by omega
              obtain ⟨gx, gm, rfl, rfl, hq, hc⟩ := hK.place (unhide HX) (k := k) (by rw [← unhide HXN]; exact hkn) (unhide HV)
              obtain ⟨q, hqq⟩ : ∃ q, q = i2 / 5 := ⟨_, rfl⟩
              rw [← hqq] at hq hc
              have x0 : wr.cell? ⟨gx, k, none⟩ = some (.int .i64 m) := by have := (hc 0 (by omega)).1; rw [unhide HMm, Nat.mul_one] at this; exact this
              have y0 : wr.cell? ⟨gm, q, none⟩ = some (.int .i64 m) := by have := (hc 0 (by omega)).2; rw [unhide HMm, Nat.mul_one] at this; exact this
              have hdv : (i2 : Int).tdiv 5 = (q : Int) := by rw [Int.tdiv_eq_ediv_of_nonneg (by omega)]; omega
              have hw1 : IntKind.i64.wrap (q : Int) = (q : Int) := by rw [IntKind.wrap_i64]; omega
              have g5 : (0 : Int) ≤ (q : Int) := by omega
              have g6 : (q : Int) < (nn : Int) := by omega
              have f3 : (m != m) = false := bne_self_eq_false _
              have hdv2 : (i2 : Int) / 5 = (q : Int) := by omega
              clear hc hK hqq
              go_wp2_with fail
              go_quiet (fail)
              go_wp2_with fail
              exact ⟨⟨k + 1, congrArg (Value.int .i64) (by omega), by omega, hide (below_drewN' (unhide HQ) _)⟩, by simp [intOf]; omega⟩
            · obtain rfl : k = xn := by omega
              have f2 : decide ((k : Int) < (k : Int)) = false := decide_eq_false (by omega)
              clear hK
              go_wp2_with fail
              exact ⟨⟨i2 + 1, congrArg (Value.int .i64) (by omega), by omega, HQ⟩, by simp [intOf]; omega⟩
        · obtain rfl : i2 = nb := by omega
          have f1 : decide ((i2 : Int) < (i2 : Int)) = false := decide_eq_false (by omega)
          go_wp2_with fail
          go_ret
          exact ⟨rfl, HO⟩
end Go.Proofs.Ytfebiemfmiahhab
