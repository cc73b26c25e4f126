/- sameTexts, sameHits: of two lists that hold the same. -/
import Derived.Test.YtjmnddcombepaaaPcl
namespace Go.Proofs.Ytjmnddcombepaaa
open Go.ChangeShapes Go.WideShapes Go.ChangeAt Go.RowKit Go.Maps Go.Sort
set_option linter.unusedVariables false
set_option linter.unusedSimpArgs false
set_option maxRecDepth 100000
set_option maxHeartbeats 4000000

theorem cup_mem (d : Array (List UInt8)) : ∀ m x, x ∈ Lib.compactUpTo d m ↔ ∃ j, j < m ∧ d[j]! = x
  | 0, x => by simp [Lib.compactUpTo]
  | m + 1, x => by
    rw [Lib.compactUpTo_succ, List.mem_append, cup_mem d m x]
    constructor
    · rintro (⟨j, hj, e⟩ | h)
      · exact ⟨j, by omega, e⟩
      · split at h
        · simp at h
          exact ⟨m, by omega, h.symm⟩
        · cases h
    · rintro ⟨j, hj, e⟩
      by_cases hjm : j < m
      · exact .inl ⟨j, hjm, e⟩
      · obtain rfl : j = m := by omega
        by_cases hk : Lib.keeps d j = true
        · exact .inr (by rw [if_pos hk, e]; simp)
        · have hj0 : 0 < j := by
            rcases Nat.eq_zero_or_pos j with h0 | h0
            · subst h0
              exact absurd (Lib.keeps_lt_one d 0 (by omega)) hk
            · exact h0
          have he : d[j]! = d[j - 1]! := Classical.byContradiction (fun h => hk (Lib.keeps_pos h))
          exact .inl ⟨j - 1, by omega, by rw [← he]; exact e⟩
theorem cup_nodup (d : Array (List UInt8)) (hs : ∀ i j, i ≤ j → j < d.size → d[i]! ≤ d[j]!) : ∀ m, m ≤ d.size → (Lib.compactUpTo d m).Nodup
  | 0, _ => by simp [Lib.compactUpTo]
  | m + 1, hm => by
    rw [Lib.compactUpTo_succ]
    by_cases hk : Lib.keeps d m = true
    · rw [if_pos hk]
      refine List.nodup_append.2 ⟨cup_nodup d hs m (by omega), by simp, fun a ha b hb e => ?_⟩
      simp at hb
      subst hb
      subst e
      obtain ⟨j, hj, e2⟩ := (cup_mem d m _).1 ha
      have h1 := hs j (m - 1) (by omega) (by omega)
      have h2 := hs (m - 1) m (by omega) (by omega)
      rw [e2] at h1
      have h3 : d[m]! = d[m - 1]! := List.le_antisymm h1 h2
      rw [Lib.keeps_neg (by omega) h3] at hk
      cases hk
    · rw [if_neg hk, List.append_nil]
      exact cup_nodup d hs m (by omega)
theorem sorted_get (l : List (List UInt8)) (i j : Nat) (h : i ≤ j) (hj : j < (l.mergeSort (fun x y => decide (x ≤ y))).length) : (l.mergeSort (fun x y => decide (x ≤ y))).toArray[i]! ≤ (l.mergeSort (fun x y => decide (x ≤ y))).toArray[j]! := by
  have hp : (l.mergeSort (fun x y => decide (x ≤ y))).Pairwise (fun a b => a ≤ b) := by
    have := List.pairwise_mergeSort (le := fun x y : List UInt8 => decide (x ≤ y)) (fun a b c h1 h2 => by simp only [decide_eq_true_eq] at *; exact List.le_trans h1 h2) (fun a b => by simp only [Bool.or_eq_true, decide_eq_true_eq]; exact List.le_total a b) l
    exact this.imp (fun h => by simpa using h)
  have hi : i < (l.mergeSort (fun x y => decide (x ≤ y))).length := by omega
  rw [getElem!_pos _ i (by simpa using hi), getElem!_pos _ j (by simpa using hj)]
  rcases Nat.lt_or_ge i j with hlt | hge
  · have := List.pairwise_iff_getElem.1 hp i j (by omega) hj hlt
    simpa using this
  · obtain rfl : i = j := by omega
    exact List.le_refl _
theorem textsL_nodup (S : List Key) (pr : Key → Bool) : (textsL S pr).Nodup := by
  unfold textsL Lib.compact
  exact cup_nodup _ (fun i j h hj => sorted_get _ i j h (by simpa using hj)) _ (by simp)
theorem mem_textsL (S : List Key) (pr : Key → Bool) (T : List UInt8) : T ∈ textsL S pr ↔ ∃ k ∈ S, pr k = true ∧ k.2.1 = T := by
  refine ⟨textsL_sub, ?_⟩
  rintro ⟨k, hk, hp, rfl⟩
  have h1 : k.2.1 ∈ ((S.filter pr).map (fun k => k.2.1)).mergeSort (fun x y => decide (x ≤ y)) := by
    rw [List.mem_mergeSort]
    exact List.mem_map_of_mem (List.mem_filter.2 ⟨hk, hp⟩)
  obtain ⟨j, hj, e⟩ := List.mem_iff_getElem.1 h1
  refine (cup_mem _ _ _).2 ⟨j, hj, ?_⟩
  rw [getElem!_pos _ j (by simpa using hj)]
  simpa using e
theorem textsL_perm {S S' : List Key} (h : S.Perm S') (pr : Key → Bool) : textsL S pr = textsL S' pr := by
  unfold textsL
  rw [show ((S.filter pr).map (fun k => k.2.1)).mergeSort (fun x y => decide (x ≤ y)) = ((S'.filter pr).map (fun k => k.2.1)).mergeSort (fun x y => decide (x ≤ y)) from mergeSort_of_perm ((h.filter pr).map _)]
/-- a byte that means itself in a pattern -/
def Letter (c : Nat) : Prop := c ≠ 42 ∧ c ≠ 63 ∧ c ≠ 91 ∧ c ≠ 92
theorem letters_meet (p : List Nat) (hp : ∀ c ∈ p, Letter c) : ∀ (n i : Nat) (t : List Nat), p.length ≤ i + n → (Larder.Meets (Larder.parseK p n i) t ↔ t = p.drop i)
  | 0, i, t, h => by
    rw [Larder.parseK_done p 0 i (by omega), List.drop_eq_nil_of_le (by omega)]
    exact Iff.rfl
  | n + 1, i, t, h => by
    by_cases hi : i < p.length
    · rw [Larder.parseK_step p n i hi]
      have hc := hp _ (List.getElem_mem hi)
      have hg : p.getD i 0 = p[i] := by rw [List.getD_eq_getElem?_getD, List.getElem?_eq_getElem hi]; rfl
      have hpc : Larder.pieceAt p i = (some (Larder.between p[i] p[i]), i + 1) := by
        unfold Larder.pieceAt Larder.byteAt
        rw [hg, if_neg hc.1, if_neg hc.2.2.1, if_neg hc.2.1, if_neg (fun e => hc.2.2.2 e.1)]
      have hbt : ∀ c, Larder.between p[i] p[i] c = true ↔ c = p[i] := fun c => by
        unfold Larder.between
        simp
        omega
      rw [hpc]
      have ih := letters_meet p hp n (i + 1)
      rw [List.drop_eq_getElem_cons hi]
      constructor
      · rintro ⟨c, v, rfl, h1, h2⟩
        rw [(ih v (by omega)).1 h2, (hbt c).1 h1]
      · rintro rfl
        exact ⟨p[i], _, rfl, (hbt _).2 rfl, (ih _ (by omega)).2 rfl⟩
    · rw [Larder.parseK_done p _ i hi, List.drop_eq_nil_of_le (by omega)]
      exact Iff.rfl
theorem glob_letters {G : List UInt8 → List UInt8 → Bool} (hG : GlobIs G) (p t : List UInt8) (hp : ∀ c ∈ p, Letter c.toNat) : G p t = decide (t = p) := by
  have h1 : G p t = true ↔ t = p := by
    rw [hG p t]
    unfold Larder.parse
    rw [letters_meet (nb p) (fun c hc => by
      obtain ⟨x, hx, rfl⟩ := List.mem_map.1 hc
      exact hp x hx) _ 0 _ (by omega), List.drop_zero]
    unfold nb
    constructor
    · intro h
      exact (List.map_inj_right (fun a b e => UInt8.toNat_inj.1 e)).1 h
    · rintro rfl
      rfl
  rw [Bool.eq_iff_iff, h1, decide_eq_true_iff]
/-- the i-th of many unlike names -/
def nameL (i : Nat) : List UInt8 := [110, UInt8.ofNat (97 + i % 26), UInt8.ofNat (97 + i / 26 % 26)]
/-- what PostFull has joined behind k rounds -/
def fullS (c : Int) : Nat → List Key
  | 0 => []
  | k + 1 => (c, nameL (k / 2), decide (k % 2 = 0)) :: fullS c k
/-- .. and the neighbour's name -/
def fullX (c : Nat) : List Key := ((((c + 1) % 8 : Nat) : Int), nameL 90, true) :: fullS (c : Nat) 64
theorem all_lt {n : Nat} {f : Nat → Bool} (h : (List.range n).all f = true) : ∀ c, c < n → f c = true := fun c hc => List.all_eq_true.1 h c (List.mem_range.2 hc)
theorem full_join (c : Nat) (hc : c < 8) (k : Nat) (hk : k < 64) : joinR (fullS (c : Nat) k) (((c : Nat) : Int), nameL (k / 2), decide (k % 2 = 0)) = (fullS (c : Nat) (k + 1), k + 1, true, 0) :=
  of_decide_eq_true (all_lt (f := fun k => decide (joinR (fullS (c : Nat) k) (((c : Nat) : Int), nameL (k / 2), decide (k % 2 = 0)) = (fullS (c : Nat) (k + 1), k + 1, true, 0))) (all_lt (n := 8) (f := fun c => (List.range 64).all (fun k => decide (joinR (fullS (c : Nat) k) (((c : Nat) : Int), nameL (k / 2), decide (k % 2 = 0)) = (fullS (c : Nat) (k + 1), k + 1, true, 0)))) (by decide +kernel) c hc) k hk)
theorem full_many (c : Nat) (hc : c < 8) (q : Bool) : joinR (fullS (c : Nat) 64) (((c : Nat) : Int), nameL 90, q) = (fullS (c : Nat) 64, 0, false, 172) := by
  have h := all_lt (n := 8) (f := fun c => decide (joinR (fullS (c : Nat) 64) (((c : Nat) : Int), nameL 90, true) = (fullS (c : Nat) 64, 0, false, 172)) && decide (joinR (fullS (c : Nat) 64) (((c : Nat) : Int), nameL 90, false) = (fullS (c : Nat) 64, 0, false, 172))) (by decide +kernel) c hc
  simp only [Bool.and_eq_true, decide_eq_true_eq] at h
  cases q
  · exact h.2
  · exact h.1
theorem full_old (c : Nat) (hc : c < 8) (j : Nat) (hj : j < 32) (q : Bool) : joinR (fullS (c : Nat) 64) (((c : Nat) : Int), nameL j, q) = (fullS (c : Nat) 64, 64, false, 0) := by
  have h := all_lt (all_lt (n := 8) (f := fun c => (List.range 32).all (fun j => decide (joinR (fullS (c : Nat) 64) (((c : Nat) : Int), nameL j, true) = (fullS (c : Nat) 64, 64, false, 0)) && decide (joinR (fullS (c : Nat) 64) (((c : Nat) : Int), nameL j, false) = (fullS (c : Nat) 64, 64, false, 0)))) (by decide +kernel) c hc) j hj
  simp only [Bool.and_eq_true, decide_eq_true_eq] at h
  cases q
  · exact h.2
  · exact h.1
theorem full_next (c : Nat) (hc : c < 8) : joinR (fullS (c : Nat) 64) ((((c + 1) % 8 : Nat) : Int), nameL 90, true) = (fullX c, 1, true, 0) :=
  of_decide_eq_true (all_lt (n := 8) (f := fun c => decide (joinR (fullS (c : Nat) 64) ((((c + 1) % 8 : Nat) : Int), nameL 90, true) = (fullX c, 1, true, 0))) (by decide +kernel) c hc)
theorem full_cnt (c : Nat) (hc : c < 8) : cntC (fullX c) (c : Nat) = 64 :=
  of_decide_eq_true (all_lt (n := 8) (f := fun c => decide (cntC (fullX c) (c : Nat) = 64)) (by decide +kernel) c hc)
theorem full_last (c : Nat) (hc : c < 8) (j : Nat) (hj : j < 32) : joinR ((fullX c).erase (((c : Nat) : Int), nameL j, true)) (((c : Nat) : Int), nameL 90, false) = ((((c : Nat) : Int), nameL 90, false) :: (fullX c).erase (((c : Nat) : Int), nameL j, true), 64, true, 0) :=
  of_decide_eq_true (all_lt (all_lt (n := 8) (f := fun c => (List.range 32).all (fun j => decide (joinR ((fullX c).erase (((c : Nat) : Int), nameL j, true)) (((c : Nat) : Int), nameL 90, false) = ((((c : Nat) : Int), nameL 90, false) :: (fullX c).erase (((c : Nat) : Int), nameL j, true), 64, true, 0)))) (by decide +kernel) c hc) j hj)
theorem full_lis (c : Nat) (hc : c < 8) (j : Nat) (hj : j < 32) : cntT ((((c : Nat) : Int), nameL 90, false) :: (fullX c).erase (((c : Nat) : Int), nameL j, true)) (nameL 90) = 1 :=
  of_decide_eq_true (all_lt (all_lt (n := 8) (f := fun c => (List.range 32).all (fun j => decide (cntT ((((c : Nat) : Int), nameL 90, false) :: (fullX c).erase (((c : Nat) : Int), nameL j, true)) (nameL 90) = 1))) (by decide +kernel) c hc) j hj)
/-- all about who hears nameL 90 -/
theorem full_hear (c : Nat) (hc : c < 8) : (∀ d, d < 8 → (((d : Nat) : Int), nameL 90, false) ∉ fullX c) ∧ (∀ d, d < 8 → ((((d : Nat) : Int), nameL 90, true) ∈ fullX c ↔ d = (c + 1) % 8)) ∧ (∀ k ∈ fullX c, ∀ x ∈ k.2.1, 97 ≤ x.toNat) ∧ (fullX c).length = 65 ∧ ∀ k ∈ fullX c, k.2.1.length = 3 := by
  have h := all_lt (n := 8) (f := fun c => (List.range 8).all (fun d => decide ((((d : Nat) : Int), nameL 90, false) ∉ fullX c) && (decide ((((d : Nat) : Int), nameL 90, true) ∈ fullX c) == decide (d = (c + 1) % 8))) && ((fullX c).all (fun k => k.2.1.all (fun x => decide (97 ≤ x.toNat)) && decide (k.2.1.length = 3)) && decide ((fullX c).length = 65))) (by decide +kernel) c hc
  simp only [Bool.and_eq_true, decide_eq_true_eq] at h
  obtain ⟨h1, h2, h3⟩ := h
  have h1' : ∀ d, d < 8 → (((d : Nat) : Int), nameL 90, false) ∉ fullX c ∧ ((((d : Nat) : Int), nameL 90, true) ∈ fullX c ↔ d = (c + 1) % 8) := fun d hd => by
    have := all_lt h1 d hd
    simp only [Bool.and_eq_true, decide_eq_true_eq, beq_iff_eq, decide_eq_decide] at this
    exact this
  have h2' : ∀ k ∈ fullX c, (∀ x ∈ k.2.1, 97 ≤ x.toNat) ∧ k.2.1.length = 3 := fun k hk => by
    have := List.all_eq_true.1 h2 k hk
    simp only [Bool.and_eq_true, decide_eq_true_eq, List.all_eq_true] at this
    exact this
  exact ⟨fun d hd => (h1' d hd).1, fun d hd => (h1' d hd).2, fun k hk => (h2' k hk).1, h3, fun k hk => (h2' k hk).2⟩
theorem full_met {G : List UInt8 → List UInt8 → Bool} (hG : GlobIs G) (c : Nat) (hc : c < 8) : metL G (fullX c) (nameL 90) = [nameL 90] := by
  obtain ⟨h1, h2, h3, h4, h5⟩ := full_hear c hc
  have hx : (((((c + 1) % 8 : Nat) : Int)), nameL 90, true) ∈ fullX c := List.mem_cons_self ..
  have hg : ∀ P ∈ unlikeL (fullX c) true, G P (nameL 90) = decide (P = nameL 90) := fun P hP => by
    obtain ⟨k, hk, _, rfl⟩ := (mem_textsL _ _ _).1 hP
    rw [glob_letters hG _ _ (fun x hx => by have := h3 k hk x hx; refine ⟨?_, ?_, ?_, ?_⟩ <;> omega)]
    rw [decide_eq_decide]
    exact eq_comm
  have hm : nameL 90 ∈ unlikeL (fullX c) true := (mem_textsL _ _ _).2 ⟨_, hx, rfl, rfl⟩
  unfold metL
  rw [List.filter_congr hg]
  have hn := textsL_nodup (fullX c) (fun k => k.2.2 == true)
  have hn2 : ((unlikeL (fullX c) true).filter (fun P => decide (P = nameL 90))).Nodup := hn.filter _
  have hall : ∀ P ∈ (unlikeL (fullX c) true).filter (fun P => decide (P = nameL 90)), P = nameL 90 := fun P hP => of_decide_eq_true (List.mem_filter.1 hP).2
  have hin : nameL 90 ∈ (unlikeL (fullX c) true).filter (fun P => decide (P = nameL 90)) := List.mem_filter.2 ⟨hm, by simp⟩
  match hL : (unlikeL (fullX c) true).filter (fun P => decide (P = nameL 90)), hn2, hall, hin with
  | [], _, _, hin => cases hin
  | [x], _, hall, _ => rw [hall x (List.mem_cons_self ..)]
  | x :: y :: r, hn2, hall, _ =>
    have e1 := hall x (List.mem_cons_self ..)
    have e2 := hall y (List.mem_cons_of_mem _ (List.mem_cons_self ..))
    rw [e1, e2] at hn2
    exact absurd (List.mem_cons_self ..) (List.nodup_cons.1 hn2).1
theorem full_heard {G : List UInt8 → List UInt8 → Bool} (hG : GlobIs G) (c : Nat) (hc : c < 8) : (hearL G (fullX c) (nameL 90)).length = 1 := by
  unfold hearL
  rw [full_met hG c hc]
  have h := all_lt (n := 8) (f := fun c => decide ((hearN (fullX c) (nameL 90) [nameL 90] 8).length = 1)) (by decide +kernel) c hc
  exact of_decide_eq_true h
end Go.Proofs.Ytjmnddcombepaaa
namespace Go.Proofs.Ytjmnddcombepaaa
open Go.ChangeShapes Go.WideShapes Go.ChangeAt Go.RowKit Go.Maps Go.Sort
set_option linter.unusedVariables false
set_option linter.unusedSimpArgs false
set_option maxRecDepth 100000
set_option maxHeartbeats 4000000

theorem below_drew {W w : World} (h : Below W.heap.size W w) : Below W.heap.size W w.drew := ⟨h.os, h.tape, h.output, h.size, h.block⟩
theorem sameTexts_any (W : World) (base base' : Nat) (a a' : Option Addr) (n n' cap cap' : Nat) (l : List (List UInt8)) (h : OwnS W base (.slice a n cap) l) (h' : OwnS W base' (.slice a' n' cap') l) (hn : n = l.length) (hn' : n' = l.length) (hl : l.length < 4611686018427387904) :
    Calls Try.prog 41 #[.slice a n cap, .slice a' n' cap'] W fun e w' => e = .returned (.bool true) ∧ Hid (Below W.heap.size W w') := by
  obtain rfl : n' = n := by omega
  have HO := hide h
  have HO' := hide h'
  have HN := hide hn
  have hnl : n' < 4611686018427387904 := by omega
  clear h h' hn hl hn'
  have f0 : ((n' : Int) != (n' : Int)) = false := by simp
  go_enter Try.func41, Try.ntmps41
  go_wp2
  go_loopw [5] (fun iv wr => ∃ i : Nat, iv = .int .i64 (i : Nat) ∧ i ≤ n' ∧ Hid (Below W.heap.size W wr)) (fun iv _ => n' - (intOf iv).toNat)
  case atStart => exact ⟨0, rfl, Nat.zero_le _, hide (Below.refl _ _)⟩
  case round =>
    obtain ⟨i, rfl, hi, HB⟩ := hrel
    by_cases hlt : i < n'
    · have f1 : decide ((i : Int) < (n' : Int)) = true := decide_eq_true (by omega)
      have g1 : (0 : Int) ≤ (i : Int) := by omega
      have g2 : (i : Int) < (n' : Int) := by omega
      obtain ⟨g, rfl, -, hgl, hc⟩ := (unhide HO).cell (i := i) (by rw [← unhide HN]; exact hlt)
      obtain ⟨g', rfl, -, hgl', hc'⟩ := (unhide HO').cell (i := i) (by rw [← unhide HN]; exact hlt)
      have c1 : wr.cell? ⟨g, i, none⟩ = some (.string (bs (l.getD i []))) := ((unhide HB).cell (p := ⟨g, i, none⟩) hgl).trans hc
      have c2 : wr.cell? ⟨g', i, none⟩ = some (.string (bs (l.getD i []))) := ((unhide HB).cell (p := ⟨g', i, none⟩) hgl').trans hc'
      have HD := hide (below_drew (unhide HB))
      generalize bs (l.getD i []) = T at c1 c2
      clear hc hc' hgl hgl'
      go_wp2_with fail
      go_region
      all_goals (try go_wp2)
      all_goals go_roundw
      all_goals first | exact ⟨i + 1, by go_num, by omega, HD⟩ | (simp [intOf]; omega)
    · obtain rfl : i = n' := by omega
      have f1 : decide ((i : Int) < (i : Int)) = false := decide_eq_false (by omega)
      go_wp2
      go_ret
      exact ⟨rfl, HB⟩
theorem flat_get (l : List Hit) (i : Nat) (hi : i < l.length) (j : Nat) (hj : j < 3) : (l.flatMap hitC)[i * 3 + j]? = (hitC (l.getD i (0, false, [])))[j]? := by
  induction l generalizing i with
  | nil => simp at hi
  | cons x l ih =>
    cases i with
    | zero =>
      simp only [List.flatMap_cons, Nat.zero_mul, Nat.zero_add, List.getD_cons_zero]
      rw [List.getElem?_append_left (by simp [hitC]; exact hj)]
    | succ i =>
      simp only [List.flatMap_cons, List.getD_cons_succ]
      rw [List.getElem?_append_right (by simp [hitC]; omega)]
      rw [show (i + 1) * 3 + j - (hitC x).length = i * 3 + j by simp [hitC]; omega]
      exact ih i (by simpa using hi)
theorem OwnH.cell {w : World} {base : Nat} {a : Option Addr} {n cap : Nat} {l : List Hit} (h : OwnH w base (.slice a n cap) l) {i : Nat} (hi : i < l.length) : ∃ g, a = some ⟨g, 0, none⟩ ∧ g < w.heap.size ∧ w.cell? ⟨g, i * 3, none⟩ = some (.int .i64 (l.getD i (0, false, [])).1) ∧ w.cell? ⟨g, i * 3 + 1, none⟩ = some (.bool (l.getD i (0, false, [])).2.1) ∧ w.cell? ⟨g, i * 3 + 2, none⟩ = some (.string (bs (l.getD i (0, false, [])).2.2)) := by
  rcases h.2 with ⟨e, h0⟩ | ⟨g, cap, cur, e, hb, hg, h1, h2, h3, h4⟩
  · rw [h0] at hi
    exact absurd hi (Nat.not_lt_zero _)
  · cases e
    have key : ∀ j, j < 3 → w.cell? ⟨g, i * 3 + j, none⟩ = (hitC (l.getD i (0, false, [])))[j]? := fun j hj => by
      rw [cell_blk hg, ← flat_get l i hi j hj, ← h4, List.getElem?_take_of_lt (by omega), Array.getElem?_toList]
    exact ⟨g, rfl, blk_lt hg, key 0 (by omega), key 1 (by omega), key 2 (by omega)⟩
theorem sameHits_any (W : World) (base base' : Nat) (a a' : Option Addr) (n n' cap cap' : Nat) (l : List Hit) (h : OwnH W base (.slice a n cap) l) (h' : OwnH W base' (.slice a' n' cap') l) (hn : n = l.length) (hn' : n' = l.length) (hl : l.length < 4611686018427387) :
    Calls Try.prog 42 #[.slice a n cap, .slice a' n' cap'] W fun e w' => e = .returned (.bool true) ∧ Hid (Below W.heap.size W w') := by
  obtain rfl : n' = n := by omega
  have HO := hide h
  have HO' := hide h'
  have HN := hide hn
  have hnl : n' < 4611686018427387 := by omega
  clear h h' hn hl hn'
  have f0 : ((n' : Int) != (n' : Int)) = false := by simp
  go_enter Try.func42, Try.ntmps42
  go_wp2
  go_loopw [5] (fun iv wr => ∃ i : Nat, iv = .int .i64 (i : Nat) ∧ i ≤ n' ∧ Hid (Below W.heap.size W wr)) (fun iv _ => n' - (intOf iv).toNat)
  case atStart => exact ⟨0, rfl, Nat.zero_le _, hide (Below.refl _ _)⟩
  case round =>
    obtain ⟨i, rfl, hi, HB⟩ := hrel
    by_cases hlt : i < n'
    · have f1 : decide ((i : Int) < (n' : Int)) = true := decide_eq_true (by omega)
      have g1 : (0 : Int) ≤ (i : Int) := by omega
      have g2 : (i : Int) < (n' : Int) := by omega
      obtain ⟨g, rfl, hgl, p0, p1, p2⟩ := (unhide HO).cell (i := i) (by rw [← unhide HN]; exact hlt)
      obtain ⟨g', rfl, hgl', q0, q1, q2⟩ := (unhide HO').cell (i := i) (by rw [← unhide HN]; exact hlt)
      have c0 : wr.cell? ⟨g, i * 3, none⟩ = some (.int .i64 (l.getD i (0, false, [])).1) := ((unhide HB).cell (p := ⟨g, i * 3, none⟩) hgl).trans p0
      have c1 : wr.cell? ⟨g, i * 3 + 1, none⟩ = some (.bool (l.getD i (0, false, [])).2.1) := ((unhide HB).cell (p := ⟨g, i * 3 + 1, none⟩) hgl).trans p1
      have c2 : wr.cell? ⟨g, i * 3 + 2, none⟩ = some (.string (bs (l.getD i (0, false, [])).2.2)) := ((unhide HB).cell (p := ⟨g, i * 3 + 2, none⟩) hgl).trans p2
      have d0 : wr.cell? ⟨g', i * 3, none⟩ = some (.int .i64 (l.getD i (0, false, [])).1) := ((unhide HB).cell (p := ⟨g', i * 3, none⟩) hgl').trans q0
      have d1 : wr.cell? ⟨g', i * 3 + 1, none⟩ = some (.bool (l.getD i (0, false, [])).2.1) := ((unhide HB).cell (p := ⟨g', i * 3 + 1, none⟩) hgl').trans q1
      have d2 : wr.cell? ⟨g', i * 3 + 2, none⟩ = some (.string (bs (l.getD i (0, false, [])).2.2)) := ((unhide HB).cell (p := ⟨g', i * 3 + 2, none⟩) hgl').trans q2
      have HD := hide (below_drew (unhide HB))
      generalize bs (l.getD i (0, false, [])).2.2 = T at c2 d2
      generalize (l.getD i (0, false, [])).2.1 = q at c1 d1
      generalize (l.getD i (0, false, [])).1 = c at c0 d0
      clear p0 p1 p2 q0 q1 q2 hgl hgl'
      have f2 : (c != c) = false := by simp
      have f3 : (q != q) = false := by simp
      have f4 : (T.toList != T.toList) = false := by simp
      go_wp2_with fail
      go_region_held3 (fun w' => w'.cell? ⟨g, i * 3, none⟩ = some (.int .i64 c) ∧ w'.cell? ⟨g, i * 3 + 1, none⟩ = some (.bool q) ∧ w'.cell? ⟨g, i * 3 + 2, none⟩ = some (.string T) ∧ w'.cell? ⟨g', i * 3, none⟩ = some (.int .i64 c) ∧ w'.cell? ⟨g', i * 3 + 1, none⟩ = some (.bool q) ∧ w'.cell? ⟨g', i * 3 + 2, none⟩ = some (.string T)) (go_keep) (fail)
      all_goals (try go_wp2)
      all_goals go_roundw
      all_goals first | exact ⟨i + 1, by go_num, by omega, HD⟩ | (simp [intOf]; omega)
    · obtain rfl : i = n' := by omega
      have f1 : decide ((i : Int) < (i : Int)) = false := decide_eq_false (by omega)
      go_wp2
      go_ret
      exact ⟨rfl, HB⟩
end Go.Proofs.Ytjmnddcombepaaa
