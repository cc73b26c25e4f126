/- record: the reader: lists of commands. -/
import Derived.Test.YtljeedgnjgeopaaYg
namespace Larder
set_option linter.unusedVariables false
set_option linter.unusedSimpArgs false
theorem prt_succ' {α : Type} {f : List Nat → Option (α × List Nat)} {S : Rd} {i : Nat} {xs : List α} {r : List Nat} (h : prt f S i = some (xs, r)) : prt f S (i + 1) = (f r).map fun p => (xs ++ [p.1], p.2) := by
  cases S with
  | none => cases h
  | some l =>
    show rdL f (i + 1) l = _
    have h' : rdL f i l = some (xs, r) := h
    unfold rdL
    rw [h']
    dsimp only
    cases f r with
    | none => rfl
    | some p => rfl
/-- what is read lies in what was given -/
theorem rdN_mem {k : Nat} {l r : List Nat} {n : Nat} (h : rdN k l = some (n, r)) : ∀ c ∈ r, c ∈ l := by
  unfold rdN at h
  split at h
  · cases h
    exact fun c hc => List.mem_of_mem_drop hc
  · cases h
theorem rdT_mem {l x r : List Nat} (h : rdT l = some (x, r)) : (∀ c ∈ x, c ∈ l) ∧ ∀ c ∈ r, c ∈ l := by
  unfold rdT at h
  split at h
  · cases h
  · rename_i n r1 h1
    have := rdN_mem h1
    split at h
    · cases h
      exact ⟨fun c hc => this c (List.mem_of_mem_take hc), fun c hc => this c (List.mem_of_mem_drop hc)⟩
    · cases h
theorem rdL_mem {α : Type} {f : List Nat → Option (α × List Nat)} {Q : List Nat → α → Prop} (hQ : ∀ l l' x, Q l x → (∀ c ∈ l, c ∈ l') → Q l' x) (hf : ∀ l x r, f l = some (x, r) → Q l x ∧ ∀ c ∈ r, c ∈ l) : ∀ (n : Nat) (l r : List Nat) (xs : List α), rdL f n l = some (xs, r) → (∀ x ∈ xs, Q l x) ∧ ∀ c ∈ r, c ∈ l := by
  intro n
  induction n with
  | zero =>
    intro l r xs h
    unfold rdL at h
    cases h
    exact ⟨fun x hx => (by cases hx), fun c hc => hc⟩
  | succ n ih =>
    intro l r xs h
    unfold rdL at h
    split at h
    · cases h
    · rename_i ys r1 h1
      split at h
      · cases h
      · rename_i x r2 h2
        cases h
        obtain ⟨q1, q2⟩ := ih _ _ _ h1
        obtain ⟨q3, q4⟩ := hf _ _ _ h2
        refine ⟨fun y hy => ?_, fun c hc => q2 c (q4 c hc)⟩
        rcases List.mem_append.1 hy with hy | hy
        · exact q1 y hy
        · obtain rfl := List.mem_singleton.1 hy
          exact hQ _ _ _ q3 q2
def TIn (l : List Nat) (xs : List (List Nat)) : Prop := ∀ t ∈ xs, ∀ c ∈ t, c ∈ l
theorem rdLst_mem {α : Type} {f : List Nat → Option (α × List Nat)} {Q : List Nat → α → Prop} (hQ : ∀ l l' x, Q l x → (∀ c ∈ l, c ∈ l') → Q l' x) (hf : ∀ l x r, f l = some (x, r) → Q l x ∧ ∀ c ∈ r, c ∈ l) {l r : List Nat} {xs : List α} (h : rdLst f l = some (xs, r)) : (∀ x ∈ xs, Q l x) ∧ ∀ c ∈ r, c ∈ l := by
  unfold rdLst at h
  split at h
  · cases h
  · rename_i n r1 h1
    have h2 := rdN_mem h1
    obtain ⟨q1, q2⟩ := rdL_mem hQ hf _ _ _ _ h
    exact ⟨fun x hx => hQ _ _ _ (q1 x hx) h2, fun c hc => h2 c (q2 c hc)⟩
theorem rdA_mem {l r : List Nat} {x : ActP} (h : rdA l = some (x, r)) : (∀ t ∈ x.2, ∀ c ∈ t, c ∈ l) ∧ ∀ c ∈ r, c ∈ l := by
  have h2 := rdA_tk (some l)
  rw [Option.bind_some, h] at h2
  cases h3 : tkS (some l) 1 with
  | none => rw [h3] at h2; cases h2
  | some r1 =>
    rw [h3, Option.bind_some] at h2
    cases h4 : rdLst rdT r1 with
    | none => rw [h4] at h2; cases h2
    | some p =>
      rw [h4] at h2
      cases h2
      obtain ⟨l2, e, q1, q2, q3⟩ := tkS_tkV h3
      cases e
      have h5 : ∀ c ∈ r1, c ∈ l := fun c hc => by rw [q2] at hc; exact List.mem_of_mem_drop hc
      obtain ⟨z1, z2⟩ := rdLst_mem (Q := fun l x => ∀ c ∈ x, c ∈ l) (fun l l' x h h' c hc => h' c (h c hc)) (fun l x r h => rdT_mem h) (r := p.2) (xs := p.1) h4
      exact ⟨fun t ht c hc => h5 c (z1 t ht c hc), fun c hc => h5 c (z2 c hc)⟩
end Larder
namespace Go.Proofs.Ytljeedgnjgeopaa
open Go.ChangeShapes Go.WideShapes Go.ChangeAt Go.RowKit
set_option linter.unusedVariables false
set_option linter.unusedSimpArgs false
set_option maxRecDepth 100000
set_option maxHeartbeats 4000000
theorem info64 : (Try.prog.info? 64).map (fun i => (i.zero, i.size, i.bytes)) = some (some (.agg #[.int .i64 0, .slice none 0 0]), 2, 32) := by kernel_rfl
/-- commands, all in rows of their own -/
def AL (w : World) (v : Value) (xs : List Larder.ActP) : Prop := ∃ f, Rws w 64 2 v xs.length f ∧ ∀ i x, xs[i]? = some x → ∃ ai ci, f (i * 2) = .int .i64 (x.1 : Nat) ∧ f (i * 2 + 1) = .slice ai x.2.length ci ∧ TL w (.slice ai x.2.length ci) x.2
theorem AL.kt {w w' : World} {v : Value} {xs : List Larder.ActP} {p : TypeId → Prop} (h : AL w v xs) (hk : Kt p w w') (h64 : p 64) (h27 : p 27) (h5 : p 5) : AL w' v xs := by
  obtain ⟨f, h1, h2⟩ := h
  refine ⟨f, h1.kt hk h64, fun i T hT => ?_⟩
  obtain ⟨ai, ci, q1, q2, q3⟩ := h2 i T hT
  exact ⟨ai, ci, q1, q2, q3.kt hk h27 h5⟩
theorem AL.nil (w : World) : AL w (.slice none 0 0) [] := ⟨fun _ => undef, .inl ⟨rfl, rfl⟩, fun i T h => by cases h⟩
theorem AL.push {w w' : World} {v v' : Value} {xs : List Larder.ActP} {d : Nat} {V : List (List Nat)} {a : Option Addr} {c : Nat} {f : Nat → Value} {n m cc : Nat} (hn : n = xs.length) (hf : ∀ i x, xs[i]? = some x → ∃ ai ci, f (i * 2) = .int .i64 (x.1 : Nat) ∧ f (i * 2 + 1) = .slice ai x.2.length ci ∧ TL w (.slice ai x.2.length ci) x.2) (hr : Rws w 64 2 v n f) (hV : TL w (.slice a V.length c) V) (hw : Rws w' 64 2 v' (n + 1) (fun k => if k < n * 2 then f k else [Value.int .i64 (d : Nat), Value.slice a V.length c].getD (k - n * 2) undef)) (hg : Ga 64 cc m w w' v v') : AL w' v' (xs ++ [(d, V)]) := by
  have hk := Kt.ga hg hr
  refine ⟨_, by rw [List.length_append, ← hn]; exact hw, fun i x hx => ?_⟩
  by_cases hi : i < n
  · rw [if_pos (by omega), if_pos (by omega)]
    rw [List.getElem?_append_left (by omega)] at hx
    obtain ⟨ai, ci, q1, q2, q3⟩ := hf i x hx
    exact ⟨ai, ci, q1, q2, q3.kt hk (by decide) (by decide)⟩
  · rw [if_neg (by omega), if_neg (by omega)]
    rw [List.getElem?_append_right (by omega)] at hx
    have hi2 : i - xs.length = 0 := by
      rcases Nat.eq_zero_or_pos (i - xs.length) with e | e
      · exact e
      · rw [List.getElem?_eq_none (by simp; omega)] at hx; cases hx
    rw [hi2] at hx
    cases hx
    have e1 : i * 2 - n * 2 = 0 := by omega
    have e2 : i * 2 + 1 - n * 2 = 1 := by omega
    rw [e1, e2]
    exact ⟨a, c, rfl, rfl, hV.kt hk (by decide) (by decide)⟩
/-- what a list of commands answers -/
def LaEnd (w : World) (g : Nat) (R : Option (List Larder.ActP × List Nat)) (e : Ending) (w' : World) : Prop := ∃ a n c, e = .returned (.slice a n c) ∧ Hid (Kx g w w' ∧ (∀ q, (Value.slice a n c).ownBlock = some q → w.heap.size ≤ q) ∧ ((R = none ∧ RdAt w' g none) ∨ ∃ xs r, R = some (xs, r) ∧ RdAt w' g (some r) ∧ n = xs.length ∧ AL w' (.slice a n c) xs))
def LaAt (w0 w : World) (g : Nat) (P : Nat → Option (List Larder.ActP × List Nat)) (i : Nat) (v : Value) (k : Nat) (S : Larder.Rd) : Prop :=
  Kx g w0 w ∧ RdAt w g S ∧ SmS S ∧ (∀ q, v.ownBlock = some q → w0.heap.size ≤ q) ∧ ((S = none ∧ P i = none) ∨ ∃ xs r, S = some r ∧ P i = some (xs, r) ∧ k = xs.length ∧ AL w v xs)
theorem list_acts (w : World) (g : Nat) (s : Larder.Rd) (h : RdAt w g s) (hs : SmS s) (hl : (s.getD []).length ≤ 1099511627776) : Calls Try.prog 68 #[.pointer (some ⟨g, 0, none⟩), .func (.func 69) #[] #[]] w (LaEnd w g (s.bind (Larder.rdLst Larder.rdA))) := by
  have C73 := num32 w g s h hs
  have hgw := rdlt h
  rw [Larder.prt_all]
  have hN : Larder.ofBig (Larder.tkV s 4) < 4294967296 := by
    have h1 := ofBig_lt (Larder.tkV s 4) (hs.tkV 4)
    rcases tk_len s 4 with e | e <;> rw [e] at h1 <;> omega
  have hS := hs.tkS 4
  have hL := Nat.le_trans (Larder.tkS_len s 4) hl
  unfold NmEnd at C73
  generalize Larder.tkS s 4 = S0 at C73 hS hL ⊢
  generalize Larder.ofBig (Larder.tkV s 4) = N at C73 hN ⊢
  have PL : Hid (∀ i xs r, Larder.prt Larder.rdA S0 i = some (xs, r) → xs.length = i ∧ i ≤ 1099511627776 ∧ r.length ≤ 1099511627776) := hide (fun i xs r hp => by
    have := Larder.prt_len (fun l x r => Larder.rdA_less) hp
    exact ⟨this.1, by omega, by omega⟩)
  have PN : Hid (∀ i n, i ≤ n → Larder.prt Larder.rdA S0 i = none → Larder.prt Larder.rdA S0 n = none) := hide (fun i n hi hp => Larder.prt_none hp n hi)
  have PS : Hid (∀ i xs r, Larder.prt Larder.rdA S0 i = some (xs, r) → Larder.prt Larder.rdA S0 (i + 1) = (Larder.rdA r).map fun p => (xs ++ [p.1], p.2)) := hide (fun i xs r hp => Larder.prt_succ' hp)
  have P0 : Hid (∀ W, RdAt W g S0 → Kx g w W → LaAt w W g (Larder.prt Larder.rdA S0) 0 (.slice none 0 0) 0 S0) := hide (fun W h1 h2 => ⟨h2, h1, hS, fun q hq => (by cases hq), by
    cases S0 with
    | none => exact .inl ⟨rfl, rfl⟩
    | some l => exact .inr ⟨[], l, rfl, rfl, rfl, AL.nil _⟩⟩)
  generalize Larder.prt Larder.rdA S0 = P at PL PN PS P0 ⊢
  obtain ⟨i0, hi0, hz0, hz1, hz2⟩ := info_parts4 info64
  have HGW := hide hgw
  clear h hs hl hS hL hgw
  unfold LaEnd
  go_enter Try.func68, Try.ntmps68
  go_wp2_with (go_at_call 73; refine C73.mono ?_; clear C73; rintro e w2 ⟨rfl, k2⟩)
  go_loopw [5, 8] (fun fv iv wr => ∃ (i k : Nat) (a' : Option Addr) (c' : Nat) (S : Larder.Rd), fv = .slice a' k c' ∧ iv = .int .u32 ((i : Nat) : Int) ∧ i ≤ N ∧ Hid (LaAt w wr g P i (.slice a' k c') k S)) (fun _ iv _ => N - (intOf iv).toNat)
  case atStart => exact ⟨0, 0, none, 0, S0, rfl, rfl, Nat.zero_le _, hide ((unhide P0) w2 (unhide k2).2 (unhide k2).1)⟩
  case round =>
    clear k2
    obtain ⟨i, k, a', c', S, rfl, rfl, hi, HS⟩ := hrel
    by_cases hin : i < N
    · have e1 : decide ((i : Int) < (N : Int)) = true := decide_eq_true (by omega)
      have e2 : decide (i < N) = true := decide_eq_true hin
      have y1 := (unhide HS).2.1.flag
      obtain ⟨b, hb⟩ : ∃ b, b = S.isNone := ⟨_, rfl⟩
      rw [← hb] at y1
      cases S with
      | none =>
        obtain rfl : b = true := hb
        go_wp2_with fail
        go_ret
        refine ⟨none, 0, 0, rfl, hide ⟨(unhide HS).1, fun q hq => (by cases hq), .inl ⟨?_, (unhide HS).2.1⟩⟩⟩
        rcases (unhide HS).2.2.2.2 with ⟨-, hp⟩ | ⟨xs, r, hx, -⟩
        · exact (unhide PN) i N (by omega) hp
        · cases hx
      | some r =>
        obtain rfl : b = false := hb
        obtain ⟨xs, hp, hk, f, hf1, hf2⟩ : ∃ xs, P i = some (xs, r) ∧ k = xs.length ∧ AL wr (.slice a' k c') xs := by
          rcases (unhide HS).2.2.2.2 with ⟨hx, -⟩ | ⟨xs, r', hx, q1, q2, q3⟩
          · cases hx
          · cases hx
            exact ⟨xs, q1, q2, q3⟩
        have hpl := (unhide PL) i xs r hp
        have hk4 : k ≤ 1099511627776 := by omega
        have hps := (unhide PS) i xs r hp
        have hsm0 := (unhide HS).2.2.1
        have C69 := act_any wr g (some r) (unhide HS).2.1 hsm0 hpl.2.2
        rw [Option.bind_some] at C69
        have hsm : ∀ x r', Larder.rdA r = some (x, r') → SmS (some r') := fun x r' hx c hc => hsm0 c ((Larder.rdA_mem hx).2 c hc)
        generalize Larder.rdA r = Rr at C69 hps hsm
        rw [← hk] at hf1
        have HF1 := hide hf1
        have HF2 := hide hf2
        have HK := hide hk
        have HPS := hide hps
        have HSM := hide hsm
        unfold AcEnd at C69
        have HR1 : Hid (∀ w3, Kx g wr w3 → Rws w3 64 2 (.slice a' k c') k f) := hide (fun w3 hx => hf1.kt (hx.kt (unhide HS).2.1) (by decide))
        clear hf1 hf2 hk hps hsm hp hpl hsm0
        go_wp2_with (first
          | (go_at_call 69; refine C69.mono ?_; clear C69; rintro e w3 ⟨d, a3, n3, c3, rfl, k3⟩; have HAL := hide ((Below.refl w3.heap.size w3).alloc (Nat.le_refl _) (.cells #[.int .i64 (d : Nat), .slice a3 n3 c3] 64)))
          | (at_builtin; refine append_gen rfl _ _ 39 rfl 64 i0 _ 2 32 Try.underlying39 hi0 hz0 hz1 hz2 rfl (.slice a' k c') k f rfl (((unhide HR1) w3 (unhide k3).1).below (unhide HAL)) (some ⟨w3.heap.size, 0, none⟩) 1 1 rfl [.int .i64 (d : Nat), .slice a3 n3 c3] rfl (by simp) (new_cells w3 [.int .i64 (d : Nat), .slice a3 n3 c3] 64) (by simp [Value.oneCell']) (by omega) (by unfold maxLen; omega) ?_; intro v5 w5 h5 k5; obtain ⟨a5, c5, rfl⟩ := h5.shape; replace h5 := hide h5; replace k5 := hide k5; go_frame))
        all_goals go_roundw
        case rel =>
          have hx := (unhide HS)
          have hx3 : Kx g wr (w3.alloc (.cells #[.int .i64 (d : Nat), .slice a3 n3 c3] 64)) := (unhide k3).1.trans (.below (unhide HAL))
          have hgw := unhide HGW
          have hK5 := (hx.1.trans hx3).ga (unhide k5) hx.2.2.2.1
          have hO5 := own_ga (unhide k5) hx.2.2.2.1 (by have := hx.1.size; have := hx3.size; omega : w.heap.size ≤ _)
          have hgq : ∀ q, (Value.slice a' k c').ownBlock = some q → g < q := fun q hq => Nat.lt_of_lt_of_le hgw (hx.2.2.2.1 q hq)
          rcases (unhide k3).2.2 with ⟨rfl, hr⟩ | ⟨xs', r', rfl, hr, rfl, ht⟩
          · exact ⟨i + 1, k + 1, a5, c5, none, rfl, by go_num, by omega, hide ⟨hK5, (hr.below (unhide HAL)).ga (unhide k5) hgq, fun c hc => (by cases hc), hO5, .inl ⟨rfl, unhide HPS⟩⟩⟩
          · refine ⟨i + 1, k + 1, a5, c5, some r', rfl, by go_num, by omega, hide ⟨hK5, (hr.below (unhide HAL)).ga (unhide k5) hgq, (unhide HSM) _ _ rfl, hO5, .inr ⟨xs ++ [(d, xs')], r', rfl, unhide HPS, by rw [List.length_append, ← unhide HK]; rfl, ?_⟩⟩⟩
            exact AL.push (unhide HK) (fun j x hj => by
              obtain ⟨ai, ci, q1, q2, q3⟩ := (unhide HF2) j x hj
              exact ⟨ai, ci, q1, q2, q3.kt (hx3.kt hx.2.1) (by decide) (by decide)⟩) ((unhide HR1 _ (unhide k3).1).below (unhide HAL)) (ht.kt (Kt.of (p := fun _ => True) (unhide HAL)) trivial trivial) (unhide h5) (unhide k5)
        case measure => simp [intOf]; omega
    · obtain rfl : i = N := by omega
      have e1 : decide ((i : Int) < (i : Int)) = false := decide_eq_false (by omega)
      have e2 : decide (i < i) = false := decide_eq_false (by omega)
      go_wp2_with fail
      go_ret
      have hx := (unhide HS)
      refine ⟨a', k, c', rfl, hide ⟨hx.1, hx.2.2.2.1, ?_⟩⟩
      rcases hx.2.2.2.2 with ⟨rfl, hp⟩ | ⟨xs, r, rfl, q1, q2, q3⟩
      · exact .inl ⟨hp, hx.2.1⟩
      · exact .inr ⟨xs, r, q1, hx.2.1, q2, q3⟩
end Go.Proofs.Ytljeedgnjgeopaa
