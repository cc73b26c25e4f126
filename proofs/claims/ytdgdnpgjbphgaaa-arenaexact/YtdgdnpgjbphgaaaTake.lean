/- within, fit. -/
import Derived.Test.YtdgdnpgjbphgaaaGrow
import Derived.Deep.RegionHeld3
namespace Go.Proofs.Ytdgdnpgjbphgaaa
open Go.ChangeShapes Go.WideShapes Go.ChangeAt Go.RowKit
set_option linter.unusedVariables false
set_option maxRecDepth 100000
set_option maxHeartbeats 1000000

theorem alloc_shape {p bw bh : Nat} {ws : List Nat} {hs : List Bool} {used : Nat} (k r s : Int) (w : World) (h : Ar w p bw bh ws hs used) (hf : ¬ Fits k r s) :
    Calls Try.prog 34 #[.pointer (some ⟨p, 0, none⟩), .int .i64 k, .int .i64 r, .int .i64 s] w fun e w' => e = .returned (.tuple #[.int .i64 0, .int .i64 21]) ∧ Below w.heap.size w w' := by
  have HH := hide (head_no k r s w hf)
  clear h hf
  go_enter Try.func34, Try.ntmps34
  go_wp2_with fail
  refine (unhide HH).mono ?_
  rintro e w' ⟨rfl, hw'⟩
  obtain rfl := hw'.symm
  go_wp2
  go_ret2
  exact ⟨rfl, Below.refl _ _⟩

theorem alloc_full {p bw bh : Nat} {ws : List Nat} {hs : List Bool} {used : Nat} (k r s : Nat) (w : World) (h : Ar w p bw bh ws hs used) (hf : Fits k r s) (hn : ws.length < used + (1 + r + s)) :
    Calls Try.prog 34 #[.pointer (some ⟨p, 0, none⟩), .int .i64 k, .int .i64 r, .int .i64 s] w fun e w' => e = .returned (.tuple #[.int .i64 0, .int .i64 22]) ∧ Below w.heap.size w w' := by
  have HH := hide (head_yes k r s w hf)
  obtain ⟨f1, f2, f3, f4, f5, f6⟩ := hf
  have HG := hide (grow_full (1 + r + s) w h hn (by omega))
  have ec : ((1 + r + s : Nat) : Int) = 1 + (r : Int) + s := by omega
  rw [ec] at HG
  clear h hn
  go_enter Try.func34, Try.ntmps34
  go_wp2_with fail
  refine (unhide HH).mono ?_
  rintro e w' ⟨rfl, hw'⟩
  obtain rfl := hw'.symm
  go_wp2_with fail
  refine (unhide HG).mono ?_
  rintro e w1 ⟨rfl, hb1⟩
  go_wp2
  go_ret2
  exact ⟨rfl, hb1⟩

theorem alloc_yes {p bw bh : Nat} {ws : List Nat} {hs : List Bool} {used : Nat} (k r s : Nat) (w : World) (h : Ar w p bw bh ws hs used) (hf : Fits k r s) (hn : used + (1 + r + s) ≤ ws.length) :
    Calls Try.prog 34 #[.pointer (some ⟨p, 0, none⟩), .int .i64 k, .int .i64 r, .int .i64 s] w fun e w' => e = .returned (.tuple #[.int .i64 used, .int .i64 0]) ∧
      Ar w' p bw bh (laid ws used (1 + r + s) (k + 256 * r + 4294967296 * s)) (mark hs used (1 + r + s)) (used + (1 + r + s)) ∧ But [p, bw, bh] w w' := by
  have HH := hide (head_yes k r s w hf)
  obtain ⟨f1, f2, f3, f4, f5, f6⟩ := hf
  have HG := hide (grow_yes (1 + r + s) w h hn (by omega))
  obtain ⟨n, hnn⟩ : ∃ n, n = 1 + r + s := ⟨_, rfl⟩
  obtain ⟨x, hx⟩ : ∃ x, x = k + 256 * r + 4294967296 * s := ⟨_, rfl⟩
  have hx64 : x < 18446744073709551616 := by omega
  have ex : (k : Int) + 256 * (r : Int) + 4294967296 * (s : Int) = (x : Int) := by omega
  have ec : 1 + (r : Int) + (s : Int) = (n : Int) := by omega
  rw [← hnn] at HG hn ⊢
  rw [← hx]
  have hz := h.sz
  have hn1 : 1 ≤ n := by omega
  clear h hnn hx
  go_enter Try.func34, Try.ntmps34
  go_wp2_with fail
  refine (unhide HH).mono ?_
  rintro e w' ⟨rfl, hw'⟩
  obtain rfl := hw'.symm
  go_wp2_with fail
  refine (unhide HG).mono ?_
  rintro e w1 ⟨rfl, hA1, hB1⟩
  have hclr := fun ty => Lib.run_clear_slice (P := Try.prog) w1 34 36 ty (.int .u64 0) Try.underlying34 (fun w => Try.zeroValue36 w) rfl rfl bw used n n hn1 (fun j hj => by
    rw [hA1.ww _ (by omega)]; rfl) (fun j hj => hA1.wf _ (by omega))
  have HM := hide (hA1.headed used n x hn hn1 hx64)
  obtain ⟨w2, hw2⟩ : ∃ w2, w2 = w1.setCells bw used (List.replicate n (.int .u64 0)) := ⟨_, rfl⟩
  rw [← hw2] at hclr HM
  have g1 : w2.cell? ⟨bw, used, none⟩ = some (.int .u64 0) := by
    rw [hw2]; exact sets_in w1 bw used n _ (fun j hj => by rw [hA1.ww _ (by omega)]; rfl) used (Nat.le_refl _) (by omega)
  have g2 : w2.frozen? ⟨bw, used, none⟩ = false := by rw [hw2, World.frozen?_setCells]; exact hA1.wf used (by omega)
  have HB1 := hide hB1
  clear hw2 hA1 hB1
  go_wp2
  go_ret2
  refine ⟨rfl, (unhide HM).1, ?_⟩
  have k1 := unhide HB1
  have k2 := (unhide HM).2
  exact ⟨k2.os.trans k1.os, k2.tape.trans k1.tape, k2.output.trans k1.output, Nat.le_trans k1.size k2.size, fun j hj hn => (k2.block j (Nat.lt_of_lt_of_le hj k1.size) (fun hm => hn (by simp at hm ⊢; exact .inr (.inl hm)))).trans (k1.block j hj (fun hm => hn (by simp at hm ⊢; rcases hm with h | h; exact .inl h; exact .inr (.inr h))))⟩
end Go.Proofs.Ytdgdnpgjbphgaaa
namespace Go.Proofs.Ytdgdnpgjbphgaaa
open Go.ChangeShapes Go.WideShapes Go.ChangeAt Go.RowKit
set_option linter.unusedVariables false
set_option maxRecDepth 100000
set_option maxHeartbeats 1000000
theorem within_num (n : Int) (m : Nat) (hm : 0 < m) (hm2 : m ≤ 4611686018427387904) : (wrap64 (n.tmod m + m)).tmod m = ((n % (m : Int)).toNat : Nat) := by
  have hp : (0 : Int) < m := by omega
  have t1 : n.tmod m < m := Int.tmod_lt_of_pos n hp
  have t2 : -(m : Int) < n.tmod m := Int.lt_tmod_of_pos n hp
  have hw : wrap64 (n.tmod m + m) = n.tmod m + m := by unfold wrap64; omega
  rw [hw, Int.tmod_eq_emod_of_nonneg (by omega)]
  have e1 : n = m * n.tdiv m + n.tmod m := (Int.mul_tdiv_add_tmod n m).symm
  have e2 : n % (m : Int) = (n.tmod m + m) % m := by
    conv => lhs; rw [e1]
    rw [Int.add_comm, Int.add_mul_emod_self_left, Int.add_emod_right]
  rw [← e2]
  have := Int.emod_nonneg n (show (m : Int) ≠ 0 by omega)
  omega
theorem within_any (n : Int) (m : Nat) (hm : 0 < m) (hm2 : m ≤ 4611686018427387904) (w : World) :
    Calls Try.prog 11 #[.int .i64 n, .int .i64 m] w fun e w' => e = .returned (.int .i64 ((n % (m : Int)).toNat : Nat)) ∧ w' = w := by
  have HN := hide (within_num n m hm hm2)
  go_enter Try.func11, Try.ntmps11
  go_wp2
  go_ret
  exact ⟨ret_int (unhide HN), rfl⟩

theorem results_cell {fn : Func} {r : Tmp} {t : TypeId} (h : fn.results = #[.cell r t]) (tmps : Array Value) (P : Program) (w : World) (p : Addr) (hp : tmps.getD r undef = .pointer (some p)) (v : Value) (hl : (loadVar t p).run P w = .ok v w) :
    (results fn tmps).run P w = .ok v w := by
  have hp' : tmps[r]?.getD undef = .pointer (some p) := by rw [← hp]; simp [Array.getD_eq_getD_getElem?]
  simp [results, h, asAddr, hp', hl]

theorem within_int (n m : Int) (hm : 0 < m) (hm2 : m ≤ 4611686018427387904) (w : World) :
    Calls Try.prog 11 #[.int .i64 n, .int .i64 m] w fun e w' => e = .returned (.int .i64 (n % m)) ∧ w' = w := by
  obtain ⟨k, rfl⟩ := Int.eq_ofNat_of_zero_le (show (0 : Int) ≤ m by omega)
  have h := within_any n k (by omega) (by omega) w
  have e : (((n % (k : Int)).toNat : Nat) : Int) = n % (k : Int) := by
    have := Int.emod_nonneg n (show (k : Int) ≠ 0 by omega)
    omega
  rw [e] at h
  exact h

theorem fit_any (a b c : Int) (w : World) :
    Calls Try.prog 33 #[.agg #[.int .i64 a, .int .i64 b, .int .i64 c]] w fun e w' => e = .returned (.agg #[.int .i64 (1 + a % 255), .int .i64 (b % 24), .int .i64 (c % 24)]) ∧ Below w.heap.size w w' := by
  have ea : wrap64 (1 + a % 255) = 1 + a % 255 := by unfold wrap64; omega
  go_enter Try.func33, Try.ntmps33
  go_wp2_with fail
  go_region_held3 (fun w' => w'.cell? ⟨w.heap.size, 0, none⟩ = some (.int .i64 a) ∧ w'.cell? ⟨w.heap.size, 1, none⟩ = some (.int .i64 b) ∧ w'.cell? ⟨w.heap.size, 2, none⟩ = some (.int .i64 c)) (go_keep)
    (first
      | (go_at_call 11; refine (within_int _ _ (by decide) (by decide) _).mono ?_; rintro e w9 ⟨rfl, hw9⟩; obtain rfl := hw9.symm))
  go_wp2
  have ew : IntKind.i64.wrap (1 + a % 255) = 1 + a % 255 := by
    rw [IntKind.wrap_i64]; omega
  rw [ew]
  refine bodyPost_ret_by (v := .agg #[.int .i64 (1 + a % 255), .int .i64 (b % 24), .int .i64 (c % 24)]) (results_cell (r := 2) (t := 28) (by kernel_rfl) _ _ _ ⟨w.heap.size + 1, 0, none⟩ rfl _ ?_) rfl ⟨rfl, (((Below.refl _ _).alloc (Nat.le_refl _) _).alloc (by simp) _).drew⟩
  refine run_loadVar_row _ (w.heap.size + 1) 28 28 _ (0, 0) _ ?_ Try.underlying28 rfl (by as_aux_lemma => kernel_rfl)
  have h := heap_alloc_new (w.alloc (.cells #[.int .i64 a, .int .i64 b, .int .i64 c] 28)) (.cells #[.int .i64 (1 + a % 255), .int .i64 (b % 24), .int .i64 (c % 24)] 28)
  have s1 : (w.alloc (.cells #[.int .i64 a, .int .i64 b, .int .i64 c] 28)).heap.size = w.heap.size + 1 := by simp
  rw [s1] at h
  exact h

/-- three cells a shape -/
def scells (L : List (Int × Int × Int)) : List Value := L.flatMap fun s => [.int .i64 s.1, .int .i64 s.2.1, .int .i64 s.2.2]
theorem scells_length (L : List (Int × Int × Int)) : (scells L).length = L.length * 3 := by
  induction L with
  | nil => rfl
  | cons s L ih => unfold scells at ih ⊢; rw [List.flatMap_cons, List.length_append, ih]; simp; omega
theorem scells_append (L M : List (Int × Int × Int)) : scells (L ++ M) = scells L ++ scells M := by simp [scells]
/-- v owns the shapes L -/
def OwnS (w : World) (base : Nat) (v : Value) (L : List (Int × Int × Int)) : Prop := w.ownsRow base 28 3 v L.length (scells L)
theorem rowbelow {w w' : World} {base e size n : Nat} {v : Value} {xs : List Value} (h : w.ownsRow base e size v n xs) (hb : Below w.heap.size w w') : w'.ownsRow base e size v n xs := by
  refine ⟨h.1, ?_⟩
  rcases h.2 with hn | ⟨g, cap, cur, rfl, hbb, hg, rest⟩
  · exact .inl hn
  · exact .inr ⟨g, cap, cur, rfl, hbb, by rw [hb.block g (Array.getElem?_eq_some_iff.1 hg).1]; exact hg, rest⟩
def fitL (s : Int × Int × Int) : Int × Int × Int := (1 + s.1 % 255, s.2.1 % 24, s.2.2 % 24)
theorem Try.info28 : (Try.prog.info? 28).map (fun i => (i.zero, i.size, i.bytes)) = some (some (.agg #[.int .i64 0, .int .i64 0, .int .i64 0]), 3, 24) := by kernel_rfl

/-- the shapes L lie from b, off on -/
def ShapesAt (w : World) (b off : Nat) (L : List (Int × Int × Int)) : Prop := ∀ i, i < L.length → w.cell? ⟨b, off + i * 3, none⟩ = some (.int .i64 (L.getD i (0, 0, 0)).1) ∧ w.cell? ⟨b, off + i * 3 + 1, none⟩ = some (.int .i64 (L.getD i (0, 0, 0)).2.1) ∧ w.cell? ⟨b, off + i * 3 + 2, none⟩ = some (.int .i64 (L.getD i (0, 0, 0)).2.2)

theorem take_some (b off cap : Nat) (w : World) (L : List (Int × Int × Int)) (hl : L.length ≤ 140737488355328) (hb : b < w.heap.size) (hL : ShapesAt w b off L) :
    Calls Try.prog 9 #[.slice (some ⟨b, off, none⟩) L.length cap] w fun e w' => ∃ v, e = .returned v ∧ OwnS w' w.heap.size v ((L.take 2000).map fitL) ∧ Below w.heap.size w w' := by
  obtain ⟨i0, hi, hy0, hy1, hy2⟩ := info_parts Try.info28
  have HL := hide hL
  clear hL
  go_enter Try.func9, Try.ntmps9
  go_wp2_with fail
  go_loopw [3, 4] (fun v i wr => ∃ k : Nat, k ≤ L.length ∧ k ≤ 2000 ∧ i = .int .i64 k ∧ OwnS wr w.heap.size v ((L.take k).map fitL) ∧ Below w.heap.size w wr) (fun _ i _ => L.length - (intOf i).toNat)
  case atStart => exact ⟨0, by omega, by omega, rfl, by unfold OwnS; exact World.ownsRow_nil _ _ _ _, Below.refl _ _⟩
  case round =>
    obtain ⟨k, hk, hk2, rfl, hown, hbl⟩ := hrel
    by_cases hlt : k < L.length ∧ k < 2000
    · obtain ⟨hkl, hk20⟩ := hlt
      obtain ⟨c0, c1, c2⟩ := unhide HL k hkl
      have d0 := (hbl.cell (p := ⟨b, off + k * 3, none⟩) hb).trans c0
      have d1 := (hbl.cell (p := ⟨b, off + k * 3 + 1, none⟩) hb).trans c1
      have d2 := (hbl.cell (p := ⟨b, off + k * 3 + 2, none⟩) hb).trans c2
      obtain ⟨s, hs⟩ : ∃ s, s = L.getD k (0, 0, 0) := ⟨_, rfl⟩
      rw [← hs] at d0 d1 d2
      obtain ⟨a, bb, c⟩ := s
      have HTK : Hid ((L.take (k + 1)).map fitL = (L.take k).map fitL ++ [(1 + a % 255, bb % 24, c % 24)]) := hide (by
        rw [List.take_add_one, List.getElem?_eq_getElem hkl, List.map_append]
        have e : L[k] = (a, bb, c) := by rw [hs, List.getD_eq_getElem?_getD, List.getElem?_eq_getElem hkl]; rfl
        rw [e]; rfl)
      have hlen : ((L.take k).map fitL).length = k := by rw [List.length_map, List.length_take]; omega
      have HF := hide (fit_any a bb c wr)
      obtain ⟨x, hx⟩ : ∃ x, x = 1 + a % 255 := ⟨_, rfl⟩
      obtain ⟨y, hy⟩ : ∃ y, y = bb % 24 := ⟨_, rfl⟩
      obtain ⟨z, hz⟩ : ∃ z, z = c % 24 := ⟨_, rfl⟩
      rw [← hx, ← hy, ← hz] at HF HTK
      generalize (L.take k).map fitL = T at *
      clear hs c0 c1 c2 hx hy hz
      go_wp2_with fail
      refine (unhide HF).mono ?_
      rintro e w1 ⟨rfl, hb1⟩
      unfold OwnS at hown
      have hown1 := rowbelow hown hb1
      rw [hlen] at hown1
      have hbl1 := hbl.trans (hb1.mono hbl.size)
      go_wp2_with (at_builtin; refine wpList_append_own _ rfl _ _ 22 rfl w.heap.size 28 i0 (.agg #[.int .i64 0, .int .i64 0, .int .i64 0]) 3 24 Try.underlying22 hi hy0 hy1 hy2 rfl (by decide) _ _ _ rfl ((hown1.alloc _).alloc _) ⟨w1.heap.size + 1, 0, none⟩ 1 1 [.int .i64 x, .int .i64 y, .int .i64 z] rfl rfl ?c1 ?c2 ?c3 ?c4 ?c5 ?_)
      case c1 =>
        intro j u hj
        match j, hj with
        | 0, hj => simp at hj; subst hj; simp [Addr.add]
        | 1, hj => simp at hj; subst hj; simp [Addr.add]
        | 2, hj => simp at hj; subst hj; simp [Addr.add]
      case c2 =>
        intro u hu
        simp at hu
        rcases hu with rfl | rfl | rfl <;> rfl
      case c3 => simp [maxLen]; omega
      case c4 => omega
      case c5 => have := hbl1.size; simp; omega
      · intro v' w5 hown' hgrow _
        have hown5 : OwnS w5 w.heap.size v' (T ++ [(x, y, z)]) := by
          unfold OwnS
          rw [List.length_append, List.length_singleton, hlen, scells_append]
          exact hown'
        have hbl5 : Below w.heap.size w w5 := by
          have hlt2 := hown1.lt
          exact ((hbl1.alloc hbl1.size _).alloc (by have := hbl1.size; simp; omega) _).grown hgrow (by have := hbl1.size; simp; omega) (fun j hj => (hlt2 j hj).1)
        clear hown' hgrow hown hown1 hbl hbl1 hb1
        go_wp2
        go_roundw
        case rel => exact ⟨k + 1, by omega, by omega, by go_num, by rw [unhide HTK]; exact hown5, hbl5⟩
        case measure => simp [intOf]; omega
    · have HOWN : Hid (OwnS wr w.heap.size _ ((L.take 2000).map fitL)) := hide (by
        have e : L.take 2000 = L.take k := by
          by_cases h : k < L.length
          · rw [show k = 2000 by omega]
          · rw [List.take_of_length_le (by omega), List.take_of_length_le (by omega)]
        rw [e]; exact hown)
      by_cases hkl : k < L.length
      · have f1 : decide ((k : Int) < (L.length : Int)) = true := decide_eq_true (by omega)
        have f2 : decide ((k : Int) < 2000) = false := decide_eq_false (by omega)
        go_wp2
        go_ret
        exact ⟨_, rfl, unhide HOWN, hbl⟩
      · have f1 : decide ((k : Int) < (L.length : Int)) = false := decide_eq_false (by omega)
        go_wp2
        go_ret
        exact ⟨_, rfl, unhide HOWN, hbl⟩
theorem take_none (a : Option Addr) (cap : Nat) (w : World) :
    Calls Try.prog 9 #[.slice a 0 cap] w fun e w' => e = .returned (.slice none 0 0) ∧ w' = w := by
  go_enter Try.func9, Try.ntmps9
  go_wp2_with fail
  go_loop [3, 4] (fun v i => v = .slice none 0 0 ∧ i = .int .i64 0) (fun _ _ => 0)
  case atStart => exact ⟨rfl, rfl⟩
  case round =>
    obtain ⟨rfl, rfl⟩ := hrel
    go_wp2
    go_ret
    exact ⟨rfl, rfl⟩
end Go.Proofs.Ytdgdnpgjbphgaaa
