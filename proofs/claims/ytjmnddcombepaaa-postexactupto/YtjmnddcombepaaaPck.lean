/- Heard. -/
import Derived.Test.YtjmnddcombepaaaPci
import Derived.Test.YtjmnddcombepaaaGlc
import Derived.Lib.ConvBytes
import Derived.Lib.SmallJoins
namespace Go.Proofs.Ytjmnddcombepaaa
open Go.ChangeShapes Go.WideShapes Go.ChangeAt Go.RowKit Go.Maps Go.Sort
set_option linter.unusedVariables false
set_option linter.unusedSimpArgs false
set_option maxRecDepth 100000
set_option maxHeartbeats 4000000

/-- a text's bytes as numbers -/
def nb (T : List UInt8) : List Nat := T.map UInt8.toNat
theorem nb_len (T : List UInt8) : (nb T).length = T.length := List.length_map ..
theorem nb_getD (T : List UInt8) (j : Nat) : (nb T).getD j 0 = (T.getD j 0).toNat := by
  unfold nb
  rw [List.getD_eq_getElem?_getD, List.getD_eq_getElem?_getD, List.getElem?_map]
  cases T[j]? <;> rfl
theorem nb_small (T : List UInt8) : Small (nb T) := fun i hi => by
  rw [nb_getD]
  exact UInt8.toNat_lt _
/-- what Glob answers -/
def GlobIs (G : List UInt8 → List UInt8 → Bool) : Prop := ∀ p t, G p t = true ↔ Larder.Meets (Larder.parse (nb p)) (nb t)
theorem glob_is : ∃ G, GlobIs G := by
  classical
  exact ⟨fun p t => decide (Larder.Meets (Larder.parse (nb p)) (nb t)), fun p t => decide_eq_true_iff⟩
theorem conv_txt (w : World) (T : List UInt8) : ∃ c w', (convert 9 23 (.string (bs T))).run Try.prog w = .ok (.slice (some ⟨w.heap.size, 0, none⟩) T.length c) w' ∧ Hid ((∀ j, j < T.length → w'.cell? ⟨w.heap.size, j, none⟩ = some (.int .u8 ((nb T).getD j 0 : Nat))) ∧ Below w.heap.size w w' ∧ w'.heap.size = w.heap.size + 1) := by
  have h := Lib.run_convert_string_bytes (P := Try.prog) w 9 23 5 (bs T) Try.underlying9 Try.underlying23 Try.underlying5
  have hz := bs_size T
  refine ⟨_, _, by rw [← hz]; exact h, hide ⟨fun j hj => ?_, Go.Joins.below_bytesWorld _ w 5 (bs T) (Nat.le_refl _), Lib.bytesWorld_size w 5 (bs T)⟩⟩
  rw [Lib.bytesWorld_cell w 5 (bs T) j (by omega), bs_list, nb_getD]
theorem bytes_of {W : World} {g : Nat} {T : List UInt8} (hg : g < W.heap.size) (hc : ∀ j, j < T.length → W.cell? ⟨g, j, none⟩ = some (.int .u8 ((nb T).getD j 0 : Nat))) : Bytes W (some ⟨g, 0, none⟩) (nb T) :=
  .inr ⟨g, 0, rfl, hg, fun j hj => by rw [Nat.zero_add]; exact hc j (by rw [← nb_len]; exact hj)⟩
theorem glob_txt (G : List UInt8 → List UInt8 → Bool) (hG : GlobIs G) (W : World) (g1 g2 c1 c2 : Nat) (P T : List UInt8) (hP : P.length ≤ 1073741824) (hT : T.length ≤ 140737488355328) (h1 : Bytes W (some ⟨g1, 0, none⟩) (nb P)) (h2 : Bytes W (some ⟨g2, 0, none⟩) (nb T)) :
    Calls Try.prog 22 #[.slice (some ⟨g1, 0, none⟩) P.length c1, .slice (some ⟨g2, 0, none⟩) T.length c2] W fun e w' => e = .returned (.bool (G P T)) ∧ Hid (Below W.heap.size W w') := by
  have h := glob_any (some ⟨g1, 0, none⟩) (some ⟨g2, 0, none⟩) c1 c2 W (nb P) (nb T) (by rw [nb_len]; exact hP) (by rw [nb_len]; exact hT) (nb_small P) (nb_small T) h1 h2
  rw [nb_len, nb_len] at h
  refine h.mono ?_
  rintro e w' ⟨r, rfl, hr, hb⟩
  have e1 : r = G P T := by rw [Bool.eq_iff_iff, hr, hG P T]
  exact ⟨by rw [e1], hide hb⟩
/-- a captured list of bytes: its box x, its bytes in g, both below base -/
structure CapAt (W : World) (base x g c : Nat) (T : List UInt8) : Prop where
  box : W.heap[x]? = some (.cells #[.slice (some ⟨g, 0, none⟩) T.length c] 23 (0, 0))
  xb : x < base
  gb : g < base
  le : base ≤ W.heap.size
  cells : ∀ j, j < T.length → W.cell? ⟨g, j, none⟩ = some (.int .u8 ((nb T).getD j 0 : Nat))
theorem CapAt.below {W W' : World} {base x g c : Nat} {T : List UInt8} (h : CapAt W base x g c T) (hb : Below base W W') (hs : base ≤ W'.heap.size) : CapAt W' base x g c T :=
  ⟨(hb.block x h.xb).trans h.box, h.xb, h.gb, hs, fun j hj => (hb.cell (p := ⟨g, j, none⟩) h.gb).trans (h.cells j hj)⟩
theorem eg58 : ∀ args w, (callFunc 58 args).run Try.prog w = .ok (.enter 58 args) w := enters_of Try.func58 (by kernel_rfl) rfl
theorem eg38 : ∀ args w, (callFunc 38 args).run Try.prog w = .ok (.enter 38 args) w := enters_of Try.func38 (by kernel_rfl) rfl
theorem pred58 (G : List UInt8 → List UInt8 → Bool) (hG : GlobIs G) (w : World) (base x g c : Nat) (T : List UInt8) (l : List (List UInt8)) (hT : T.length ≤ 140737488355328) (hl : ∀ P ∈ l, P.length ≤ 1073741824) (h : CapAt w base x g c T) : PredS w base 58 #[.pointer (some ⟨x, 0, none⟩)] l (fun P => !G P T) := by
  intro W P hP hb hs
  have hc := h.below hb hs
  obtain ⟨c1, w1, r1, k1⟩ := conv_txt W P
  obtain ⟨k2, k3, k4⟩ := unhide k1
  have hc1 := hc.below (k3.mono hs) (Nat.le_trans hs k3.size)
  have hx : w1.cell? ⟨x, 0, none⟩ = some (.slice (some ⟨g, 0, none⟩) T.length c) := by rw [cell_blk hc1.box]; rfl
  have CG : Hid (Calls Try.prog 22 #[.slice (some ⟨W.heap.size, 0, none⟩) P.length c1, .slice (some ⟨g, 0, none⟩) T.length c] w1 fun e w' => e = .returned (.bool (G P T)) ∧ Hid (Below W.heap.size W w')) := hide ((glob_txt G hG w1 W.heap.size g c1 c P T (hl P hP) hT (bytes_of (by omega) k2) (bytes_of (Nat.lt_of_lt_of_le hc1.gb hc1.le) hc1.cells)).mono (fun e w' ⟨h1, h2⟩ => ⟨h1, hide (k3.trans ((unhide h2).mono k3.size))⟩))
  show Calls Try.prog 58 #[.string (bs P), .pointer (some ⟨x, 0, none⟩)] W _
  clear h hc hc1 k1 k2 k3 k4 hb hl hP
  go_enter Try.func58, Try.ntmps58
  go_wp2_with (go_at_call 22; with_reducible refine (unhide CG).mono ?_; rintro e w2 ⟨rfl, k2⟩)
  go_ret
  exact ⟨rfl, k2⟩
theorem pred38 (G : List UInt8 → List UInt8 → Bool) (hG : GlobIs G) (w : World) (base x g c : Nat) (P : List UInt8) (l : List (List UInt8)) (hP : P.length ≤ 1073741824) (hl : ∀ T ∈ l, T.length ≤ 140737488355328) (h : CapAt w base x g c P) : PredS w base 38 #[.pointer (some ⟨x, 0, none⟩)] l (fun T => !G P T) := by
  intro W T hT hb hs
  have hc := h.below hb hs
  obtain ⟨c1, w1, r1, k1⟩ := conv_txt W T
  obtain ⟨k2, k3, k4⟩ := unhide k1
  have hc1 := hc.below (k3.mono hs) (Nat.le_trans hs k3.size)
  have hx : W.cell? ⟨x, 0, none⟩ = some (.slice (some ⟨g, 0, none⟩) P.length c) := by rw [cell_blk hc.box]; rfl
  have CG : Hid (Calls Try.prog 22 #[.slice (some ⟨g, 0, none⟩) P.length c, .slice (some ⟨W.heap.size, 0, none⟩) T.length c1] w1 fun e w' => e = .returned (.bool (G P T)) ∧ Hid (Below W.heap.size W w')) := hide ((glob_txt G hG w1 g W.heap.size c c1 P T hP (hl T hT) (bytes_of (Nat.lt_of_lt_of_le hc1.gb hc1.le) hc1.cells) (bytes_of (by omega) k2)).mono (fun e w' ⟨h1, h2⟩ => ⟨h1, hide (k3.trans ((unhide h2).mono k3.size))⟩))
  show Calls Try.prog 38 #[.string (bs T), .pointer (some ⟨x, 0, none⟩)] W _
  clear h hc hc1 k1 k2 k3 k4 hb hl hT
  go_enter Try.func38, Try.ntmps38
  go_wp2_with (go_at_call 22; with_reducible refine (unhide CG).mono ?_; rintro e w2 ⟨rfl, k2⟩)
  go_ret
  exact ⟨rfl, k2⟩
/-- the patterns that a channel meets -/
def metL (G : List UInt8 → List UInt8 → Bool) (S : List Key) (T : List UInt8) : List (List UInt8) := (unlikeL S true).filter (fun P => G P T)
/-- the channels that meet a pattern -/
def chanL (G : List UInt8 → List UInt8 → Bool) (S : List Key) (P : List UInt8) : List (List UInt8) := (unlikeL S false).filter (fun T => G P T)
theorem compact_sub (l : List (List UInt8)) : ∀ x ∈ Lib.compact l, x ∈ l := by
  intro x hx
  unfold Lib.compact Lib.compactUpTo at hx
  obtain ⟨j, hj, rfl⟩ := List.mem_map.1 hx
  have hj2 := (List.mem_filter.1 hj).1
  rw [List.mem_range] at hj2
  rw [getElem!_pos l.toArray j (by simpa using hj2)]
  simp
theorem textsL_sub {S : List Key} {pr : Key → Bool} {T : List UInt8} (h : T ∈ textsL S pr) : ∃ k ∈ S, pr k = true ∧ k.2.1 = T := by
  have h1 := compact_sub _ _ h
  rw [List.mem_mergeSort] at h1
  obtain ⟨k, hk, rfl⟩ := List.mem_map.1 h1
  exact ⟨k, (List.mem_filter.1 hk).1, (List.mem_filter.1 hk).2, rfl⟩
theorem textsL_len (S : List Key) (pr : Key → Bool) : (textsL S pr).length ≤ S.length := by
  unfold textsL Lib.compact Lib.compactUpTo
  rw [List.length_map]
  refine Nat.le_trans (List.length_filter_le _ _) ?_
  rw [List.length_range, List.length_mergeSort, List.length_map]
  exact List.length_filter_le _ _
theorem not_not_filter (l : List (List UInt8)) (f : List UInt8 → Bool) : l.filter (fun x => !!f x) = l.filter f := by
  congr 1
  funext x
  exact Bool.not_not _
theorem cap_new (w : World) (T : List UInt8) (c : Nat) (w1 : World) (hk : (∀ j, j < T.length → w1.cell? ⟨w.heap.size, j, none⟩ = some (.int .u8 ((nb T).getD j 0 : Nat))) ∧ Below w.heap.size w w1 ∧ w1.heap.size = w.heap.size + 1) : CapAt (w1.alloc (.cells #[.slice (some ⟨w.heap.size, 0, none⟩) T.length c] 23)) (w.heap.size + 2) w1.heap.size w.heap.size c T := by
  refine ⟨heap_alloc_new _ _, by omega, by omega, by simp; omega, fun j hj => ?_⟩
  rw [((Below.refl _ _).alloc (Nat.le_refl _) _ : Below w1.heap.size w1 (w1.alloc _)).cell (p := ⟨w.heap.size, j, none⟩) (by show w.heap.size < _; omega)]
  exact hk.1 j hj
theorem metBy_any (G : List UInt8 → List UInt8 → Bool) (hG : GlobIs G) (w : World) (p b : Nat) (D : Dt) (S : List Key) (T : List UInt8) (h : PostAt w p b D S) (hS : S.length ≤ 1099511627776) (hl : ∀ k ∈ S, k.2.1.length ≤ 4096) (hT : T.length ≤ 140737488355328) :
    Calls Try.prog 33 #[.pointer (some ⟨p, 0, none⟩), .string (bs T)] w (SEnd w (metL G S T)) := by
  obtain ⟨c, w1, r1, k1⟩ := conv_txt w T
  have hk := unhide k1
  have HC := hide (cap_new w T c w1 hk)
  have b2 : Below w.heap.size w (w1.alloc (.cells #[.slice (some ⟨w.heap.size, 0, none⟩) T.length c] 23)) := hk.2.1.alloc hk.2.1.size _
  have hs2 : (w1.alloc (.cells #[.slice (some ⟨w.heap.size, 0, none⟩) T.length c] 23)).heap.size = w.heap.size + 2 := by simp; omega
  have CU := hide (unlike_any _ p b D S true (h.below b2) hS (fun k hk => Nat.le_trans (hl k hk) (by decide)))
  unfold SEnd at CU
  have CD : Hid (∀ W a n cap, Hid (OwnS W (w1.alloc (.cells #[.slice (some ⟨w.heap.size, 0, none⟩) T.length c] 23)).heap.size (.slice a n cap) (unlikeL S true) ∧ Below (w1.alloc (.cells #[.slice (some ⟨w.heap.size, 0, none⟩) T.length c] 23)).heap.size (w1.alloc (.cells #[.slice (some ⟨w.heap.size, 0, none⟩) T.length c] 23)) W ∧ n = (unlikeL S true).length) → Calls Try.prog 36 #[.slice a n cap, .func (.func 58) #[] #[.pointer (some ⟨w1.heap.size, 0, none⟩)]] W fun e w' => ∃ n', e = .returned (.slice a n' cap) ∧ Hid (OwnS w' w.heap.size (.slice a n' cap) (metL G S T) ∧ Below w.heap.size w w' ∧ n' = (metL G S T).length)) := hide (fun W a n cap hW => by
    obtain ⟨q1, q2, q3⟩ := unhide hW
    rw [hs2] at q1 q2
    have hl2 := textsL_len S (fun k => k.2.2 == true)
    have hsz : w.heap.size + 2 ≤ W.heap.size := by have := q2.size; omega
    refine (delete_own W (w.heap.size + 2) 58 _ a n cap (unlikeL S true) (fun P => !G P T) q1 q3 (by unfold unlikeL; omega) hsz eg58 (pred58 G hG W (w.heap.size + 2) w1.heap.size w.heap.size c T _ hT (fun P hP => ?_) ((unhide HC).below q2 hsz))).mono ?_
    · obtain ⟨k, hk, _, rfl⟩ := textsL_sub hP
      exact Nat.le_trans (hl k hk) (by decide)
    · rintro e w' ⟨n', rfl, k⟩
      rw [not_not_filter] at k
      exact ⟨n', rfl, hide ⟨(unhide k).1.mono (by omega), (b2.trans (q2.mono (by omega))).trans ((unhide k).2.1.mono (by omega)), (unhide k).2.2⟩⟩)
  clear h hk HC b2 hs2 k1 hl
  go_enter Try.func33, Try.ntmps33
  go_wp2_with (first
    | (go_at_call 37; with_reducible refine (unhide CU).mono ?_; rintro e w2 ⟨a, n, cap, rfl, k2⟩)
    | (go_at_call 36; with_reducible refine (unhide CD w2 a n cap k2).mono ?_; rintro e w3 ⟨n3, rfl, k3⟩))
  go_ret
  exact ⟨a, n3, cap, rfl, k3⟩
theorem channels_any (G : List UInt8 → List UInt8 → Bool) (hG : GlobIs G) (w : World) (p b : Nat) (D : Dt) (S : List Key) (P : List UInt8) (h : PostAt w p b D S) (hS : S.length ≤ 1099511627776) (hl : ∀ k ∈ S, k.2.1.length ≤ 4096) (hP : P.length ≤ 1073741824) :
    Calls Try.prog 21 #[.pointer (some ⟨p, 0, none⟩), .string (bs P)] w (SEnd w (chanL G S P)) := by
  obtain ⟨c, w1, r1, k1⟩ := conv_txt w P
  have hk := unhide k1
  have HC := hide (cap_new w P c w1 hk)
  have b2 : Below w.heap.size w (w1.alloc (.cells #[.slice (some ⟨w.heap.size, 0, none⟩) P.length c] 23)) := hk.2.1.alloc hk.2.1.size _
  have hs2 : (w1.alloc (.cells #[.slice (some ⟨w.heap.size, 0, none⟩) P.length c] 23)).heap.size = w.heap.size + 2 := by simp; omega
  have CU := hide (unlike_any _ p b D S false (h.below b2) hS (fun k hk => Nat.le_trans (hl k hk) (by decide)))
  unfold SEnd at CU
  have CD : Hid (∀ W a n cap, Hid (OwnS W (w1.alloc (.cells #[.slice (some ⟨w.heap.size, 0, none⟩) P.length c] 23)).heap.size (.slice a n cap) (unlikeL S false) ∧ Below (w1.alloc (.cells #[.slice (some ⟨w.heap.size, 0, none⟩) P.length c] 23)).heap.size (w1.alloc (.cells #[.slice (some ⟨w.heap.size, 0, none⟩) P.length c] 23)) W ∧ n = (unlikeL S false).length) → Calls Try.prog 36 #[.slice a n cap, .func (.func 38) #[] #[.pointer (some ⟨w1.heap.size, 0, none⟩)]] W fun e w' => ∃ n', e = .returned (.slice a n' cap) ∧ Hid (OwnS w' w.heap.size (.slice a n' cap) (chanL G S P) ∧ Below w.heap.size w w' ∧ n' = (chanL G S P).length)) := hide (fun W a n cap hW => by
    obtain ⟨q1, q2, q3⟩ := unhide hW
    rw [hs2] at q1 q2
    have hl2 := textsL_len S (fun k => k.2.2 == false)
    have hsz : w.heap.size + 2 ≤ W.heap.size := by have := q2.size; omega
    refine (delete_own W (w.heap.size + 2) 38 _ a n cap (unlikeL S false) (fun T => !G P T) q1 q3 (by unfold unlikeL; omega) hsz eg38 (pred38 G hG W (w.heap.size + 2) w1.heap.size w.heap.size c P _ hP (fun T hT => ?_) ((unhide HC).below q2 hsz))).mono ?_
    · obtain ⟨k, hk, _, rfl⟩ := textsL_sub hT
      exact Nat.le_trans (hl k hk) (by decide)
    · rintro e w' ⟨n', rfl, k⟩
      rw [not_not_filter] at k
      exact ⟨n', rfl, hide ⟨(unhide k).1.mono (by omega), (b2.trans (q2.mono (by omega))).trans ((unhide k).2.1.mono (by omega)), (unhide k).2.2⟩⟩)
  clear h hk HC b2 hs2 k1 hl
  go_enter Try.func21, Try.ntmps21
  go_wp2_with (first
    | (go_at_call 37; with_reducible refine (unhide CU).mono ?_; rintro e w2 ⟨a, n, cap, rfl, k2⟩)
    | (go_at_call 36; with_reducible refine (unhide CD w2 a n cap k2).mono ?_; rintro e w3 ⟨n3, rfl, k3⟩))
  go_ret
  exact ⟨a, n3, cap, rfl, k3⟩
end Go.Proofs.Ytjmnddcombepaaa
namespace Go.Proofs.Ytjmnddcombepaaa
open Go.ChangeShapes Go.WideShapes Go.ChangeAt Go.RowKit Go.Maps Go.Sort
set_option linter.unusedVariables false
set_option linter.unusedSimpArgs false
set_option maxRecDepth 100000
set_option maxHeartbeats 4000000

/-- a Hit: the connection, whether by a pattern, the name -/
abbrev Hit := Int × Bool × List UInt8
def hitC (h : Hit) : List Value := [.int .i64 h.1, .bool h.2.1, .string (bs h.2.2)]
def OwnH (w : World) (base : Nat) (v : Value) (l : List Hit) : Prop := w.ownsRow base 45 3 v l.length (l.flatMap hitC)
theorem OwnH.nil (w : World) (base : Nat) : OwnH w base (.slice none 0 0) [] := World.ownsRow_nil w base 45 3
theorem OwnH.ge {w : World} {base : Nat} {v : Value} {l : List Hit} (h : OwnH w base v l) : ∀ g, v.ownBlock = some g → base ≤ g ∧ g < w.heap.size := fun g hg => World.ownsRow.lt h g hg
theorem OwnH.below {w w' : World} {base : Nat} {v : Value} {l : List Hit} (h : OwnH w base v l) (hb : Below w.heap.size w w') : OwnH w' base v l := by
  cases hv : v.ownBlock with
  | none => exact World.ownsRow.kept h (grown_of hb) (.inl hv)
  | some g => exact World.ownsRow.kept h (grown_of hb) (.inr (by simp [hv]))
theorem OwnH.apart {w : World} {base base' : Nat} {v u : Value} {l : List Hit} {m : List (List UInt8)} (h : OwnH w base v l) (h' : OwnS w base' u m) : ∀ g, u.ownBlock = some g → v.ownBlock ≠ some g := by
  intro g h1 h2
  rcases h.2 with ⟨rfl, _⟩ | ⟨g1, cap, cur, rfl, _, hb, _⟩
  · simp [Value.ownBlock] at h2
  · rcases h'.2 with ⟨rfl, _⟩ | ⟨g2, cap2, cur2, rfl, _, hb2, _⟩
    · simp [Value.ownBlock] at h1
    · simp [Value.ownBlock] at h1 h2
      subst h1
      subst h2
      rw [hb] at hb2
      simp at hb2
theorem info45 : (Try.prog.info? 45).map (fun i => (i.zero, i.size, i.bytes)) = some (some (.agg #[.int .i64 0, .bool false, .string ⟨#[]⟩]), 3, 32) := by kernel_rfl
theorem cell_three_new (w : World) (a b c : Value) (t : TypeId) : ∀ j u, [a, b, c][j]? = some u → (w.alloc (.cells #[a, b, c] t)).cell? ((⟨w.heap.size, 0, none⟩ : Addr).add j) = some u := by
  intro j u hj
  have h := heap_alloc_new w (.cells #[a, b, c] t)
  match j, hj with
  | 0, hj => rw [show ((⟨w.heap.size, 0, none⟩ : Addr).add 0) = ⟨w.heap.size, 0, none⟩ from by simp [Addr.add], cell_blk h]; simpa using hj
  | 1, hj => rw [show ((⟨w.heap.size, 0, none⟩ : Addr).add 1) = ⟨w.heap.size, 1, none⟩ from by simp [Addr.add], cell_blk h]; simpa using hj
  | 2, hj => rw [show ((⟨w.heap.size, 0, none⟩ : Addr).add 2) = ⟨w.heap.size, 2, none⟩ from by simp [Addr.add], cell_blk h]; simpa using hj
  | j + 3, hj => simp at hj
/-- by which patterns a connection hears -/
def hearP (S : List Key) (c : Int) (M : List (List UInt8)) : List Hit := (M.filter (fun P => decide ((c, P, true) ∈ S))).map (fun P => (c, true, P))
/-- whether by the channel itself -/
def hearT (S : List Key) (T : List UInt8) (c : Int) : List Hit := if (c, T, false) ∈ S then [(c, false, T)] else []
/-- all that the first n connections hear -/
def hearN (S : List Key) (T : List UInt8) (M : List (List UInt8)) : Nat → List Hit
  | 0 => []
  | n + 1 => hearN S T M n ++ (hearT S T n ++ hearP S n M)
theorem hearP_snoc (S : List Key) (c : Int) (M : List (List UInt8)) (P : List UInt8) : hearP S c (M ++ [P]) = hearP S c M ++ (if (c, P, true) ∈ S then [(c, true, P)] else []) := by
  unfold hearP
  rw [List.filter_append, List.map_append]
  by_cases h : (c, P, true) ∈ S <;> simp [h]
theorem hearP_len (S : List Key) (c : Int) (M : List (List UInt8)) : (hearP S c M).length ≤ M.length := by
  unfold hearP
  rw [List.length_map]
  exact List.length_filter_le _ _
theorem hearT_len (S : List Key) (T : List UInt8) (c : Int) : (hearT S T c).length ≤ 1 := by
  unfold hearT
  split <;> simp
theorem hearN_len (S : List Key) (T : List UInt8) (M : List (List UInt8)) : ∀ n, (hearN S T M n).length ≤ n * (M.length + 1)
  | 0 => by simp [hearN]
  | n + 1 => by
    have h1 := hearN_len S T M n
    have h2 := hearT_len S T n
    have h3 := hearP_len S n M
    simp only [hearN, List.length_append]
    rw [Nat.succ_mul]
    omega
/-- Heard's loops -/
structure HeAt (w wr : World) (pv : Value) (M : List (List UInt8)) (v : Value) (l : List Hit) : Prop where
  bel : Below w.heap.size w wr
  pats : OwnS wr w.heap.size pv M
  hits : OwnH wr w.heap.size v l
theorem HeAt.below {w wr w' : World} {pv v : Value} {M : List (List UInt8)} {l : List Hit} (h : HeAt w wr pv M v l) (hb : Below wr.heap.size wr w') : HeAt w w' pv M v l :=
  ⟨h.bel.trans (hb.mono h.bel.size), h.pats.below hb, h.hits.below hb⟩
theorem HeAt.push {w wr w' : World} {pv v v' : Value} {M : List (List UInt8)} {l : List Hit} {x : Hit} {o : Obj} (h : HeAt w wr pv M v l) (hg : (wr.alloc o).grownBy w' v.ownBlock) (ho : w'.ownsRow w.heap.size 45 3 v' (l.length + 1) (l.flatMap hitC ++ hitC x)) : HeAt w w' pv M v' (l ++ [x]) := by
  have ha := h.below ((Below.refl _ _).alloc (Nat.le_refl _) o)
  refine ⟨ha.bel.grown hg ha.bel.size (fun k hk => (ha.hits.ge k hk).1), ha.pats.kept hg (fun g hg' => ha.hits.apart ha.pats g hg'), ?_⟩
  unfold OwnH
  simpa [List.flatMap_append] using ho
end Go.Proofs.Ytjmnddcombepaaa
