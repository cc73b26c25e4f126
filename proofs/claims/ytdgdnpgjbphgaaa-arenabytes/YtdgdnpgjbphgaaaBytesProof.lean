/- ArenaBytes holds. -/
import Derived.Test.YtdgdnpgjbphgaaaBytesLaw
import Derived.Test.YtdgdnpgjbphgaaaOpen
namespace Go.Proofs.Ytdgdnpgjbphgaaa
open Go.ChangeShapes Go.WideShapes Go.ChangeAt Go.RowKit Go.Joins Go.Deep
set_option linter.unusedVariables false

theorem u8_wf {x : Int} (h : (Lit.int .u8 x).wf = true) : 0 ≤ x ∧ x < 256 := by
  have := bounds_u8 h
  omega
theorem Try.bytes5 : Try.prog.bytesOf 5 = 1 := by kernel_rfl
theorem Try.bytes55 : Try.prog.bytesOf 55 = 32 := by kernel_rfl
theorem weights_all {H : Type} {P : Program} {e : TypeId} {d : DataW H} {m : Nat} : ∀ {l : List (DataW H)}, d ∈ l → m ∈ DataW.weights P e d → m ∈ DataW.weightsAll P e l
  | x :: l, hd, hm => by
    simp only [DataW.weightsAll, List.mem_append]
    rcases List.mem_cons.1 hd with rfl | h
    · exact .inl hm
    · exact .inr (weights_all h hm)
/-- a list of bytes, opened -/
theorem open_bytes {H : Type} {enc : TypeId × Value → H} {W : World} {n : Nat} {v : Value} {y : DataW H × List MemPlace}
    (hf : DataW.trod enc Try.prog W 0 (fun _ => true) true n 53 [v] = some y) (hb : ∀ m, m ∈ DataW.weights Try.prog 53 y.1 → m ≤ 140737488351232) :
    ∃ a cap l, v = .slice a l.length cap ∧ Bytes W a l ∧ Small l ∧ l.length ≤ cap ∧ cap ≤ 9223372036854775807 ∧ l.length ≤ 140737488355328 := by
  rcases open_ints Try.underlying53 Try.underlying5 (by kernel_rfl) hf with ⟨hcs, _⟩ | ⟨x, len, cap, zs, hcs, _, hl, hm, hz, hy, hcell, hwz⟩
  · cases hcs
    exact ⟨none, 0, [], rfl, .inl rfl, (fun i hi => by simp at hi), by simp, by decide, by simp⟩
  · cases hcs
    simp only [if_true] at hz
    have hlz : len ≤ zs.length := by omega
    have hlen : ((zs.take len).map Int.toNat).length = len := by simp; omega
    have hget : ∀ i, i < len → ((((zs.take len).map Int.toNat).getD i 0 : Nat) : Int) = zs.getD i 0 ∧ ((zs.take len).map Int.toNat).getD i 0 < 256 := by
      intro i hi
      have hiz : i < zs.length := by omega
      have hb := u8_wf (hwz (zs[i]) (List.getElem_mem hiz))
      have e1 : ((zs.take len).map Int.toNat).getD i 0 = (zs[i]).toNat := by
        rw [List.getD_eq_getElem?_getD, List.getElem?_map, List.getElem?_take, if_pos hi, List.getElem?_eq_getElem hiz]; rfl
      have e2 : zs.getD i 0 = zs[i] := by rw [List.getD_eq_getElem?_getD, List.getElem?_eq_getElem hiz]; rfl
      rw [e1, e2]
      omega
    refine ⟨some x, cap, (zs.take len).map Int.toNat, by rw [hlen], ?_, ?_, by omega, by unfold maxLen at hm; omega, ?_⟩
    · by_cases h0 : len = 0
      · left; subst h0; simp
      · right
        obtain ⟨b, off, spot⟩ := x
        have hc := hcell 0 (by omega)
        have hspot : spot = none := by simpa [Addr.add] using World.cell?_spot hc
        subst hspot
        refine ⟨b, off, rfl, ?_, ?_⟩
        · have := block_lt_of_cell hc
          simpa [add_plain] using this
        · intro i hi
          rw [hlen] at hi
          have := hcell i (by omega)
          rw [add_plain] at this
          rw [this, (hget i hi).1]
    · intro i hi
      rw [hlen] at hi
      exact (hget i hi).2
    · have h1 := hb (((lits .u8 (zs.take len) : List (DataW H)).length + (lits .u8 (zs.drop len) : List (DataW H)).length) * Try.prog.bytesOf 5) (by rw [hy]; simp [DataW.weights, Try.underlying53])
      rw [Try.bytes5] at h1
      have h2 : (lits .u8 (zs.take len) : List (DataW H)).length = len := by simp [lits]; omega
      omega
theorem open_list2 {H : Type} {enc : TypeId × Value → H} {P : Program} {w : World} {base : Nat} {spare : Nat → Bool} {held : Bool} {fuel : Nat} {t : TypeId} {f0 f1 : Go.Field} {cs : List Value} {y : DataW H × List MemPlace} (hs : P.underlying t = some (.struct #[f0, f1])) (hone : oneCellFields P #[f0, f1] = true) (hl : cs.length = 2)
    (h : DataW.trod enc P w base spare held fuel t cs = some y) :
    ∃ (c0 c1 : Value) (y0 y1 : DataW H × List MemPlace) (q : Nat), cs = [c0, c1] ∧ y.1 = .agg [y0.1, y1.1] ∧ DataW.trod enc P w base spare held q f0.type [c0] = some y0 ∧ DataW.trod enc P w base spare held q f1.type [c1] = some y1 := by
  match cs, hl with
  | [c0, c1], _ =>
    obtain ⟨xs, q, _, hx, _, hlen, hf⟩ := DataW.trod_struct hs h
    obtain ⟨o0, k0⟩ := hone_of hone 0 f0 rfl
    obtain ⟨o1, k1⟩ := hone_of hone 1 f1 rfl
    match xs, hlen with
    | [y0, y1], _ => exact ⟨c0, c1, y0, y1, q, rfl, by rw [hx]; rfl, by simpa [o0, k0] using hf 0 f0 rfl, by simpa [o1, k1] using hf 1 f1 rfl⟩
/-- the pieces, opened -/
theorem open_pieces {H : Type} {enc : TypeId × Value → H} {W : World} {fuel : Nat} {v : Value} {y : DataW H × List MemPlace}
    (hf : DataW.trod enc Try.prog W 0 (fun _ => true) true fuel 50 [v] = some y) (hb : ∀ m, m ∈ DataW.weights Try.prog 50 y.1 → m ≤ 140737488351232) :
    ∃ a n cap, v = .slice a n cap ∧ Pieces W a n ∧ n ≤ 140737488355328 := by
  rcases open_slice Try.underlying50 hf with ⟨hcs, _⟩ | ⟨a, len, cap, m, q, D, Pl, hcs, _, hlc, _, hm, hy, heach⟩
  · cases hcs
    exact ⟨_, 0, 0, rfl, .inl rfl, by decide⟩
  · cases hcs
    simp only [if_true] at hm
    have hlen : len ≤ 140737488355328 := by
      have h1 := hb ((((List.range len).map D).length + ((List.range (m - len)).map fun j => D (len + j)).length) * Try.prog.bytesOf 55) (by rw [hy]; simp [DataW.weights, Try.underlying50])
      rw [Try.bytes55, List.length_map, List.length_range] at h1
      omega
    refine ⟨_, len, cap, rfl, ?_, hlen⟩
    by_cases h0 : len = 0
    · exact .inl h0
    · right
      rw [show Try.prog.cellsOf 55 = 2 from by kernel_rfl] at heach
      obtain ⟨b, off, spot⟩ := a
      have hplace : spot = none ∧ b < W.heap.size := by
        obtain ⟨cs', hc, _⟩ := heach 0 (by omega)
        obtain ⟨hl, he⟩ := cells_each hc
        have h00 := he 0 (by omega)
        rw [List.getElem?_eq_getElem (by omega : 0 < cs'.length)] at h00
        have e00 : ((⟨b, off, spot⟩ : Addr).add (0 * 2)).add 0 = ⟨b, off, spot⟩ := by simp [Addr.add]
        rw [e00] at h00
        exact ⟨World.cell?_spot h00, block_lt_of_cell h00⟩
      obtain ⟨rfl, hbl⟩ := hplace
      refine ⟨b, off, rfl, hbl, fun k hk => ?_⟩
      obtain ⟨cs', hc, ht⟩ := heach k (by omega)
      obtain ⟨hl, he⟩ := cells_each hc
      obtain ⟨c0, c1, y0, y1, q', rfl, hy2, h0', h1'⟩ := open_list2 Try.underlying55 (by kernel_rfl) hl ht
      obtain ⟨A, e0, _, w0⟩ := DataW.trod_int Try.underlying3 h0'
      cases e0
      have hup : ∀ m, m ∈ DataW.weights Try.prog 53 y1.1 → m ≤ 140737488351232 := fun m hm => hb m (by
        rw [hy]
        simp only [DataW.weights, Try.underlying50]
        refine List.mem_cons_of_mem _ (List.mem_append_left _ (weights_all (List.mem_map.2 ⟨k, List.mem_range.2 hk, rfl⟩) ?_))
        have hy3 : D k = .agg [y0.1, y1.1] := hy2
        rw [hy3]
        simp only [DataW.weights, Try.underlying55]
        exact DataW.weights_mem_each (j := 1) (t := 53) (d := y1.1) rfl rfl _ hm)
      obtain ⟨a, cp, l, rfl, hB, hs, h2, h3, h4⟩ := open_bytes h1' hup
      have hj : ∀ j, j < 2 → W.cell? ⟨b, off + k * 2 + j, none⟩ = ([.int .i64 A, .slice a l.length cp] : List Value)[j]? := fun j hj => by
        have := he j hj
        rw [add_plain, add_plain] at this
        exact this
      exact ⟨A, l, a, cp, hj 0 (by omega), hj 1 (by omega), hB, hs, h2, h3, h4⟩
end Go.Proofs.Ytdgdnpgjbphgaaa
namespace Go.Proofs.Ytdgdnpgjbphgaaa.ArenaBytes
open Go.ChangeShapes Go.WideShapes Go.ChangeAt Go.RowKit Go.Joins Go.Deep
set_option linter.unusedVariables false
set_option maxRecDepth 100000

theorem lifted (os : Os) (started : os.Started) (H : Type) (enc : TypeId × Value → H) :
    ReturnsInHanded {} Try.checked os 5 .any (Rows.arenaBytesSpec.pre6 enc Try.prog Try.f5 Rows.arenaBytesRow.domain false) (Rows.arenaBytesSpec.post enc Try.prog Try.f5 false true false false) := by
  refine returnsInHanded_of_change_sized (C := Try.checked) own started (by kernel_rfl) Try.func5
    (ChangeSpec.witness6 (enc := enc) (C := Try.checked) false ⟨#[], #[.agg #[.int .i64 0, .int .i64 0, .slice none 0 0, .int .i64 0]], []⟩ 8 (by kernel_rfl) (by kernel_rfl) (by kernel_rfl) (by kernel_rfl)) ?_
  intro W base args ds gs before hval0 hW hcnd hsz0 _
  have hval : ∀ (j : Nat) t v, Try.f5.params[j]? = some t → args[j]? = some v → Value.okWide Try.prog W .any base t v := hval0
  have hsz : (DataW.weightsEach Try.prog (Try.f5.params.toList ++ Rows.arenaBytesSpec.plain.varTypes Try.prog) (ds ++ gs)).all (· ≤ reachBytes) = true := hsz0
  have hW' := hW
  obtain ⟨p, q, hA0, hV, rfl, hfz, hnd⟩ := hW
  have hA : DataW.TrodAll enc Try.prog W 0 (fun _ => true) true Try.f5.params.toList args.toList ds p := hA0
  rw [Try.params5] at hA hval hsz
  obtain ⟨v0, vs0, d0, ds0, p0, q0, hargs, rfl, rfl, h0, r0⟩ := trodAll_cons hA
  obtain ⟨rfl, rfl, rfl⟩ := trodAll_nil r0
  obtain rfl : args = #[v0] := by cases args; simp_all
  obtain ⟨rfl, rfl⟩ := trodVars_none hV
  have k0 := h0
  have lt0 : ∀ x ∈ p0, x.block < W.heap.size := by obtain ⟨m, hm⟩ := k0; exact DataW.trod_lt m _ _ _ hm
  obtain ⟨c0, c1, c2, c3, y0, y1, y2, y3, m, rfl, hd, _, hy0, hy1, hy2, hy3⟩ := open_agg4 Try.underlying52 (by kernel_rfl) (by kernel_rfl) (hval 0 52 v0 rfl rfl) h0
  subst hd
  obtain ⟨R, e0, _, _⟩ := DataW.trod_int Try.underlying3 hy0
  obtain ⟨S, e1, _, _⟩ := DataW.trod_int Try.underlying3 hy1
  obtain ⟨C, e3, _, _⟩ := DataW.trod_int Try.underlying3 hy3
  cases e0
  cases e1
  cases e3
  obtain ⟨aP, n, cP, rfl, hP, hn⟩ := open_pieces hy2 (fun m hm => held_sized hsz (by simp only [DataW.weights, Try.underlying52]; exact DataW.weights_mem_each (j := 2) (t := 50) (d := y2.1) rfl rfl _ hm))
  clear hA0 hval0 hsz0
  refine (bytes_law R S C aP n cP W hP hn).mono fun e W' ⟨he, bel⟩ => ?_
  subst he
  exact ⟨_, rfl, _, _, _, [], _, [], hW', trodAll_mk1 (shut_bool Try.underlying4 _), (trodAll_cons_mk (Below.trod laidOut (by kernel_rfl) (of_decide_eq_true (by kernel_rfl)) k0 bel lt0) trodAll_mk0), rfl, bel.frame _, fun h => by cases h⟩

theorem over : Rows.arenaBytesRow.holds Try.pinned (OpenSpec.ofChange Rows.arenaBytesSpec) :=
  OpenClaim.holds_of_wide 5 Try.f5 rfl rfl rfl rfl rfl rfl rfl ⟨rfl, rfl, rfl, rfl, rfl⟩ rfl rfl rfl rfl rfl (by kernel_rfl) Try.func5 (by kernel_rfl)
    (of_decide_eq_true (by kernel_rfl)) (by unfold Func.isWrapper; first | (rw [if_pos (by decide +kernel)]; kernel_rfl) | (rw [if_neg (by decide +kernel)]; exact ⟨rfl, rfl⟩))
    (fun os started H enc _ => lifted os started H enc)
end Go.Proofs.Ytdgdnpgjbphgaaa.ArenaBytes
namespace Go.Proofs.Ytdgdnpgjbphgaaa
theorem arenaBytes_holds : Rows.ArenaBytesSaid := ArenaBytes.over
end Go.Proofs.Ytdgdnpgjbphgaaa
