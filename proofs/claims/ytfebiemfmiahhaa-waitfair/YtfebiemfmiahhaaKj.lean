/- Next. -/
import Derived.Test.YtfebiemfmiahhaaKi
namespace Go.Proofs.Ytfebiemfmiahhaa
open Go.ChangeShapes Go.WideShapes Go.ChangeAt Go.RowKit Go.Maps Go.Sort
set_option linter.unusedVariables false
set_option linter.unusedSimpArgs false
set_option maxRecDepth 100000
set_option maxHeartbeats 8000000
theorem lookE_of {E : List En} (hn : (E.map (·.x.conn)).Nodup) {e : En} (he : e ∈ E) : lookE E (e.x.conn : Nat) = some e := by
  cases h : lookE E (e.x.conn : Nat) with
  | none => exact absurd rfl (lookE_none h e he)
  | some e' =>
    obtain ⟨h1, h2⟩ := lookE_mem h
    rw [inj_of_nodup hn h1 he (by omega)]
/-- who comes next -/
def nextE (E : List En) (x : Pl) (k : Int) : Option En := (E.filter (fun e => decide (x ∈ e.x.places))).find? (fun e => decide (e.x.kind = k))
theorem next_any (O : Nat → Prop) (w : World) (p bw bl T : Nat) (E : List En) (x : Pl) (k : Int) (h : WAt O w p bw bl T E) (hx : POk x) :
    Calls Try.prog 22 #[.pointer (some ⟨p, 0, none⟩), .agg #[.int .i64 x.1, .string (bs x.2)], .int .i64 k] w fun e w' => e = .returned (.tuple #[.int .i64 (((nextE E x k).map (·.x.conn)).getD 0 : Nat), .bool (nextE E x k).isSome]) ∧ Hid (Below w.heap.size w w') := by
  obtain ⟨w0, hw0⟩ : ∃ w0, w.alloc (.cells #[.int .i64 x.1, .string (bs x.2)] 40) = w0 := ⟨_, rfl⟩
  have hb0 : Below w.heap.size w w0 := by rw [← hw0]; exact (Below.refl _ _).alloc (Nat.le_refl _) _
  have hbd : Below w.heap.size w w0.drew := hb0.drew
  have hd := h.below hbd
  obtain ⟨-, c1, c2⟩ := hd.c0
  have c2' : w0.cell? ⟨p, 2, none⟩ = some (.map (some bl)) := c2
  have b0 : w0.cell? ⟨w.heap.size, 0, none⟩ = some (.int .i64 x.1) := by rw [← hw0]; exact cell_blk (heap_alloc_new _ _) 0
  have b1 : w0.cell? ⟨w.heap.size, 1, none⟩ = some (.string (bs x.2)) := by rw [← hw0]; exact cell_blk (heap_alloc_new _ _) 1
  obtain ⟨F, hF⟩ : ∃ F, E.filter (fun e => decide (x ∈ e.x.places)) = F := ⟨_, rfl⟩
  have hcn : conns E x = F.map (·.x.conn) := by unfold conns; rw [hF]
  have hFE : ∀ e ∈ F, e ∈ E := fun e he => by rw [← hF] at he; exact (List.mem_filter.1 he).1
  have hF8 : F.length ≤ 8 := by rw [← hF]; exact Nat.le_trans (List.length_filter_le _ _) (few8 h.nd h.ok)
  have hlook : ∀ e ∈ F, (Instr.lookup 61 (.map (some bw)) (.int .i64 (e.x.conn : Nat)) false).run Try.prog w0.drew = .ok (enV e) w0.drew := fun e he => by
    have hr := hd.mw.look (t := 61) (e := 68) Try.underlying61 (zero68 _) (x := ((e.x.conn : Nat) : Int)) (WalkArith.wf_i64 (by have := (h.ok e (hFE e he)).conn; omega))
    rw [lookE_of h.nd (hFE e he)] at hr
    exact hr
  have HB := hide hbd
  unfold nextE
  rw [hF]
  rcases hd.ln.look hx with ⟨hL, hr⟩ | ⟨hL, v, g, hr, -, hgl, hln, -⟩
  · rw [hcn] at hL
    obtain rfl : F = [] := by simpa using hL
    clear h hb0 hbd hd hlook hcn hFE hF hL c2
    go_enter Try.func22, Try.ntmps22
    go_wp2_with fail
    go_region
    go_wp2_with fail
    go_loopw [17] (fun iv wr => iv = .int .i64 0 ∧ Hid (wr = w0.drew)) (fun iv _ => 0)
    case atStart => exact ⟨rfl, hide rfl⟩
    case round =>
      obtain ⟨rfl, hwr⟩ := hrel
      obtain rfl := (unhide hwr).symm
      go_wp2_with fail
      go_ret2
      exact ⟨rfl, HB⟩
  · rw [hcn] at hln
    obtain ⟨cap, cur, rfl, hcur, hle, -, -, hcells⟩ := hln.ex
    rw [List.length_map] at hr
    have hcl : ∀ i e, F[i]? = some e → w0.drew.cell? ⟨g, i, none⟩ = some (.int .i64 (e.x.conn : Nat)) := fun i e he => by
      rw [cell_blk hcur]
      exact hcells i _ (by rw [List.getElem?_map, he]; rfl)
    obtain ⟨n, hn⟩ : ∃ n, n = F.length := ⟨_, rfl⟩
    rw [← hn] at hr hF8
    have HN := hide hn
    have HCL := hide hcl
    have HLK := hide hlook
    have hf := field2
    clear h hb0 hbd hd hcn hFE hF hL c2 hln hcur hle hcells hn hcl hlook hgl
    go_enter Try.func22, Try.ntmps22
    go_wp2_with fail
    go_region
    go_wp2_with fail
    go_loopw [17] (fun iv wr => ∃ i : Nat, iv = .int .i64 ((i : Nat) : Int) ∧ i ≤ n ∧ Hid (wr = w0.drew ∧ ∀ e ∈ F.take i, e.x.kind ≠ k)) (fun iv _ => n - (intOf iv).toNat)
    case atStart => exact ⟨0, rfl, Nat.zero_le _, hide ⟨rfl, by simp⟩⟩
    case round =>
      obtain ⟨i, rfl, hi, HC⟩ := hrel
      obtain ⟨hwr, hno⟩ := unhide HC
      obtain rfl := hwr.symm
      have HNO := hide hno
      clear hno HC
      by_cases hin : i < n
      · have f1 : decide ((i : Int) < (n : Int)) = true := decide_eq_true (by omega)
        have g1 : (0 : Int) ≤ (i : Int) := by omega
        have g2 : (i : Int) < (n : Int) := by omega
        obtain ⟨e, he⟩ : ∃ e, F[i]? = some e := ⟨_, List.getElem?_eq_getElem (by have := unhide HN; omega)⟩
        have d0 := unhide HCL i e he
        have d0' : w0.cell? ⟨g, i, none⟩ = some (.int .i64 (e.x.conn : Nat)) := d0
        have r1 := unhide HLK e (List.mem_of_getElem? he)
        unfold enV at r1
        have HE := hide he
        clear he
        by_cases hk : e.x.kind = k
        · have HFI : Hid (F.find? (fun e => decide (e.x.kind = k)) = some e) := hide (by
            rw [List.find?_eq_some_iff_append]
            refine ⟨by simp [hk], F.take i, F.drop (i + 1), ?_, fun a ha => by simpa using unhide HNO a ha⟩
            obtain ⟨h1, h2⟩ := List.getElem?_eq_some_iff.1 (unhide HE)
            rw [← h2, ← List.drop_eq_getElem_cons h1, List.take_append_drop])
          have f2 : (e.x.kind == k) = true := by simp [hk]
          have f3 : decide (e.x.kind = k) = true := decide_eq_true hk
          clear hk
          go_wp2_with fail
          go_ret2
          exact ⟨by rw [unhide HFI]; rfl, HB⟩
        · have f2 : (e.x.kind == k) = false := by simp [hk]
          have f3 : decide (e.x.kind = k) = false := decide_eq_false hk
          have HN2 : Hid (∀ a ∈ F.take (i + 1), a.x.kind ≠ k) := hide (fun a ha => by
            rw [List.take_add_one, unhide HE] at ha
            rcases List.mem_append.1 ha with ha | ha
            · exact unhide HNO a ha
            · simp at ha
              rw [ha]
              exact hk)
          clear hk
          go_wp2_with fail
          all_goals go_roundw
          case rel => exact ⟨i + 1, by go_num, by omega, hide ⟨trivial, unhide HN2⟩⟩
          case measure => simp [intOf]; omega
      · obtain rfl : i = n := by omega
        have f1 : decide ((i : Int) < (i : Int)) = false := decide_eq_false (by omega)
        have HFI : Hid (F.find? (fun e => decide (e.x.kind = k)) = none) := hide (by
          rw [List.find?_eq_none]
          intro a ha
          have h1 := unhide HNO
          rw [List.take_of_length_le (by have := unhide HN; omega)] at h1
          simpa using h1 a ha)
        go_wp2_with fail
        go_ret2
        exact ⟨by rw [unhide HFI]; rfl, HB⟩
end Go.Proofs.Ytfebiemfmiahhaa
