/- Block. -/
import Derived.Test.YtfebiemfmiahhabKf
import Derived.Deep.RegionLaw
namespace Go.Proofs.Ytfebiemfmiahhab
open Go.ChangeShapes Go.WideShapes Go.ChangeAt Go.RowKit Go.Maps
set_option linter.unusedVariables false
set_option linter.unusedSimpArgs false
set_option maxRecDepth 100000
set_option maxHeartbeats 8000000
theorem refR_ok {E : List En} {c k : Int} {l : List Pl} {t : Nat} (h : refR E c k l t = 0) : ∃ cn : Nat, c = (cn : Nat) ∧ lookE E (cn : Nat) = none ∧ WOk ⟨cn, k, l, t⟩ := by
  unfold refR at h
  by_cases h1 : c < 0 ∨ 8 ≤ c
  · rw [if_pos h1] at h; cases h
  rw [if_neg h1] at h
  cases h2 : lookE E c with
  | some e => rw [h2] at h; simp at h
  | none =>
    rw [h2, if_neg (by simp)] at h
    by_cases h3 : k ≠ 2 ∧ k ≠ 5
    · rw [if_pos h3] at h; cases h
    rw [if_neg h3] at h
    by_cases h4 : l.length = 0 ∨ 64 < l.length ∨ l.any wrongB = true
    · rw [if_pos h4] at h; cases h
    rw [if_neg h4] at h
    by_cases h5 : 4503599627370496 < t
    · rw [if_pos h5] at h; cases h
    obtain ⟨cn, hcn⟩ : ∃ cn : Nat, c = (cn : Nat) := ⟨c.toNat, by omega⟩
    refine ⟨cn, hcn, by rw [← hcn]; exact h2, ⟨by show cn < 8; omega, by show k = 2 ∨ k = 5; omega, ⟨by show 1 ≤ l.length; omega, by show l.length ≤ 64; omega⟩, fun p hp => ?_, by show t ≤ _; omega⟩⟩
    refine (wrongB_iff p).1 ?_
    cases hw : wrongB p with
    | false => rfl
    | true => exact absurd (List.any_eq_true.2 ⟨p, hp, hw⟩) (fun h => h4 (.inr (.inr h)))
/-- the lines while the new one is being put into them -/
def Li (E : List En) (l : List Pl) (c i : Nat) : Pl → List Nat := fun q => conns E q ++ (if q ∈ l.take i then [c] else [])
theorem Li_zero (E : List En) (l : List Pl) (c : Nat) (q : Pl) : Li E l c 0 q = conns E q := by simp [Li]
theorem Li_old (E : List En) (l : List Pl) (c i : Nat) (x : Pl) (hx : l[i]? = some x) (hm : x ∈ l.take i) (q : Pl) : Li E l c (i + 1) q = Li E l c i q := by
  unfold Li
  rw [List.take_add_one, hx]
  by_cases e : q = x
  · subst e
    rw [if_pos (by simp), if_pos hm]
  · have : (q ∈ l.take i ++ (some x).toList) ↔ q ∈ l.take i := by simp [e]
    simp only [this]
theorem Li_new (E : List En) (l : List Pl) (c i : Nat) (x : Pl) (hx : l[i]? = some x) (hm : x ∉ l.take i) (q : Pl) : Li E l c (i + 1) q = updL (Li E l c i) x (Li E l c i x ++ [c]) q := by
  unfold Li updL
  rw [List.take_add_one, hx]
  by_cases e : q = x
  · subst e
    rw [if_pos rfl, if_pos (by simp), if_neg hm, List.append_nil]
  · have : (q ∈ l.take i ++ (some x).toList) ↔ q ∈ l.take i := by simp [e]
    simp only [this, if_neg e]
theorem Li_all (E : List En) (x : Wt) (T g : Nat) (q : Pl) (n : Nat) (hn : x.places.length ≤ n) : conns (E ++ [⟨x, T, g⟩]) q = Li E x.places x.conn n q := by
  unfold Li conns
  rw [List.take_of_length_le hn, List.filter_append, List.map_append]
  congr 1
  by_cases e : q ∈ x.places
  · simp [e]
  · simp [e]
theorem Li_len (E : List En) (l : List Pl) (c i : Nat) (q : Pl) (hE : E.length ≤ 8) : (Li E l c i q).length ≤ 1000 := by
  unfold Li conns
  have : ((E.filter (fun e => decide (q ∈ e.x.places))).map (·.x.conn)).length ≤ 8 := by
    rw [List.length_map]
    exact Nat.le_trans (List.length_filter_le _ _) hE
  split <;> simp at * <;> omega
theorem nodup_len : ∀ (L S : List Nat), L.Nodup → (∀ x ∈ L, x ∈ S) → L.length ≤ S.length
  | [], S, _, _ => Nat.zero_le _
  | x :: L, S, hn, hs => by
    obtain ⟨h1, h2⟩ := List.nodup_cons.1 hn
    have hx := hs x (List.mem_cons_self ..)
    have := nodup_len L (S.erase x) h2 (fun y hy => (List.mem_erase_of_ne (fun e : y = x => h1 (e ▸ hy))).2 (hs y (List.mem_cons_of_mem _ hy)))
    rw [List.length_erase_of_mem hx] at this
    have h0 : 0 < S.length := List.length_pos_of_mem hx
    simp only [List.length_cons]
    omega
theorem few8 {E : List En} (hn : (E.map (·.x.conn)).Nodup) (ok : ∀ e ∈ E, WOk e.x) : E.length ≤ 8 := by
  have h1 : (E.map (·.x.conn)).length ≤ (List.range 8).length := by
    refine nodup_len _ _ hn (fun c hc => ?_)
    obtain ⟨e, he, rfl⟩ := List.mem_map.1 hc
    exact List.mem_range.2 (ok e he).conn
  simpa using h1
/-- one more in line at a place -/
theorem WL.add {O : Nat → Prop} {w W : World} {p bw bl T n : Nat} {E : List En} {L : Pl → List Nat} (h : WL (ext O w W) W p bw bl T n E L) (hf : Fr O w W) {x : Pl} (hp : POk x) (hn : n < maxLen) (hlen : (L x).length ≤ 1000) (c : Nat) :
    ∃ v0 st w1, (Instr.mapEntry 64 (.map (some bl)) (.agg #[.int .i64 x.1, .string (bs x.2)])).run Try.prog W = .ok (.tuple #[v0, .int .i64 st]) w1 ∧ (KeptB bl W w1 ∧ w1.heap.size = W.heap.size) ∧
      ∀ w2 ad cc ty, Below w1.heap.size w1 w2 → w2.cell? ad = some (.int .i64 (c : Nat)) → ∃ v3 w3 w4, (Builtin.append_ #[51, 51] ty #[v0, .slice (some ad) 1 cc]).run Try.prog w2 = .ok v3 w3 ∧ (Instr.entryStore 64 (.map (some bl)) (.int .i64 st) v3).run Try.prog w3 = .ok () w4 ∧
        Hid (WL (ext O w w4) w4 p bw bl T (n + 1) E (updL L x (L x ++ [c])) ∧ Fr O w w4) := by
  obtain ⟨v0, st, w1, hr, hk, hc⟩ := h.ln.add hp hn hlen c h.lt h.ol
  refine ⟨v0, _, w1, hr, hk, fun w2 ad cc ty hb hcell => ?_⟩
  obtain ⟨v3, w3, w4, ha, hs, hl, hg, ho⟩ := hc w2 ad cc ty hb hcell
  exact ⟨v3, w3, w4, ha, hs, hide (h.line hf hl hg ho)⟩
theorem wp_appended {P : Program} {w : World} {o : Oper} {a : Act} {K : Act → World → Prop} {Q : Exit → Act → World → Prop} (s x : Operand) (t : TypeId) (ho : o.op = .call { callee := .builtin .append, args := #[s, x], argTypes := #[t, t] }) (v vx : Value) (hs : a.eval s = v) (hx : a.eval x = vx) (v' : Value) (w' : World) (hr : (Builtin.append_ #[t, t] o.type #[v, vx]).run P w = .ok v' w') (h : K (a.put o.dst v') w') : o.wp P a w K Q := by
  unfold Oper.wp execOp
  simp only [ho, resolve, invoke, builtin, Sem.run_bind, Sem.run_pure, Result.andThen_ok, List.map_toArray, List.map_cons, List.map_nil, hs, hx, hr]
  exact h
def lenOf : Value → Nat
  | .slice _ n _ => n
  | _ => 0
/-- an append whose outcome is known, as one step of a region that draws -/
theorem step_app_run {P : Program} {ops : Array Oper} {o : Oper} {a : Act} {w : World} {K : Act → World → Prop} {Q : Exit → Act → World → Prop} {X : Prop} (hg : o.guard = none) (s x : Operand) (t : TypeId) (ho : o.op = .call { callee := .builtin .append, args := #[s, x], argTypes := #[t, t] })
    (va vx : Value) (hs : a.eval s = va) (hx : a.eval x = vx) (v' : Value) (w' : World) (hr : (Builtin.append_ #[t, t] o.type #[va, vx]).run P w = .ok v' w') (h : K (a.put o.dst v') w') : if Region.wanted o (yielded ops a.tmps) = true then Oper.wp P o a w K Q else X := by
  have hw : Region.wanted o (yielded ops a.tmps) = true := by simp [Region.wanted, hg]
  rw [if_pos hw]
  exact wp_appended s x t ho _ _ hs hx _ _ hr h
theorem block_ok (O : Nat → Prop) (w : World) (p bw bl T : Nat) (E : List En) (k : Int) (a : Option Addr) (cap : Nat) (l : List Pl) (t cn : Nat) (h : WAt O w p bw bl T E) (hl : PlsAt w a l) (hll : l.length ≤ 9223372036854775807) (hT : T < 1099511627776) (hr : refR E (cn : Nat) k l t = 0) :
    Calls Try.prog 11 #[.pointer (some ⟨p, 0, none⟩), .int .i64 (cn : Nat), .int .i64 k, .slice a l.length cap, .int .u64 (t : Nat)] w fun e w' => e = .returned (.int .i64 0) ∧ Hid (∃ g, WAt (ext O w w') w' p bw bl (T + 1) (E ++ [⟨⟨cn, k, l, t⟩, T + 1, g⟩]) ∧ Fr O w w') := by
  obtain ⟨cn', hcn, hnone, hok⟩ := refR_ok hr
  obtain rfl : cn' = cn := by omega
  have hc8 := hok.conn
  have hlen := hok.many
  simp only at hc8 hlen
  have CR : Hid (Calls Try.prog 36 #[.pointer (some ⟨p, 0, none⟩), .int .i64 (cn' : Nat), .int .i64 k, .slice a l.length cap, .int .u64 (t : Nat)] w fun e w' => e = .returned (.int .i64 0) ∧ Hid (Below w.heap.size w w')) := hide (by
    have := refusal_any O w p bw bl T E (cn' : Nat) k a cap l t h (WalkArith.wf_i64 (by omega)) hl hll
    rw [hr] at this
    exact this)
  have CC : Hid (∀ w1, Hid (Below w.heap.size w w1) → Calls Try.prog 37 #[.slice a l.length cap] w1 fun e w' => ∃ g, e = .returned (.slice (some ⟨g, 0, none⟩) l.length l.length) ∧ Hid (RowP w' g l ∧ Below w1.heap.size w1 w' ∧ g = w1.heap.size) ∧ (w'.cell? ⟨p, 0, none⟩ = some (.int .u64 (T : Nat)) ∧ w'.cell? ⟨p, 1, none⟩ = some (.map (some bw)) ∧ w'.frozen? ⟨p, 0, none⟩ = false)) := hide (fun w1 hb => (cloned_any w1 a cap l (hl.below (unhide hb)) (by omega) (fun q hq => by have := (hok.places q hq).2; omega)).mono (fun e w' ⟨e1, e2⟩ => by
    have hw := (h.below (unhide hb)).below (unhide e2).2
    obtain ⟨c0, c1, c2⟩ := hw.c0
    exact ⟨_, e1, hide ⟨(unhide e2).1, (unhide e2).2, rfl⟩, c0, c1, by simp [World.frozen?, hw.cell]⟩))
  have BG : Hid (∀ w1 w2 g, Hid (Below w.heap.size w w1) → Hid (RowP w2 g l ∧ Below w1.heap.size w1 w2 ∧ g = w1.heap.size) → ∃ w3, (Instr.mapUpdate 63 (.map (some bw)) (.int .i64 (cn' : Nat)) (.agg #[.int .i64 (cn' : Nat), .int .u64 ((T : Int) + 1), .int .i64 k, .slice (some ⟨g, 0, none⟩) l.length l.length, .int .u64 (t : Nat)])).run Try.prog (w2.setCell ⟨p, 0, none⟩ (.int .u64 ((T : Int) + 1))).drew = .ok () w3 ∧ Hid (WL (ext O w w3) w3 p bw bl (T + 1) (64 * T) (E ++ [⟨⟨cn', k, l, t⟩, T + 1, g⟩]) (conns E) ∧ Fr O w w3)) := hide (fun w1 w2 g hb hr2 => by
    obtain ⟨r1, r2, r3⟩ := unhide hr2
    subst r3
    obtain ⟨w3, e1, e2, e3⟩ := (h.below (unhide hb)).begin r2 ⟨cn', k, l, t⟩ hok r1 hnone hT
    have hs := (unhide hb).size
    have hs3 := e3.size
    refine ⟨w3, ?_, hide ⟨e2.wide (fun b ob => ?_) (fun b ob => ?_), ⟨e3.os.trans (unhide hb).os, e3.tape.trans (unhide hb).tape, e3.output.trans (unhide hb).output, by omega, fun i hi hno => (e3.own i (by omega) hno).trans ((unhide hb).block i hi)⟩⟩⟩
    · rw [← e1, Int.natCast_add]
      rfl
    · rcases ob with ob | ob
      · exact .inl ob
      · exact .inr ⟨by omega, ob.2⟩
    · rcases ob with ob | ob
      · have := h.lt b ob; omega
      · exact ob.2)
  have hE8 := few8 h.nd h.ok
  have HOK := hide hok
  have HW := hide h
  obtain ⟨n, hn⟩ : ∃ n, n = l.length := ⟨_, rfl⟩
  rw [← hn] at CR CC BG hlen ⊢
  have HN := hide hn
  clear h hl hr hnone hcn hok hll hn
  go_enter Try.func11, Try.ntmps11
  go_wp2_with (first
    | (go_at_call 36; with_reducible refine (unhide CR).mono ?_; rintro e w1 ⟨rfl, k1⟩)
    | (go_at_call 37; with_reducible refine (unhide CC _ k1).mono ?_; rintro e w2 ⟨g, rfl, k2, c0, c1, cf⟩; obtain ⟨w3, r3, k3⟩ := unhide BG _ _ _ k1 k2))
  go_region
  have HL0 : Hid (WL (ext O w w3) w3 p bw bl (T + 1) (64 * T + 0) (E ++ [⟨⟨cn', k, l, t⟩, T + 1, g⟩]) (Li E l cn' 0) ∧ Fr O w w3) := hide ⟨by
    have h := (unhide k3).1
    exact ⟨h.cell, h.mw, h.ln.eq (fun q _ => Li_zero E l cn' q), h.rows, h.op, h.ow, h.ol, h.oe, h.lt, h.ne, h.nd, h.ok, h.le, h.inc, h.few⟩, (unhide k3).2⟩
  clear CR CC BG k1 k2 c0 c1 cf r3 k3 HW
  go_wp2_with fail
  go_loopw [49] (fun iv wr => ∃ i : Nat, iv = .int .i64 ((i : Nat) : Int) ∧ i ≤ n ∧ Hid (WL (ext O w wr) wr p bw bl (T + 1) (64 * T + i) (E ++ [⟨⟨cn', k, l, t⟩, T + 1, g⟩]) (Li E l cn' i) ∧ Fr O w wr)) (fun iv _ => n - (intOf iv).toNat)
  case atStart => exact ⟨0, rfl, Nat.zero_le _, HL0⟩
  case round =>
    clear HL0
    obtain ⟨i, rfl, hi, HC⟩ := hrel
    by_cases hin : i < n
    · have f1 : decide ((i : Int) < (n : Int)) = true := decide_eq_true (by omega)
      have g1 : (0 : Int) ≤ (i : Int) := by omega
      have g2 : (i : Int) < (n : Int) := by omega
      obtain ⟨x, hx⟩ : ∃ x, l[i]? = some x := ⟨_, List.getElem?_eq_getElem (by have := unhide HN; omega)⟩
      have hxg : PGood x := (unhide HOK).places x (List.mem_of_getElem? hx)
      have hrow : RowP wr g l := (unhide HC).1.rows ⟨⟨cn', k, l, t⟩, T + 1, g⟩ (List.mem_append_right _ (List.mem_singleton.2 rfl))
      obtain ⟨c0, c1⟩ : wr.cell? ⟨g, i * 2, none⟩ = some (.int .i64 x.1) ∧ wr.cell? ⟨g, i * 2 + 1, none⟩ = some (.string (bs x.2)) := by
        rcases hrow.at with h | ⟨b, off, e, -, hc⟩
        · rw [h] at hx; simp at hx
        · cases e
          have := hc i x hx
          simpa using this
      have HX := hide hx
      have HXG := hide hxg
      clear hx hxg hrow
      obtain ⟨wb, hwb⟩ : ∃ wb, wr.alloc (.cells #[.int .i64 x.1, .string (bs x.2)] 46) = wb := ⟨_, rfl⟩
      have hb1 : Below wr.heap.size wr wb := by rw [← hwb]; exact (Below.refl _ _).alloc (Nat.le_refl _) _
      have hsb : wb.heap.size = wr.heap.size + 1 := by rw [← hwb]; simp
      have hbx : wb.heap[wr.heap.size]? = some (.cells #[.int .i64 x.1, .string (bs x.2)] 46 (0, 0)) := by rw [← hwb]; exact heap_alloc_new _ _
      have d0 : wb.cell? ⟨wr.heap.size, 0, none⟩ = some (.int .i64 x.1) := cell_blk hbx 0
      have d1 : wb.cell? ⟨wr.heap.size, 1, none⟩ = some (.string (bs x.2)) := cell_blk hbx 1
      have ST : Hid (∀ w', Below wb.heap.size wb w' → (WL (ext O w w') w' p bw bl (T + 1) (64 * T + i) (E ++ [⟨⟨cn', k, l, t⟩, T + 1, g⟩]) (Li E l cn' i) ∧ Fr O w w')) := hide (fun w' hb' => by
        have hbb : Below wr.heap.size wr w' := hb1.trans (hb'.mono hb1.size)
        refine ⟨((unhide HC).1.below hbb).wide (fun b ob => ?_) (fun b ob => ?_), (unhide HC).2.below hbb⟩
        · rcases ob with ob | ob
          · exact .inl ob
          · exact .inr ⟨ob.1, by have := hbb.size; omega⟩
        · rcases ob with ob | ob
          · have := (unhide HC).1.lt b (.inl ob); have := hbb.size; omega
          · exact ob.2)
      have CN : Hid (Calls Try.prog 38 #[.slice (some ⟨g, 0, none⟩) i n, .agg #[.int .i64 x.1, .string (bs x.2)]] wb.drew fun e w' => e = .returned (.bool (decide (x ∈ l.take i))) ∧ Hid (Below wb.heap.size wb w') ∧ (w'.cell? ⟨wr.heap.size, 0, none⟩ = some (.int .i64 x.1) ∧ w'.cell? ⟨wr.heap.size, 1, none⟩ = some (.string (bs x.2)))) := hide (by
        have hbd : Below wb.heap.size wb wb.drew := (Below.refl _ _).drew
        have hrow : RowP wb.drew g l := (unhide ST wb.drew hbd).1.rows ⟨⟨cn', k, l, t⟩, T + 1, g⟩ (List.mem_append_right _ (List.mem_singleton.2 rfl))
        have hpl : PlsAt wb.drew (some ⟨g, 0, none⟩) (l.take i) := by
          rcases hrow.at with h | ⟨b, off, e, hlt, hc⟩
          · exact .inl (by rw [h]; simp)
          · refine .inr ⟨b, off, e, hlt, fun j y hy => hc j y ?_⟩
            rw [List.getElem?_take] at hy
            split at hy
            · exact hy
            · cases hy
        have hlen2 : (l.take i).length = i := by rw [List.length_take]; have := unhide HN; omega
        have := named_any wb.drew (some ⟨g, 0, none⟩) n (l.take i) x hpl (by omega) (fun q hq => ((unhide HOK).places q (List.mem_of_mem_take hq)).ok) (unhide HXG).ok
        rw [hlen2] at this
        exact this.mono (fun e w' ⟨e1, e2⟩ => ⟨e1, hide (hbd.trans ((unhide e2).mono hbd.size)), ((unhide e2).cell (p := ⟨wr.heap.size, 0, none⟩) (show wr.heap.size < wb.heap.size by omega)).trans d0, ((unhide e2).cell (p := ⟨wr.heap.size, 1, none⟩) (show wr.heap.size < wb.heap.size by omega)).trans d1⟩))
      have HSB := hide hsb
      have HNN := hide (show (i : Nat) ≤ n from hi)
      clear hb1 hsb hbx
      by_cases hm : x ∈ l.take i
      · have HE := hide (fun q => Li_old E l cn' i x (unhide HX) hm q)
        rw [decide_eq_true hm] at CN
        clear hm
        go_wp2_with fail
        go_region_held3 (fun w' => w'.cell? ⟨wr.heap.size, 0, none⟩ = some (.int .i64 x.1) ∧ w'.cell? ⟨wr.heap.size, 1, none⟩ = some (.string (bs x.2))) (first | exact z2 | go_keep) (first | (go_at_call 38; with_reducible refine (unhide CN).mono ?_; rintro e w5 ⟨rfl, k5, z2⟩))
        clear z2
        go_wp2_with fail
        all_goals go_roundw
        case rel =>
          have h5 := unhide ST w5 (unhide k5)
          exact ⟨i + 1, by go_num, by omega, hide ⟨⟨h5.1.cell, h5.1.mw, (h5.1.ln.eq (fun q _ => unhide HE q)).mono (by omega), h5.1.rows, h5.1.op, h5.1.ow, h5.1.ol, h5.1.oe, h5.1.lt, h5.1.ne, h5.1.nd, h5.1.ok, h5.1.le, h5.1.inc, h5.1.few⟩, h5.2⟩⟩
        case measure => simp [intOf]; omega
      · have HE := hide (fun q => Li_new E l cn' i x (unhide HX) hm q)
        rw [decide_eq_false hm] at CN
        clear hm
        go_wp2_with fail
        go_region_held3 (fun w' => w'.cell? ⟨wr.heap.size, 0, none⟩ = some (.int .i64 x.1) ∧ w'.cell? ⟨wr.heap.size, 1, none⟩ = some (.string (bs x.2))) (first | exact z2 | go_keep) (first | (go_at_call 38; with_reducible refine (unhide CN).mono ?_; rintro e w5 ⟨rfl, k5, z2⟩))
        have hbd : Below w5.heap.size w5 w5.drew := (Below.refl _ _).drew
        have hba : Below w5.heap.size w5 (w5.alloc (.cells #[.int .i64 (cn' : Nat)] 3)).drew := ((Below.refl _ _).alloc (Nat.le_refl _) _).drew
        have h5 := unhide k5
        have hxo := (unhide HXG).ok
        have hlb : wr.heap.size < w5.heap.size := by have := h5.size; have := unhide HSB; omega
        obtain ⟨a1, a2⟩ := unhide ST w5.drew (h5.trans (hbd.mono h5.size))
        obtain ⟨b1, b2⟩ := unhide ST _ (h5.trans (hba.mono h5.size))
        obtain ⟨v0, st, wB, rB, kB, FB⟩ := a1.add a2 hxo (by unfold maxLen; omega) (Li_len E l cn' i x hE8) cn'
        obtain ⟨v0', st', wA, rA, kA, FA⟩ := b1.add b2 hxo (by unfold maxLen; omega) (Li_len E l cn' i x hE8) cn'
        obtain ⟨v3, w3B, w4B, raB, rsB, KB⟩ := FB (wB.alloc (.cells #[.int .i64 (cn' : Nat)] 3)) ⟨wB.heap.size, 0, none⟩ 1 51 ((Below.refl _ _).alloc (Nat.le_refl _) _) (cell_blk (heap_alloc_new _ _) 0)
        have hnbl : w5.heap.size ≠ bl := by
          have := a1.lt bl a1.ol
          have e : w5.drew.heap.size = w5.heap.size := rfl
          omega
        obtain ⟨v3', w3A, w4A, raA, rsA, KA⟩ := FA wA ⟨w5.heap.size, 0, none⟩ 1 51 (Below.refl _ _) (by
          have h1 : (w5.alloc (.cells #[.int .i64 (cn' : Nat)] 3)).drew.heap[w5.heap.size]? = some (.cells #[.int .i64 (cn' : Nat)] 3 (0, 0)) := heap_alloc_new _ _
          have h2 := (kA.1.blk w5.heap.size (blk_lt h1) hnbl).trans h1
          exact cell_blk h2 0)
        obtain ⟨-, -, pB⟩ := a1.c0
        obtain ⟨-, -, pA⟩ := b1.c0
        have p5 : w5.cell? ⟨p, 2, none⟩ = some (.map (some bl)) := pB
        obtain ⟨q0, q1⟩ := z2
        have qA0 : (w5.alloc (.cells #[.int .i64 (cn' : Nat)] 3)).drew.cell? ⟨wr.heap.size, 0, none⟩ = some (.int .i64 x.1) := (hba.cell (p := ⟨wr.heap.size, 0, none⟩) hlb).trans q0
        have qA1 : (w5.alloc (.cells #[.int .i64 (cn' : Nat)] 3)).drew.cell? ⟨wr.heap.size, 1, none⟩ = some (.string (bs x.2)) := (hba.cell (p := ⟨wr.heap.size, 1, none⟩) hlb).trans q1
        have FIN : Hid (∀ w4, Hid (WL (ext O w w4) w4 p bw bl (T + 1) (64 * T + i + 1) (E ++ [⟨⟨cn', k, l, t⟩, T + 1, g⟩]) (updL (Li E l cn' i) x (Li E l cn' i x ++ [cn'])) ∧ Fr O w w4) → Hid (WL (ext O w w4) w4 p bw bl (T + 1) (64 * T + (i + 1)) (E ++ [⟨⟨cn', k, l, t⟩, T + 1, g⟩]) (Li E l cn' (i + 1)) ∧ Fr O w w4)) := hide (fun w4 h4 => by
          have h5 := unhide h4
          exact hide ⟨⟨h5.1.cell, h5.1.mw, h5.1.ln.eq (fun q _ => unhide HE q), h5.1.rows, h5.1.op, h5.1.ow, h5.1.ol, h5.1.oe, h5.1.lt, h5.1.ne, h5.1.nd, h5.1.ok, h5.1.le, h5.1.inc, h5.1.few⟩, h5.2⟩)
        clear FA FB a1 a2 b1 b2 kA kB h5 hxo hnbl
        go_wp2_with fail
        go_region_law (first
          | (refine step_app_run rfl (.tmp 65) (.tmp 67) 51 rfl v0' (.slice (some ⟨w5.heap.size, 0, none⟩) 1 1) (by simp [Act.eval, Act.put]) (by simp [Act.eval, Act.put]) v3' w3A raA ?_)
          | (refine step_app_run rfl (.tmp 65) (.tmp 67) 51 rfl v0 (.slice (some ⟨wB.heap.size, 0, none⟩) 1 1) (by simp [Act.eval, Act.put]) (by simp [Act.eval, Act.put]) v3 w3B raB ?_))
        all_goals (go_wp2_with fail)
        all_goals go_roundw
        all_goals first
          | exact ⟨i + 1, by go_num, by omega, unhide FIN _ KA⟩
          | exact ⟨i + 1, by go_num, by omega, unhide FIN _ KB⟩
          | (simp [intOf]; omega)
    · obtain rfl : i = n := by omega
      have f1 : decide ((i : Int) < (i : Int)) = false := decide_eq_false (by omega)
      go_wp2_with fail
      go_ret
      exact ⟨rfl, hide ⟨g, (unhide HC).1.at (fun q _ => Li_all E ⟨cn', k, l, t⟩ (T + 1) g q i (Nat.le_of_eq (unhide HN).symm)) (by omega), (unhide HC).2⟩⟩
theorem block_no (O : Nat → Prop) (w : World) (p bw bl T : Nat) (E : List En) (c k : Int) (a : Option Addr) (cap : Nat) (l : List Pl) (t : Nat) (h : WAt O w p bw bl T E) (hc : IOk c) (hl : PlsAt w a l) (hll : l.length ≤ 9223372036854775807) (hr : refR E c k l t ≠ 0) :
    Calls Try.prog 11 #[.pointer (some ⟨p, 0, none⟩), .int .i64 c, .int .i64 k, .slice a l.length cap, .int .u64 (t : Nat)] w fun e w' => e = .returned (.int .i64 (refR E c k l t)) ∧ Hid (Below w.heap.size w w') := by
  have CR := hide (refusal_any O w p bw bl T E c k a cap l t h hc hl hll)
  have f1 : (refR E c k l t != 0) = true := by simpa using hr
  generalize refR E c k l t = r at *
  generalize l.length = n at *
  clear h hl
  go_enter Try.func11, Try.ntmps11
  go_wp2_with (first
    | (go_at_call 36; with_reducible refine (unhide CR).mono ?_; rintro e w1 ⟨rfl, k1⟩))
  go_ret
  exact ⟨rfl, k1⟩
end Go.Proofs.Ytfebiemfmiahhab
