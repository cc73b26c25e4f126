/- An append of any list to any list. -/
import Derived.Test.YtjmnddcombepaaaRa
namespace Go.Proofs.Ytjmnddcombepaaa
open Go.ChangeShapes Go.WideShapes Go.ChangeAt Go.RowKit
set_option linter.unusedVariables false
set_option linter.unusedSimpArgs false
set_option maxRecDepth 100000
set_option maxHeartbeats 4000000
/-- a mark's cells, again and again -/
def mkF (c : List Value) : Nat → Value := fun k => c.getD (k % c.length) undef
/-- a list and its mark's cells -/
structure Ent where
  v : Value
  n : Nat
  c : List Value
/-- lists that bear a mark each, in blocks from B on; e the element's type, s its cells -/
structure KL (w : World) (e : TypeId) (s B : Nat) (L : List Ent) : Prop where
  row : ∀ x ∈ L, Rws w e s x.v x.n (mkF x.c) ∧ x.c.length = s
  ge : ∀ x ∈ L, ∀ g, x.v.ownBlock = some g → B ≤ g
  one : ∀ x ∈ L, ∀ y ∈ L, ∀ g, x.v.ownBlock = some g → y.v.ownBlock = some g → x.c = y.c
theorem mkF_shift (c : List Value) (n j : Nat) : mkF c (n * c.length + j) = mkF c j := by
  unfold mkF
  rw [Nat.add_comm, Nat.add_mul_mod_self_right]
theorem KL.nil (w : World) (e : TypeId) (s B : Nat) : KL w e s B [] := ⟨fun x hx => (by cases hx), fun x hx => (by cases hx), fun x hx => (by cases hx)⟩
theorem KL.sub {w : World} {e : TypeId} {s B : Nat} {L M : List Ent} (h : KL w e s B L) (hs : ∀ x ∈ M, x ∈ L) : KL w e s B M :=
  ⟨fun x hx => h.row x (hs x hx), fun x hx => h.ge x (hs x hx), fun x hx y hy => h.one x (hs x hx) y (hs y hy)⟩
theorem KL.same {w w' : World} {e : TypeId} {s B : Nat} {L : List Ent} (h : KL w e s B L) (hb : ∀ x ∈ L, ∀ g, x.v.ownBlock = some g → w'.heap[g]? = w.heap[g]?) : KL w' e s B L :=
  ⟨fun x hx => ⟨(h.row x hx).1.same (hb x hx), (h.row x hx).2⟩, h.ge, h.one⟩
theorem KL.lt {w : World} {e : TypeId} {s B : Nat} {L : List Ent} (h : KL w e s B L) {x : Ent} (hx : x ∈ L) : ∀ g, x.v.ownBlock = some g → g < w.heap.size := (h.row x hx).1.lt
theorem KL.below {w w' : World} {e : TypeId} {s B : Nat} {L : List Ent} (h : KL w e s B L) (hb : Below w.heap.size w w') : KL w' e s B L :=
  h.same fun x hx g hg => hb.block g (h.lt hx g hg)
/-- one more list, in a block of its own -/
theorem KL.add {w : World} {e : TypeId} {s B : Nat} {L : List Ent} (h : KL w e s B L) (x : Ent) (hr : Rws w e s x.v x.n (mkF x.c)) (hc : x.c.length = s) (hge : ∀ g, x.v.ownBlock = some g → B ≤ g ∧ ∀ y ∈ L, y.v.ownBlock ≠ some g) : KL w e s B (L ++ [x]) := by
  refine ⟨fun y hy => ?_, fun y hy g hg => ?_, fun y hy z hz g hyg hzg => ?_⟩
  · rcases List.mem_append.1 hy with hy | hy
    · exact h.row y hy
    · rw [List.mem_singleton.1 hy]; exact ⟨hr, hc⟩
  · rcases List.mem_append.1 hy with hy | hy
    · exact h.ge y hy g hg
    · rw [List.mem_singleton.1 hy] at hg; exact (hge g hg).1
  · rcases List.mem_append.1 hy with hy | hy
    · rcases List.mem_append.1 hz with hz | hz
      · exact h.one y hy z hz g hyg hzg
      · rw [List.mem_singleton.1 hz] at hzg
        exact absurd hyg ((hge g hzg).2 y hy)
    · rcases List.mem_append.1 hz with hz | hz
      · rw [List.mem_singleton.1 hy] at hyg
        exact absurd hzg ((hge g hyg).2 z hz)
      · rw [List.mem_singleton.1 hy, List.mem_singleton.1 hz]
/-- marks appended to one of them -/
theorem KL.app {w w' : World} {e : TypeId} {s B : Nat} {L : List Ent} (h : KL w e s B L) (hB : B ≤ w.heap.size) {x : Ent} (hx : x ∈ L) {v' : Value} {q : Nat} {news : List Value}
    (hr : Rws w' e s v' (x.n + q) (fun k => if k < x.n * s then mkF x.c k else news.getD (k - x.n * s) undef)) (hl : news.length = q * s) (hg : Gr e (x.n * s) news.length w w' x.v v') (hnews : ∀ j, j < news.length → news.getD j undef = mkF x.c j) : KL w' e s B (L ++ [⟨v', x.n + q, x.c⟩]) := by
  have hcl := (h.row x hx).2
  have hval : ∀ k, k < (x.n + q) * s → (if k < x.n * s then mkF x.c k else news.getD (k - x.n * s) undef) = mkF x.c k := fun k hk => by
    by_cases h1 : k < x.n * s
    · rw [if_pos h1]
    · rw [if_neg h1, hnews (k - x.n * s) (by rw [hl]; rw [Nat.add_mul] at hk; omega), ← mkF_shift x.c x.n (k - x.n * s), hcl]
      congr 1
      omega
  have hr' : Rws w' e s v' (x.n + q) (mkF x.c) := hr.congr hval
  have hrows : ∀ y ∈ L, Rws w' e s y.v y.n (mkF y.c) := fun y hy => by
    have hy0 := (h.row y hy).1
    rcases hg.how with ⟨g, cur, cur', h1, h2, h3, h4, h5, h6, h7, h8⟩ | ⟨h2, h7, h8⟩
    · by_cases hyg : y.v.ownBlock = some g
      · have hcc : y.c = x.c := h.one y hy x hx g hyg h1
        rcases hy0 with ⟨ev, en⟩ | ⟨g', cap, curY, ev, hgY, hn, hcm, hsz, hf⟩
        · exact .inl ⟨ev, en⟩
        · have eg : g' = g := by rw [ev] at hyg; simpa [Value.ownBlock] using hyg
          subst eg
          have ecur : curY = cur := by rw [h3] at hgY; cases hgY; rfl
          subst ecur
          refine .inr ⟨g', cap, cur', ev, h4, hn, hcm, by rw [h5]; exact hsz, fun k hk => ?_⟩
          by_cases hin : x.n * s ≤ k ∧ k < x.n * s + news.length
          · rcases hr' with ⟨ev', en'⟩ | ⟨g2, cap2, cur2, ev', hg2, -, -, -, hf2⟩
            · rw [ev'] at h2; simp [Value.ownBlock] at h2
            · have eg2 : g2 = g' := by rw [ev'] at h2; simpa [Value.ownBlock] using h2
              subst eg2
              have ecur2 : cur2 = cur' := by rw [h4] at hg2; cases hg2; rfl
              subst ecur2
              rw [hf2 k (by rw [Nat.add_mul]; omega), hcc]
          · rw [h6 k (by omega)]
            exact hf k hk
      · exact hy0.same fun g2 hg2 => h8 g2 (fun e2 => hyg (by rw [hg2, e2]))
    · exact hy0.same fun g2 hg2 => h8 g2 (h.lt hy g2 hg2)
  refine ⟨fun y hy => ?_, fun y hy g hyg => ?_, fun y hy z hz g hyg hzg => ?_⟩
  · rcases List.mem_append.1 hy with hy | hy
    · exact ⟨hrows y hy, (h.row y hy).2⟩
    · rw [List.mem_singleton.1 hy]; exact ⟨hr', hcl⟩
  · rcases List.mem_append.1 hy with hy | hy
    · exact h.ge y hy g hyg
    · rw [List.mem_singleton.1 hy] at hyg
      rcases hg.how with ⟨g', cur, cur', h1, h2, -⟩ | ⟨h2, -⟩
      · have : g' = g := by rw [h2] at hyg; simpa using hyg
        rw [← this]; exact h.ge x hx g' h1
      · have : w.heap.size = g := by rw [h2] at hyg; simpa using hyg
        omega
  · have key : ∀ y ∈ L, y.v.ownBlock = some g → v'.ownBlock = some g → y.c = x.c := fun y hy h1 h2 => by
      rcases hg.how with ⟨g', cur, cur', k1, k2, -⟩ | ⟨k2, -⟩
      · have : g' = g := by rw [k2] at h2; simpa using h2
        subst this
        exact h.one y hy x hx g' h1 k1
      · have : w.heap.size = g := by rw [k2] at h2; simpa using h2
        have := h.lt hy g h1
        omega
    rcases List.mem_append.1 hy with hy | hy
    · rcases List.mem_append.1 hz with hz | hz
      · exact h.one y hy z hz g hyg hzg
      · rw [List.mem_singleton.1 hz] at hzg ⊢
        exact key y hy hyg hzg
    · rcases List.mem_append.1 hz with hz | hz
      · rw [List.mem_singleton.1 hy] at hyg ⊢
        exact (key z hz hzg hyg).symm
      · rw [List.mem_singleton.1 hy, List.mem_singleton.1 hz]
/-- only blocks that marked lists own have changed -/
structure Fl (L : List Ent) (w w' : World) : Prop where
  os : w'.os = w.os
  tape : w'.tape = w.tape
  output : w'.output = w.output
  size : w.heap.size ≤ w'.heap.size
  block : ∀ b, b < w.heap.size → (∀ x ∈ L, x.v.ownBlock ≠ some b) → w'.heap[b]? = w.heap[b]?
theorem Fl.refl (L : List Ent) (w : World) : Fl L w w := ⟨rfl, rfl, rfl, Nat.le_refl _, fun _ _ _ => rfl⟩
theorem Fl.of {L : List Ent} {w w' : World} (h : Below w.heap.size w w') : Fl L w w' := ⟨h.os, h.tape, h.output, h.size, fun b hb _ => h.block b hb⟩
theorem Fl.gr {L : List Ent} {e : TypeId} {c m : Nat} {w w' : World} {x : Ent} {v' : Value} (hx : x ∈ L) (h : Gr e c m w w' x.v v') : Fl L w w' :=
  ⟨h.os, h.tape, h.output, h.size, fun b hb hn => h.other b hb (hn x hx)⟩
/-- one behind the other: what the second owns besides was made since -/
theorem Fl.trans {L M : List Ent} {w w' w'' : World} (h : Fl L w w') (k : Fl M w' w'') (hM : ∀ x ∈ M, x ∈ L ∨ ∀ g, x.v.ownBlock = some g → w.heap.size ≤ g ∨ ∃ y ∈ L, y.v.ownBlock = some g) : Fl L w w'' :=
  ⟨k.os.trans h.os, k.tape.trans h.tape, k.output.trans h.output, Nat.le_trans h.size k.size, fun b hb hn => by
    rw [k.block b (Nat.lt_of_lt_of_le hb h.size) (fun x hx e => ?_)]
    · exact h.block b hb hn
    · rcases hM x hx with h1 | h1
      · exact hn x h1 e
      · rcases h1 b e with h2 | ⟨y, hy, h2⟩
        · omega
        · exact hn y hy h2⟩
end Go.Proofs.Ytjmnddcombepaaa
namespace Go.Proofs.Ytjmnddcombepaaa
open Go.ChangeShapes Go.WideShapes Go.ChangeAt Go.RowKit Go.Maps
set_option linter.unusedVariables false
set_option linter.unusedSimpArgs false
set_option maxRecDepth 100000
set_option maxHeartbeats 8000000
/-- as run_append_rws, from any address, of any length -/
theorem run_append_at {P : Program} {w : World} (ty t e : TypeId) (i : TypeInfo) (z : Value) (s bytes : Nat) (ht : P.underlying t = some (.slice e)) (hi : P.info? e = some i) (hz : i.zero = some z) (hsize : i.size = s) (hby : i.bytes = bytes) (hzs : z.cells.size = s)
    (tb : TypeId) (v : Value) (n : Nat) (f : Nat → Value) (hown : Rws w tb s v n f) (hfull : tb = e ∨ ∀ b cap, v = .slice (some b) n cap → cap = n) (ad : Addr) (m mc : Nat) (news : List Value) (hm : 0 < m) (hl : news.length = m * s) (hnews : ∀ j x, news[j]? = some x → w.cell? (ad.add j) = some x) (h1 : ∀ x ∈ news, x.oneCell' = true) (hn : (n + m) * bytes ≤ 140737488355328) (hml : n + m ≤ maxLen) :
    ∃ v' w', (Builtin.append_ #[t, t] ty #[v, .slice (some ad) m mc]).run P w = .ok v' w' ∧ Rws w' e s v' (n + m) (fun k => if k < n * s then f k else news.getD (k - n * s) undef) ∧ Gr e (n * s) news.length w w' v v' := by
  have hml2 : n + m ≤ 9223372036854775807 := hml
  have hnm : (n + m) * s = n * s + m * s := Nat.add_mul _ _ _
  rcases hown with ⟨rfl, rfl⟩ | ⟨g, cap, cur, rfl, hg, hnc, hcm, hcs, hf⟩
  · simp only [Nat.zero_add, Nat.zero_mul, Nat.not_lt_zero, if_false, Nat.sub_zero] at *
    have hr := run_append_nil (P := P) w t ty e i z ht hi hz ad m mc news (by rw [hsize]; exact hl) hnews hm (by omega) (by rw [hby]; omega)
    have hge := grownCap_ge w m 0 e
    have hcm2 : grownCap w m 0 e ≤ maxLen := grownCap_le_maxLen w m 0 e hml
    refine ⟨_, _, hr, .inr ⟨w.heap.size, _, _, rfl, heap_alloc_new w.drew _, hge, hcm2, ?_, fun j hj => ?_⟩, ⟨rfl, rfl, rfl, .inr ⟨rfl, by simp, fun k hk => heap_alloc_old w.drew _ hk⟩⟩⟩
    · simp only [Array.size_append, List.size_toArray, size_zeroCells, hzs, hl]
      rw [← Nat.add_mul]
      congr 1
      omega
    · show _ = some (news.getD j undef)
      rw [Array.getElem?_append_left (by rw [List.size_toArray, hl]; exact hj), List.getElem?_toArray, List.getD_eq_getElem?_getD, List.getElem?_eq_getElem (by omega)]
      rfl
  · by_cases hroom : n + m ≤ cap
    · have hte : tb = e := by
        rcases hfull with h | h
        · exact h
        · have := h _ _ rfl; omega
      subst hte
      have hcap : (n + m) * s ≤ cap * s := Nat.mul_le_mul_right _ hroom
      have hr := run_append_room (P := P) w t ty tb i ht hi g n cap cur hg ad m mc news (by rw [hsize]; exact hl) hnews h1 hroom (by rw [hsize, hcs, hl]; omega)
      rw [hsize] at hr
      have hlt : (cur.toList.take (n * s)).length = n * s := by simp; omega
      have hcur : ∀ j, j < n * s ∨ n * s + news.length ≤ j → (cur.toList.take (n * s) ++ news ++ cur.toList.drop (n * s + news.length)).toArray[j]? = cur[j]? := by
        intro j hj
        rw [List.getElem?_toArray]
        rcases hj with hj | hj
        · rw [List.append_assoc, List.getElem?_append_left (by omega), List.getElem?_take, if_pos hj]
          simp
        · rw [List.getElem?_append_right (by simp only [List.length_append, hlt]; omega), List.length_append, hlt, List.getElem?_drop]
          rw [show n * s + news.length + (j - (n * s + news.length)) = j by omega]
          simp
      have hnew : ∀ j, n * s ≤ j → j < n * s + news.length → (cur.toList.take (n * s) ++ news ++ cur.toList.drop (n * s + news.length)).toArray[j]? = some (news.getD (j - n * s) undef) := by
        intro j hj hj2
        rw [List.getElem?_toArray, List.append_assoc, List.getElem?_append_right (by omega), hlt, List.getElem?_append_left (by omega), List.getD_eq_getElem?_getD, List.getElem?_eq_getElem (by omega)]
        rfl
      have hsz : (cur.toList.take (n * s) ++ news ++ cur.toList.drop (n * s + news.length)).toArray.size = cur.size := by
        simp only [List.size_toArray, List.length_append, hlt, List.length_drop, Array.length_toList]
        omega
      have hblk := setRow_heap w g cur (cur.toList.take (n * s) ++ news ++ cur.toList.drop (n * s + news.length)).toArray tb _ hg
      generalize (cur.toList.take (n * s) ++ news ++ cur.toList.drop (n * s + news.length)).toArray = cur' at *
      refine ⟨_, _, hr, .inr ⟨g, cap, cur', rfl, hblk, hroom, hcm, by omega, fun j hj => ?_⟩, ⟨rfl, rfl, rfl, .inl ⟨g, cur, cur', rfl, rfl, hg, hblk, hsz, hcur, by simp [World.setRow], fun k hk => setRow_other w g k _ hk⟩⟩⟩
      by_cases e1 : j < n * s
      · simp only [if_pos e1]
        rw [hcur j (.inl e1), hf j e1]
      · simp only [if_neg e1]
        exact hnew j (by omega) (by omega)
    · have hol : (cur.toList.take (n * s)).length = n * s := by
        have := Nat.mul_le_mul_right s hnc
        simp; omega
      have holds : ∀ j x, (cur.toList.take (n * s))[j]? = some x → w.cell? ((⟨g, 0, none⟩ : Addr).add j) = some x := by
        intro j x hj
        rw [addr0]
        simp only [World.cell?, hg]
        rw [List.getElem?_take] at hj
        split at hj
        · simpa using hj
        · cases hj
      have hr := run_append_grow (P := P) w t ty e i z ht hi hz ⟨g, 0, none⟩ n cap (cur.toList.take (n * s)) (by rw [hsize]; omega) holds ad m mc news (by rw [hsize]; exact hl) hnews (by omega) (by omega) (by rw [hby]; exact growslice_fits (by omega) hn)
      have hge := grownCap_ge w (n + m) cap e
      have hcm2 : grownCap w (n + m) cap e ≤ maxLen := grownCap_le_maxLen w (n + m) cap e hml
      refine ⟨_, _, hr, .inr ⟨w.heap.size, _, _, rfl, heap_alloc_new w.drew _, hge, hcm2, ?_, fun j hj => ?_⟩, ⟨rfl, rfl, rfl, .inr ⟨rfl, by simp, fun k hk => heap_alloc_old w.drew _ hk⟩⟩⟩
      · simp only [Array.size_append, List.size_toArray, size_zeroCells, hzs, hol, hl]
        rw [← Nat.add_mul, ← Nat.add_mul]
        congr 1
        omega
      · rw [Array.getElem?_append_left (by simp only [Array.size_append, List.size_toArray, hol, hl]; omega)]
        by_cases e1 : j < n * s
        · simp only [if_pos e1]
          rw [← hf j e1, Array.getElem?_append_left (by simp only [List.size_toArray, hol]; omega), List.getElem?_toArray, List.getElem?_take, if_pos e1]
          simp
        · simp only [if_neg e1]
          rw [Array.getElem?_append_right (by simp only [List.size_toArray, hol]; omega), List.size_toArray, hol, List.getElem?_toArray, List.getD_eq_getElem?_getD, List.getElem?_eq_getElem (by omega)]
          rfl
/-- nothing is appended -/
theorem run_append_zero {P : Program} {w : World} (ty t e : TypeId) (i : TypeInfo) (s : Nat) (ht : P.underlying t = some (.slice e)) (hi : P.info? e = some i)
    (tb : TypeId) (v : Value) (n : Nat) (f : Nat → Value) (hown : Rws w tb s v n f) (a : Option Addr) (c : Nat) : (Builtin.append_ #[t, t] ty #[v, .slice a 0 c]).run P w = .ok v w := by
  rcases hown with ⟨rfl, rfl⟩ | ⟨g, cap, cur, rfl, hg, hnc, hcm, hcs, hf⟩
  · cases a <;> simp [Builtin.append_, run_underlying ht, sizeOf, typeInfo, hi, Builtin.lenOf, Builtin.firstCells, loadCells, loadCellsFrom, storeCells]
  · cases a <;> simp [Builtin.append_, run_underlying ht, sizeOf, typeInfo, hi, Builtin.lenOf, Builtin.firstCells, hnc, loadCells, loadCellsFrom, storeCells]
/-- what an append of any list leaves -/
def Ga (e : TypeId) (c m : Nat) (w w' : World) (v v' : Value) : Prop := (w' = w ∧ v' = v) ∨ Gr e c m w w' v v'
theorem run_append_any {P : Program} {w : World} (ty t e : TypeId) (i : TypeInfo) (z : Value) (s bytes : Nat) (ht : P.underlying t = some (.slice e)) (hi : P.info? e = some i) (hz : i.zero = some z) (hsize : i.size = s) (hby : i.bytes = bytes) (hzs : z.cells.size = s)
    (v : Value) (n : Nat) (f : Nat → Value) (hown : Rws w e s v n f) (a : Option Addr) (m mc : Nat) (news : List Value) (hl : news.length = m * s) (hnil : a = none → m = 0) (hc : ∀ ad, a = some ad → ∀ (j : Nat) (x : Value), news[j]? = some x → w.cell? (ad.add j) = some x) (h1 : ∀ x ∈ news, x.oneCell' = true) (hn : (n + m) * bytes ≤ 140737488355328) (hn2 : n + m ≤ maxLen) :
    ∃ v' w', (Builtin.append_ #[t, t] ty #[v, .slice a m mc]).run P w = .ok v' w' ∧ Rws w' e s v' (n + m) (fun k => if k < n * s then f k else news.getD (k - n * s) undef) ∧ Ga e (n * s) news.length w w' v v' := by
  by_cases hm : m = 0
  · subst hm
    exact ⟨v, w, run_append_zero ty t e i s ht hi e v n f hown a mc, hown.congr fun k hk => by rw [if_pos hk], .inl ⟨rfl, rfl⟩⟩
  · cases a with
    | none => exact absurd (hnil rfl) hm
    | some ad =>
      obtain ⟨v', w', h, h2, h3⟩ := run_append_at (P := P) (w := w) ty t e i z s bytes ht hi hz hsize hby hzs e v n f hown (.inl rfl) ad m mc news (by omega) hl (hc ad rfl) h1 hn hn2
      exact ⟨v', w', h, h2, .inr h3⟩
/-- at a step of a region that draws -/
theorem step_append_any {P : Program} {ops : Array Oper} {o : Oper} {a : Act} {w : World} {K : Act → World → Prop} {Q : Exit → Act → World → Prop} {E : Prop} (hg : o.guard = none) (so x : Operand) (t : TypeId) (ho : o.op = .call { callee := .builtin .append, args := #[so, x], argTypes := #[t, t] })
    (e : TypeId) (i : TypeInfo) (z : Value) (s bytes : Nat) (ht : P.underlying t = some (.slice e)) (hi : P.info? e = some i) (hz : i.zero = some z) (hsize : i.size = s) (hby : i.bytes = bytes) (hzs : z.cells.size = s)
    (v : Value) (n : Nat) (f : Nat → Value) (hs : a.eval so = v) (hown : Rws w e s v n f) (b : Option Addr) (m mc : Nat) (hx : a.eval x = .slice b m mc) (news : List Value) (hl : news.length = m * s) (hnil : b = none → m = 0) (hc : ∀ ad, b = some ad → ∀ (j : Nat) (x : Value), news[j]? = some x → w.cell? (ad.add j) = some x) (h1 : ∀ x ∈ news, x.oneCell' = true) (hn : (n + m) * bytes ≤ 140737488355328) (hn2 : n + m ≤ maxLen)
    (h : ∀ v' w', Rws w' e s v' (n + m) (fun k => if k < n * s then f k else news.getD (k - n * s) undef) → Ga e (n * s) news.length w w' v v' → K (a.put o.dst v') w') : if Region.wanted o (yielded ops a.tmps) = true then Oper.wp P o a w K Q else E := by
  have hw : Region.wanted o (yielded ops a.tmps) = true := by simp [Region.wanted, hg]
  rw [if_pos hw]
  obtain ⟨v', w', hr, h2, h3⟩ := run_append_any (P := P) (w := w) o.type t e i z s bytes ht hi hz hsize hby hzs v n f hown b m mc news hl hnil hc h1 hn hn2
  exact wp_appended so x t ho _ _ hs hx _ _ hr (h v' w' h2 h3)
end Go.Proofs.Ytjmnddcombepaaa
