import Derived.Test.YtidfllgaeiopjabGreatDcS
namespace Go.Proofs.YtidfllgaeiopjabGreat
open Go.ChangeShapes Go.WideShapes Go.ChangeAt Go.RowKit
set_option linter.unusedVariables false
set_option linter.unusedSimpArgs false
set_option maxRecDepth 100000
set_option maxHeartbeats 2000000
section
variable {P:Program}{md:Region.Mode}{ops:Array Oper}{Q:Exit→Act→World→Prop}{S:World→Prop}{k:Nat}
theorem AnyTill.three {i j l f:Nat}{m:Array Bool}{a:Act}{w:World} (hr:Region.ready md ops m=[i,j,l]) (h1:wpOp P ops Q i (fun a' w'=>(i≠k→S w')∧AnyTill P md ops Q S k f (m.setIfInBounds i true) a' w') a w) (h2:wpOp P ops Q j (fun a' w'=>(j≠k→S w')∧AnyTill P md ops Q S k f (m.setIfInBounds j true) a' w') a w) (h3:wpOp P ops Q l (fun a' w'=>(l≠k→S w')∧AnyTill P md ops Q S k f (m.setIfInBounds l true) a' w') a w):AnyTill P md ops Q S k (f+1) m a w:=
 AnyTill.all hr (List.cons_ne_nil _ _) fun q hq=>by
  rcases List.mem_cons.1 hq with e|e
  ·rw[e];exact h1
  ·rcases List.mem_cons.1 e with e|e
   ·rw[e];exact h2
   ·rw[List.mem_singleton.1 e];exact h3
end
theorem Tryz.info168:(Tryz.prog.info? 168).map (fun i=>(i.zero,i.size,i.bytes))=some (some (.agg #[.int .i64 0,.slice none 0 0,.slice none 0 0,.bool false,.bool false,.int .i64 0]),6,72):=by kernel_rfl
structure Jn1 (w W:World) (gb:Nat) (r9 s9:Value) (k r s:Nat) (bg:Bool) (at0:Nat):Prop where
 be:Below w.heap.size w W
 bx:∀ c v,[Value.int .i64 (k:Nat),r9,s9,.bool true,.bool bg,.int .i64 (at0:Nat)][c]?=some v→W.cell? ⟨gb,c,none⟩=some v
 lr:Line W 3 r9 r (fun _=>.int .i64 0)
 ls:Line W 41 s9 s (fun _=>.int .u64 0)
 ro:∀ g,r9.ownBlock=some g→w.heap.size≤g
 so:∀ g,s9.ownBlock=some g→w.heap.size≤g
 gb:w.heap.size≤gb
 rs:∀ g,r9.ownBlock=some g→s9.ownBlock≠some g
 rp:∃ a cap,r9=.slice a r cap
 sp:∃ a cap,s9=.slice a s cap
theorem set6_cell {w:World}{g:Nat}{v0 v1 v2 v3 v4 v5:Value}{ty:TypeId}{u0 u1 u2 u3 u4 u5:Value} (h:w.heap[g]?=some (.cells #[u0,u1,u2,u3,u4,u5] ty)):∀ c v,[v0,v1,v2,v3,v4,v5][c]?=some v→((((((w.setCell ⟨g,0,none⟩ v0).setCell ⟨g,1,none⟩ v1).setCell ⟨g,2,none⟩ v2).setCell ⟨g,3,none⟩ v3).setCell ⟨g,4,none⟩ v4).setCell ⟨g,5,none⟩ v5).cell? ⟨g,c,none⟩=some v:=by
 have hc:∀ i,i<6→(w.cell? ⟨g,i,none⟩).isSome=true:=fun i hi=>by
  simp only[World.cell?,h]
  have:i=0∨i=1∨i=2∨i=3∨i=4∨i=5:=by omega
  rcases this with rfl|rfl|rfl|rfl|rfl|rfl <;> rfl
 intro c v e
 have hcl:c<6:=by
  have:=List.getElem?_eq_some_iff.1 e
  obtain ⟨q,_⟩:=this
  simpa using q
 have:c=0∨c=1∨c=2∨c=3∨c=4∨c=5:=by omega
 have hO:∀ (W:World) (i j:Nat) (x:Value),i≠j→(W.setCell ⟨g,i,none⟩ x).cell? ⟨g,j,none⟩=W.cell? ⟨g,j,none⟩:=fun W i j x hij=>World.cell?_setCell_other _ _ _ _ (by simp)
 have hS:∀ (W:World) (i:Nat) (x:Value),(W.cell? ⟨g,i,none⟩).isSome=true→(W.setCell ⟨g,i,none⟩ x).cell? ⟨g,i,none⟩=some x:=fun W i x hx=>World.cell?_setCell_same' _ _ _ hx
 rcases this with rfl|rfl|rfl|rfl|rfl|rfl
 ·cases e
  rw[hO _ _ _ _ (by decide),hO _ _ _ _ (by decide),hO _ _ _ _ (by decide),hO _ _ _ _ (by decide),hO _ _ _ _ (by decide)]
  exact hS _ _ _ (hc 0 (by decide))
 ·cases e
  rw[hO _ _ _ _ (by decide),hO _ _ _ _ (by decide),hO _ _ _ _ (by decide),hO _ _ _ _ (by decide)]
  exact hS _ _ _ (by rw[hO _ _ _ _ (by decide)];exact hc 1 (by decide))
 ·cases e
  rw[hO _ _ _ _ (by decide),hO _ _ _ _ (by decide),hO _ _ _ _ (by decide)]
  exact hS _ _ _ (by rw[hO _ _ _ _ (by decide),hO _ _ _ _ (by decide)];exact hc 2 (by decide))
 ·cases e
  rw[hO _ _ _ _ (by decide),hO _ _ _ _ (by decide)]
  exact hS _ _ _ (by rw[hO _ _ _ _ (by decide),hO _ _ _ _ (by decide),hO _ _ _ _ (by decide)];exact hc 3 (by decide))
 ·cases e
  rw[hO _ _ _ _ (by decide)]
  exact hS _ _ _ (by rw[hO _ _ _ _ (by decide),hO _ _ _ _ (by decide),hO _ _ _ _ (by decide),hO _ _ _ _ (by decide)];exact hc 4 (by decide))
 ·cases e
  exact hS _ _ _ (by rw[hO _ _ _ _ (by decide),hO _ _ _ _ (by decide),hO _ _ _ _ (by decide),hO _ _ _ _ (by decide),hO _ _ _ _ (by decide)];exact hc 5 (by decide))
theorem jn_fin {w a3:World}{gb gr gs k r s at0:Nat}{bg:Bool} (be:Below w.heap.size w a3) (lr:Line a3 3 (.slice (some ⟨gr,0,none⟩) r r) r (fun _=>.int .i64 0)) (ls:Line a3 41 (.slice (some ⟨gs,0,none⟩) s s) s (fun _=>.int .u64 0)) (hb:a3.heap[gb]?=some (.cells #[.int .i64 0,.slice none 0 0,.slice none 0 0,.bool false,.bool false,.int .i64 0] 168)) (h1:w.heap.size≤gr) (h2:w.heap.size≤gs) (h3:w.heap.size≤gb) (d1:gr≠gs) (d2:gr≠gb) (d3:gs≠gb):
  Jn1 w ((((((a3.setCell ⟨gb,0,none⟩ (.int .i64 (k:Nat))).setCell ⟨gb,1,none⟩ (.slice (some ⟨gr,0,none⟩) r r)).setCell ⟨gb,2,none⟩ (.slice (some ⟨gs,0,none⟩) s s)).setCell ⟨gb,3,none⟩ (.bool true)).setCell ⟨gb,4,none⟩ (.bool bg)).setCell ⟨gb,5,none⟩ (.int .i64 (at0:Nat))) gb (.slice (some ⟨gr,0,none⟩) r r) (.slice (some ⟨gs,0,none⟩) s s) k r s bg at0:=by
 have hx:∀ q,q≠gb→((((((a3.setCell ⟨gb,0,none⟩ (.int .i64 (k:Nat))).setCell ⟨gb,1,none⟩ (.slice (some ⟨gr,0,none⟩) r r)).setCell ⟨gb,2,none⟩ (.slice (some ⟨gs,0,none⟩) s s)).setCell ⟨gb,3,none⟩ (.bool true)).setCell ⟨gb,4,none⟩ (.bool bg)).setCell ⟨gb,5,none⟩ (.int .i64 (at0:Nat))).heap[q]?=a3.heap[q]?:=fun q hq=>by
  rw[setCell_else _ _ _ _ _ hq,setCell_else _ _ _ _ _ hq,setCell_else _ _ _ _ _ hq,setCell_else _ _ _ _ _ hq,setCell_else _ _ _ _ _ hq,setCell_else _ _ _ _ _ hq]
 refine ⟨((((((be.setCell h3 _).setCell h3 _).setCell h3 _).setCell h3 _).setCell h3 _).setCell h3 _),set6_cell hb,lr.same fun g e=>?_,ls.same fun g e=>?_,fun g e=>?_,fun g e=>?_,h3,fun g e e'=>?_,⟨_,_,rfl⟩,⟨_,_,rfl⟩⟩
 ·simp [Value.ownBlock] at e;subst e;exact hx _ d2
 ·simp [Value.ownBlock] at e;subst e;exact hx _ d3
 ·simp [Value.ownBlock] at e;omega
 ·simp [Value.ownBlock] at e;omega
 ·simp [Value.ownBlock] at e e';omega
structure MadeO (pd k r s n:Nat) (bg:Bool) (at0:Nat) (f:Nat→Value) (v:Value) (W W3:World) (v9 r9 s9:Value):Prop where
 wide:Wide W3 168 6 v9 (n+1) (fun j=>if j<n*6 then f j else [Value.int .i64 (k:Nat),r9,s9,.bool true,.bool bg,.int .i64 (at0:Nat)].getD (j-n*6) undef)
 refs:Line W3 3 r9 r (fun _=>.int .i64 0)
 raws:Line W3 41 s9 s (fun _=>.int .u64 0)
 own:Own2 W v v9
 ro:∀ g,r9.ownBlock=some g→W.heap.size≤g
 so:∀ g,s9.ownBlock=some g→W.heap.size≤g
 vr:∀ g,v9.ownBlock=some g→r9.ownBlock≠some g
 vs:∀ g,v9.ownBlock=some g→s9.ownBlock≠some g
 rs:∀ g,r9.ownBlock=some g→s9.ownBlock≠some g
 c6:W3.cell? ⟨pd,6,none⟩=some v9
 cc:∀ q,q≠6→W3.cell? ⟨pd,q,none⟩=W.cell? ⟨pd,q,none⟩
 ff:∀ q,W3.frozen? ⟨pd,q,none⟩=W.frozen? ⟨pd,q,none⟩
 os:W3.os=W.os
 tape:W3.tape=W.tape
 output:W3.output=W.output
 size:W.heap.size≤W3.heap.size
 blk:∀ g,g<W.heap.size→g≠pd→v.ownBlock≠some g→W3.heap[g]?=W.heap[g]?
theorem madeO_any {w W2 Wd w9:World}{pd k r s n gb at0:Nat}{bg:Bool}{f:Nat→Value}{v v9 r9 s9:Value}{Z:Obj} (j:Jn1 w W2 gb r9 s9 k r s bg at0) (hst:Still (W2.alloc Z) Wd) (hpd:pd<w.heap.size) (hw0:Wide w 168 6 v n f) (hap:v.ownBlock≠some pd)
  (hv9:Wide w9 168 6 v9 (n+1) (fun q=>if q<n*6 then f q else [Value.int .i64 (k:Nat),r9,s9,.bool true,.bool bg,.int .i64 (at0:Nat)].getD (q-n*6) undef)) (q9:w9.os=Wd.os∧w9.tape=Wd.tape∧w9.output=Wd.output) (hh:Grow2 v v9 Wd w9) (c6:∃ x,w.cell? ⟨pd,6,none⟩=some x)
  (W3:World) (eh:W3.heap=(w9.setCell ⟨pd,6,none⟩ v9).heap) (e1:W3.os=w9.os) (e2:W3.tape=w9.tape) (e3:W3.output=w9.output):MadeO pd k r s n bg at0 f v w W3 v9 r9 s9:=by
 have hal:Below W2.heap.size W2 (W2.alloc Z):=(Below.refl _ _).alloc (Nat.le_refl _) _
 have hzz:Wd.heap.size=W2.heap.size+1:=by rw[hst.heap];simp
 have hs2:=j.be.size
 have hWd:∀ g,g<W2.heap.size→Wd.heap[g]?=W2.heap[g]?:=fun g hg=>by rw[hst.heap];exact hal.block g hg
 have hold:∀ g,g<w.heap.size→Wd.heap[g]?=w.heap[g]?:=fun g hg=>(hWd g (by omega)).trans (j.be.block g hg)
 have hvl:=hw0.lt
 have hown:∀ g,v9.ownBlock=some g→v.ownBlock=some g∨W2.heap.size+1≤g:=fun g e=>by
  rcases hh with ⟨q,h1,h2,_⟩|⟨h2,_⟩
  ·rw[h2] at e;injection e with e;subst e;exact .inl h1
  ·rw[h2] at e;injection e with e;right;omega
 have hnn:v9.ownBlock≠some pd:=fun e=>by
  rcases hown pd e with q|q
  ·exact hap q
  ·omega
 have hnew:∀ g,w.heap.size≤g→g<W2.heap.size→W3.heap[g]?=W2.heap[g]?:=fun g h1 h2=>by
  rw[eh,setCell_else _ _ _ _ _ (by omega),hh.old (by omega) (fun e=>by have:=hvl g e;omega)]
  exact hWd g h2
 have hpw:w9.heap[pd]?=w.heap[pd]?:=(hh.old (by omega) hap).trans (hold pd hpd)
 have hsz:w.heap.size≤W3.heap.size:=by
  rw[eh,World.size_setCell]
  rcases hh with ⟨_,_,_,h3,_⟩|⟨_,h3,_⟩ <;> omega
 obtain ⟨x,c6⟩:=c6
 have hcell:∀ q,w9.cell? ⟨pd,q,none⟩=w.cell? ⟨pd,q,none⟩:=fun q=>by simp only[World.cell?,hpw]
 exact {
  wide:=hv9.same fun g e=>by rw[eh,setCell_else _ _ _ _ _ (by rintro rfl;exact hnn e)]
  refs:=j.lr.same fun g e=>hnew g (j.ro g e) (j.lr.lt g e)
  raws:=j.ls.same fun g e=>hnew g (j.so g e) (j.ls.lt g e)
  own:=fun g e=>(hown g e).imp id (fun q=>by omega)
  ro:=j.ro
  so:=j.so
  vr:=fun g e e'=>by
   have:=j.lr.lt g e'
   have:=j.ro g e'
   rcases hown g e with q|q
   ·have:=hvl g q;omega
   ·omega
  vs:=fun g e e'=>by
   have:=j.ls.lt g e'
   have:=j.so g e'
   rcases hown g e with q|q
   ·have:=hvl g q;omega
   ·omega
  rs:=j.rs
  c6:=by
   have:=World.cell?_setCell_same' w9 ⟨pd,6,none⟩ v9 (by rw[hcell,c6];rfl)
   rw[← this];simp only[World.cell?,eh]
  cc:=fun q hq=>by
   have h1:W3.cell? ⟨pd,q,none⟩=(w9.setCell ⟨pd,6,none⟩ v9).cell? ⟨pd,q,none⟩:=by simp only[World.cell?,eh]
   rw[h1,World.cell?_setCell_other _ _ _ _ (by simp),hcell]
  ff:=fun q=>by
   have h1:W3.frozen? ⟨pd,q,none⟩=(w9.setCell ⟨pd,6,none⟩ v9).frozen? ⟨pd,q,none⟩:=by simp only[World.frozen?,eh]
   rw[h1,World.frozen?_setCell]
   simp only[World.frozen?,hpw]
  os:=e1.trans (q9.1.trans (hst.os.trans (hal.os.trans j.be.os)))
  tape:=e2.trans (q9.2.1.trans (hst.tape.trans (hal.tape.trans j.be.tape)))
  output:=e3.trans (q9.2.2.trans (hst.output.trans (hal.output.trans j.be.output)))
  size:=hsz
  blk:=fun g hg hgp hgv=>by
   rw[eh,setCell_else _ _ _ _ _ hgp,hh.old (by omega) hgv,hold g hg] }
theorem join_walk {w:World}{pd:Nat} (k r s:Nat) (bg:Bool) (at0:Nat) (hr:r≤1048576) (hs:s≤1048576) {aO:Option Addr}{n cO:Nat} (c6:w.cell? ⟨pd,6,none⟩=some (.slice aO n cO)) (z6:w.frozen? ⟨pd,6,none⟩=false) (hn:n≤1000000) {f:Nat→Value} (hW:Wide w 168 6 (.slice aO n cO) n f) (hap:(Value.slice aO n cO).ownBlock≠some pd) {x:Nat}{R:World→Prop}
  (HR:∀ W3 v9 r9 s9,MadeO pd k r s n bg at0 f (.slice aO n cO) w W3 v9 r9 s9→Calls Tryz.prog 116 #[.pointer (some ⟨pd,0,none⟩),.int .i64 (n:Nat)] W3 fun e w'=>e=.returned (.int .u64 (x:Nat))∧R w'):
  Calls Tryz.prog 101 #[.pointer (some ⟨pd,0,none⟩),.int .i64 (k:Nat),.int .i64 (r:Nat),.int .i64 (s:Nat),.bool bg,.int .i64 (at0:Nat)] w fun e w'=>e=.returned (.int .u64 (x:Nat))∧R w':=by
 have mk1:=fun w'=>run_make_row' (P:=Tryz.prog) 65 3 (.int .i64 0) 8 Tryz.underlying65 Tryz.info3 rfl .i64 .i64 r (by omega) (by omega) w'
 have mk2:=fun w'=>run_make_row' (P:=Tryz.prog) 36 41 (.int .u64 0) 8 Tryz.underlying36 Tryz.info41 rfl .i64 .i64 s (by omega) (by omega) w'
 obtain ⟨i0,hi,hy0,hy1,hy2⟩:=info_parts Tryz.info168
 have HRR:=hide HR
 have HWW:=hide hW
 have HAP:=hide hap
 have HC6:=hide c6
 have HZ6:=hide z6
 clear HR hW hap c6 z6
 go_enter Tryz.func101,Tryz.ntmps101
 go_wp2_with fail
 go_cut [13] (fun bv wx=>∃ (gb:Nat) (r9 s9:Value),bv=.pointer (some ⟨gb,0,none⟩)∧Jn1 w wx gb r9 s9 k r s bg at0)
 case first=>
  refine till_begin (fun _=>True) 9 (by kernel_rfl) ?_
  refine AnyTill.take 0 (v:=?_) rfl (by kernel_rfl) (by kernel_rfl) (by kernel_rfl) (by kernel_rfl) (fun _ _ _ h=>h) ?_ rfl trivial ?_
  rotate_left
  ·intro w hSw
   go_simp
   all_goals with_reducible rfl
  try simp only[Act.put,List.getElem_toArray,List.getElem_cons_succ,List.getElem_cons_zero,List.setIfInBounds_toArray,List.set_cons_zero,List.set_cons_succ]
  refine AnyTill.take 1 (v:=?_) rfl (by kernel_rfl) (by kernel_rfl) (by kernel_rfl) (by kernel_rfl) (fun _ _ _ h=>h) ?_ rfl trivial ?_
  rotate_left
  ·intro w hSw
   go_simp
   all_goals with_reducible rfl
  try simp only[Act.put,List.getElem_toArray,List.getElem_cons_succ,List.getElem_cons_zero,List.setIfInBounds_toArray,List.set_cons_zero,List.set_cons_succ]
  refine AnyTill.take 3 (v:=?_) rfl (by kernel_rfl) (by kernel_rfl) (by kernel_rfl) (by kernel_rfl) (fun _ _ _ h=>h) ?_ rfl trivial ?_
  rotate_left
  ·intro w hSw
   go_simp
   all_goals with_reducible rfl
  try simp only[Act.put,List.getElem_toArray,List.getElem_cons_succ,List.getElem_cons_zero,List.setIfInBounds_toArray,List.set_cons_zero,List.set_cons_succ]
  refine AnyTill.take 5 (v:=?_) rfl (by kernel_rfl) (by kernel_rfl) (by kernel_rfl) (by kernel_rfl) (fun _ _ _ h=>h) ?_ rfl trivial ?_
  rotate_left
  ·intro w hSw
   go_simp
   all_goals with_reducible rfl
  try simp only[Act.put,List.getElem_toArray,List.getElem_cons_succ,List.getElem_cons_zero,List.setIfInBounds_toArray,List.set_cons_zero,List.set_cons_succ]
  refine AnyTill.take 6 (v:=?_) rfl (by kernel_rfl) (by kernel_rfl) (by kernel_rfl) (by kernel_rfl) (fun _ _ _ h=>h) ?_ rfl trivial ?_
  rotate_left
  ·intro w hSw
   go_simp
   all_goals with_reducible rfl
  try simp only[Act.put,List.getElem_toArray,List.getElem_cons_succ,List.getElem_cons_zero,List.setIfInBounds_toArray,List.set_cons_zero,List.set_cons_succ]
  refine AnyTill.three (i:=2) (j:=4) (l:=8) (by kernel_rfl) ?_ ?_ ?_
  ·refine AnyTill.op rfl rfl fun K hK=>?_
   go_simp
   refine hK _ _ (fun _=>trivial) ?_
   clear hK K
   try simp only[Act.put,List.getElem_toArray,List.getElem_cons_succ,List.getElem_cons_zero,List.setIfInBounds_toArray,List.set_cons_zero,List.set_cons_succ]
   refine AnyTill.two (i:=4) (j:=8) (by kernel_rfl) ?_ ?_
   ·refine AnyTill.op rfl rfl fun K hK=>?_
    go_simp
    refine hK _ _ (fun _=>trivial) ?_
    clear hK K
    try simp only[Act.put,List.getElem_toArray,List.getElem_cons_succ,List.getElem_cons_zero,List.setIfInBounds_toArray,List.set_cons_zero,List.set_cons_succ]
    refine AnyTill.take 7 (v:=?_) rfl (by kernel_rfl) (by kernel_rfl) (by kernel_rfl) (by kernel_rfl) (fun _ _ _ h=>h) ?_ rfl trivial ?_
    rotate_left
    ·intro w hSw
     go_simp
     all_goals with_reducible rfl
    try simp only[Act.put,List.getElem_toArray,List.getElem_cons_succ,List.getElem_cons_zero,List.setIfInBounds_toArray,List.set_cons_zero,List.set_cons_succ]
    refine AnyTill.one (i:=8) (by kernel_rfl) ?_
    refine AnyTill.op rfl rfl fun K hK=>?_
    go_simp
    refine hK _ _ (fun _=>trivial) ?_
    clear hK K
    try simp only[Act.put,List.getElem_toArray,List.getElem_cons_succ,List.getElem_cons_zero,List.setIfInBounds_toArray,List.set_cons_zero,List.set_cons_succ]
    obtain ⟨t1,t2,t3⟩:=three_allocs w (.cells (madeCells #[.int .i64 0] r) 3) (.cells (madeCells #[.int .u64 0] s) 41) (.cells #[.int .i64 0,.slice none 0 0,.slice none 0 0,.bool false,.bool false,.int .i64 0] 168)
    have be:Below w.heap.size w (((w.alloc (.cells (madeCells #[.int .i64 0] r) 3)).alloc (.cells (madeCells #[.int .u64 0] s) 41)).alloc (.cells #[.int .i64 0,.slice none 0 0,.slice none 0 0,.bool false,.bool false,.int .i64 0] 168)).drew:=((((Below.refl _ _).alloc (Nat.le_refl _) _).alloc (by simp) _).alloc (by simp;omega) _).drew
    have lr:Line (((w.alloc (.cells (madeCells #[.int .i64 0] r) 3)).alloc (.cells (madeCells #[.int .u64 0] s) 41)).alloc (.cells #[.int .i64 0,.slice none 0 0,.slice none 0 0,.bool false,.bool false,.int .i64 0] 168)).drew 3 (.slice (some ⟨w.heap.size,0,none⟩) r r) r (fun _=>.int .i64 0):=made_line t1 hr
    have ls:Line (((w.alloc (.cells (madeCells #[.int .i64 0] r) 3)).alloc (.cells (madeCells #[.int .u64 0] s) 41)).alloc (.cells #[.int .i64 0,.slice none 0 0,.slice none 0 0,.bool false,.bool false,.int .i64 0] 168)).drew 41 (.slice (some ⟨(w.heap.size+1),0,none⟩) s s) s (fun _=>.int .u64 0):=made_line t2 hs
    have hb:(((w.alloc (.cells (madeCells #[.int .i64 0] r) 3)).alloc (.cells (madeCells #[.int .u64 0] s) 41)).alloc (.cells #[.int .i64 0,.slice none 0 0,.slice none 0 0,.bool false,.bool false,.int .i64 0] 168)).drew.heap[(w.heap.size+1+1)]?=some (.cells #[.int .i64 0,.slice none 0 0,.slice none 0 0,.bool false,.bool false,.int .i64 0] 168):=t3
    have o0:(((w.alloc (.cells (madeCells #[.int .i64 0] r) 3)).alloc (.cells (madeCells #[.int .u64 0] s) 41)).alloc (.cells #[.int .i64 0,.slice none 0 0,.slice none 0 0,.bool false,.bool false,.int .i64 0] 168)).drew.cell? ⟨(w.heap.size+1+1),0,none⟩=some (.int .i64 0):=by simp only[World.cell?,hb];rfl
    have z0:(((w.alloc (.cells (madeCells #[.int .i64 0] r) 3)).alloc (.cells (madeCells #[.int .u64 0] s) 41)).alloc (.cells #[.int .i64 0,.slice none 0 0,.slice none 0 0,.bool false,.bool false,.int .i64 0] 168)).drew.frozen? ⟨(w.heap.size+1+1),0,none⟩=false:=by simp only[World.frozen?,hb];simp
    have o1:(((w.alloc (.cells (madeCells #[.int .i64 0] r) 3)).alloc (.cells (madeCells #[.int .u64 0] s) 41)).alloc (.cells #[.int .i64 0,.slice none 0 0,.slice none 0 0,.bool false,.bool false,.int .i64 0] 168)).drew.cell? ⟨(w.heap.size+1+1),1,none⟩=some (.slice none 0 0):=by simp only[World.cell?,hb];rfl
    have z1:(((w.alloc (.cells (madeCells #[.int .i64 0] r) 3)).alloc (.cells (madeCells #[.int .u64 0] s) 41)).alloc (.cells #[.int .i64 0,.slice none 0 0,.slice none 0 0,.bool false,.bool false,.int .i64 0] 168)).drew.frozen? ⟨(w.heap.size+1+1),1,none⟩=false:=by simp only[World.frozen?,hb];simp
    have o2:(((w.alloc (.cells (madeCells #[.int .i64 0] r) 3)).alloc (.cells (madeCells #[.int .u64 0] s) 41)).alloc (.cells #[.int .i64 0,.slice none 0 0,.slice none 0 0,.bool false,.bool false,.int .i64 0] 168)).drew.cell? ⟨(w.heap.size+1+1),2,none⟩=some (.slice none 0 0):=by simp only[World.cell?,hb];rfl
    have z2:(((w.alloc (.cells (madeCells #[.int .i64 0] r) 3)).alloc (.cells (madeCells #[.int .u64 0] s) 41)).alloc (.cells #[.int .i64 0,.slice none 0 0,.slice none 0 0,.bool false,.bool false,.int .i64 0] 168)).drew.frozen? ⟨(w.heap.size+1+1),2,none⟩=false:=by simp only[World.frozen?,hb];simp
    have o3:(((w.alloc (.cells (madeCells #[.int .i64 0] r) 3)).alloc (.cells (madeCells #[.int .u64 0] s) 41)).alloc (.cells #[.int .i64 0,.slice none 0 0,.slice none 0 0,.bool false,.bool false,.int .i64 0] 168)).drew.cell? ⟨(w.heap.size+1+1),3,none⟩=some (.bool false):=by simp only[World.cell?,hb];rfl
    have z3:(((w.alloc (.cells (madeCells #[.int .i64 0] r) 3)).alloc (.cells (madeCells #[.int .u64 0] s) 41)).alloc (.cells #[.int .i64 0,.slice none 0 0,.slice none 0 0,.bool false,.bool false,.int .i64 0] 168)).drew.frozen? ⟨(w.heap.size+1+1),3,none⟩=false:=by simp only[World.frozen?,hb];simp
    have o4:(((w.alloc (.cells (madeCells #[.int .i64 0] r) 3)).alloc (.cells (madeCells #[.int .u64 0] s) 41)).alloc (.cells #[.int .i64 0,.slice none 0 0,.slice none 0 0,.bool false,.bool false,.int .i64 0] 168)).drew.cell? ⟨(w.heap.size+1+1),4,none⟩=some (.bool false):=by simp only[World.cell?,hb];rfl
    have z4:(((w.alloc (.cells (madeCells #[.int .i64 0] r) 3)).alloc (.cells (madeCells #[.int .u64 0] s) 41)).alloc (.cells #[.int .i64 0,.slice none 0 0,.slice none 0 0,.bool false,.bool false,.int .i64 0] 168)).drew.frozen? ⟨(w.heap.size+1+1),4,none⟩=false:=by simp only[World.frozen?,hb];simp
    have o5:(((w.alloc (.cells (madeCells #[.int .i64 0] r) 3)).alloc (.cells (madeCells #[.int .u64 0] s) 41)).alloc (.cells #[.int .i64 0,.slice none 0 0,.slice none 0 0,.bool false,.bool false,.int .i64 0] 168)).drew.cell? ⟨(w.heap.size+1+1),5,none⟩=some (.int .i64 0):=by simp only[World.cell?,hb];rfl
    have z5:(((w.alloc (.cells (madeCells #[.int .i64 0] r) 3)).alloc (.cells (madeCells #[.int .u64 0] s) 41)).alloc (.cells #[.int .i64 0,.slice none 0 0,.slice none 0 0,.bool false,.bool false,.int .i64 0] 168)).drew.frozen? ⟨(w.heap.size+1+1),5,none⟩=false:=by simp only[World.frozen?,hb];simp
    generalize hA:World.drew (World.alloc (World.alloc (World.alloc w _) _) _)=a3 at *
    clear hA t1 t2 t3
    refine AnyTill.one (i:=9) (by kernel_rfl) ?_
    refine AnyTill.op rfl rfl fun K hK=>?_
    go_simp
    refine hK _ _ (fun h=>absurd rfl h) ?_
    clear hK K
    try simp only[Act.put,List.getElem_toArray,List.getElem_cons_succ,List.getElem_cons_zero,List.setIfInBounds_toArray,List.set_cons_zero,List.set_cons_succ]
    refine AnyTill.done (by kernel_rfl) ?_
    go_wp2_with fail
    go_meet
    case rel=>exact ⟨_,_,_,rfl,jn_fin be lr ls hb (by omega) (by omega) (by omega) (by omega) (by omega) (by omega)⟩
   ·refine AnyTill.op rfl rfl fun K hK=>?_
    go_simp
    refine hK _ _ (fun _=>trivial) ?_
    clear hK K
    try simp only[Act.put,List.getElem_toArray,List.getElem_cons_succ,List.getElem_cons_zero,List.setIfInBounds_toArray,List.set_cons_zero,List.set_cons_succ]
    refine AnyTill.one (i:=4) (by kernel_rfl) ?_
    refine AnyTill.op rfl rfl fun K hK=>?_
    go_simp
    refine hK _ _ (fun _=>trivial) ?_
    clear hK K
    try simp only[Act.put,List.getElem_toArray,List.getElem_cons_succ,List.getElem_cons_zero,List.setIfInBounds_toArray,List.set_cons_zero,List.set_cons_succ]
    refine AnyTill.take 7 (v:=?_) rfl (by kernel_rfl) (by kernel_rfl) (by kernel_rfl) (by kernel_rfl) (fun _ _ _ h=>h) ?_ rfl trivial ?_
    rotate_left
    ·intro w hSw
     go_simp
     all_goals with_reducible rfl
    try simp only[Act.put,List.getElem_toArray,List.getElem_cons_succ,List.getElem_cons_zero,List.setIfInBounds_toArray,List.set_cons_zero,List.set_cons_succ]
    obtain ⟨t1,t2,t3⟩:=three_allocs w (.cells (madeCells #[.int .i64 0] r) 3) (.cells #[.int .i64 0,.slice none 0 0,.slice none 0 0,.bool false,.bool false,.int .i64 0] 168) (.cells (madeCells #[.int .u64 0] s) 41)
    have be:Below w.heap.size w (((w.alloc (.cells (madeCells #[.int .i64 0] r) 3)).alloc (.cells #[.int .i64 0,.slice none 0 0,.slice none 0 0,.bool false,.bool false,.int .i64 0] 168)).alloc (.cells (madeCells #[.int .u64 0] s) 41)).drew:=((((Below.refl _ _).alloc (Nat.le_refl _) _).alloc (by simp) _).alloc (by simp;omega) _).drew
    have lr:Line (((w.alloc (.cells (madeCells #[.int .i64 0] r) 3)).alloc (.cells #[.int .i64 0,.slice none 0 0,.slice none 0 0,.bool false,.bool false,.int .i64 0] 168)).alloc (.cells (madeCells #[.int .u64 0] s) 41)).drew 3 (.slice (some ⟨w.heap.size,0,none⟩) r r) r (fun _=>.int .i64 0):=made_line t1 hr
    have ls:Line (((w.alloc (.cells (madeCells #[.int .i64 0] r) 3)).alloc (.cells #[.int .i64 0,.slice none 0 0,.slice none 0 0,.bool false,.bool false,.int .i64 0] 168)).alloc (.cells (madeCells #[.int .u64 0] s) 41)).drew 41 (.slice (some ⟨(w.heap.size+1+1),0,none⟩) s s) s (fun _=>.int .u64 0):=made_line t3 hs
    have hb:(((w.alloc (.cells (madeCells #[.int .i64 0] r) 3)).alloc (.cells #[.int .i64 0,.slice none 0 0,.slice none 0 0,.bool false,.bool false,.int .i64 0] 168)).alloc (.cells (madeCells #[.int .u64 0] s) 41)).drew.heap[(w.heap.size+1)]?=some (.cells #[.int .i64 0,.slice none 0 0,.slice none 0 0,.bool false,.bool false,.int .i64 0] 168):=t2
    have o0:(((w.alloc (.cells (madeCells #[.int .i64 0] r) 3)).alloc (.cells #[.int .i64 0,.slice none 0 0,.slice none 0 0,.bool false,.bool false,.int .i64 0] 168)).alloc (.cells (madeCells #[.int .u64 0] s) 41)).drew.cell? ⟨(w.heap.size+1),0,none⟩=some (.int .i64 0):=by simp only[World.cell?,hb];rfl
    have z0:(((w.alloc (.cells (madeCells #[.int .i64 0] r) 3)).alloc (.cells #[.int .i64 0,.slice none 0 0,.slice none 0 0,.bool false,.bool false,.int .i64 0] 168)).alloc (.cells (madeCells #[.int .u64 0] s) 41)).drew.frozen? ⟨(w.heap.size+1),0,none⟩=false:=by simp only[World.frozen?,hb];simp
    have o1:(((w.alloc (.cells (madeCells #[.int .i64 0] r) 3)).alloc (.cells #[.int .i64 0,.slice none 0 0,.slice none 0 0,.bool false,.bool false,.int .i64 0] 168)).alloc (.cells (madeCells #[.int .u64 0] s) 41)).drew.cell? ⟨(w.heap.size+1),1,none⟩=some (.slice none 0 0):=by simp only[World.cell?,hb];rfl
    have z1:(((w.alloc (.cells (madeCells #[.int .i64 0] r) 3)).alloc (.cells #[.int .i64 0,.slice none 0 0,.slice none 0 0,.bool false,.bool false,.int .i64 0] 168)).alloc (.cells (madeCells #[.int .u64 0] s) 41)).drew.frozen? ⟨(w.heap.size+1),1,none⟩=false:=by simp only[World.frozen?,hb];simp
    have o2:(((w.alloc (.cells (madeCells #[.int .i64 0] r) 3)).alloc (.cells #[.int .i64 0,.slice none 0 0,.slice none 0 0,.bool false,.bool false,.int .i64 0] 168)).alloc (.cells (madeCells #[.int .u64 0] s) 41)).drew.cell? ⟨(w.heap.size+1),2,none⟩=some (.slice none 0 0):=by simp only[World.cell?,hb];rfl
    have z2:(((w.alloc (.cells (madeCells #[.int .i64 0] r) 3)).alloc (.cells #[.int .i64 0,.slice none 0 0,.slice none 0 0,.bool false,.bool false,.int .i64 0] 168)).alloc (.cells (madeCells #[.int .u64 0] s) 41)).drew.frozen? ⟨(w.heap.size+1),2,none⟩=false:=by simp only[World.frozen?,hb];simp
    have o3:(((w.alloc (.cells (madeCells #[.int .i64 0] r) 3)).alloc (.cells #[.int .i64 0,.slice none 0 0,.slice none 0 0,.bool false,.bool false,.int .i64 0] 168)).alloc (.cells (madeCells #[.int .u64 0] s) 41)).drew.cell? ⟨(w.heap.size+1),3,none⟩=some (.bool false):=by simp only[World.cell?,hb];rfl
    have z3:(((w.alloc (.cells (madeCells #[.int .i64 0] r) 3)).alloc (.cells #[.int .i64 0,.slice none 0 0,.slice none 0 0,.bool false,.bool false,.int .i64 0] 168)).alloc (.cells (madeCells #[.int .u64 0] s) 41)).drew.frozen? ⟨(w.heap.size+1),3,none⟩=false:=by simp only[World.frozen?,hb];simp
    have o4:(((w.alloc (.cells (madeCells #[.int .i64 0] r) 3)).alloc (.cells #[.int .i64 0,.slice none 0 0,.slice none 0 0,.bool false,.bool false,.int .i64 0] 168)).alloc (.cells (madeCells #[.int .u64 0] s) 41)).drew.cell? ⟨(w.heap.size+1),4,none⟩=some (.bool false):=by simp only[World.cell?,hb];rfl
    have z4:(((w.alloc (.cells (madeCells #[.int .i64 0] r) 3)).alloc (.cells #[.int .i64 0,.slice none 0 0,.slice none 0 0,.bool false,.bool false,.int .i64 0] 168)).alloc (.cells (madeCells #[.int .u64 0] s) 41)).drew.frozen? ⟨(w.heap.size+1),4,none⟩=false:=by simp only[World.frozen?,hb];simp
    have o5:(((w.alloc (.cells (madeCells #[.int .i64 0] r) 3)).alloc (.cells #[.int .i64 0,.slice none 0 0,.slice none 0 0,.bool false,.bool false,.int .i64 0] 168)).alloc (.cells (madeCells #[.int .u64 0] s) 41)).drew.cell? ⟨(w.heap.size+1),5,none⟩=some (.int .i64 0):=by simp only[World.cell?,hb];rfl
    have z5:(((w.alloc (.cells (madeCells #[.int .i64 0] r) 3)).alloc (.cells #[.int .i64 0,.slice none 0 0,.slice none 0 0,.bool false,.bool false,.int .i64 0] 168)).alloc (.cells (madeCells #[.int .u64 0] s) 41)).drew.frozen? ⟨(w.heap.size+1),5,none⟩=false:=by simp only[World.frozen?,hb];simp
    generalize hA:World.drew (World.alloc (World.alloc (World.alloc w _) _) _)=a3 at *
    clear hA t1 t2 t3
    refine AnyTill.one (i:=9) (by kernel_rfl) ?_
    refine AnyTill.op rfl rfl fun K hK=>?_
    go_simp
    refine hK _ _ (fun h=>absurd rfl h) ?_
    clear hK K
    try simp only[Act.put,List.getElem_toArray,List.getElem_cons_succ,List.getElem_cons_zero,List.setIfInBounds_toArray,List.set_cons_zero,List.set_cons_succ]
    refine AnyTill.done (by kernel_rfl) ?_
    go_wp2_with fail
    go_meet
    case rel=>exact ⟨_,_,_,rfl,jn_fin be lr ls hb (by omega) (by omega) (by omega) (by omega) (by omega) (by omega)⟩
  ·refine AnyTill.op rfl rfl fun K hK=>?_
   go_simp
   refine hK _ _ (fun _=>trivial) ?_
   clear hK K
   try simp only[Act.put,List.getElem_toArray,List.getElem_cons_succ,List.getElem_cons_zero,List.setIfInBounds_toArray,List.set_cons_zero,List.set_cons_succ]
   refine AnyTill.two (i:=2) (j:=8) (by kernel_rfl) ?_ ?_
   ·refine AnyTill.op rfl rfl fun K hK=>?_
    go_simp
    refine hK _ _ (fun _=>trivial) ?_
    clear hK K
    try simp only[Act.put,List.getElem_toArray,List.getElem_cons_succ,List.getElem_cons_zero,List.setIfInBounds_toArray,List.set_cons_zero,List.set_cons_succ]
    refine AnyTill.take 7 (v:=?_) rfl (by kernel_rfl) (by kernel_rfl) (by kernel_rfl) (by kernel_rfl) (fun _ _ _ h=>h) ?_ rfl trivial ?_
    rotate_left
    ·intro w hSw
     go_simp
     all_goals with_reducible rfl
    try simp only[Act.put,List.getElem_toArray,List.getElem_cons_succ,List.getElem_cons_zero,List.setIfInBounds_toArray,List.set_cons_zero,List.set_cons_succ]
    refine AnyTill.one (i:=8) (by kernel_rfl) ?_
    refine AnyTill.op rfl rfl fun K hK=>?_
    go_simp
    refine hK _ _ (fun _=>trivial) ?_
    clear hK K
    try simp only[Act.put,List.getElem_toArray,List.getElem_cons_succ,List.getElem_cons_zero,List.setIfInBounds_toArray,List.set_cons_zero,List.set_cons_succ]
    obtain ⟨t1,t2,t3⟩:=three_allocs w (.cells (madeCells #[.int .u64 0] s) 41) (.cells (madeCells #[.int .i64 0] r) 3) (.cells #[.int .i64 0,.slice none 0 0,.slice none 0 0,.bool false,.bool false,.int .i64 0] 168)
    have be:Below w.heap.size w (((w.alloc (.cells (madeCells #[.int .u64 0] s) 41)).alloc (.cells (madeCells #[.int .i64 0] r) 3)).alloc (.cells #[.int .i64 0,.slice none 0 0,.slice none 0 0,.bool false,.bool false,.int .i64 0] 168)).drew:=((((Below.refl _ _).alloc (Nat.le_refl _) _).alloc (by simp) _).alloc (by simp;omega) _).drew
    have lr:Line (((w.alloc (.cells (madeCells #[.int .u64 0] s) 41)).alloc (.cells (madeCells #[.int .i64 0] r) 3)).alloc (.cells #[.int .i64 0,.slice none 0 0,.slice none 0 0,.bool false,.bool false,.int .i64 0] 168)).drew 3 (.slice (some ⟨(w.heap.size+1),0,none⟩) r r) r (fun _=>.int .i64 0):=made_line t2 hr
    have ls:Line (((w.alloc (.cells (madeCells #[.int .u64 0] s) 41)).alloc (.cells (madeCells #[.int .i64 0] r) 3)).alloc (.cells #[.int .i64 0,.slice none 0 0,.slice none 0 0,.bool false,.bool false,.int .i64 0] 168)).drew 41 (.slice (some ⟨w.heap.size,0,none⟩) s s) s (fun _=>.int .u64 0):=made_line t1 hs
    have hb:(((w.alloc (.cells (madeCells #[.int .u64 0] s) 41)).alloc (.cells (madeCells #[.int .i64 0] r) 3)).alloc (.cells #[.int .i64 0,.slice none 0 0,.slice none 0 0,.bool false,.bool false,.int .i64 0] 168)).drew.heap[(w.heap.size+1+1)]?=some (.cells #[.int .i64 0,.slice none 0 0,.slice none 0 0,.bool false,.bool false,.int .i64 0] 168):=t3
    have o0:(((w.alloc (.cells (madeCells #[.int .u64 0] s) 41)).alloc (.cells (madeCells #[.int .i64 0] r) 3)).alloc (.cells #[.int .i64 0,.slice none 0 0,.slice none 0 0,.bool false,.bool false,.int .i64 0] 168)).drew.cell? ⟨(w.heap.size+1+1),0,none⟩=some (.int .i64 0):=by simp only[World.cell?,hb];rfl
    have z0:(((w.alloc (.cells (madeCells #[.int .u64 0] s) 41)).alloc (.cells (madeCells #[.int .i64 0] r) 3)).alloc (.cells #[.int .i64 0,.slice none 0 0,.slice none 0 0,.bool false,.bool false,.int .i64 0] 168)).drew.frozen? ⟨(w.heap.size+1+1),0,none⟩=false:=by simp only[World.frozen?,hb];simp
    have o1:(((w.alloc (.cells (madeCells #[.int .u64 0] s) 41)).alloc (.cells (madeCells #[.int .i64 0] r) 3)).alloc (.cells #[.int .i64 0,.slice none 0 0,.slice none 0 0,.bool false,.bool false,.int .i64 0] 168)).drew.cell? ⟨(w.heap.size+1+1),1,none⟩=some (.slice none 0 0):=by simp only[World.cell?,hb];rfl
    have z1:(((w.alloc (.cells (madeCells #[.int .u64 0] s) 41)).alloc (.cells (madeCells #[.int .i64 0] r) 3)).alloc (.cells #[.int .i64 0,.slice none 0 0,.slice none 0 0,.bool false,.bool false,.int .i64 0] 168)).drew.frozen? ⟨(w.heap.size+1+1),1,none⟩=false:=by simp only[World.frozen?,hb];simp
    have o2:(((w.alloc (.cells (madeCells #[.int .u64 0] s) 41)).alloc (.cells (madeCells #[.int .i64 0] r) 3)).alloc (.cells #[.int .i64 0,.slice none 0 0,.slice none 0 0,.bool false,.bool false,.int .i64 0] 168)).drew.cell? ⟨(w.heap.size+1+1),2,none⟩=some (.slice none 0 0):=by simp only[World.cell?,hb];rfl
    have z2:(((w.alloc (.cells (madeCells #[.int .u64 0] s) 41)).alloc (.cells (madeCells #[.int .i64 0] r) 3)).alloc (.cells #[.int .i64 0,.slice none 0 0,.slice none 0 0,.bool false,.bool false,.int .i64 0] 168)).drew.frozen? ⟨(w.heap.size+1+1),2,none⟩=false:=by simp only[World.frozen?,hb];simp
    have o3:(((w.alloc (.cells (madeCells #[.int .u64 0] s) 41)).alloc (.cells (madeCells #[.int .i64 0] r) 3)).alloc (.cells #[.int .i64 0,.slice none 0 0,.slice none 0 0,.bool false,.bool false,.int .i64 0] 168)).drew.cell? ⟨(w.heap.size+1+1),3,none⟩=some (.bool false):=by simp only[World.cell?,hb];rfl
    have z3:(((w.alloc (.cells (madeCells #[.int .u64 0] s) 41)).alloc (.cells (madeCells #[.int .i64 0] r) 3)).alloc (.cells #[.int .i64 0,.slice none 0 0,.slice none 0 0,.bool false,.bool false,.int .i64 0] 168)).drew.frozen? ⟨(w.heap.size+1+1),3,none⟩=false:=by simp only[World.frozen?,hb];simp
    have o4:(((w.alloc (.cells (madeCells #[.int .u64 0] s) 41)).alloc (.cells (madeCells #[.int .i64 0] r) 3)).alloc (.cells #[.int .i64 0,.slice none 0 0,.slice none 0 0,.bool false,.bool false,.int .i64 0] 168)).drew.cell? ⟨(w.heap.size+1+1),4,none⟩=some (.bool false):=by simp only[World.cell?,hb];rfl
    have z4:(((w.alloc (.cells (madeCells #[.int .u64 0] s) 41)).alloc (.cells (madeCells #[.int .i64 0] r) 3)).alloc (.cells #[.int .i64 0,.slice none 0 0,.slice none 0 0,.bool false,.bool false,.int .i64 0] 168)).drew.frozen? ⟨(w.heap.size+1+1),4,none⟩=false:=by simp only[World.frozen?,hb];simp
    have o5:(((w.alloc (.cells (madeCells #[.int .u64 0] s) 41)).alloc (.cells (madeCells #[.int .i64 0] r) 3)).alloc (.cells #[.int .i64 0,.slice none 0 0,.slice none 0 0,.bool false,.bool false,.int .i64 0] 168)).drew.cell? ⟨(w.heap.size+1+1),5,none⟩=some (.int .i64 0):=by simp only[World.cell?,hb];rfl
    have z5:(((w.alloc (.cells (madeCells #[.int .u64 0] s) 41)).alloc (.cells (madeCells #[.int .i64 0] r) 3)).alloc (.cells #[.int .i64 0,.slice none 0 0,.slice none 0 0,.bool false,.bool false,.int .i64 0] 168)).drew.frozen? ⟨(w.heap.size+1+1),5,none⟩=false:=by simp only[World.frozen?,hb];simp
    generalize hA:World.drew (World.alloc (World.alloc (World.alloc w _) _) _)=a3 at *
    clear hA t1 t2 t3
    refine AnyTill.one (i:=9) (by kernel_rfl) ?_
    refine AnyTill.op rfl rfl fun K hK=>?_
    go_simp
    refine hK _ _ (fun h=>absurd rfl h) ?_
    clear hK K
    try simp only[Act.put,List.getElem_toArray,List.getElem_cons_succ,List.getElem_cons_zero,List.setIfInBounds_toArray,List.set_cons_zero,List.set_cons_succ]
    refine AnyTill.done (by kernel_rfl) ?_
    go_wp2_with fail
    go_meet
    case rel=>exact ⟨_,_,_,rfl,jn_fin be lr ls hb (by omega) (by omega) (by omega) (by omega) (by omega) (by omega)⟩
   ·refine AnyTill.op rfl rfl fun K hK=>?_
    go_simp
    refine hK _ _ (fun _=>trivial) ?_
    clear hK K
    try simp only[Act.put,List.getElem_toArray,List.getElem_cons_succ,List.getElem_cons_zero,List.setIfInBounds_toArray,List.set_cons_zero,List.set_cons_succ]
    refine AnyTill.one (i:=2) (by kernel_rfl) ?_
    refine AnyTill.op rfl rfl fun K hK=>?_
    go_simp
    refine hK _ _ (fun _=>trivial) ?_
    clear hK K
    try simp only[Act.put,List.getElem_toArray,List.getElem_cons_succ,List.getElem_cons_zero,List.setIfInBounds_toArray,List.set_cons_zero,List.set_cons_succ]
    refine AnyTill.take 7 (v:=?_) rfl (by kernel_rfl) (by kernel_rfl) (by kernel_rfl) (by kernel_rfl) (fun _ _ _ h=>h) ?_ rfl trivial ?_
    rotate_left
    ·intro w hSw
     go_simp
     all_goals with_reducible rfl
    try simp only[Act.put,List.getElem_toArray,List.getElem_cons_succ,List.getElem_cons_zero,List.setIfInBounds_toArray,List.set_cons_zero,List.set_cons_succ]
    obtain ⟨t1,t2,t3⟩:=three_allocs w (.cells (madeCells #[.int .u64 0] s) 41) (.cells #[.int .i64 0,.slice none 0 0,.slice none 0 0,.bool false,.bool false,.int .i64 0] 168) (.cells (madeCells #[.int .i64 0] r) 3)
    have be:Below w.heap.size w (((w.alloc (.cells (madeCells #[.int .u64 0] s) 41)).alloc (.cells #[.int .i64 0,.slice none 0 0,.slice none 0 0,.bool false,.bool false,.int .i64 0] 168)).alloc (.cells (madeCells #[.int .i64 0] r) 3)).drew:=((((Below.refl _ _).alloc (Nat.le_refl _) _).alloc (by simp) _).alloc (by simp;omega) _).drew
    have lr:Line (((w.alloc (.cells (madeCells #[.int .u64 0] s) 41)).alloc (.cells #[.int .i64 0,.slice none 0 0,.slice none 0 0,.bool false,.bool false,.int .i64 0] 168)).alloc (.cells (madeCells #[.int .i64 0] r) 3)).drew 3 (.slice (some ⟨(w.heap.size+1+1),0,none⟩) r r) r (fun _=>.int .i64 0):=made_line t3 hr
    have ls:Line (((w.alloc (.cells (madeCells #[.int .u64 0] s) 41)).alloc (.cells #[.int .i64 0,.slice none 0 0,.slice none 0 0,.bool false,.bool false,.int .i64 0] 168)).alloc (.cells (madeCells #[.int .i64 0] r) 3)).drew 41 (.slice (some ⟨w.heap.size,0,none⟩) s s) s (fun _=>.int .u64 0):=made_line t1 hs
    have hb:(((w.alloc (.cells (madeCells #[.int .u64 0] s) 41)).alloc (.cells #[.int .i64 0,.slice none 0 0,.slice none 0 0,.bool false,.bool false,.int .i64 0] 168)).alloc (.cells (madeCells #[.int .i64 0] r) 3)).drew.heap[(w.heap.size+1)]?=some (.cells #[.int .i64 0,.slice none 0 0,.slice none 0 0,.bool false,.bool false,.int .i64 0] 168):=t2
    have o0:(((w.alloc (.cells (madeCells #[.int .u64 0] s) 41)).alloc (.cells #[.int .i64 0,.slice none 0 0,.slice none 0 0,.bool false,.bool false,.int .i64 0] 168)).alloc (.cells (madeCells #[.int .i64 0] r) 3)).drew.cell? ⟨(w.heap.size+1),0,none⟩=some (.int .i64 0):=by simp only[World.cell?,hb];rfl
    have z0:(((w.alloc (.cells (madeCells #[.int .u64 0] s) 41)).alloc (.cells #[.int .i64 0,.slice none 0 0,.slice none 0 0,.bool false,.bool false,.int .i64 0] 168)).alloc (.cells (madeCells #[.int .i64 0] r) 3)).drew.frozen? ⟨(w.heap.size+1),0,none⟩=false:=by simp only[World.frozen?,hb];simp
    have o1:(((w.alloc (.cells (madeCells #[.int .u64 0] s) 41)).alloc (.cells #[.int .i64 0,.slice none 0 0,.slice none 0 0,.bool false,.bool false,.int .i64 0] 168)).alloc (.cells (madeCells #[.int .i64 0] r) 3)).drew.cell? ⟨(w.heap.size+1),1,none⟩=some (.slice none 0 0):=by simp only[World.cell?,hb];rfl
    have z1:(((w.alloc (.cells (madeCells #[.int .u64 0] s) 41)).alloc (.cells #[.int .i64 0,.slice none 0 0,.slice none 0 0,.bool false,.bool false,.int .i64 0] 168)).alloc (.cells (madeCells #[.int .i64 0] r) 3)).drew.frozen? ⟨(w.heap.size+1),1,none⟩=false:=by simp only[World.frozen?,hb];simp
    have o2:(((w.alloc (.cells (madeCells #[.int .u64 0] s) 41)).alloc (.cells #[.int .i64 0,.slice none 0 0,.slice none 0 0,.bool false,.bool false,.int .i64 0] 168)).alloc (.cells (madeCells #[.int .i64 0] r) 3)).drew.cell? ⟨(w.heap.size+1),2,none⟩=some (.slice none 0 0):=by simp only[World.cell?,hb];rfl
    have z2:(((w.alloc (.cells (madeCells #[.int .u64 0] s) 41)).alloc (.cells #[.int .i64 0,.slice none 0 0,.slice none 0 0,.bool false,.bool false,.int .i64 0] 168)).alloc (.cells (madeCells #[.int .i64 0] r) 3)).drew.frozen? ⟨(w.heap.size+1),2,none⟩=false:=by simp only[World.frozen?,hb];simp
    have o3:(((w.alloc (.cells (madeCells #[.int .u64 0] s) 41)).alloc (.cells #[.int .i64 0,.slice none 0 0,.slice none 0 0,.bool false,.bool false,.int .i64 0] 168)).alloc (.cells (madeCells #[.int .i64 0] r) 3)).drew.cell? ⟨(w.heap.size+1),3,none⟩=some (.bool false):=by simp only[World.cell?,hb];rfl
    have z3:(((w.alloc (.cells (madeCells #[.int .u64 0] s) 41)).alloc (.cells #[.int .i64 0,.slice none 0 0,.slice none 0 0,.bool false,.bool false,.int .i64 0] 168)).alloc (.cells (madeCells #[.int .i64 0] r) 3)).drew.frozen? ⟨(w.heap.size+1),3,none⟩=false:=by simp only[World.frozen?,hb];simp
    have o4:(((w.alloc (.cells (madeCells #[.int .u64 0] s) 41)).alloc (.cells #[.int .i64 0,.slice none 0 0,.slice none 0 0,.bool false,.bool false,.int .i64 0] 168)).alloc (.cells (madeCells #[.int .i64 0] r) 3)).drew.cell? ⟨(w.heap.size+1),4,none⟩=some (.bool false):=by simp only[World.cell?,hb];rfl
    have z4:(((w.alloc (.cells (madeCells #[.int .u64 0] s) 41)).alloc (.cells #[.int .i64 0,.slice none 0 0,.slice none 0 0,.bool false,.bool false,.int .i64 0] 168)).alloc (.cells (madeCells #[.int .i64 0] r) 3)).drew.frozen? ⟨(w.heap.size+1),4,none⟩=false:=by simp only[World.frozen?,hb];simp
    have o5:(((w.alloc (.cells (madeCells #[.int .u64 0] s) 41)).alloc (.cells #[.int .i64 0,.slice none 0 0,.slice none 0 0,.bool false,.bool false,.int .i64 0] 168)).alloc (.cells (madeCells #[.int .i64 0] r) 3)).drew.cell? ⟨(w.heap.size+1),5,none⟩=some (.int .i64 0):=by simp only[World.cell?,hb];rfl
    have z5:(((w.alloc (.cells (madeCells #[.int .u64 0] s) 41)).alloc (.cells #[.int .i64 0,.slice none 0 0,.slice none 0 0,.bool false,.bool false,.int .i64 0] 168)).alloc (.cells (madeCells #[.int .i64 0] r) 3)).drew.frozen? ⟨(w.heap.size+1),5,none⟩=false:=by simp only[World.frozen?,hb];simp
    generalize hA:World.drew (World.alloc (World.alloc (World.alloc w _) _) _)=a3 at *
    clear hA t1 t2 t3
    refine AnyTill.one (i:=9) (by kernel_rfl) ?_
    refine AnyTill.op rfl rfl fun K hK=>?_
    go_simp
    refine hK _ _ (fun h=>absurd rfl h) ?_
    clear hK K
    try simp only[Act.put,List.getElem_toArray,List.getElem_cons_succ,List.getElem_cons_zero,List.setIfInBounds_toArray,List.set_cons_zero,List.set_cons_succ]
    refine AnyTill.done (by kernel_rfl) ?_
    go_wp2_with fail
    go_meet
    case rel=>exact ⟨_,_,_,rfl,jn_fin be lr ls hb (by omega) (by omega) (by omega) (by omega) (by omega) (by omega)⟩
  ·refine AnyTill.op rfl rfl fun K hK=>?_
   go_simp
   refine hK _ _ (fun _=>trivial) ?_
   clear hK K
   try simp only[Act.put,List.getElem_toArray,List.getElem_cons_succ,List.getElem_cons_zero,List.setIfInBounds_toArray,List.set_cons_zero,List.set_cons_succ]
   refine AnyTill.two (i:=2) (j:=4) (by kernel_rfl) ?_ ?_
   ·refine AnyTill.op rfl rfl fun K hK=>?_
    go_simp
    refine hK _ _ (fun _=>trivial) ?_
    clear hK K
    try simp only[Act.put,List.getElem_toArray,List.getElem_cons_succ,List.getElem_cons_zero,List.setIfInBounds_toArray,List.set_cons_zero,List.set_cons_succ]
    refine AnyTill.one (i:=4) (by kernel_rfl) ?_
    refine AnyTill.op rfl rfl fun K hK=>?_
    go_simp
    refine hK _ _ (fun _=>trivial) ?_
    clear hK K
    try simp only[Act.put,List.getElem_toArray,List.getElem_cons_succ,List.getElem_cons_zero,List.setIfInBounds_toArray,List.set_cons_zero,List.set_cons_succ]
    refine AnyTill.take 7 (v:=?_) rfl (by kernel_rfl) (by kernel_rfl) (by kernel_rfl) (by kernel_rfl) (fun _ _ _ h=>h) ?_ rfl trivial ?_
    rotate_left
    ·intro w hSw
     go_simp
     all_goals with_reducible rfl
    try simp only[Act.put,List.getElem_toArray,List.getElem_cons_succ,List.getElem_cons_zero,List.setIfInBounds_toArray,List.set_cons_zero,List.set_cons_succ]
    obtain ⟨t1,t2,t3⟩:=three_allocs w (.cells #[.int .i64 0,.slice none 0 0,.slice none 0 0,.bool false,.bool false,.int .i64 0] 168) (.cells (madeCells #[.int .i64 0] r) 3) (.cells (madeCells #[.int .u64 0] s) 41)
    have be:Below w.heap.size w (((w.alloc (.cells #[.int .i64 0,.slice none 0 0,.slice none 0 0,.bool false,.bool false,.int .i64 0] 168)).alloc (.cells (madeCells #[.int .i64 0] r) 3)).alloc (.cells (madeCells #[.int .u64 0] s) 41)).drew:=((((Below.refl _ _).alloc (Nat.le_refl _) _).alloc (by simp) _).alloc (by simp;omega) _).drew
    have lr:Line (((w.alloc (.cells #[.int .i64 0,.slice none 0 0,.slice none 0 0,.bool false,.bool false,.int .i64 0] 168)).alloc (.cells (madeCells #[.int .i64 0] r) 3)).alloc (.cells (madeCells #[.int .u64 0] s) 41)).drew 3 (.slice (some ⟨(w.heap.size+1),0,none⟩) r r) r (fun _=>.int .i64 0):=made_line t2 hr
    have ls:Line (((w.alloc (.cells #[.int .i64 0,.slice none 0 0,.slice none 0 0,.bool false,.bool false,.int .i64 0] 168)).alloc (.cells (madeCells #[.int .i64 0] r) 3)).alloc (.cells (madeCells #[.int .u64 0] s) 41)).drew 41 (.slice (some ⟨(w.heap.size+1+1),0,none⟩) s s) s (fun _=>.int .u64 0):=made_line t3 hs
    have hb:(((w.alloc (.cells #[.int .i64 0,.slice none 0 0,.slice none 0 0,.bool false,.bool false,.int .i64 0] 168)).alloc (.cells (madeCells #[.int .i64 0] r) 3)).alloc (.cells (madeCells #[.int .u64 0] s) 41)).drew.heap[w.heap.size]?=some (.cells #[.int .i64 0,.slice none 0 0,.slice none 0 0,.bool false,.bool false,.int .i64 0] 168):=t1
    have o0:(((w.alloc (.cells #[.int .i64 0,.slice none 0 0,.slice none 0 0,.bool false,.bool false,.int .i64 0] 168)).alloc (.cells (madeCells #[.int .i64 0] r) 3)).alloc (.cells (madeCells #[.int .u64 0] s) 41)).drew.cell? ⟨w.heap.size,0,none⟩=some (.int .i64 0):=by simp only[World.cell?,hb];rfl
    have z0:(((w.alloc (.cells #[.int .i64 0,.slice none 0 0,.slice none 0 0,.bool false,.bool false,.int .i64 0] 168)).alloc (.cells (madeCells #[.int .i64 0] r) 3)).alloc (.cells (madeCells #[.int .u64 0] s) 41)).drew.frozen? ⟨w.heap.size,0,none⟩=false:=by simp only[World.frozen?,hb];simp
    have o1:(((w.alloc (.cells #[.int .i64 0,.slice none 0 0,.slice none 0 0,.bool false,.bool false,.int .i64 0] 168)).alloc (.cells (madeCells #[.int .i64 0] r) 3)).alloc (.cells (madeCells #[.int .u64 0] s) 41)).drew.cell? ⟨w.heap.size,1,none⟩=some (.slice none 0 0):=by simp only[World.cell?,hb];rfl
    have z1:(((w.alloc (.cells #[.int .i64 0,.slice none 0 0,.slice none 0 0,.bool false,.bool false,.int .i64 0] 168)).alloc (.cells (madeCells #[.int .i64 0] r) 3)).alloc (.cells (madeCells #[.int .u64 0] s) 41)).drew.frozen? ⟨w.heap.size,1,none⟩=false:=by simp only[World.frozen?,hb];simp
    have o2:(((w.alloc (.cells #[.int .i64 0,.slice none 0 0,.slice none 0 0,.bool false,.bool false,.int .i64 0] 168)).alloc (.cells (madeCells #[.int .i64 0] r) 3)).alloc (.cells (madeCells #[.int .u64 0] s) 41)).drew.cell? ⟨w.heap.size,2,none⟩=some (.slice none 0 0):=by simp only[World.cell?,hb];rfl
    have z2:(((w.alloc (.cells #[.int .i64 0,.slice none 0 0,.slice none 0 0,.bool false,.bool false,.int .i64 0] 168)).alloc (.cells (madeCells #[.int .i64 0] r) 3)).alloc (.cells (madeCells #[.int .u64 0] s) 41)).drew.frozen? ⟨w.heap.size,2,none⟩=false:=by simp only[World.frozen?,hb];simp
    have o3:(((w.alloc (.cells #[.int .i64 0,.slice none 0 0,.slice none 0 0,.bool false,.bool false,.int .i64 0] 168)).alloc (.cells (madeCells #[.int .i64 0] r) 3)).alloc (.cells (madeCells #[.int .u64 0] s) 41)).drew.cell? ⟨w.heap.size,3,none⟩=some (.bool false):=by simp only[World.cell?,hb];rfl
    have z3:(((w.alloc (.cells #[.int .i64 0,.slice none 0 0,.slice none 0 0,.bool false,.bool false,.int .i64 0] 168)).alloc (.cells (madeCells #[.int .i64 0] r) 3)).alloc (.cells (madeCells #[.int .u64 0] s) 41)).drew.frozen? ⟨w.heap.size,3,none⟩=false:=by simp only[World.frozen?,hb];simp
    have o4:(((w.alloc (.cells #[.int .i64 0,.slice none 0 0,.slice none 0 0,.bool false,.bool false,.int .i64 0] 168)).alloc (.cells (madeCells #[.int .i64 0] r) 3)).alloc (.cells (madeCells #[.int .u64 0] s) 41)).drew.cell? ⟨w.heap.size,4,none⟩=some (.bool false):=by simp only[World.cell?,hb];rfl
    have z4:(((w.alloc (.cells #[.int .i64 0,.slice none 0 0,.slice none 0 0,.bool false,.bool false,.int .i64 0] 168)).alloc (.cells (madeCells #[.int .i64 0] r) 3)).alloc (.cells (madeCells #[.int .u64 0] s) 41)).drew.frozen? ⟨w.heap.size,4,none⟩=false:=by simp only[World.frozen?,hb];simp
    have o5:(((w.alloc (.cells #[.int .i64 0,.slice none 0 0,.slice none 0 0,.bool false,.bool false,.int .i64 0] 168)).alloc (.cells (madeCells #[.int .i64 0] r) 3)).alloc (.cells (madeCells #[.int .u64 0] s) 41)).drew.cell? ⟨w.heap.size,5,none⟩=some (.int .i64 0):=by simp only[World.cell?,hb];rfl
    have z5:(((w.alloc (.cells #[.int .i64 0,.slice none 0 0,.slice none 0 0,.bool false,.bool false,.int .i64 0] 168)).alloc (.cells (madeCells #[.int .i64 0] r) 3)).alloc (.cells (madeCells #[.int .u64 0] s) 41)).drew.frozen? ⟨w.heap.size,5,none⟩=false:=by simp only[World.frozen?,hb];simp
    generalize hA:World.drew (World.alloc (World.alloc (World.alloc w _) _) _)=a3 at *
    clear hA t1 t2 t3
    refine AnyTill.one (i:=9) (by kernel_rfl) ?_
    refine AnyTill.op rfl rfl fun K hK=>?_
    go_simp
    refine hK _ _ (fun h=>absurd rfl h) ?_
    clear hK K
    try simp only[Act.put,List.getElem_toArray,List.getElem_cons_succ,List.getElem_cons_zero,List.setIfInBounds_toArray,List.set_cons_zero,List.set_cons_succ]
    refine AnyTill.done (by kernel_rfl) ?_
    go_wp2_with fail
    go_meet
    case rel=>exact ⟨_,_,_,rfl,jn_fin be lr ls hb (by omega) (by omega) (by omega) (by omega) (by omega) (by omega)⟩
   ·refine AnyTill.op rfl rfl fun K hK=>?_
    go_simp
    refine hK _ _ (fun _=>trivial) ?_
    clear hK K
    try simp only[Act.put,List.getElem_toArray,List.getElem_cons_succ,List.getElem_cons_zero,List.setIfInBounds_toArray,List.set_cons_zero,List.set_cons_succ]
    refine AnyTill.one (i:=2) (by kernel_rfl) ?_
    refine AnyTill.op rfl rfl fun K hK=>?_
    go_simp
    refine hK _ _ (fun _=>trivial) ?_
    clear hK K
    try simp only[Act.put,List.getElem_toArray,List.getElem_cons_succ,List.getElem_cons_zero,List.setIfInBounds_toArray,List.set_cons_zero,List.set_cons_succ]
    refine AnyTill.take 7 (v:=?_) rfl (by kernel_rfl) (by kernel_rfl) (by kernel_rfl) (by kernel_rfl) (fun _ _ _ h=>h) ?_ rfl trivial ?_
    rotate_left
    ·intro w hSw
     go_simp
     all_goals with_reducible rfl
    try simp only[Act.put,List.getElem_toArray,List.getElem_cons_succ,List.getElem_cons_zero,List.setIfInBounds_toArray,List.set_cons_zero,List.set_cons_succ]
    obtain ⟨t1,t2,t3⟩:=three_allocs w (.cells #[.int .i64 0,.slice none 0 0,.slice none 0 0,.bool false,.bool false,.int .i64 0] 168) (.cells (madeCells #[.int .u64 0] s) 41) (.cells (madeCells #[.int .i64 0] r) 3)
    have be:Below w.heap.size w (((w.alloc (.cells #[.int .i64 0,.slice none 0 0,.slice none 0 0,.bool false,.bool false,.int .i64 0] 168)).alloc (.cells (madeCells #[.int .u64 0] s) 41)).alloc (.cells (madeCells #[.int .i64 0] r) 3)).drew:=((((Below.refl _ _).alloc (Nat.le_refl _) _).alloc (by simp) _).alloc (by simp;omega) _).drew
    have lr:Line (((w.alloc (.cells #[.int .i64 0,.slice none 0 0,.slice none 0 0,.bool false,.bool false,.int .i64 0] 168)).alloc (.cells (madeCells #[.int .u64 0] s) 41)).alloc (.cells (madeCells #[.int .i64 0] r) 3)).drew 3 (.slice (some ⟨(w.heap.size+1+1),0,none⟩) r r) r (fun _=>.int .i64 0):=made_line t3 hr
    have ls:Line (((w.alloc (.cells #[.int .i64 0,.slice none 0 0,.slice none 0 0,.bool false,.bool false,.int .i64 0] 168)).alloc (.cells (madeCells #[.int .u64 0] s) 41)).alloc (.cells (madeCells #[.int .i64 0] r) 3)).drew 41 (.slice (some ⟨(w.heap.size+1),0,none⟩) s s) s (fun _=>.int .u64 0):=made_line t2 hs
    have hb:(((w.alloc (.cells #[.int .i64 0,.slice none 0 0,.slice none 0 0,.bool false,.bool false,.int .i64 0] 168)).alloc (.cells (madeCells #[.int .u64 0] s) 41)).alloc (.cells (madeCells #[.int .i64 0] r) 3)).drew.heap[w.heap.size]?=some (.cells #[.int .i64 0,.slice none 0 0,.slice none 0 0,.bool false,.bool false,.int .i64 0] 168):=t1
    have o0:(((w.alloc (.cells #[.int .i64 0,.slice none 0 0,.slice none 0 0,.bool false,.bool false,.int .i64 0] 168)).alloc (.cells (madeCells #[.int .u64 0] s) 41)).alloc (.cells (madeCells #[.int .i64 0] r) 3)).drew.cell? ⟨w.heap.size,0,none⟩=some (.int .i64 0):=by simp only[World.cell?,hb];rfl
    have z0:(((w.alloc (.cells #[.int .i64 0,.slice none 0 0,.slice none 0 0,.bool false,.bool false,.int .i64 0] 168)).alloc (.cells (madeCells #[.int .u64 0] s) 41)).alloc (.cells (madeCells #[.int .i64 0] r) 3)).drew.frozen? ⟨w.heap.size,0,none⟩=false:=by simp only[World.frozen?,hb];simp
    have o1:(((w.alloc (.cells #[.int .i64 0,.slice none 0 0,.slice none 0 0,.bool false,.bool false,.int .i64 0] 168)).alloc (.cells (madeCells #[.int .u64 0] s) 41)).alloc (.cells (madeCells #[.int .i64 0] r) 3)).drew.cell? ⟨w.heap.size,1,none⟩=some (.slice none 0 0):=by simp only[World.cell?,hb];rfl
    have z1:(((w.alloc (.cells #[.int .i64 0,.slice none 0 0,.slice none 0 0,.bool false,.bool false,.int .i64 0] 168)).alloc (.cells (madeCells #[.int .u64 0] s) 41)).alloc (.cells (madeCells #[.int .i64 0] r) 3)).drew.frozen? ⟨w.heap.size,1,none⟩=false:=by simp only[World.frozen?,hb];simp
    have o2:(((w.alloc (.cells #[.int .i64 0,.slice none 0 0,.slice none 0 0,.bool false,.bool false,.int .i64 0] 168)).alloc (.cells (madeCells #[.int .u64 0] s) 41)).alloc (.cells (madeCells #[.int .i64 0] r) 3)).drew.cell? ⟨w.heap.size,2,none⟩=some (.slice none 0 0):=by simp only[World.cell?,hb];rfl
    have z2:(((w.alloc (.cells #[.int .i64 0,.slice none 0 0,.slice none 0 0,.bool false,.bool false,.int .i64 0] 168)).alloc (.cells (madeCells #[.int .u64 0] s) 41)).alloc (.cells (madeCells #[.int .i64 0] r) 3)).drew.frozen? ⟨w.heap.size,2,none⟩=false:=by simp only[World.frozen?,hb];simp
    have o3:(((w.alloc (.cells #[.int .i64 0,.slice none 0 0,.slice none 0 0,.bool false,.bool false,.int .i64 0] 168)).alloc (.cells (madeCells #[.int .u64 0] s) 41)).alloc (.cells (madeCells #[.int .i64 0] r) 3)).drew.cell? ⟨w.heap.size,3,none⟩=some (.bool false):=by simp only[World.cell?,hb];rfl
    have z3:(((w.alloc (.cells #[.int .i64 0,.slice none 0 0,.slice none 0 0,.bool false,.bool false,.int .i64 0] 168)).alloc (.cells (madeCells #[.int .u64 0] s) 41)).alloc (.cells (madeCells #[.int .i64 0] r) 3)).drew.frozen? ⟨w.heap.size,3,none⟩=false:=by simp only[World.frozen?,hb];simp
    have o4:(((w.alloc (.cells #[.int .i64 0,.slice none 0 0,.slice none 0 0,.bool false,.bool false,.int .i64 0] 168)).alloc (.cells (madeCells #[.int .u64 0] s) 41)).alloc (.cells (madeCells #[.int .i64 0] r) 3)).drew.cell? ⟨w.heap.size,4,none⟩=some (.bool false):=by simp only[World.cell?,hb];rfl
    have z4:(((w.alloc (.cells #[.int .i64 0,.slice none 0 0,.slice none 0 0,.bool false,.bool false,.int .i64 0] 168)).alloc (.cells (madeCells #[.int .u64 0] s) 41)).alloc (.cells (madeCells #[.int .i64 0] r) 3)).drew.frozen? ⟨w.heap.size,4,none⟩=false:=by simp only[World.frozen?,hb];simp
    have o5:(((w.alloc (.cells #[.int .i64 0,.slice none 0 0,.slice none 0 0,.bool false,.bool false,.int .i64 0] 168)).alloc (.cells (madeCells #[.int .u64 0] s) 41)).alloc (.cells (madeCells #[.int .i64 0] r) 3)).drew.cell? ⟨w.heap.size,5,none⟩=some (.int .i64 0):=by simp only[World.cell?,hb];rfl
    have z5:(((w.alloc (.cells #[.int .i64 0,.slice none 0 0,.slice none 0 0,.bool false,.bool false,.int .i64 0] 168)).alloc (.cells (madeCells #[.int .u64 0] s) 41)).alloc (.cells (madeCells #[.int .i64 0] r) 3)).drew.frozen? ⟨w.heap.size,5,none⟩=false:=by simp only[World.frozen?,hb];simp
    generalize hA:World.drew (World.alloc (World.alloc (World.alloc w _) _) _)=a3 at *
    clear hA t1 t2 t3
    refine AnyTill.one (i:=9) (by kernel_rfl) ?_
    refine AnyTill.op rfl rfl fun K hK=>?_
    go_simp
    refine hK _ _ (fun h=>absurd rfl h) ?_
    clear hK K
    try simp only[Act.put,List.getElem_toArray,List.getElem_cons_succ,List.getElem_cons_zero,List.setIfInBounds_toArray,List.set_cons_zero,List.set_cons_succ]
    refine AnyTill.done (by kernel_rfl) ?_
    go_wp2_with fail
    go_meet
    case rel=>exact ⟨_,_,_,rfl,jn_fin be lr ls hb (by omega) (by omega) (by omega) (by omega) (by omega) (by omega)⟩
 case rest=>
  obtain ⟨gb,r9,s9,rfl,hj⟩:=hcut
  rename World=>W2
  have HJ:=hide hj
  obtain ⟨be,bx,_,_,_,_,hgb,_,⟨ar,cr,e1⟩,⟨asl,cs,e2⟩⟩:=hj
  subst e1 e2
  have hpd:pd<w.heap.size:=block_lt_of_cell (unhide HC6)
  have c6:=(be.cell (p:=⟨pd,6,none⟩) hpd).trans (unhide HC6)
  have b0:=bx 0 _ rfl
  have b1:=bx 1 _ rfl
  have b2:=bx 2 _ rfl
  have b3:=bx 3 _ rfl
  have b4:=bx 4 _ rfl
  have b5:=bx 5 _ rfl
  have hbl:gb<W2.heap.size:=block_lt_of_cell b0
  have hs2:=be.size
  have HWb:Hid (∀ Z Wd,Still (W2.alloc Z) Wd→Below W2.heap.size W2 Wd):=hide (fun Z Wd s=>((Below.refl _ _).alloc (Nat.le_refl _) _).trans (s.below.mono (by simp)))
  have HSS:Hid (∀ Wd,Below W2.heap.size W2 Wd→(fun w'=>w'.cell? ⟨pd,6,none⟩=some (.slice aO n cO)∧w'.cell? ⟨gb,0,none⟩=some (.int .i64 (k:Nat))∧w'.cell? ⟨gb,1,none⟩=some (.slice ar r cr)∧w'.cell? ⟨gb,2,none⟩=some (.slice asl s cs)∧w'.cell? ⟨gb,3,none⟩=some (.bool true)∧w'.cell? ⟨gb,4,none⟩=some (.bool bg)∧w'.cell? ⟨gb,5,none⟩=some (.int .i64 (at0:Nat))) Wd):=hide (fun Wd kk=>⟨(kk.cell (p:=⟨pd,6,none⟩) (by dsimp only;omega)).trans c6,(kk.cell (p:=⟨gb,0,none⟩) hbl).trans b0,(kk.cell (p:=⟨gb,1,none⟩) hbl).trans b1,(kk.cell (p:=⟨gb,2,none⟩) hbl).trans b2,(kk.cell (p:=⟨gb,3,none⟩) hbl).trans b3,(kk.cell (p:=⟨gb,4,none⟩) hbl).trans b4,(kk.cell (p:=⟨gb,5,none⟩) hbl).trans b5⟩)
  have HX:Hid (∀ Z Wd,Still (W2.alloc Z) Wd→Wide Wd 168 6 (.slice aO n cO) n f):=hide (fun Z Wd s=>(unhide HWW).same fun g e=>by
   have hg:=(unhide HWW).lt g e
   rw[((unhide HWb) Z Wd s).block g (by omega),be.block g hg])
  have HCC:Hid (∀ (us:List Value) Wd,Still (W2.alloc (.cells us.toArray 168)) Wd→∀ q x,us[q]?=some x→Wd.cell? ⟨W2.heap.size,q,none⟩=some x):=hide (fun us Wd s q x hq=>by
   rw[s.cell,World.cell?_alloc_at _ _ _ _ (by simp)]
   simpa using hq)
  have HG:Hid (∀ Z Wd,Still (W2.alloc Z) Wd→∀ v9 w9,Grow2 (.slice aO n cO) v9 Wd w9→(fun w'=>w'.cell? ⟨pd,6,none⟩=some (.slice aO n cO)∧w'.cell? ⟨gb,0,none⟩=some (.int .i64 (k:Nat))∧w'.cell? ⟨gb,1,none⟩=some (.slice ar r cr)∧w'.cell? ⟨gb,2,none⟩=some (.slice asl s cs)∧w'.cell? ⟨gb,3,none⟩=some (.bool true)∧w'.cell? ⟨gb,4,none⟩=some (.bool bg)∧w'.cell? ⟨gb,5,none⟩=some (.int .i64 (at0:Nat))) w9∧w9.frozen? ⟨pd,6,none⟩=false):=hide (fun Z Wd s v9 w9 hg=>by
   have kk:=unhide HWb Z Wd s
   have hz:Wd.heap.size=W2.heap.size+1:=by rw[s.heap];simp
   have e:∀ q,q<W2.heap.size→(Value.slice aO n cO).ownBlock≠some q→w9.heap[q]?=W2.heap[q]?:=fun q hq hn=>(hg.old (by omega) hn).trans (kk.block q hq)
   have ep:=e pd (by omega) (unhide HAP)
   have eb:=e gb hbl (fun z=>by have:=(unhide HWW).lt gb z;omega)
   refine ⟨⟨(cell_like ep _).trans c6,(cell_like eb _).trans b0,(cell_like eb _).trans b1,(cell_like eb _).trans b2,(cell_like eb _).trans b3,(cell_like eb _).trans b4,(cell_like eb _).trans b5⟩,?_⟩
   rw[froz_like ep,froz_like (be.block pd hpd)]
   exact unhide HZ6)
  have HM:Hid (∀ Z Wd,Still (W2.alloc Z) Wd→∀ v9 w9,Wide w9 168 6 v9 (n+1) (fun q=>if q<n*6 then f q else [Value.int .i64 (k:Nat),.slice ar r cr,.slice asl s cs,.bool true,.bool bg,.int .i64 (at0:Nat)].getD (q-n*6) undef)→(w9.os=Wd.os∧w9.tape=Wd.tape∧w9.output=Wd.output)→Grow2 (.slice aO n cO) v9 Wd w9→∀ W3,W3.heap=(w9.setCell ⟨pd,6,none⟩ v9).heap→W3.os=w9.os→W3.tape=w9.tape→W3.output=w9.output→Calls Tryz.prog 116 #[.pointer (some ⟨pd,0,none⟩),.int .i64 (n:Nat)] W3 fun e w'=>e=.returned (.int .u64 (x:Nat))∧R w'):=hide (fun Z Wd s v9 w9 hv9 q9 hh9 W3 eh e1 e2 e3=>unhide HRR W3 v9 _ _ (madeO_any (unhide HJ) s hpd (unhide HWW) (unhide HAP) hv9 q9 hh9 ⟨_,unhide HC6⟩ W3 eh e1 e2 e3))
  have sub1:IntKind.i64.wrap (((n+1:Nat):Int)-1)=(n:Int):=by rw[show ((n+1:Nat):Int)-1=(n:Int) by omega];exact wrap_nat _ (by omega)
  have hS:(fun w'=>w'.cell? ⟨pd,6,none⟩=some (.slice aO n cO)∧w'.cell? ⟨gb,0,none⟩=some (.int .i64 (k:Nat))∧w'.cell? ⟨gb,1,none⟩=some (.slice ar r cr)∧w'.cell? ⟨gb,2,none⟩=some (.slice asl s cs)∧w'.cell? ⟨gb,3,none⟩=some (.bool true)∧w'.cell? ⟨gb,4,none⟩=some (.bool bg)∧w'.cell? ⟨gb,5,none⟩=some (.int .i64 (at0:Nat))) W2.drew:=unhide HSS _ (Below.refl _ _).drew
  clear bx HJ HRR HWW HC6 HZ6 be c6 b0 b1 b2 b3 b4 b5
  go_wp2_with fail
  refine till_begin (fun w'=>w'.cell? ⟨pd,6,none⟩=some (.slice aO n cO)∧w'.cell? ⟨gb,0,none⟩=some (.int .i64 (k:Nat))∧w'.cell? ⟨gb,1,none⟩=some (.slice ar r cr)∧w'.cell? ⟨gb,2,none⟩=some (.slice asl s cs)∧w'.cell? ⟨gb,3,none⟩=some (.bool true)∧w'.cell? ⟨gb,4,none⟩=some (.bool bg)∧w'.cell? ⟨gb,5,none⟩=some (.int .i64 (at0:Nat))) 10 (by kernel_rfl) ?_
  refine AnyTill.take 0 (v:=?_) rfl (by kernel_rfl) (by kernel_rfl) (by kernel_rfl) (by kernel_rfl) (fun _ _ _ h=>h) ?_ rfl hS ?_
  rotate_left
  ·intro w hSw
   obtain ⟨s1,s2,s3,s4,s5,s6,s7⟩:=hSw
   go_simp
   all_goals with_reducible rfl
  try simp only[Act.put,List.getElem_toArray,List.getElem_cons_succ,List.getElem_cons_zero,List.setIfInBounds_toArray,List.set_cons_zero,List.set_cons_succ]
  refine AnyTill.take 1 (v:=?_) rfl (by kernel_rfl) (by kernel_rfl) (by kernel_rfl) (by kernel_rfl) (fun _ _ _ h=>h) ?_ rfl hS ?_
  rotate_left
  ·intro w hSw
   obtain ⟨s1,s2,s3,s4,s5,s6,s7⟩:=hSw
   go_simp
   all_goals with_reducible rfl
  try simp only[Act.put,List.getElem_toArray,List.getElem_cons_succ,List.getElem_cons_zero,List.setIfInBounds_toArray,List.set_cons_zero,List.set_cons_succ]
  refine AnyTill.take 2 (v:=?_) rfl (by kernel_rfl) (by kernel_rfl) (by kernel_rfl) (by kernel_rfl) (fun _ _ _ h=>h) ?_ rfl hS ?_
  rotate_left
  ·intro w hSw
   obtain ⟨s1,s2,s3,s4,s5,s6,s7⟩:=hSw
   go_simp
   all_goals with_reducible rfl
  try simp only[Act.put,List.getElem_toArray,List.getElem_cons_succ,List.getElem_cons_zero,List.setIfInBounds_toArray,List.set_cons_zero,List.set_cons_succ]
  refine AnyTill.take 3 (v:=?_) rfl (by kernel_rfl) (by kernel_rfl) (by kernel_rfl) (by kernel_rfl) (fun _ _ _ h=>h) ?_ rfl hS ?_
  rotate_left
  ·intro w hSw
   obtain ⟨s1,s2,s3,s4,s5,s6,s7⟩:=hSw
   go_simp
   all_goals with_reducible rfl
  try simp only[Act.put,List.getElem_toArray,List.getElem_cons_succ,List.getElem_cons_zero,List.setIfInBounds_toArray,List.set_cons_zero,List.set_cons_succ]
  refine AnyTill.take 4 (v:=?_) rfl (by kernel_rfl) (by kernel_rfl) (by kernel_rfl) (by kernel_rfl) (fun _ _ _ h=>h) ?_ rfl hS ?_
  rotate_left
  ·intro w hSw
   obtain ⟨s1,s2,s3,s4,s5,s6,s7⟩:=hSw
   go_simp
   all_goals with_reducible rfl
  try simp only[Act.put,List.getElem_toArray,List.getElem_cons_succ,List.getElem_cons_zero,List.setIfInBounds_toArray,List.set_cons_zero,List.set_cons_succ]
  refine AnyTill.take 5 (v:=?_) rfl (by kernel_rfl) (by kernel_rfl) (by kernel_rfl) (by kernel_rfl) (fun _ _ _ h=>h) ?_ rfl hS ?_
  rotate_left
  ·intro w hSw
   obtain ⟨s1,s2,s3,s4,s5,s6,s7⟩:=hSw
   go_simp
   all_goals with_reducible rfl
  try simp only[Act.put,List.getElem_toArray,List.getElem_cons_succ,List.getElem_cons_zero,List.setIfInBounds_toArray,List.set_cons_zero,List.set_cons_succ]
  refine AnyTill.one (i:=6) (by kernel_rfl) (AnyTill.op rfl rfl fun K hK=>?_)
  go_simp
  refine hK _ _ (fun _=>unhide HSS _ (unhide HWb _ _ ((Still.refl _).drew _))) ?_
  clear hK K
  try simp only[Act.put,List.getElem_toArray,List.getElem_cons_succ,List.getElem_cons_zero,List.setIfInBounds_toArray,List.set_cons_zero,List.set_cons_succ]
  refine AnyTill.one (i:=7) (by kernel_rfl) (AnyTill.law rfl rfl fun K hK=>?_)
  refine step_append_wide rfl (.tmp 26) (.tmp 28) 164 rfl 168 i0 _ 6 72 Tryz.underlying164 hi hy0 hy1 hy2 rfl (.slice aO n cO) n f (by simp [Act.eval]) (unhide HX _ _ ((Still.refl _).drew _)) W2.heap.size (by simp [Act.eval]) [Value.int .i64 (k:Nat),.slice ar r cr,.slice asl s cs,.bool true,.bool bg,.int .i64 (at0:Nat)] (by rfl) (unhide HCC [Value.int .i64 (k:Nat),.slice ar r cr,.slice asl s cs,.bool true,.bool bg,.int .i64 (at0:Nat)] _ ((Still.refl _).drew _)) (by intro x hx';simp only[List.mem_cons,List.not_mem_nil,or_false] at hx';rcases hx' with rfl|rfl|rfl|rfl|rfl|rfl <;> rfl) (by omega) (by omega) ?_
  intro v9 w9 hv9 q9 hh9
  obtain ⟨a9,c9,rfl⟩:=hv9.shape
  obtain ⟨hS9,z5⟩:=unhide HG _ _ ((Still.refl _).drew _) _ _ hh9
  have HF:=hide (unhide HM _ _ ((Still.refl _).drew _) _ _ hv9 q9 hh9)
  refine hK _ _ (fun _=>hS9) ?_
  clear hK K
  try simp only[Act.put,List.getElem_toArray,List.getElem_cons_succ,List.getElem_cons_zero,List.setIfInBounds_toArray,List.set_cons_zero,List.set_cons_succ]
  clear hv9 q9 hh9
  refine AnyTill.one (i:=8) (by kernel_rfl) (AnyTill.op rfl rfl fun K hK=>?_)
  go_simp
  refine hK _ _ (fun _=>hS9) ?_
  clear hK K
  try simp only[Act.put,List.getElem_toArray,List.getElem_cons_succ,List.getElem_cons_zero,List.setIfInBounds_toArray,List.set_cons_zero,List.set_cons_succ]
  refine AnyTill.one (i:=9) (by kernel_rfl) (AnyTill.op rfl rfl fun K hK=>?_)
  go_simp
  refine hK _ _ (fun _=>hS9) ?_
  clear hK K
  try simp only[Act.put,List.getElem_toArray,List.getElem_cons_succ,List.getElem_cons_zero,List.setIfInBounds_toArray,List.set_cons_zero,List.set_cons_succ]
  have z4:=hS9.1
  refine AnyTill.one (i:=10) (by kernel_rfl) (AnyTill.op rfl rfl fun K hK=>?_)
  go_simp
  refine hK _ _ (fun h=>absurd rfl h) ?_
  clear hK K
  try simp only[Act.put,List.getElem_toArray,List.getElem_cons_succ,List.getElem_cons_zero,List.setIfInBounds_toArray,List.set_cons_zero,List.set_cons_succ]
  refine AnyTill.done (by kernel_rfl) ?_
  have y1:=World.cell?_setCell_same' w9 ⟨pd,6,none⟩ (.slice a9 (n+1) c9) (by rw[z4];rfl)
  clear hS9 hS
  go_wp2_with fail
  refine (unhide HF _ rfl rfl rfl rfl).mono ?_
  rintro e w' ⟨rfl,hr'⟩
  have HR':=hide hr'
  clear hr' HF
  go_wp2_with fail
  all_goals go_ret
  all_goals exact ⟨rfl,unhide HR'⟩
end Go.Proofs.YtidfllgaeiopjabGreat
