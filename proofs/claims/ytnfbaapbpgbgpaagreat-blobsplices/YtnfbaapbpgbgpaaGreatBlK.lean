import Derived.Test.YtnfbaapbpgbgpaaGreatTwin
import Derived.Defers
import Derived.Laws.CopyOwn
namespace Go.Proofs.YtnfbaapbpgbgpaaGreat
open Go.ChangeShapes Go.WideShapes Go.ChangeAt Go.RowKit
set_option linter.unusedVariables false
set_option linter.unusedSimpArgs false
set_option maxRecDepth 100000
set_option maxHeartbeats 1000000
def rowU (l:List Nat):Array Value:=(l.map fun c=>Value.int .u8 (c:Nat)).toArray
theorem rowU_size (l:List Nat):(rowU l).size=l.length:=by simp [rowU]
theorem rowU_get (l:List Nat) (j:Nat) (h:j<l.length):(rowU l)[j]?=some (.int .u8 (l.getD j 0:Nat)):=by
 simp [rowU,h]
theorem rowU_made (n:Nat):madeCells #[.int .u8 0] n=rowU (List.replicate n 0):=by
 refine Array.ext_getElem? fun j=>?_
 by_cases h:j<n
 ·rw[rowU_get _ _ (by simpa using h)]
  simp [madeCells,h,Nat.mod_one]
 ·simp [madeCells,rowU,h]
theorem copy_row {w:World}{g o dn dcap cap:Nat}{cs:List Nat}{x:Addr} (l:List Nat) (hg:w.heap[g]?=some (.cells (rowU cs) 5)) (hB:Bytes w (some x) l) (hd:l.length≤dn) (ho:o+l.length≤cs.length):
  ∃ w2,(Builtin.copy_ #[22,22] 3 #[.slice (some ⟨g,o,none⟩) dn dcap,.slice (some x) l.length cap]).run Tryz.prog w=.ok (goInt l.length) w2∧w2.heap[g]?=some (.cells (rowU (patch cs o l)) 5)∧(∀ B,B≤g→Below B w w2)∧w2.heap.size=w.heap.size:=by
 have HW:(∀ j v,(l.map fun c=>Value.int .u8 (c:Nat))[j]?=some v→w.cell? (x.add j)=some v):=(fun j v hj=>by
  have hjl:j<l.length:=by
   have:=(List.getElem?_eq_some_iff.1 hj).1
   simpa using this
  rcases hB with h|⟨b,off,h,hb,hc⟩
  ·subst h;cases hjl
  ·cases h
   have e:(⟨b,off,none⟩:Addr).add j=⟨b,off+j,none⟩:=by unfold Addr.add;split <;> simp_all
   rw[e,hc j hjl,← hj,List.getElem?_map,List.getElem?_eq_getElem hjl,List.getD_eq_getElem?_getD,List.getElem?_eq_getElem hjl]
   rfl)
 obtain ⟨i0,hi,hy0,hy1,hy2⟩:=info_parts Tryz.info5'
 have hlen:(l.map fun c=>Value.int .u8 (c:Nat)).length=l.length:=by simp
 have hcp:=run_copy_row (P:=Tryz.prog) w 22 22 3 5 g o dn dcap x l.length cap (rowU cs) 5 (l.map fun c=>Value.int .u8 (c:Nat)) Tryz.underlying22 (by rw[hi];simp [hy1]) hg (by rw[hlen];show l.length=min _ _;omega) HW (by rw[hlen,rowU_size];omega) (fun v hv=>by obtain ⟨k,_,rfl⟩:=List.mem_map.1 hv;rfl)
 rw[hlen] at hcp
 refine ⟨_,hcp,?_,fun B hB'=>below_setRow (Below.refl _ _) hB' _,by simp [World.setRow]⟩
 rw[setRow_heap w g _ _ 5 (0,0) hg]
 have e:((rowU cs).toList.take o++(l.map fun c=>Value.int .u8 (c:Nat))++(rowU cs).toList.drop (o+l.length)).toArray=rowU (patch cs o l):=by
  have hR:(rowU cs).toList=cs.map fun c=>Value.int .u8 (c:Nat):=by simp [rowU]
  have ht:(((rowU cs).toList.take o)).length=o:=by rw[hR,List.length_take,List.length_map];omega
  have hg':∀ (z:List Nat) j,j<z.length→(z.map fun c=>Value.int .u8 (c:Nat))[j]?=some (.int .u8 (z.getD j 0:Nat)):=fun z j hj=>by
   rw[List.getElem?_map,List.getElem?_eq_getElem hj,List.getD_eq_getElem?_getD,List.getElem?_eq_getElem hj];rfl
  refine Array.ext_getElem? fun j=>?_
  rw[List.getElem?_toArray]
  by_cases h:j<cs.length
  ·rw[rowU_get _ _ (by rw[patch_length];exact h),patch_at _ _ _ _ h]
   by_cases h1:j<o
   ·rw[if_neg (by omega),List.append_assoc,List.getElem?_append_left (by omega),List.getElem?_take,if_pos h1,hR,hg' _ _ h]
   ·by_cases h2:j<o+l.length
    ·rw[if_pos ⟨by omega,h2⟩,List.getElem?_append_left (by rw[List.length_append,ht,hlen];omega),List.getElem?_append_right (by omega),ht,hg' _ _ (by omega)]
    ·rw[if_neg (by omega),List.getElem?_append_right (by rw[List.length_append,ht,hlen];omega),List.length_append,ht,hlen,List.getElem?_drop,hR,show o+l.length+(j-(o+l.length))=j by omega,hg' _ _ h]
  ·rw[List.getElem?_eq_none (by rw[List.length_append,List.length_append,ht,hlen,List.length_drop,hR,List.length_map];omega),Array.getElem?_eq_none (by rw[rowU_size,patch_length];omega)]
 rw[e]
theorem row_bytes {w:World}{g:Nat}{l:List Nat} (h:w.heap[g]?=some (.cells (rowU l) 5)):Bytes w (some ⟨g,0,none⟩) l:=by
 refine .inr ⟨g,0,rfl,(Array.getElem?_eq_some_iff.1 h).1,fun i hi=>?_⟩
 simp only[World.cell?,h]
 rw[Nat.zero_add]
 exact rowU_get l i hi
def grownL (L at':Nat) (lo lb:List Nat):List Nat:=patch (patch (List.replicate L 0) 0 lo) at' lb
theorem grown_length (L at':Nat) (lo lb:List Nat):(grownL L at' lo lb).length=L:=by unfold grownL;rw[patch_length,patch_length,List.length_replicate]
theorem grow_text {W:World}{L at' cap:Nat}{lo lb:List Nat}{x y:Addr} (h1:lo.length≤L) (h2:at'+lb.length≤L) (hlo:Bytes W (some x) lo) (hlb:Bytes W (some y) lb):
  ∃ w1 w2,(Builtin.copy_ #[22,22] 3 #[.slice (some ⟨W.heap.size,0,none⟩) L L,.slice (some x) lo.length lo.length]).run Tryz.prog (W.alloc (.cells (madeCells #[.int .u8 0] L) 5))=.ok (goInt lo.length) w1∧(Builtin.copy_ #[22,22] 3 #[.slice (some ⟨W.heap.size,at',none⟩) (L-at') (L-at'),.slice (some y) lb.length cap]).run Tryz.prog w1=.ok (goInt lb.length) w2∧Bytes w2 (some ⟨W.heap.size,0,none⟩) (grownL L at' lo lb)∧Below W.heap.size W w2:=by
 have HB:=((Below.refl W.heap.size W).alloc (Nat.le_refl _) (.cells (madeCells #[.int .u8 0] L) 5))
 have HG:=(heap_alloc_new W (.cells (madeCells #[.int .u8 0] L) 5))
 rw[rowU_made] at HG HB ⊢
 obtain ⟨w1,c1,g1,b1,s1⟩:=copy_row (o:=0) (dn:=L) (dcap:=L) (cap:=lo.length) lo HG (hlo.below HB) h1 (by rw[List.length_replicate];omega)
 have B1:=HB.trans (b1 _ (Nat.le_refl _))
 obtain ⟨w2,c2,g2,b2,s2⟩:=copy_row (o:=at') (dn:=L-at') (dcap:=L-at') (cap:=cap) lb g1 (hlb.below B1) (by omega) (by rw[patch_length,List.length_replicate];omega)
 exact ⟨w1,w2,c1,c2,row_bytes g2,B1.trans (b2 _ (Nat.le_refl _))⟩
theorem bgrow_walk {w:World}{ph x L at' cap:Nat}{lo lb:List Nat}{y:Addr} (hat:at'+lb.length≤L) (hN:0<lb.length) (hL:L≤1000000) (hlo:lo.length≤L) {G1 G2:Nat→World→Prop}{G3:Nat→Value→Value→World→Prop}{R:Value→Value→World→Prop}
  (HR:Calls Tryz.prog 15 #[.pointer (some ⟨ph,0,none⟩),.int .u64 (x:Nat)] w fun e w'=>∃ m:Nat,e=.returned (.tuple #[.int .i64 ((m:Int)+1),.int .i64 0])∧G1 m w')
  (HRd:∀ W m,G1 m W→Calls Tryz.prog 16 #[.pointer (some ⟨ph,0,none⟩),.int .u64 (x:Nat)] W fun e w'=>∃ g,e=.returned (.tuple #[.slice (some ⟨g,0,none⟩) lo.length lo.length,.int .i64 0])∧Bytes w' (some ⟨g,0,none⟩) lo∧Bytes w' (some y) lb∧G2 m w')
  (HL:∀ W W' s m,G2 m W→Below W.heap.size W W'→W.heap.size≤s→Bytes W' (some ⟨s,0,none⟩) (grownL L at' lo lb)→Calls Tryz.prog 59 #[.pointer (some ⟨ph,0,none⟩),.slice (some ⟨s,0,none⟩) L L] W' fun e w'=>∃ v z,e=.returned (.tuple #[v,z])∧G3 m v z w')
  (HD:∀ W m v z u,G3 m v z W→CallsD Tryz.prog 54 #[.pointer (some ⟨ph,0,none⟩),.int .i64 ((m:Int)+1)] u W fun e u' w'=>u'=u∧e=.returned (.int .i64 0)∧R v z w'):
  Calls Tryz.prog 40 #[.pointer (some ⟨ph,0,none⟩),.int .u64 (x:Nat),.int .i64 (L:Nat),.int .i64 (at':Nat),.slice (some y) lb.length cap] w fun e w'=>∃ v z,e=.returned (.tuple #[v,z])∧R v z w':=by
 have A1:=hide HR
 have A2:=hide HRd
 have A3:=hide HL
 have A4:=hide HD
 have T:=hide (fun W x=>grow_text (W:=W) (x:=x) (y:=y) (cap:=cap) hlo hat)
 have m1:=fun w'=>run_make_row' (P:=Tryz.prog) 22 5 (.int .u8 0) 1 Tryz.underlying22 Tryz.info5' rfl .i64 .i64 L (by omega) (by omega) w'
 have i1:(0:Int)≤(at':Nat):=by omega
 have i2:(at':Int)≤(L:Nat):=by omega
 have i3:at'≤L:=by omega
 have i4:(L:Int)-(at':Nat)=((L-at':Nat):Int):=by omega
 have i5:(L=at')=False:=eq_false (by omega)
 have i6:(at'=L)=False:=eq_false (by omega)
 have i7:(L-at'=0)=False:=eq_false (by omega)
 have i8:((L:Int)=(at':Nat))=False:=eq_false (by omega)
 have i9:((at':Int)=(L:Nat))=False:=eq_false (by omega)
 clear HR HRd HL HD hlo hat hN hL
 generalize hn:lo.length=n at *
 generalize hk:lb.length=k at *
 go_enter_defers Tryz.func40,Tryz.ntmps40
 go_wp2_with fail
 refine (unhide A1).mono ?_
 rintro e w2 ⟨m,rfl,g1⟩
 have B2:=hide (unhide A2 _ _ g1)
 clear g1 A1 A2
 go_wp2_with fail
 refine (unhide B2).mono ?_
 rintro e w3 ⟨g,rfl,q1,q2,g2⟩
 obtain ⟨w4,w5,c1,c2,q5,k5⟩:=unhide T w3 ⟨g,0,none⟩ q1 q2
 have B5:=hide (unhide A3 _ _ _ _ g2 k5 (Nat.le_refl _) q5)
 clear q1 q2 g2 k5 q5 T A3 B2
 go_wp2_with fail
 refine (unhide B5).mono ?_
 rintro e w6 ⟨v,z,rfl,g3⟩
 have B6:=hide (unhide A4 _ _ _ _ .returning g3)
 clear g3 A4 B5
 go_wp2_with fail
 all_goals
  refine leaves_cons (f:=54) (args:=#[.pointer (some ⟨ph,0,none⟩),.int .i64 ((m:Int)+1)]) (by simp) (by simp [go_sem]) ?_
  refine (unhide B6).mono ?_
  rintro e u' w7 ⟨rfl,rfl,hR⟩
  exact ⟨_,results_tmp2 rfl _ _ _,v,z,rfl,hR⟩
end Go.Proofs.YtnfbaapbpgbgpaaGreat
