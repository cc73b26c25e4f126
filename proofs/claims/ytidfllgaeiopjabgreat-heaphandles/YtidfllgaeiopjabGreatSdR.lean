import Derived.Test.YtidfllgaeiopjabGreatDcV
import Derived.Test.YtidfllgaeiopjabGreatDcL
import Derived.Test.YtidfllgaeiopjabGreatDcZ
import Derived.Test.YtidfllgaeiopjabGreatDcD
import Derived.Test.YtidfllgaeiopjabGreatSdL
import Derived.Test.YtidfllgaeiopjabGreatHGet
import Derived.Test.YtidfllgaeiopjabGreatTwin
import Derived.Test.YtidfllgaeiopjabGreatDdH
namespace Go.Proofs.YtidfllgaeiopjabGreat
open Go.ChangeShapes Go.WideShapes Go.ChangeAt Go.RowKit
set_option linter.unusedVariables false
set_option linter.unusedSimpArgs false
set_option maxRecDepth 100000
set_option maxHeartbeats 1000000
structure Run (w:World) (own:Nat→Nat) (ps ph pd:Nat) (tag dt:Nat→Nat) (M D:Hp) (H:HC) (C:DC) (v:Value) (l:List Nat) (W:World):Prop where
 sd:SideAt W ps ph pd tag dt M D H C v l
 fr:Fr own (ownS ps tag dt v) w W
 bl:w.heap.size<W.heap.size
 b0:ownS ps tag dt v w.heap.size=0
theorem Fr.ofBelow {tag:Nat→Nat}{w w':World} (k:Below w.heap.size w w'):Fr tag tag w w':=⟨k.os,k.tape,k.output,k.size,fun g hg e=>⟨k.block g hg,e⟩⟩
theorem SideAt.off {w:World}{ps ph pd:Nat}{tag dt:Nat→Nat}{M D:Hp}{H:HC}{C:DC}{v:Value}{l:List Nat} (h:SideAt w ps ph pd tag dt M D H C v l) {g:Nat} (hg:w.heap.size≤g):ownS ps tag dt v g=0:=by
 by_cases q:ownS ps tag dt v g=0
 ·exact q
 ·exact absurd (h.lt g q) (by omega)
theorem Run.start {w W:World}{ps ph pd:Nat}{tag dt:Nat→Nat}{M D:Hp}{H:HC}{C:DC}{v:Value}{l:List Nat} (h:SideAt w ps ph pd tag dt M D H C v l) {x:Obj} (k:Still (w.alloc x) W):Run w (ownS ps tag dt v) ps ph pd tag dt M D H C v l W:=by
 have hb:Below w.heap.size w W:=((Below.refl _ _).alloc (Nat.le_refl _) _).trans (k.below.mono (by simp))
 exact ⟨h.below hb,Fr.ofBelow hb,by rw[k.heap];simp,h.off (Nat.le_refl _)⟩
section
variable {w W W':World}{own:Nat→Nat}{ps ph pd:Nat}{tag dt tag' dt':Nat→Nat}{M D M' D':Hp}{H H':HC}{C C':DC}{v:Value}{l:List Nat}
theorem Run.below (r:Run w own ps ph pd tag dt M D H C v l W) (k:Below W.heap.size W W'):Run w own ps ph pd tag dt M D H C v l W':=
 ⟨r.sd.below k,r.fr.trans (Fr.ofBelow k),Nat.lt_of_lt_of_le r.bl k.size,r.b0⟩
theorem Run.still (r:Run w own ps ph pd tag dt M D H C v l W) (k:Still W W'):Run w own ps ph pd tag dt M D H C v l W':=r.below k.below
theorem Run.heap (r:Run w own ps ph pd tag dt M D H C v l W) (f:Fr tag tag' W W') (he:HAt W' ph tag' M' H'):W'.heap[ps]?=W.heap[ps]?∧W'.heap[w.heap.size]?=W.heap[w.heap.size]?∧Run w own ps ph pd tag' dt M' D H' C v l W':=by
 obtain ⟨s,f2⟩:=r.sd.heap f he
 have b:=f2.blk _ r.bl r.b0
 exact ⟨(f.blk ps (block_lt_of_cell r.sd.c0) r.sd.p1.1).1,b.1,s,r.fr.trans f2,Nat.lt_of_lt_of_le r.bl f.size,b.2⟩
theorem Run.doc (r:Run w own ps ph pd tag dt M D H C v l W) (f:Fr dt dt' W W') (dc:DAt W' pd dt' D' (D'.large-D'.kept) C'):W'.heap[ps]?=W.heap[ps]?∧W'.heap[w.heap.size]?=W.heap[w.heap.size]?∧Run w own ps ph pd tag dt' M D' H C' v l W':=by
 obtain ⟨s,f2⟩:=r.sd.doc f dc
 have b:=f2.blk _ r.bl r.b0
 exact ⟨(f.blk ps (block_lt_of_cell r.sd.c0) r.sd.p1.2.1).1,b.1,s,r.fr.trans f2,Nat.lt_of_lt_of_le r.bl f.size,b.2⟩
theorem Run.keep (r:Run w own ps ph pd tag dt M D H C v l W) (k:Below W.heap.size W W'):W'.heap[ps]?=W.heap[ps]?∧W'.heap[w.heap.size]?=W.heap[w.heap.size]?∧Run w own ps ph pd tag dt M D H C v l W':=
 ⟨k.block ps (block_lt_of_cell r.sd.c0),k.block _ r.bl,r.below k⟩
end
def SideGo (own:Nat→Nat) (ps ph pd n:Nat) (w W:World):Prop:=∃ tag dt M H C v l,SideAt W ps ph pd tag dt M M H C v l∧Okd M n∧l.length≤n∧Fr own (ownS ps tag dt v) w W
theorem Run.go {w W:World}{own:Nat→Nat}{ps ph pd n:Nat}{tag dt:Nat→Nat}{M:Hp}{H:HC}{C:DC}{v:Value}{l:List Nat} (r:Run w own ps ph pd tag dt M M H C v l W) (o:Okd M n) (hl:l.length≤n):SideGo own ps ph pd n w W:=⟨tag,dt,M,H,C,v,l,r.sd,o,hl,r.fr⟩
theorem note_go {w W:World}{own:Nat→Nat}{ps ph pd n:Nat}{tag dt:Nat→Nat}{M:Hp}{H:HC}{C:DC}{v:Value}{l:List Nat} (r:Run w own ps ph pd tag dt M M H C v l W) (o:Okd M (n+1)) (hl:l.length≤n) (hn:n≤65536) {x:Nat} (hx:x<18446744073709551616):
  Calls Tryz.prog 45 #[.pointer (some ⟨ps,0,none⟩),.int .u64 (x:Nat)] W fun e w'=>e=.returned (.tuple #[])∧SideGo own ps ph pd (n+1) w w':=by
 refine (note_any x r.sd.c2 (r.sd.fz 2 (by decide)) r.sd.rg r.sd.p1.2.2 (by omega)).mono ?_
 rintro e w' ⟨rfl,v',nr⟩
 obtain ⟨s,f⟩:=r.sd.note hx nr
 exact ⟨rfl,tag,dt,M,H,C,v',l ++ [x],s,o,by rw[List.length_append];show l.length+1≤n+1;omega,r.fr.trans f⟩
theorem refv_lt {M M':Hp}{k r s v x:Nat} (wf:HpWf M') (h:AllocR M k r s M' v x):v<18446744073709551616:=by
 rcases h with ⟨_,M1,_,⟨a,rfl,rfl,rfl⟩|⟨_,rfl,_,_⟩⟩|⟨_,M1,_,⟨M2,n,a,al,rfl,rfl,rfl⟩|⟨_,rfl,_,_⟩⟩
 ·have:=wf.ok.u2
  have:=wf.ok.h2
  have e:(addS M1 k r s).used=M1.used+(1+r+s):=rfl
  omega
 ·decide
 ·have:=wf.ok.sl
  have e:n≤(addL M2 k r s n).slots.length:=by
   show n≤(if n<M2.slots.length then M2.slots.set n M2.objs.length else M2.slots ++ [M2.objs.length]).length
   have:=al.2.1
   split
   ·rw[List.length_set];omega
   ·rw[List.length_append];omega
  omega
 ·decide
theorem arm_alloc {w:World}{ps ph pd n:Nat}{tag dt:Nat→Nat}{M:Hp}{H:HC}{C:DC}{v:Value}{l:List Nat} (sd:SideAt w ps ph pd tag dt M M H C v l) (o:Okd M n) (hl:l.length≤n) (hn:n≤65536) (on A B Cc r vv:Int) (raw wv:Nat) (dv:Value):
  Calls Tryz.prog 17 #[.pointer (some ⟨ps,0,none⟩),.agg (opC on 1 A B Cc r vv raw wv dv)] w fun e w'=>e=.returned (.bool true)∧SideGo (ownS ps tag dt v) ps ph pd (n+1) w w':=by
 have ho1:=o.o1
 have hob:=o.ob
 have hcl:=o.cl
 have hrz:=o.rz
 have hrt:=o.rt
 have hsl:=o.sl
 by_cases hf:Fits A B Cc
 ·obtain ⟨k',rfl⟩:∃ k':Nat,A=(k':Nat):=⟨A.toNat,by have:=hf.1;omega⟩
  obtain ⟨r',rfl⟩:∃ r':Nat,B=(r':Nat):=⟨B.toNat,by have:=hf.2.2.1;omega⟩
  obtain ⟨s',rfl⟩:∃ s':Nat,Cc=(s':Nat):=⟨Cc.toNat,by have:=hf.2.2.2.2.1;omega⟩
  have hk1:1≤k'∧k'≤255:=⟨by have:=hf.1;omega,by have:=hf.2.1;omega⟩
  have hr1:r'≤1048576:=by have:=hf.2.2.2.1;omega
  have hs1:s'≤1048576:=by have:=hf.2.2.2.2.2;omega
  refine plays_alloc on _ _ _ r vv raw wv dv sd.c0 sd.c1
   (G1:=fun y x W=>∃ tag' M' H',AllocR M k' r' s' M' y x∧Run w (ownS ps tag dt v) ps ph pd tag' dt M' M H' C v l W)
   (G2:=fun y x W=>∃ tag' dt' M' H' C',AllocR M k' r' s' M' y x∧Run w (ownS ps tag dt v) ps ph pd tag' dt' M' M' H' C' v l W)
   (fun W k=>?_) (fun W W' y x g k=>?_) (fun W W' y x g k=>?_)
  ·have R:=Run.start sd k
   refine (halloc_any R.sd.he ho1 (by omega) (by omega) (by omega) k' r' s' hf).mono ?_
   rintro e w' ⟨tag',H',M',y,x,q1,q2,rfl,q4⟩
   obtain ⟨z1,z2,z3⟩:=R.heap q2 q4
   exact ⟨y,x,rfl,z1,z2,tag',M',H',q1,z3⟩
  ·obtain ⟨tag',M',H',q1,R⟩:=g
   have R':=R.still k
   refine (dalloc_any R'.sd.dc rfl sd.he.wf o.da.z (by omega) ho1 (by omega) (by omega) (by omega) hk1 hr1 hs1).mono ?_
   rintro e w' ⟨y',x',rfl,M2,a,dt',C',q2,q3⟩
   obtain ⟨rfl,rfl,rfl⟩:=q1.one a
   obtain ⟨z1,z2,z3⟩:=R'.doc q3 q2
   exact ⟨rfl,z1,z2,tag',dt',M',H',C',q1,z3⟩
  ·obtain ⟨tag',dt',M',H',C',q1,R⟩:=g
   have R':=R.still k
   exact note_go R' (o.allocR sd.he.wf hk1.2 q1 R'.sd.he.wf) hl hn (refv_lt R'.sd.he.wf q1)
 ·refine plays_alloc on _ _ _ r vv raw wv dv sd.c0 sd.c1
   (G1:=fun y x W=>y=0∧x=34∧Run w (ownS ps tag dt v) ps ph pd tag dt M M H C v l W)
   (G2:=fun y x W=>y=0∧x=34∧Run w (ownS ps tag dt v) ps ph pd tag dt M M H C v l W)
   (fun W k=>?_) (fun W W' y x g k=>?_) (fun W W' y x g k=>?_)
  ·have R:=Run.start sd k
   refine (alloc_bad A B Cc hf).mono ?_
   rintro e w' ⟨rfl,rfl⟩
   exact ⟨0,34,rfl,rfl,rfl,rfl,rfl,R⟩
  ·obtain ⟨rfl,rfl,R⟩:=g
   have R':=R.still k
   refine (dalloc_bad hf).mono ?_
   rintro e w' ⟨rfl,q⟩
   obtain ⟨z1,z2,z3⟩:=R'.keep q.below
   exact ⟨rfl,z1,z2,rfl,rfl,z3⟩
  ·obtain ⟨rfl,rfl,R⟩:=g
   exact note_go (R.still k) (o.mono (by omega)) hl hn (by decide)
theorem arm_collect {w:World}{ps ph pd n:Nat}{tag dt:Nat→Nat}{M:Hp}{H:HC}{C:DC}{v:Value}{l:List Nat} (sd:SideAt w ps ph pd tag dt M M H C v l) (o:Okd M n) (hl:l.length≤n) (hn:n≤65536) (on A B Cc r vv:Int) (raw wv:Nat) (dv:Value):
  Calls Tryz.prog 17 #[.pointer (some ⟨ps,0,none⟩),.agg (opC on 11 A B Cc r vv raw wv dv)] w fun e w'=>e=.returned (.bool true)∧SideGo (ownS ps tag dt v) ps ph pd (n+1) w w':=by
 have ho1:=o.o1
 have hob:=o.ob
 have hcl:=o.cl
 have hrz:=o.rz
 have hrt:=o.rt
 refine plays_collect on A B Cc r vv raw wv dv sd.c0 sd.c1
  (G1:=fun W=>∃ tag' M' H',IsColl M M'∧Run w (ownS ps tag dt v) ps ph pd tag' dt (fitM M' 0) M H' C v l W)
  (fun W k=>?_) (fun W W' g k=>?_)
 ·have R:=Run.start sd k
  refine (hcollect_any R.sd.he (by omega) (by omega)).mono ?_
  rintro e w' ⟨rfl,tag',H',M',q1,q2,q3⟩
  obtain ⟨z1,z2,z3⟩:=R.heap q3 q2
  exact ⟨rfl,z1,z2,tag',M',H',q1,z3⟩
 ·obtain ⟨tag',M',H',q1,R⟩:=g
  have R':=R.still k
  refine (dcollect_any R'.sd.dc sd.he.wf o.da.z (by omega) ho1 (by omega) (by omega) (by omega)).mono ?_
  rintro e w' ⟨rfl,M1,c,dt',C',q2,q3⟩
  obtain rfl:=q1.one c
  have e0:(fitM M' 0).large-(fitM M' 0).kept=0:=by
   have a1:(fitM M' 0).large=M'.large∧(fitM M' 0).kept=M'.kept:=by
    unfold fitM
    split
    ·split
     ·exact ⟨(becM_parts _ _).2.2.2.2.2.1,(becM_parts _ _).2.2.2.2.2.2.2.2⟩
     ·exact ⟨rfl,rfl⟩
    ·split
     ·exact ⟨(becM_parts _ _).2.2.2.2.2.1,(becM_parts _ _).2.2.2.2.2.2.2.2⟩
     ·exact ⟨rfl,rfl⟩
   obtain ⟨t,_,_,_,rfl⟩:=q1
   rw[a1.1,a1.2]
   exact Nat.sub_self _
  have q2':DAt w' pd dt' (fitM M' 0) ((fitM M' 0).large-(fitM M' 0).kept) C':=by
   rw[e0];exact q2
  obtain ⟨z1,z2,z3⟩:=R'.doc q3 q2'
  exact ⟨rfl,z3.go (o.fitColl sd.he.wf q1) (by omega)⟩
theorem arm_resize {w:World}{ps ph pd n:Nat}{tag dt:Nat→Nat}{M:Hp}{H:HC}{C:DC}{v:Value}{l:List Nat} (sd:SideAt w ps ph pd tag dt M M H C v l) (o:Okd M n) (hl:l.length≤n) (hn:n≤65536) (on A B Cc r vv:Int) (raw wv:Nat) (dv:Value):
  Calls Tryz.prog 17 #[.pointer (some ⟨ps,0,none⟩),.agg (opC on 12 A B Cc r vv raw wv dv)] w fun e w'=>e=.returned (.bool true)∧SideGo (ownS ps tag dt v) ps ph pd (n+1) w w':=by
 have ho1:=o.o1
 have hob:=o.ob
 have hcl:=o.cl
 have hrz:=o.rz
 have hrt:=o.rt
 have one:∀ {M1 M2:Hp}{x1 x2:Nat},ResR M A M1 x1→ResR M A M2 x2→M1=M2∧x1=x2:=by
  intro M1 M2 x1 x2 a b
  rcases a with ⟨a0,rfl,rfl⟩|⟨a0,N1,ac,a⟩
  ·rcases b with ⟨b0,rfl,rfl⟩|⟨b0,_⟩
   ·exact ⟨rfl,rfl⟩
   ·exact absurd b0 a0
  ·rcases b with ⟨b0,_⟩|⟨b0,N2,bc,b⟩
   ·exact absurd a0 b0
   ·obtain rfl:=ac.one bc
    rcases a with ⟨a1,rfl,rfl⟩|⟨a1,rfl,rfl⟩
    ·rcases b with ⟨b1,rfl,rfl⟩|⟨b1,rfl,rfl⟩
     ·exact ⟨rfl,rfl⟩
     ·omega
    ·rcases b with ⟨b1,rfl,rfl⟩|⟨b1,rfl,rfl⟩
     ·omega
     ·exact ⟨rfl,rfl⟩
 refine plays_resize on A B Cc r vv raw wv dv sd.c0 sd.c1
  (G1:=fun x W=>∃ tag' M' H',ResR M A M' x∧Run w (ownS ps tag dt v) ps ph pd tag' dt M' M H' C v l W)
  (fun W k=>?_) (fun W W' x g k=>?_)
 ·have R:=Run.start sd k
  by_cases hA:64≤A∧A≤524288
  ·obtain ⟨A',rfl⟩:∃ A':Nat,A=(A':Nat):=⟨A.toNat,by omega⟩
   refine (hresize_any R.sd.he (by omega) (by omega) A' (by omega) (by omega)).mono ?_
   rintro e w' ⟨tag',H',M',q1,q2,⟨q3,rfl,q4⟩|⟨q3,rfl,q4⟩⟩
   ·obtain ⟨z1,z2,z3⟩:=R.heap q2 q4
    exact ⟨31,rfl,z1,z2,tag',M',H',.inr ⟨hA,M',q1,.inl ⟨by simpa using q3,rfl,rfl⟩⟩,z3⟩
   ·obtain ⟨z1,z2,z3⟩:=R.heap q2 q4
    exact ⟨0,rfl,z1,z2,tag',becM M' A',H',.inr ⟨hA,M',q1,.inr ⟨by simpa using q3,rfl,rfl⟩⟩,z3⟩
  ·refine (resize_bad (by omega)).mono ?_
   rintro e w' ⟨rfl,rfl⟩
   exact ⟨36,rfl,rfl,rfl,tag,M,H,.inl ⟨hA,rfl,rfl⟩,R⟩
 ·obtain ⟨tag',M',H',q1,R⟩:=g
  have R':=R.still k
  refine (dresize_any R'.sd.dc rfl sd.he.wf o.da.z (by omega) ho1 (by omega) (by omega) (by omega) A).mono ?_
  rintro e w' ⟨c,rfl,M1,q2,dt',C',q3,q4⟩
  obtain ⟨rfl,rfl⟩:=one q1 q2
  obtain ⟨z1,z2,z3⟩:=R'.doc q4 q3
  exact ⟨rfl,z1,z2,fun W2 k2=>(z3.still k2).go (o.resR sd.he.wf q1) (by omega)⟩
theorem refW_lt {M:Hp} (ok:HpOk M) {t:Nat} (h:t=0∨Is M t):refW M t<18446744073709551616:=by
 rcases h with rfl|h
 ·unfold refW;rw[if_pos rfl];decide
 ·exact (num_back ok h).2.1
theorem hand_lt {M:Hp} (ok:HpOk M) (n:Int):((handR M n).map (refW M)).getD 0<18446744073709551616:=by
 cases e:handR M n with
 | none=>exact Nat.zero_lt_succ _
 | some i=>
  obtain ⟨m,_,h1,h2⟩:=handR_some e
  refine refW_lt ok (ok.rt i ?_)
  rw[List.getD_eq_getElem?_getD,List.getElem?_eq_getElem h1] at h2
  have h3:M.roots[m]=some i:=h2
  rw[← h3]
  exact List.getElem_mem h1
theorem pickM_lt {M:Hp} (ok:HpOk M) {l:List Nat} (hl:W64 l) (n:Int) {raw:Nat} (hr:raw<18446744073709551616):pickM M l n raw<18446744073709551616:=by
 unfold pickM
 split
 ·exact hr
 ·split
  ·exact hand_lt ok _
  ·split
   ·decide
   ·exact hl _
theorem getM_lt {M:Hp} (ok:HpOk M) (d:Dta M) (x:Nat) (i:Int):(getM M x i).1<18446744073709551616:=by
 unfold getM
 split
 ·decide
 ·rename_i h0
  split
  ·show (fldM M (numOf M x)).getD i.toNat 0<_
   unfold fldM
   rw[List.getD_eq_getElem?_getD]
   by_cases q:i.toNat<((ob M (numOf M x)).refs.map (refW M)).length
   ·rw[List.getElem?_append_left q,List.getElem?_eq_getElem q]
    show ((ob M (numOf M x)).refs.map (refW M))[i.toNat]<_
    rw[List.getElem_map]
    exact refW_lt ok (ok.rf _ (num_is h0) _ (List.getElem_mem _))
   ·rw[List.getElem?_append_right (by omega),← List.getD_eq_getElem?_getD]
    exact d.ww _ _
  ·decide
theorem Run.pick {w W:World}{own:Nat→Nat}{ps ph pd n:Nat}{tag dt:Nat→Nat}{M:Hp}{H:HC}{C:DC}{v:Value}{l:List Nat} (R:Run w own ps ph pd tag dt M M H C v l W) (o:Okd M n) (hl:l.length≤n) (hn:n≤65536) (r:Int) (hr1:-9223372036854775808≤r) (hr2:r≤9223372036854775807) (raw:Nat):
  Calls Tryz.prog 102 #[.pointer (some ⟨ps,0,none⟩),.int .i64 r,.int .u64 (raw:Nat)] W fun e w'=>e=.returned (.int .u64 (pickM M l r raw:Nat))∧Still W w':=
 pick_any R.sd.dc R.sd.he.wf (by have:=o.ob;omega) o.o1 (by have:=o.rt;omega) R.sd.c1 R.sd.c2 R.sd.rg (by omega) r hr1 hr2 raw
section
variable {w:World}{ps ph pd n:Nat}{tag dt:Nat→Nat}{M:Hp}{H:HC}{C:DC}{v:Value}{l:List Nat}
theorem arm_root (sd:SideAt w ps ph pd tag dt M M H C v l) (o:Okd M n) (hl:l.length≤n) (hn:n≤65536) (on A B Cc r vv:Int) (raw wv:Nat) (dv:Value) (hr1:-9223372036854775808≤r) (hr2:r≤9223372036854775807) (hraw:raw<18446744073709551616):
  Calls Tryz.prog 47 #[.pointer (some ⟨ps,0,none⟩),.agg (opC on 7 A B Cc r vv raw wv dv)] w fun e w'=>e=.returned (.bool true)∧SideGo (ownS ps tag dt v) ps ph pd (n+1) w w':=by
 have ho1:=o.o1
 have hob:=o.ob
 have hrt:=o.rt
 have hx:=pickM_lt sd.he.wf.ok sd.wl r hraw
 cases hm:mayM M (pickM M l r raw) with
 | false=>
  refine handles_root on A B Cc r vv raw wv dv sd.c0 sd.c1 (ref:=pickM M l r raw)
   (G1:=fun y x W=>y=0∧x=32∧Run w (ownS ps tag dt v) ps ph pd tag dt M M H C v l W)
   (G2:=fun y x W=>Run w (ownS ps tag dt v) ps ph pd tag dt M M H C v l W)
   (fun W k=>(Run.start sd k).pick o hl hn r hr1 hr2 raw) (fun W k=>?_) (fun W W' y x g k=>?_) (fun W W' y x g k=>(g.still k).go (o.mono (by omega)) (by omega))
  ·have R:=Run.start sd k
   refine (hrootM_no R.sd.he _ hx hm).mono ?_
   rintro e w' ⟨rfl,q⟩
   obtain ⟨z1,z2,z3⟩:=R.keep q
   exact ⟨0,32,rfl,z1,z2,rfl,rfl,z3⟩
  ·obtain ⟨rfl,rfl,R⟩:=g
   have R':=R.still k
   refine (droot_no R'.sd.dc sd.he.wf (by omega) ho1 hx hm).mono ?_
   rintro e w' ⟨rfl,q⟩
   obtain ⟨z1,z2,z3⟩:=R'.keep q.below
   exact ⟨rfl,z1,z2,z3⟩
 | true=>
  refine handles_root on A B Cc r vv raw wv dv sd.c0 sd.c1 (ref:=pickM M l r raw)
   (G1:=fun y x W=>∃ (m:Nat) (tag':Nat→Nat) (H':HC),y=(m:Int)+1∧x=0∧LowR M m∧Run w (ownS ps tag dt v) ps ph pd tag' dt (rootM M m (pickM M l r raw)) M H' C v l W)
   (G2:=fun y x W=>∃ (m:Nat) (tag' dt':Nat→Nat) (H':HC) (C':DC),Run w (ownS ps tag dt v) ps ph pd tag' dt' (rootM M m (pickM M l r raw)) (rootM M m (pickM M l r raw)) H' C' v l W)
   (fun W k=>(Run.start sd k).pick o hl hn r hr1 hr2 raw) (fun W k=>?_) (fun W W' y x g k=>?_) (fun W W' y x g k=>?_)
  ·have R:=Run.start sd k
   refine (hrootM_yes R.sd.he (by omega) _ hx hm).mono ?_
   rintro e w' ⟨m,tag',H',rfl,low,q1,q2⟩
   obtain ⟨z1,z2,z3⟩:=R.heap q2 q1
   exact ⟨(m:Int)+1,0,by rw[Int.add_comm],z1,z2,m,tag',H',rfl,rfl,low,z3⟩
  ·obtain ⟨m,tag',H',rfl,rfl,low,R⟩:=g
   have R':=R.still k
   refine (droot_yes R'.sd.dc sd.he.wf (by omega) ho1 (by omega) hx hm low).mono ?_
   rintro e w' ⟨rfl,dt',C',q1,q2⟩
   obtain ⟨z1,z2,z3⟩:=R'.doc (D':=rootM M m (pickM M l r raw)) q2 q1
   exact ⟨rfl,z1,z2,m,tag',dt',H',C',z3⟩
  ·obtain ⟨m,tag',dt',H',C',R⟩:=g
   exact (R.still k).go (o.root _) (by omega)
theorem arm_at (sd:SideAt w ps ph pd tag dt M M H C v l) (o:Okd M n) (hl:l.length≤n) (hn:n≤65536) (on A B Cc r vv:Int) (raw wv:Nat) (dv:Value) (hr1:-9223372036854775808≤r) (hr2:r≤9223372036854775807) (hraw:raw<18446744073709551616) (hA1:-9223372036854775808≤A) (hA2:A≤9223372036854775807):
  Calls Tryz.prog 47 #[.pointer (some ⟨ps,0,none⟩),.agg (opC on 8 A B Cc r vv raw wv dv)] w fun e w'=>e=.returned (.bool true)∧SideGo (ownS ps tag dt v) ps ph pd (n+1) w w':=by
 have ho1:=o.o1
 have hob:=o.ob
 have hrt:=o.rt
 have e0:(if (handR M A).isSome then (0:Int) else 35)=((if (handR M A).isSome then 0 else 35:Nat):Int):=by split <;> rfl
 refine handles_at on A B Cc r vv raw wv dv sd.c0 sd.c1 (ref:=pickM M l r raw)
  (G1:=fun y x W=>y=((handR M A).map (refW M)).getD 0∧x=(if (handR M A).isSome then 0 else 35:Nat)∧Run w (ownS ps tag dt v) ps ph pd tag dt M M H C v l W)
  (G2:=fun y x W=>y=((handR M A).map (refW M)).getD 0∧Run w (ownS ps tag dt v) ps ph pd tag dt M M H C v l W)
  (fun W k=>(Run.start sd k).pick o hl hn r hr1 hr2 raw) (fun W k=>?_) (fun W W' y x g k=>?_) (fun W W' y x g k=>?_)
 ·have R:=Run.start sd k
  refine (hatM_any R.sd.he A hA1 hA2).mono ?_
  rintro e w' ⟨rfl,q⟩
  obtain ⟨z1,z2,z3⟩:=R.keep q
  exact ⟨_,_,by rw[e0],z1,z2,rfl,rfl,z3⟩
 ·obtain ⟨rfl,rfl,R⟩:=g
  have R':=R.still k
  refine (dat_any R'.sd.dc sd.he.wf (by omega) ho1 (by omega) A).mono ?_
  rintro e w' ⟨rfl,q⟩
  obtain ⟨z1,z2,z3⟩:=R'.keep q.below
  exact ⟨by rw[e0],z1,z2,rfl,z3⟩
 ·obtain ⟨rfl,R⟩:=g
  exact note_go (R.still k) (o.mono (by omega)) hl hn (hand_lt sd.he.wf.ok _)
theorem arm_put (sd:SideAt w ps ph pd tag dt M M H C v l) (o:Okd M n) (hl:l.length≤n) (hn:n≤65536) (on A B Cc r vv:Int) (raw wv:Nat) (dv:Value) (hr1:-9223372036854775808≤r) (hr2:r≤9223372036854775807) (hraw:raw<18446744073709551616) (hA1:-9223372036854775808≤A) (hA2:A≤9223372036854775807):
  Calls Tryz.prog 47 #[.pointer (some ⟨ps,0,none⟩),.agg (opC on 9 A B Cc r vv raw wv dv)] w fun e w'=>e=.returned (.bool true)∧SideGo (ownS ps tag dt v) ps ph pd (n+1) w w':=by
 have ho1:=o.o1
 have hob:=o.ob
 have hrt:=o.rt
 have hx:=pickM_lt sd.he.wf.ok sd.wl r hraw
 cases hh:handR M A with
 | none=>
  refine handles_put on A B Cc r vv raw wv dv sd.c0 sd.c1 (ref:=pickM M l r raw)
   (G1:=fun x W=>x=35∧Run w (ownS ps tag dt v) ps ph pd tag dt M M H C v l W)
   (G2:=fun x W=>Run w (ownS ps tag dt v) ps ph pd tag dt M M H C v l W)
   (fun W k=>(Run.start sd k).pick o hl hn r hr1 hr2 raw) (fun W k=>?_) (fun W W' x g k=>?_) (fun W W' x g k=>(g.still k).go (o.mono (by omega)) (by omega))
  ·have R:=Run.start sd k
   refine (hputM_no R.sd.he _ A hA1 hA2 hh).mono ?_
   rintro e w' ⟨rfl,q⟩
   obtain ⟨z1,z2,z3⟩:=R.keep q
   exact ⟨35,rfl,z1,z2,rfl,z3⟩
  ·obtain ⟨rfl,R⟩:=g
   have R':=R.still k
   refine (dput_no R'.sd.dc (by omega) hh _).mono ?_
   rintro e w' ⟨rfl,q⟩
   obtain ⟨z1,z2,z3⟩:=R'.keep q.below
   exact ⟨rfl,z1,z2,z3⟩
 | some y=>
  obtain ⟨m,rfl,hm1,hm2⟩:=handR_some hh
  have lk:∀ b:Bool,(if b then putM M m (pickM M l r raw) else M).large-(if b then putM M m (pickM M l r raw) else M).kept=M.large-M.kept:=fun b=>by cases b <;> rfl
  have ok':∀ b:Bool,Okd (if b then putM M m (pickM M l r raw) else M) (n+1):=fun b=>by
   cases b with
   | false=>exact o.mono (by omega)
   | true=>exact (o.put _).mono (by omega)
  refine handles_put on _ B Cc r vv raw wv dv sd.c0 sd.c1 (ref:=pickM M l r raw)
   (G1:=fun x W=>∃ (tag':Nat→Nat) (H':HC),x=(if mayM M (pickM M l r raw) then (0:Int) else 32)∧Run w (ownS ps tag dt v) ps ph pd tag' dt (if mayM M (pickM M l r raw) then putM M m (pickM M l r raw) else M) M H' C v l W)
   (G2:=fun x W=>∃ (tag' dt':Nat→Nat) (H':HC) (C':DC),Run w (ownS ps tag dt v) ps ph pd tag' dt' (if mayM M (pickM M l r raw) then putM M m (pickM M l r raw) else M) (if mayM M (pickM M l r raw) then putM M m (pickM M l r raw) else M) H' C' v l W)
   (fun W k=>(Run.start sd k).pick o hl hn r hr1 hr2 raw) (fun W k=>?_) (fun W W' x g k=>?_) (fun W W' x g k=>?_)
  ·have R:=Run.start sd k
   refine (hputM_yes R.sd.he _ hx m y hm2 hm1).mono ?_
   rintro e w' ⟨rfl,tag',H',q1,q2⟩
   obtain ⟨z1,z2,z3⟩:=R.heap q2 q1
   exact ⟨_,rfl,z1,z2,tag',H',rfl,z3⟩
  ·obtain ⟨tag',H',rfl,R⟩:=g
   have R':=R.still k
   refine (dput_yes R'.sd.dc sd.he.wf (by omega) ho1 (by omega) hm1 hm2 hx).mono ?_
   rintro e w' ⟨rfl,⟨C',q1⟩,q2⟩
   rw[← lk (mayM M (pickM M l r raw))] at q1
   obtain ⟨z1,z2,z3⟩:=R'.doc q2 q1
   exact ⟨rfl,z1,z2,tag',dt,H',C',z3⟩
  ·obtain ⟨tag',dt',H',C',R⟩:=g
   exact (R.still k).go (ok' _) (by omega)
theorem arm_drop (sd:SideAt w ps ph pd tag dt M M H C v l) (o:Okd M n) (hl:l.length≤n) (hn:n≤65536) (on A B Cc r vv:Int) (raw wv:Nat) (dv:Value) (hr1:-9223372036854775808≤r) (hr2:r≤9223372036854775807) (hraw:raw<18446744073709551616) (hA1:-9223372036854775808≤A) (hA2:A≤9223372036854775807):
  Calls Tryz.prog 47 #[.pointer (some ⟨ps,0,none⟩),.agg (opC on 10 A B Cc r vv raw wv dv)] w fun e w'=>e=.returned (.bool true)∧SideGo (ownS ps tag dt v) ps ph pd (n+1) w w':=by
 have ho1:=o.o1
 have hob:=o.ob
 have hrt:=o.rt
 cases hh:handR M A with
 | none=>
  refine handles_drop on A B Cc r vv raw wv dv sd.c0 sd.c1 (ref:=pickM M l r raw)
   (G1:=fun x W=>x=35∧Run w (ownS ps tag dt v) ps ph pd tag dt M M H C v l W)
   (G2:=fun x W=>Run w (ownS ps tag dt v) ps ph pd tag dt M M H C v l W)
   (fun W k=>(Run.start sd k).pick o hl hn r hr1 hr2 raw) (fun W k=>?_) (fun W W' x g k=>?_) (fun W W' x g k=>(g.still k).go (o.mono (by omega)) (by omega))
  ·have R:=Run.start sd k
   refine (hdropM_no R.sd.he A hA1 hA2 hh).mono ?_
   rintro e w' ⟨rfl,q⟩
   obtain ⟨z1,z2,z3⟩:=R.keep q
   exact ⟨35,rfl,z1,z2,rfl,z3⟩
  ·obtain ⟨rfl,R⟩:=g
   have R':=R.still k
   refine (ddrop_no R'.sd.dc (by omega) hh).mono ?_
   rintro e w' ⟨rfl,q⟩
   obtain ⟨z1,z2,z3⟩:=R'.keep q.below
   exact ⟨rfl,z1,z2,z3⟩
 | some y=>
  obtain ⟨m,rfl,hm1,hm2⟩:=handR_some hh
  refine handles_drop on _ B Cc r vv raw wv dv sd.c0 sd.c1 (ref:=pickM M l r raw)
   (G1:=fun x W=>∃ (tag':Nat→Nat) (H':HC),x=0∧Run w (ownS ps tag dt v) ps ph pd tag' dt (dropM M m) M H' C v l W)
   (G2:=fun x W=>∃ (tag' dt':Nat→Nat) (H':HC) (C':DC),Run w (ownS ps tag dt v) ps ph pd tag' dt' (dropM M m) (dropM M m) H' C' v l W)
   (fun W k=>(Run.start sd k).pick o hl hn r hr1 hr2 raw) (fun W k=>?_) (fun W W' x g k=>?_) (fun W W' x g k=>?_)
  ·have R:=Run.start sd k
   refine (hdropM_yes R.sd.he (by omega) m y hm2 hm1).mono ?_
   rintro e w' ⟨rfl,tag',H',q1,q2⟩
   obtain ⟨z1,z2,z3⟩:=R.heap q2 q1
   exact ⟨_,rfl,z1,z2,tag',H',rfl,z3⟩
  ·obtain ⟨tag',H',rfl,R⟩:=g
   have R':=R.still k
   refine (ddrop_yes R'.sd.dc (by omega) hm1 hm2).mono ?_
   rintro e w' ⟨rfl,⟨C',q1⟩,q2⟩
   obtain ⟨z1,z2,z3⟩:=R'.doc (D':=dropM M m) q2 q1
   exact ⟨rfl,z1,z2,tag',dt,H',C',z3⟩
  ·obtain ⟨tag',dt',H',C',R⟩:=g
   exact (R.still k).go (o.drop.mono (by omega)) (by omega)
end
theorem setM_lk (M:Hp) (x:Nat) (i:Int) (u:Nat):(setM M x i u).1.large-(setM M x i u).1.kept=M.large-M.kept:=by
 unfold setM
 split
 ·rfl
 ·split
  ·rfl
  ·split
   ·rfl
   ·rfl
theorem setbM_lk (M:Hp) (x:Nat) (i:Int) (u:List Nat):(setbM M x i u).large-(setbM M x i u).kept=M.large-M.kept:=by
 unfold setbM
 split
 ·rfl
 ·rfl
theorem osz_le {M:Hp} (wf:HpWf M) {i:Nat} (hi:Is M i):osz (ob M i)≤10000000:=by
 rcases hi with z|⟨z0,z⟩
 ·have:=wf.ss i z;omega
 ·have:=sum_sub (fun i=>if i=0 then 0 else 1+osz (ob M i)) [i] M.slots (by simp) (fun x hx=>by rw[List.mem_singleton.1 hx];exact z)
  have hg:=wf.lg
  have h1:=wf.lm
  have h2:=wf.l2
  unfold lgOf at hg
  simp [z0] at this
  omega
section
variable {w:World}{ps ph pd n:Nat}{tag dt:Nat→Nat}{M:Hp}{H:HC}{C:DC}{v:Value}{l:List Nat}
theorem arm_object (sd:SideAt w ps ph pd tag dt M M H C v l) (o:Okd M n) (hl:l.length≤n) (hn:n≤65536) (on A B Cc r vv:Int) (raw wv:Nat) (dv:Value) (hr1:-9223372036854775808≤r) (hr2:r≤9223372036854775807) (hraw:raw<18446744073709551616):
  Calls Tryz.prog 46 #[.pointer (some ⟨ps,0,none⟩),.agg (opC on 2 A B Cc r vv raw wv dv)] w fun e w'=>e=.returned (.bool true)∧SideGo (ownS ps tag dt v) ps ph pd (n+1) w w':=by
 have ho1:=o.o1
 have hob:=o.ob
 have hx:=pickM_lt sd.he.wf.ok sd.wl r hraw
 refine fields_object (val:=0) on A B Cc r vv raw wv dv sd.c0 sd.c1 (ref:=pickM M l r raw)
  (G1:=fun y z u x W=>y=((objM M (pickM M l r raw)).1:Nat)∧z=((objM M (pickM M l r raw)).2.1:Nat)∧u=((objM M (pickM M l r raw)).2.2.1:Nat)∧x=((objM M (pickM M l r raw)).2.2.2:Nat)∧Run w (ownS ps tag dt v) ps ph pd tag dt M M H C v l W)
  (G2:=fun y z u x W=>Run w (ownS ps tag dt v) ps ph pd tag dt M M H C v l W)
  (fun W k=>(Run.start sd k).pick o hl hn r hr1 hr2 raw) (fun W k=>?_) (fun W W' y z u x g k=>?_) (fun W W' y z u x g k=>(g.still k).go (o.mono (by omega)) (by omega))
 ·have R:=Run.start sd k
  refine (hobject_any R.sd.he _ hx).mono ?_
  rintro e w' ⟨rfl,q⟩
  obtain ⟨z1,z2,z3⟩:=R.keep q
  exact ⟨_,_,_,_,rfl,z1,z2,rfl,rfl,rfl,rfl,z3⟩
 ·obtain ⟨rfl,rfl,rfl,rfl,R⟩:=g
  have R':=R.still k
  refine (dobj_any R'.sd.dc sd.he.wf (by omega) ho1 hx).mono ?_
  rintro e w' ⟨rfl,q⟩
  obtain ⟨z1,z2,z3⟩:=R'.keep q.below
  exact ⟨rfl,z1,z2,z3⟩
theorem arm_get (sd:SideAt w ps ph pd tag dt M M H C v l) (o:Okd M n) (hl:l.length≤n) (hn:n≤65536) (on A B Cc r vv:Int) (raw wv:Nat) (dv:Value) (hr1:-9223372036854775808≤r) (hr2:r≤9223372036854775807) (hraw:raw<18446744073709551616):
  Calls Tryz.prog 46 #[.pointer (some ⟨ps,0,none⟩),.agg (opC on 3 A B Cc r vv raw wv dv)] w fun e w'=>e=.returned (.bool true)∧SideGo (ownS ps tag dt v) ps ph pd (n+1) w w':=by
 have ho1:=o.o1
 have hob:=o.ob
 have hx:=pickM_lt sd.he.wf.ok sd.wl r hraw
 refine fields_get (val:=0) on A B Cc r vv raw wv dv sd.c0 sd.c1 (ref:=pickM M l r raw)
  (G1:=fun y x W=>y=(getM M (pickM M l r raw) A).1∧x=(getM M (pickM M l r raw) A).2∧Run w (ownS ps tag dt v) ps ph pd tag dt M M H C v l W)
  (G2:=fun y x W=>y=(getM M (pickM M l r raw) A).1∧Run w (ownS ps tag dt v) ps ph pd tag dt M M H C v l W)
  (fun W k=>(Run.start sd k).pick o hl hn r hr1 hr2 raw) (fun W k=>?_) (fun W W' y x g k=>?_) (fun W W' y x g k=>?_)
 ·have R:=Run.start sd k
  refine (hget_any R.sd.he _ hx A).mono ?_
  rintro e w' ⟨rfl,q⟩
  obtain ⟨z1,z2,z3⟩:=R.keep q
  exact ⟨_,_,rfl,z1,z2,rfl,rfl,z3⟩
 ·obtain ⟨rfl,rfl,R⟩:=g
  have R':=R.still k
  refine (dget_any R'.sd.dc sd.he.wf (by omega) ho1 hx A).mono ?_
  rintro e w' ⟨rfl,q⟩
  obtain ⟨z1,z2,z3⟩:=R'.keep q.below
  exact ⟨rfl,z1,z2,rfl,z3⟩
 ·obtain ⟨rfl,R⟩:=g
  exact note_go (R.still k) (o.mono (by omega)) hl hn (getM_lt sd.he.wf.ok o.da _ _)
theorem arm_set (sd:SideAt w ps ph pd tag dt M M H C v l) (o:Okd M n) (hl:l.length≤n) (hn:n≤65536) (on A B Cc r vv:Int) (raw wv:Nat) (dv:Value) (hr1:-9223372036854775808≤r) (hr2:r≤9223372036854775807) (hraw:raw<18446744073709551616) (hv1:-9223372036854775808≤vv) (hv2:vv≤9223372036854775807) (hwv:wv<18446744073709551616):
  Calls Tryz.prog 46 #[.pointer (some ⟨ps,0,none⟩),.agg (opC on 4 A B Cc r vv raw wv dv)] w fun e w'=>e=.returned (.bool true)∧SideGo (ownS ps tag dt v) ps ph pd (n+1) w w':=by
 have ho1:=o.o1
 have hob:=o.ob
 have hx:=pickM_lt sd.he.wf.ok sd.wl r hraw
 have hy:=pickM_lt sd.he.wf.ok sd.wl vv hwv
 refine fields_set on A B Cc r vv raw wv dv sd.c0 sd.c1 (ref:=pickM M l r raw) (val:=pickM M l vv wv)
  (G1:=fun x W=>∃ (H':HC),x=((setM M (pickM M l r raw) A (pickM M l vv wv)).2:Nat)∧Run w (ownS ps tag dt v) ps ph pd tag dt (setM M (pickM M l r raw) A (pickM M l vv wv)).1 M H' C v l W)
  (G2:=fun x W=>∃ (H':HC) (C':DC),Run w (ownS ps tag dt v) ps ph pd tag dt (setM M (pickM M l r raw) A (pickM M l vv wv)).1 (setM M (pickM M l r raw) A (pickM M l vv wv)).1 H' C' v l W)
  (fun W k=>(Run.start sd k).pick o hl hn r hr1 hr2 raw) (fun W k=>(Run.start sd k).pick o hl hn vv hv1 hv2 wv) (fun W k=>?_) (fun W W' x g k=>?_) (fun W W' x g k=>?_)
 ·have R:=Run.start sd k
  refine (hset_any R.sd.he _ hx A _ hy).mono ?_
  rintro e w' ⟨rfl,H',q1,q2⟩
  obtain ⟨z1,z2,z3⟩:=R.heap q2 q1
  exact ⟨_,rfl,z1,z2,H',rfl,z3⟩
 ·obtain ⟨H',rfl,R⟩:=g
  have R':=R.still k
  refine (dset_any R'.sd.dc sd.he.wf (by omega) ho1 hx A hy).mono ?_
  rintro e w' ⟨rfl,⟨C',q1⟩,q2⟩
  rw[← setM_lk M (pickM M l r raw) A (pickM M l vv wv)] at q1
  obtain ⟨z1,z2,z3⟩:=R'.doc q2 q1
  exact ⟨rfl,z1,z2,H',C',z3⟩
 ·obtain ⟨H',C',R⟩:=g
  exact (R.still k).go ((o.set _ A hy).mono (by omega)) (by omega)
theorem arm_bytes (sd:SideAt w ps ph pd tag dt M M H C v l) (o:Okd M n) (hl:l.length≤n) (hn:n≤65536) (on A B Cc r vv:Int) (raw wv:Nat) (dv:Value) (hr1:-9223372036854775808≤r) (hr2:r≤9223372036854775807) (hraw:raw<18446744073709551616) (hA1:-9223372036854775808≤A) (hA2:A≤9223372036854775807):
  Calls Tryz.prog 46 #[.pointer (some ⟨ps,0,none⟩),.agg (opC on 5 A B Cc r vv raw wv dv)] w fun e w'=>e=.returned (.bool true)∧SideGo (ownS ps tag dt v) ps ph pd (n+1) w w':=by
 have ho1:=o.o1
 have hob:=o.ob
 have hx:=pickM_lt sd.he.wf.ok sd.wl r hraw
 by_cases he:spanM M (pickM M l r raw) A B=0
 ·have hAB:0≤A∧0≤B:=by
   unfold spanM at he
   split at he
   ·cases he
   ·split at he
    ·rename_i q;exact ⟨q.1,q.2.1⟩
    ·cases he
  have hraws:A+B≤8*((ob M (numOf M (pickM M l r raw))).raws.length:Nat)∧numOf M (pickM M l r raw)≠0:=by
   unfold spanM at he
   split at he
   ·cases he
   ·rename_i q0
    split at he
    ·rename_i q;exact ⟨q.2.2,q0⟩
    ·cases he
  obtain ⟨A',rfl⟩:∃ A':Nat,A=(A':Nat):=⟨A.toNat,by omega⟩
  obtain ⟨B',rfl⟩:∃ B':Nat,B=(B':Nat):=⟨B.toNat,by omega⟩
  have hsz:B'≤100000000:=by
   have h1:=osz_le sd.he.wf (num_is hraws.2)
   unfold osz at h1
   omega
  refine fields_bytes (val:=0) on _ _ Cc r vv raw wv dv sd.c0 sd.c1 (ref:=pickM M l r raw)
   (G1:=fun y x W=>x=0∧(∃ a cap,y=.slice a B' cap∧Bytes W a (mapF B' fun i=>(bytM M (numOf M (pickM M l r raw))).getD (A'+i) 0))∧Run w (ownS ps tag dt v) ps ph pd tag dt M M H C v l W)
   (G2:=fun y z x W=>(∃ a cap,y=.slice a B' cap∧Bytes W a (mapF B' fun i=>(bytM M (numOf M (pickM M l r raw))).getD (A'+i) 0))∧(∃ a cap,z=.slice a B' cap∧Bytes W a (mapF B' fun i=>(bytM M (numOf M (pickM M l r raw))).getD (A'+i) 0))∧Run w (ownS ps tag dt v) ps ph pd tag dt M M H C v l W)
   (fun W k=>(Run.start sd k).pick o hl hn r hr1 hr2 raw) (fun W k=>?_) (fun W W' y x g k=>?_) (fun W W' y z x g k=>?_)
  ·have R:=Run.start sd k
   refine (hbytesM_yes R.sd.he _ hx A' B' he).mono ?_
   rintro e w' ⟨a,cap,rfl,q1,q2,q3⟩
   obtain ⟨z1,z2,z3⟩:=R.keep q3
   exact ⟨_,_,rfl,z1,z2,rfl,⟨a,cap,rfl,q1.bytes⟩,z3⟩
  ·obtain ⟨rfl,⟨a,cap,rfl,q⟩,R⟩:=g
   have R':=R.still k
   refine (dbytes_yes R'.sd.dc sd.he.wf (by omega) ho1 hx A' B' he (o.da.ww _)).mono ?_
   rintro e w' ⟨a2,cap2,rfl,f⟩
   obtain ⟨z1,z2,z3⟩:=R'.keep f.be
   exact ⟨_,rfl,z1,z2,⟨a,cap,rfl,(q.below k.below).below f.be⟩,⟨a2,cap2,rfl,f.ln.span.bytes⟩,z3⟩
  ·obtain ⟨⟨a,cap,rfl,q1⟩,⟨a2,cap2,rfl,q2⟩,R⟩:=g
   have e0:(mapF B' fun i=>(bytM M (numOf M (pickM M l r raw))).getD (A'+i) 0).length=B':=mapF_length _ _
   have E:=eqb_yes (c1:=cap) (c2:=cap2) (by rw[e0];exact hsz) (q1.below k.below) (q2.below k.below)
   rw[e0] at E
   refine E.mono ?_
   rintro e w' ⟨rfl,q⟩
   exact ⟨rfl,((R.still k).still q).go (o.mono (by omega)) (by omega)⟩
 ·refine fields_bytes (val:=0) on _ _ Cc r vv raw wv dv sd.c0 sd.c1 (ref:=pickM M l r raw)
   (G1:=fun y x W=>y=.slice none 0 0∧x=(spanM M (pickM M l r raw) A B:Nat)∧Run w (ownS ps tag dt v) ps ph pd tag dt M M H C v l W)
   (G2:=fun y z x W=>y=.slice none 0 0∧z=.slice none 0 0∧Run w (ownS ps tag dt v) ps ph pd tag dt M M H C v l W)
   (fun W k=>(Run.start sd k).pick o hl hn r hr1 hr2 raw) (fun W k=>?_) (fun W W' y x g k=>?_) (fun W W' y z x g k=>?_)
  ·have R:=Run.start sd k
   refine (hbytesM_no R.sd.he _ hx A B hA2 hA1 he).mono ?_
   rintro e w' ⟨rfl,q⟩
   obtain ⟨z1,z2,z3⟩:=R.keep q
   exact ⟨_,_,rfl,z1,z2,rfl,rfl,z3⟩
  ·obtain ⟨rfl,rfl,R⟩:=g
   have R':=R.still k
   refine (dbytes_no R'.sd.dc sd.he.wf (by omega) ho1 hx A B hA2 hA1 he).mono ?_
   rintro e w' ⟨rfl,q⟩
   obtain ⟨z1,z2,z3⟩:=R'.keep q.below
   exact ⟨_,rfl,z1,z2,rfl,rfl,z3⟩
  ·obtain ⟨rfl,rfl,R⟩:=g
   have E:=eqb_yes (w:=W') (a:=none) (b:=none) (c1:=0) (c2:=0) (l:=[]) (by decide) (.inl rfl) (.inl rfl)
   refine E.mono ?_
   rintro e w' ⟨rfl,q⟩
   exact ⟨rfl,((R.still k).still q).go (o.mono (by omega)) (by omega)⟩
theorem arm_setbytes (sd:SideAt w ps ph pd tag dt M M H C v l) (o:Okd M n) (hl:l.length≤n) (hn:n≤65536) (on A B Cc r vv:Int) (raw wv:Nat) (hr1:-9223372036854775808≤r) (hr2:r≤9223372036854775807) (hraw:raw<18446744073709551616) (hA1:-9223372036854775808≤A) (hA2:A≤9223372036854775807) (a:Option Addr) (cap:Nat) (d:List Nat) (hd:d.length≤140737488355328) (hB:Bytes w a d) (hnil:a=none→cap=0) (hs:Small d) (hfr:d≠[]→∀ b off,a=some ⟨b,off,none⟩→ownS ps tag dt v b=0):
  Calls Tryz.prog 46 #[.pointer (some ⟨ps,0,none⟩),.agg (opC on 6 A B Cc r vv raw wv (.slice a d.length cap))] w fun e w'=>e=.returned (.bool true)∧SideGo (ownS ps tag dt v) ps ph pd (n+1) w w':=by
 have ho1:=o.o1
 have hob:=o.ob
 have hx:=pickM_lt sd.he.wf.ok sd.wl r hraw
 have hk:∀ W own' , Fr (ownS ps tag dt v) own' w W→Bytes W a d:=fun W own' f=>by
  rcases hB with h|⟨b,off,rfl,hlt,hc⟩
  ·exact .inl h
  ·exact .inr ⟨b,off,rfl,Nat.lt_of_lt_of_le hlt f.size,fun i hi=>(cell_like (f.blk b hlt (hfr (fun q=>by rw[q] at hi;exact absurd hi (Nat.not_lt_zero _)) b off rfl)).1 _).trans (hc i hi)⟩
 refine fields_setbytes on A B Cc r vv raw wv (.slice a d.length cap) sd.c0 sd.c1 (ref:=pickM M l r raw)
  (G0:=fun y W=>(∃ a' cap',y=.slice a' d.length cap'∧Bytes W a' d)∧Run w (ownS ps tag dt v) ps ph pd tag dt M M H C v l W)
  (G1:=fun x W=>∃ (H':HC),x=(spanM M (pickM M l r raw) A d.length:Nat)∧Run w (ownS ps tag dt v) ps ph pd tag dt (setbM M (pickM M l r raw) A d) M H' C v l W)
  (G2:=fun x W=>∃ (H':HC) (C':DC),Run w (ownS ps tag dt v) ps ph pd tag dt (setbM M (pickM M l r raw) A d) (setbM M (pickM M l r raw) A d) H' C' v l W)
  (fun W k=>(Run.start sd k).pick o hl hn r hr1 hr2 raw) (fun W k=>?_) (fun W W' y g k=>?_) (fun W W' x g k=>?_) (fun W W' x g k=>?_)
 ·have R:=Run.start sd k
  refine (twin_any a cap d hd (hk W _ R.fr) hnil).mono ?_
  rintro e w' ⟨a',cap',rfl,q1,q2⟩
  obtain ⟨z1,z2,z3⟩:=R.keep q2
  exact ⟨_,rfl,z1,z2,⟨a',cap',rfl,q1⟩,z3⟩
 ·obtain ⟨⟨a',cap',rfl,q1⟩,R⟩:=g
  have R':=R.still k
  refine (hsetbytesM_any R'.sd.he _ hx A hA2 hA1 d a' cap' (q1.below k.below) hs).mono ?_
  rintro e w' ⟨rfl,H',q2,q3⟩
  obtain ⟨z1,z2,z3⟩:=R'.heap q3 q2
  exact ⟨_,rfl,z1,z2,H',rfl,z3⟩
 ·obtain ⟨H',rfl,R⟩:=g
  have R':=R.still k
  refine (dsetbytes_any R'.sd.dc sd.he.wf (by omega) ho1 hx A hA2 hA1 d a cap (hk W' _ R'.fr) hs (fun q b off e=>(ownS_zero (hfr q b off e)).2.2.1) (o.da.ww _)).mono ?_
  rintro e w' ⟨rfl,⟨C',q1⟩,q2⟩
  rw[← setbM_lk M (pickM M l r raw) A d] at q1
  obtain ⟨z1,z2,z3⟩:=R'.doc q2 q1
  exact ⟨rfl,z1,z2,H',C',z3⟩
 ·obtain ⟨H',C',R⟩:=g
  exact (R.still k).go ((o.setb _ A d hs).mono (by omega)) (by omega)
end
end Go.Proofs.YtidfllgaeiopjabGreat
