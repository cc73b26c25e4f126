import Derived.Test.YtidfllgaeiopjabGreatLargeM
import Derived.Test.YtidfllgaeiopjabGreatHlW
namespace Go.Proofs.YtidfllgaeiopjabGreat
open Go.ChangeShapes Go.WideShapes Go.ChangeAt Go.RowKit
set_option linter.unusedVariables false
set_option maxRecDepth 100000
set_option maxHeartbeats 1000000
def AllocR (M:Hp) (k r s:Nat) (M':Hp) (v x:Nat):Prop:=
 (1+r+s≤64∧∃ M1,PreS M M1 (1+r+s)∧((M1.used+(1+r+s)≤M1.half∧v=M1.used∧x=0∧M'=addS M1 k r s)∨(M1.half<M1.used+(1+r+s)∧v=0∧x=31∧M'=M1)))∨
 (64<1+r+s∧∃ M1,PreL M M1 (2+r+s)∧((∃ M2 n,WayL M1 M2 (2+r+s)∧LowS M2 n∧v=9223372036854775808+n∧x=0∧M'=addL M2 k r s n)∨(NoWay M1 (2+r+s)∧v=0∧x=31∧M'=M1)))
theorem PreS.one {M M1 M2:Hp}{s:Nat} (h:PreS M M1 s) (k:PreS M M2 s):M1=M2:=by
 rcases h with ⟨a,rfl⟩|⟨a,N1,a1,rfl⟩ <;> rcases k with ⟨b,rfl⟩|⟨b,N2,b1,rfl⟩
 ·rfl
 ·omega
 ·omega
 ·rw[a1.one b1]
theorem PreL.one {M M1 M2:Hp}{s:Nat} (h:PreL M M1 s) (k:PreL M M2 s):M1=M2:=by
 rcases h with ⟨a,a',rfl⟩|⟨a,N1,a1,rfl⟩ <;> rcases k with ⟨b,b',rfl⟩|⟨b,N2,b1,rfl⟩
 ·rfl
 ·omega
 ·omega
 ·rw[a1.one b1]
theorem WayL.one {M M1 M2:Hp}{s:Nat} (h:WayL M M1 s) (k:WayL M M2 s):M1=M2:=by
 rcases h with ⟨a,rfl⟩|⟨a,_,_,_,rfl⟩ <;> rcases k with ⟨b,rfl⟩|⟨b,_,_,_,rfl⟩
 ·rfl
 ·omega
 ·omega
 ·rfl
theorem WayL.not {M M1:Hp}{s:Nat} (h:WayL M M1 s) (k:NoWay M s):False:=by
 obtain ⟨k1,k2⟩:=k
 rcases h with ⟨a,_⟩|⟨a,b,c,d,_⟩ <;> omega
theorem AllocR.one {M:Hp}{k r s:Nat}{M1 M2:Hp}{v1 v2 x1 x2:Nat} (h:AllocR M k r s M1 v1 x1) (g:AllocR M k r s M2 v2 x2):M1=M2∧v1=v2∧x1=x2:=by
 rcases h with ⟨hs,N,hp,h⟩|⟨hs,N,hp,h⟩ <;> rcases g with ⟨gs,N',gp,g⟩|⟨gs,N',gp,g⟩
 ·obtain rfl:=hp.one gp
  rcases h with ⟨a,rfl,rfl,rfl⟩|⟨a,rfl,rfl,rfl⟩ <;> rcases g with ⟨b,rfl,rfl,rfl⟩|⟨b,rfl,rfl,rfl⟩
  ·exact ⟨rfl,rfl,rfl⟩
  ·omega
  ·omega
  ·exact ⟨rfl,rfl,rfl⟩
 ·omega
 ·omega
 ·obtain rfl:=hp.one gp
  rcases h with ⟨A,n,a,al,rfl,rfl,rfl⟩|⟨a,rfl,rfl,rfl⟩ <;> rcases g with ⟨B,m,b,bl,rfl,rfl,rfl⟩|⟨b,rfl,rfl,rfl⟩
  ·obtain rfl:=a.one b
   obtain rfl:=al.one bl
   exact ⟨rfl,rfl,rfl⟩
  ·exact (a.not b).elim
  ·exact (b.not a).elim
  ·exact ⟨rfl,rfl,rfl⟩
theorem halloc_any {w:World}{ph:Nat}{tag:Nat→Nat}{M:Hp}{H:HC} (h:HAt w ph tag M H) (ho1:1≤M.objs.length) (hc:M.coll≤1000000000000) (hr:M.resz≤900000000000) (hsl:M.slots.length≤20000) (k r s:Nat) (hf:Fits k r s):
  Calls Tryz.prog 16 #[.pointer (some ⟨ph,0,none⟩),.int .i64 (k:Nat),.int .i64 (r:Nat),.int .i64 (s:Nat)] w fun e w'=>∃ tag' H' M' v x,AllocR M k r s M' v x∧Fr tag tag' w w'∧e=.returned (.tuple #[.int .u64 (v:Nat),.int .i64 (x:Nat)])∧HAt w' ph tag' M' H':=by
 by_cases hs:1+r+s≤64
 ·refine alloc_small hf hs ((allocSmall_any h ho1 hc (by omega) k r s hf hs).mono ?_)
  rintro e w' ⟨tag',H',M1,hp,fr,⟨a,rfl,hh⟩|⟨a,rfl,hh⟩⟩
  ·exact ⟨⟨_,_,rfl⟩,tag',H',_,M1.used,0,.inl ⟨hs,M1,hp,.inl ⟨a,rfl,rfl,rfl⟩⟩,fr,rfl,hh⟩
  ·exact ⟨⟨_,_,rfl⟩,tag',H',_,0,31,.inl ⟨hs,M1,hp,.inr ⟨a,rfl,rfl,rfl⟩⟩,fr,rfl,hh⟩
 ·have hs:64<1+r+s:=by omega
  refine alloc_large hf hs ((allocLarge_any h ho1 hc hr hsl k r s hf hs).mono ?_)
  rintro e w' ⟨tag',H',M1,hp,fr,⟨M2,n,a,al,rfl,hh⟩|⟨a,rfl,hh⟩⟩
  ·exact ⟨⟨_,_,rfl⟩,tag',H',_,9223372036854775808+n,0,.inr ⟨hs,M1,hp,.inl ⟨M2,n,a,al,rfl,rfl,rfl⟩⟩,fr,rfl,hh⟩
  ·exact ⟨⟨_,_,rfl⟩,tag',H',_,0,31,.inr ⟨hs,M1,hp,.inr ⟨a,rfl,rfl,rfl⟩⟩,fr,rfl,hh⟩
def newM (n:Nat):Hp:=⟨n,64,1,0,0,0,0,0,[ob0],[],[],[]⟩
theorem newM_wf (n:Nat) (h1:128≤n) (h2:n≤1048576):HpWf (newM n):=by
 have hi:∀ i,¬ Is (newM n) i:=fun i hi=>by
  rcases hi with hi|⟨_,hi⟩
  ·exact List.not_mem_nil hi
  ·exact List.not_mem_nil hi
 have hz:∀ s,(newM n).slots.getD s 0=0:=fun s=>by show ([]:List Nat).getD s 0=0;simp
 exact {
  ok:={
   sm:=List.nodup_nil,s1:=fun i hi=>absurd hi List.not_mem_nil,b1:=fun s hs=>absurd (hz s) hs
   rf:=fun i h=>absurd h (hi i),rt:=fun i h=>absurd h List.not_mem_nil,sl:=Nat.zero_le _,us:=by rfl,u2:=by show 1≤64;omega,h2:=by show 64≤1048576;omega }
  ln:=fun i h=>absurd h (hi i),lg:=by rfl,kp:=Nat.le_refl _,lm:=by show 2*64+0≤n;omega,h1:=Nat.le_refl _,l2:=h2
  ss:=fun i hi=>absurd hi List.not_mem_nil,sb:=fun i _ hi=>absurd hi List.not_mem_nil }
def newT (ph:Nat) (a s:Nat × Nat × Nat):Nat→Nat:=fun g=>if g=ph then 1 else if g=a.1∨g=a.2.1∨g=a.2.2 then 2 else if g=s.1∨g=s.2.1∨g=s.2.2 then 3 else 0
theorem hnew_any {w:World} (n:Nat) (h1:128≤n) (h2:n≤1048576):
  Calls Tryz.prog 15 #[.int .i64 (n:Nat)] w fun e w'=>∃ ph tag H,e=.returned (.tuple #[.pointer (some ⟨ph,0,none⟩),.int .i64 0])∧HAt w' ph tag (newM n) H∧(∀ g,tag g≠0→w.heap.size≤g)∧Below w.heap.size w w':=by
 refine (hnew_walk h1 h2 (G1:=fun a W=>ArR W a (RefSt.new 64)∧(w.heap.size≤a.1∧w.heap.size≤a.2.1∧w.heap.size≤a.2.2)∧Below w.heap.size w W)
  (G2:=fun a s W=>ArR W a (RefSt.new 64)∧ArR W s (RefSt.new 64)∧(w.heap.size≤a.1∧w.heap.size≤a.2.1∧w.heap.size≤a.2.2)∧(a.1<s.1∧a.1<s.2.1∧a.1<s.2.2∧a.2.1<s.1∧a.2.1<s.2.1∧a.2.1<s.2.2∧a.2.2<s.1∧a.2.2<s.2.1∧a.2.2<s.2.2)∧Below w.heap.size w W) ?_ ?_).mono ?_
 ·exact r_new 64 (by omega) (by omega) w
 ·rintro a W ⟨hA,hl,hb⟩
  refine (r_new 64 (by omega) (by omega) W).mono ?_
  rintro e w' ⟨s,rfl,hS,hl2,hb2⟩
  have q:=hA.lt
  have hA':ArR w' a (RefSt.new 64):=hA.conf hb2.size (hb2.block _ q.1) (hb2.block _ q.2.1) (hb2.block _ q.2.2)
  exact ⟨s,rfl,hA',hS,hl,⟨by omega,by omega,by omega,by omega,by omega,by omega,by omega,by omega,by omega⟩,hb.trans (hb2.mono hb.size)⟩
 ·rintro e w' ⟨a,s,w2,⟨hA,hS,hl,hd,hb⟩,rfl,rfl⟩
  generalize hobj:(Obj.cells #[Value.int IntKind.i64 (n:Nat),.pointer (some ⟨a.1,0,none⟩),.pointer (some ⟨s.1,0,none⟩),.slice none 0 0,.slice none 0 0,.int .i64 0,.slice none 0 0,.slice none 0 0,.int .i64 0,.int .i64 0,.int .i64 0,.int .i64 0,.int .i64 0,.int .i64 0] 118)=o
  have kb:Below w2.heap.size w2 (w2.alloc o):=(Below.refl _ _).alloc (Nat.le_refl _) _
  have qa:=hA.lt
  have qs:=hS.lt
  have hA':ArR (w2.alloc o) a (RefSt.new 64):=hA.conf kb.size (kb.block _ qa.1) (kb.block _ qa.2.1) (kb.block _ qa.2.2)
  have hS':ArR (w2.alloc o) s (RefSt.new 64):=hS.conf kb.size (kb.block _ qs.1) (kb.block _ qs.2.1) (kb.block _ qs.2.2)
  have hg:(w2.alloc o).heap[w2.heap.size]?=some o:=heap_alloc_new _ _
  have hsz:(w2.alloc o).heap.size=w2.heap.size+1:=by simp
  have hcell:∀ i v,#[Value.int IntKind.i64 (n:Nat),.pointer (some ⟨a.1,0,none⟩),.pointer (some ⟨s.1,0,none⟩),.slice none 0 0,.slice none 0 0,.int .i64 0,.slice none 0 0,.slice none 0 0,.int .i64 0,.int .i64 0,.int .i64 0,.int .i64 0,.int .i64 0,.int .i64 0][i]?=some v→(w2.alloc o).cell? ⟨w2.heap.size,i,none⟩=some v:=fun i v hv=>by
   simp only[World.cell?,hg]
   rw[← hobj]
   exact hv
  have hfz:∀ i,(w2.alloc o).frozen? ⟨w2.heap.size,i,none⟩=false:=fun i=>by
   simp only[World.frozen?,hg]
   rw[← hobj]
   show (decide ((0:Nat)≤i) && decide (i<0))=false
   simp
  clear hg
  have hz:∀ g,(Value.slice none 0 0).ownBlock≠some g:=fun g=>by simp [Value.ownBlock]
  have pB:PoolAt (w2.alloc o) w2.heap.size 3 220 encP (.pointer none) [] [] (.slice none 0 0) (.slice none 0 0):=
   ⟨hcell 3 _ rfl,hcell 4 _ rfl,hcell 5 _ rfl,hfz _,hfz _,hfz _,.inl ⟨rfl,rfl⟩,.inl ⟨rfl,rfl⟩,hz _,hz _,fun g e=>absurd e (hz g),PoolOk.nil,Nat.zero_le _,Nat.zero_le _⟩
  have pH:PoolAt (w2.alloc o) w2.heap.size 6 197 encU (.int .u64 0) [] [] (.slice none 0 0) (.slice none 0 0):=
   ⟨hcell 6 _ rfl,hcell 7 _ rfl,hcell 8 _ rfl,hfz _,hfz _,hfz _,.inl ⟨rfl,rfl⟩,.inl ⟨rfl,rfl⟩,hz _,hz _,fun g e=>absurd e (hz g),PoolOk.nil,Nat.zero_le _,Nat.zero_le _⟩
  have T2:∀ g,(g=a.1∨g=a.2.1∨g=a.2.2)→newT w2.heap.size a s g=2:=fun g e=>by
   unfold newT
   rw[if_neg (by omega),if_pos e]
  have T3:∀ g,(g=s.1∨g=s.2.1∨g=s.2.2)→newT w2.heap.size a s g=3:=fun g e=>by
   unfold newT
   rw[if_neg (by omega),if_neg (by omega),if_pos e]
  have T1:newT w2.heap.size a s w2.heap.size=1:=by unfold newT;rw[if_pos rfl]
  have T0:∀ g,newT w2.heap.size a s g≠0→w.heap.size≤g∧g<w2.heap.size+1:=fun g e=>by
   unfold newT at e
   have:=hb.size
   by_cases e1:g=w2.heap.size
   ·omega
   ·rw[if_neg e1] at e
    by_cases e2:g=a.1∨g=a.2.1∨g=a.2.2
    ·omega
    ·rw[if_neg e2] at e
     by_cases e3:g=s.1∨g=s.2.1∨g=s.2.2
     ·omega
     ·rw[if_neg e3] at e;exact absurd rfl e
  have hn0:∀ (s:Nat),([]:List (Option Nat)).getD s none=none:=fun s=>by simp
  refine ⟨w2.heap.size,newT w2.heap.size a s,⟨n,0,0,0,0,0,a,s,RefSt.new 64,RefSt.new 64,[],[],.slice none 0 0,.slice none 0 0,[],[],.slice none 0 0,.slice none 0 0,fun _=>(0,0,0),fun _=>RefSt.new 64,fun _=>0⟩,rfl,?_,fun g e=>(T0 g e).1,hb.trans (kb.mono hb.size)⟩
  have hm:∀ s,(newM n).slots.getD s 0=0:=fun s=>by show ([]:List Nat).getD s 0=0;simp
  exact {
   raw:={
    n0:=hcell 0 _ rfl,n1:=hcell 1 _ rfl,n2:=hcell 2 _ rfl,n9:=hcell 9 _ rfl,n10:=hcell 10 _ rfl,n11:=hcell 11 _ rfl,n12:=hcell 12 _ rfl,n13:=hcell 13 _ rfl
    fz:=fun i _=>hfz i,pB:=pB,pH:=pH,hA:=hA',hS:=hS'
    bB:=fun s bp e=>by rw[hn0] at e;cases e
    t1:=T1,tA:=⟨T2 _ (.inl rfl),T2 _ (.inr (.inl rfl)),T2 _ (.inr (.inr rfl))⟩,tS:=⟨T3 _ (.inl rfl),T3 _ (.inr (.inl rfl)),T3 _ (.inr (.inr rfl))⟩
    tH:=⟨fun g e=>absurd e (hz g),fun g e=>absurd e (hz g)⟩,tB:=⟨fun g e=>absurd e (hz g),fun g e=>absurd e (hz g)⟩
    tK:=fun s bp e=>by rw[hn0] at e;cases e
    tN:=fun s bp e=>by rw[hn0] at e;cases e
    un:=fun g e=>by rw[hsz];exact (T0 g e).2 }
   wf:=newM_wf n h1 h2
   nL:=rfl,nG:=rfl,nK:=rfl,nM:=rfl,nC:=rfl,nR:=rfl,A:=rfl,S:=rfl
   cB:=fun s=>by rw[hn0,hm];simp
   bk:=fun s hs=>absurd (hm s) hs,re:=fun s hs=>absurd (hm s) hs
   cH:=fun x=>by show ([]:List (Option Nat)).getD x none=(([]:List (Option Nat)).getD x none).map _;simp
   lB:=⟨Nat.le_refl _,fun q hq=>absurd hq List.not_mem_nil⟩,lH:=⟨Nat.le_refl _,fun q hq=>absurd hq List.not_mem_nil⟩ }
def numOf (M:Hp) (x:Nat):Nat:=if x<topW then (match findJ (shapes M M.small) (x:Nat) with|some j=>M.small.getD j 0|none=>0) else M.slots.getD (x-topW) 0
structure Found (w:World) (ph:Nat) (M:Hp) (H:HC) (x i t q:Nat) (a:Nat × Nat × Nat) (R:RefSt) (j:Nat):Prop where
 i0:i≠0
 is:Is M i
 ho:Holds w ph t q a.1 x (place R.L j:Nat)
 ar:ArR w a R
 hj:j<R.L.length
 gn:R.Gn.getD j none=none
 sh:R.L.getD j (0,0,0)=shp (ob M i)
 fl:R.X.getD j []=mix M [] 0 i
 wh:(x<topW∧a=H.a∧R=midA M []∧j<M.small.length∧M.small.getD j 0=i)∨(∃ s bp,x=topW+s∧M.slots.getD s 0=i∧H.cB.getD s none=some bp∧a=H.at' s∧R=midK M [] (fun _=>0) i∧j=0)
def NoFind (w:World) (ph x:Nat):Prop:=Calls Tryz.prog 56 #[.pointer (some ⟨ph,0,none⟩),.int .u64 (x:Nat)] w fun e w'=>e=.returned (.tuple #[.nilIface,.int .i64 0,.int .i64 32])∧Still w w'
theorem found_any {w:World}{ph:Nat}{tag:Nat→Nat}{M:Hp}{H:HC} (h:HAt w ph tag M H) (x:Nat) (hx:x<18446744073709551616):
  (∃ t q a R j,Found w ph M H x (numOf M x) t q a R j)∨(numOf M x=0∧((Holds w ph 108 H.a.1 H.a.1 x (x:Nat)∧ArR w H.a (midA M [])∧∀ j,j<(midA M []).L.length→((x:Nat):Int)≠(place (midA M []).L j:Nat))∨NoFind w ph x)):=by
 have hA:=h.raw.hA
 rw[h.A] at hA
 by_cases ht:x<topW
 ·have ho:=holds_small h.raw.n1 x ht
  by_cases hf:∃ j,j<(shapes M M.small).length∧((x:Nat):Int)=(place (shapes M M.small) j:Nat)
  ·obtain ⟨j,hj,e⟩:=hf
   have hn:numOf M x=M.small.getD j 0:=by
    unfold numOf
    rw[if_pos ht,findJ_yes hj e]
   have hj':j<M.small.length:=by rw[shapes_length] at hj;exact hj
   have hm:M.small.getD j 0∈M.small:=by rw[List.getD_eq_getElem?_getD,List.getElem?_eq_getElem hj'];exact List.getElem_mem hj'
   refine .inl ⟨108,H.a.1,H.a,midA M [],j,?_⟩
   rw[hn]
   exact {
    i0:=(h.wf.ok.s1 _ hm).1,is:=.inl hm,ho:=by rw[e] at ho;exact ho,ar:=hA,hj:=hj
    gn:=by
     show (M.small.map fun i=>if i∈([]:List Nat) then some (addr M [] i) else none).getD j none=none
     rw[List.getD_eq_getElem?_getD,List.getElem?_map,List.getElem?_eq_getElem hj']
     simp
    sh:=shapes_at M M.small j hj'
    fl:=by
     show (M.small.map fun i=>mix M [] 0 i).getD j []=_
     rw[List.getD_eq_getElem?_getD,List.getElem?_map,List.getElem?_eq_getElem hj',List.getD_eq_getElem?_getD,List.getElem?_eq_getElem hj']
     rfl
    wh:=.inl ⟨ht,rfl,rfl,hj',rfl⟩ }
  ·have hno:∀ j,j<(midA M []).L.length→((x:Nat):Int)≠(place (midA M []).L j:Nat):=fun j hj e=>hf ⟨j,hj,e⟩
   refine .inr ⟨?_,.inl ⟨ho,hA,hno⟩⟩
   unfold numOf
   rw[if_pos ht,show findJ (shapes M M.small) (x:Nat)=none from findJ_no hno]
 ·obtain ⟨s,rfl⟩:∃ s,x=topW+s:=⟨x-topW,by omega⟩
  have hs:s<9223372036854775808:=by unfold topW at hx ht;omega
  have hn:numOf M (topW+s)=M.slots.getD s 0:=by
   unfold numOf
   rw[if_neg ht,Nat.add_sub_cancel_left]
  rw[hn]
  by_cases h0:M.slots.getD s 0=0
  ·refine .inr ⟨h0,.inr ?_⟩
   have hc:H.cB.getD s none=none:=by
    cases hc:H.cB.getD s none with
    | none=>rfl
    | some bp=>exact absurd h0 ((h.cB s).1 (by rw[hc];rfl))
   exact find_none h.raw.pB s hs hc
  ·obtain ⟨bp,hbp⟩:=Option.isSome_iff_exists.1 ((h.cB s).2 h0)
   have hb:=h.raw.bB s bp hbp
   have har:=hb.ar
   rw[h.bk s h0] at har
   refine .inl ⟨174,bp,H.at' s,midK M [] (fun _=>0) (M.slots.getD s 0),0,?_⟩
   exact {
    i0:=h0,is:=.inr ⟨h0,(slot_mem h0).2⟩,ho:=holds_large h.raw.pB s hs bp _ hbp hb.c0,ar:=har,hj:=Nat.zero_lt_one,gn:=rfl,sh:=rfl,fl:=rfl
    wh:=.inr ⟨s,bp,rfl,rfl,hbp,rfl,rfl,rfl⟩ }
def objM (M:Hp) (x:Nat):Nat × Nat × Nat × Nat:=if numOf M x=0 then (0,0,0,32) else ((ob M (numOf M x)).kind,(ob M (numOf M x)).refs.length,(ob M (numOf M x)).raws.length,0)
def fldM (M:Hp) (i:Nat):List Nat:=(ob M i).refs.map (refW M)++(ob M i).raws
def getM (M:Hp) (x:Nat) (i:Int):Nat × Nat:=if numOf M x=0 then (0,32) else if 0≤i∧i<(fldM M (numOf M x)).length then ((fldM M (numOf M x)).getD i.toNat 0,0) else (0,33)
def mayM (M:Hp) (x:Nat):Bool:=decide (x=0∨numOf M x≠0)
theorem Found.obj {w:World}{ph:Nat}{M:Hp}{H:HC}{x i t q:Nat}{a:Nat × Nat × Nat}{R:RefSt}{j:Nat} (f:Found w ph M H x i t q a R j):robj R (place R.L j:Nat)=((ob M i).kind,(ob M i).refs.length,(ob M i).raws.length,0):=by
 rw[robj_none f.hj f.gn,f.sh]
 rfl
theorem Found.get {w:World}{ph:Nat}{M:Hp}{H:HC}{x i t q:Nat}{a:Nat × Nat × Nat}{R:RefSt}{j:Nat} (f:Found w ph M H x i t q a R j) (k:Int):rget R (place R.L j:Nat) k=if 0≤k∧k<(fldM M i).length then ((fldM M i).getD k.toNat 0,0) else (0,24):=by
 have e:fldsOf R.L j=(fldM M i).length:=by
  unfold fldsOf fldM
  rw[f.sh,List.length_append,List.length_map]
  rfl
 rw[rget_none f.hj f.gn,f.fl,e,mix_zero]
 rfl
theorem hobject_any {w:World}{ph:Nat}{tag:Nat→Nat}{M:Hp}{H:HC} (h:HAt w ph tag M H) (x:Nat) (hx:x<18446744073709551616):
  Calls Tryz.prog 18 #[.pointer (some ⟨ph,0,none⟩),.int .u64 (x:Nat)] w fun e w'=>e=.returned (.tuple #[.int .i64 ((objM M x).1:Nat),.int .i64 ((objM M x).2.1:Nat),.int .i64 ((objM M x).2.2.1:Nat),.int .i64 ((objM M x).2.2.2:Nat)])∧Below w.heap.size w w':=by
 rcases found_any h x hx with ⟨t,q,a,R,j,f⟩|⟨h0,⟨ho,hA,hno⟩|hn⟩
 ·obtain ⟨ws,hs,us,hA,r,o⟩:=f.ar
  have:=hobject_core f.ho.find (fun W k=>f.ho.obj W k.below) hA r o
  rw[f.obj] at this
  have e:objM M x=((ob M (numOf M x)).kind,(ob M (numOf M x)).refs.length,(ob M (numOf M x)).raws.length,0):=if_neg f.i0
  rw[e]
  exact this
 ·obtain ⟨ws,hs,us,hA,r,o⟩:=hA
  have:=hobject_core ho.find (fun W k=>ho.obj W k.below) hA r o
  rw[robj_no hno] at this
  have e:objM M x=(0,0,0,32):=if_pos h0
  rw[e]
  exact this
 ·have e:objM M x=(0,0,0,32):=if_pos h0
  rw[e]
  exact hobject_none hn
theorem hget_any {w:World}{ph:Nat}{tag:Nat→Nat}{M:Hp}{H:HC} (h:HAt w ph tag M H) (x:Nat) (hx:x<18446744073709551616) (i:Int):
  Calls Tryz.prog 23 #[.pointer (some ⟨ph,0,none⟩),.int .u64 (x:Nat),.int .i64 i] w fun e w'=>e=.returned (.tuple #[.int .u64 ((getM M x i).1:Nat),.int .i64 ((getM M x i).2:Nat)])∧Below w.heap.size w w':=by
 rcases found_any h x hx with ⟨t,q,a,R,j,f⟩|⟨h0,⟨ho,hA,hno⟩|hn⟩
 ·obtain ⟨ws,hs,us,hA,r,o⟩:=f.ar
  have:=hget_core (i:=i) f.ho.find (fun W k=>f.ho.get W k.below) hA r o
  rw[f.get] at this
  have e:getM M x i=if 0≤i∧i<(fldM M (numOf M x)).length then ((fldM M (numOf M x)).getD i.toNat 0,0) else (0,33):=if_neg f.i0
  rw[e]
  by_cases hi:0≤i∧i<(fldM M (numOf M x)).length
  ·rw[if_pos hi] at this ⊢
   exact this
  ·rw[if_neg hi] at this ⊢
   exact this
 ·obtain ⟨ws,hs,us,hA,r,o⟩:=hA
  have:=hget_core (i:=i) ho.find (fun W k=>ho.get W k.below) hA r o
  rw[rget_no hno] at this
  have e:getM M x i=(0,32):=if_pos h0
  rw[e]
  exact this
 ·have e:getM M x i=(0,32):=if_pos h0
  rw[e]
  exact hget_none hn
theorem may_any {w:World}{ph:Nat}{tag:Nat→Nat}{M:Hp}{H:HC} (h:HAt w ph tag M H) (x:Nat) (hx:x<18446744073709551616):
  Calls Tryz.prog 58 #[.pointer (some ⟨ph,0,none⟩),.int .u64 (x:Nat)] w fun e w'=>e=.returned (.bool (mayM M x))∧Below w.heap.size w w':=by
 by_cases h0:x=0
 ·subst h0
  refine (mayHold_nil w ph).mono ?_
  rintro e w' ⟨rfl,rfl⟩
  exact ⟨by unfold mayM;rw[decide_eq_true (.inl rfl)],Below.refl _ _⟩
 ·refine (mayHold_core h0 (hobject_any h x hx)).mono ?_
  rintro e w' ⟨rfl,hb⟩
  refine ⟨?_,hb⟩
  have:decide ((objM M x).2.2.2=0)=mayM M x:=by
   unfold objM mayM
   by_cases hn:numOf M x=0
   ·rw[if_pos hn,decide_eq_false (by decide),decide_eq_false (by rintro (e|e);exact h0 e;exact e hn)]
   ·rw[if_neg hn,decide_eq_true rfl,decide_eq_true (.inr hn)]
  rw[this]
def putO (M:Hp) (n:Nat) (o:Ob):Hp:={ M with objs:=M.objs.set n o }
structure SameO (o o':Ob):Prop where
 kd:o'.kind=o.kind
 rl:o'.refs.length=o.refs.length
 wl:o'.raws.length=o.raws.length
 bg:o'.big=o.big
 pl:o'.at'=o.at'
theorem ob_put (M:Hp) (n:Nat) (o:Ob) (i:Nat):ob (putO M n o) i=if i=n∧n<M.objs.length then o else ob M i:=by
 show (M.objs.set n o).getD i ob0=_
 unfold ob
 rw[List.getD_eq_getElem?_getD,List.getElem?_set]
 by_cases h:n=i
 ·subst h
  by_cases hl:n<M.objs.length
  ·rw[if_pos rfl,if_pos hl,if_pos ⟨rfl,hl⟩];rfl
  ·rw[if_pos rfl,if_neg hl,if_neg (fun e=>hl e.2),List.getD_eq_getElem?_getD,List.getElem?_eq_none (by omega)]
 ·rw[if_neg h,if_neg (fun e=>h e.1.symm),List.getD_eq_getElem?_getD]
theorem put_same {M:Hp}{n:Nat}{o:Ob} (s:SameO (ob M n) o) (i:Nat):SameO (ob M i) (ob (putO M n o) i):=by
 rw[ob_put]
 by_cases h:i=n∧n<M.objs.length
 ·rw[if_pos h]
  obtain ⟨rfl,_⟩:=h
  exact s
 ·rw[if_neg h]
  exact ⟨rfl,rfl,rfl,rfl,rfl⟩
theorem put_shp {M:Hp}{n:Nat}{o:Ob} (s:SameO (ob M n) o) (i:Nat):shp (ob (putO M n o) i)=shp (ob M i):=by
 have k:=put_same s i
 unfold shp
 rw[k.kd,k.rl,k.wl]
theorem put_osz {M:Hp}{n:Nat}{o:Ob} (s:SameO (ob M n) o) (i:Nat):osz (ob (putO M n o) i)=osz (ob M i):=by
 have k:=put_same s i
 unfold osz
 rw[k.rl,k.wl]
theorem put_shapes {M:Hp}{n:Nat}{o:Ob} (s:SameO (ob M n) o) (l:List Nat):shapes (putO M n o) l=shapes M l:=by
 unfold shapes
 exact List.map_congr_left fun i _=>put_shp s i
theorem put_addr {M:Hp}{n:Nat}{o:Ob} (s:SameO (ob M n) o) (l:List Nat) (i:Nat):addr (putO M n o) l i=addr M l i:=by
 unfold addr
 rw[put_shapes s]
theorem put_refW {M:Hp}{n:Nat}{o:Ob} (s:SameO (ob M n) o) (i:Nat):refW (putO M n o) i=refW M i:=by
 have k:=put_same s i
 unfold refW
 rw[k.bg,k.pl]
theorem put_refW' {M:Hp}{n:Nat}{o:Ob} (s:SameO (ob M n) o):refW (putO M n o)=refW M:=funext (put_refW s)
theorem put_mix {M:Hp}{n:Nat}{o:Ob} (s:SameO (ob M n) o) (i:Nat) (hi:i≠n):mix (putO M n o) [] 0 i=mix M [] 0 i:=by
 rw[mix_zero,mix_zero,ob_put,if_neg (fun e=>hi e.1),put_refW' s]
theorem put_mix_at {M:Hp}{n:Nat}{o:Ob} (s:SameO (ob M n) o) (hn:n<M.objs.length):mix (putO M n o) [] 0 n=o.refs.map (refW M)++o.raws:=by
 rw[mix_zero,ob_put,if_pos ⟨rfl,hn⟩,put_refW' s]
theorem put_lg {M:Hp}{n:Nat}{o:Ob} (s:SameO (ob M n) o) (l:List Nat):lgOf (putO M n o) l=lgOf M l:=by
 unfold lgOf
 congr 1
 exact List.map_congr_left fun i _=>by rw[put_osz s]
theorem put_wf {M:Hp}{n:Nat}{o:Ob} (wf:HpWf M) (s:SameO (ob M n) o) (hr:∀ r∈o.refs,r=0∨Is M r):HpWf (putO M n o):=by
 have ok:=wf.ok
 exact {
  ok:={
   sm:=ok.sm
   s1:=fun i hi=>by
    have k:=put_same s i
    have q:=ok.s1 i hi
    refine ⟨q.1,k.bg.trans q.2.1,?_⟩
    rw[k.pl,put_addr s]
    exact q.2.2
   b1:=fun t ht=>by
    have k:=put_same s (M.slots.getD t 0)
    have q:=ok.b1 t ht
    exact ⟨k.bg.trans q.1,k.pl.trans q.2⟩
   rf:=fun i hi r hr'=>by
    rw[ob_put] at hr'
    by_cases h:i=n∧n<M.objs.length
    ·rw[if_pos h] at hr';exact hr r hr'
    ·rw[if_neg h] at hr';exact ok.rf i hi r hr'
   rt:=ok.rt
   us:=by rw[put_shapes s];exact ok.us
   u2:=ok.u2,h2:=ok.h2,sl:=ok.sl }
  ln:=fun i hi=>by show i<(M.objs.set n o).length;rw[List.length_set];exact wf.ln i hi
  lg:=by rw[put_lg s];exact wf.lg
  kp:=wf.kp,lm:=wf.lm,h1:=wf.h1,l2:=wf.l2
  ss:=fun i hi=>by rw[put_osz s];exact wf.ss i hi
  sb:=fun i h0 hi=>by rw[put_osz s];exact wf.sb i h0 hi }
theorem put_midA_other {M:Hp}{n:Nat}{o:Ob} (s:SameO (ob M n) o) (hn:n ∉ M.small):midA (putO M n o) []=midA M []:=by
 unfold midA
 congr 1
 ·exact put_shapes s _
 ·exact List.map_congr_left fun i hi=>put_mix s i (fun e=>hn (e ▸ hi))
theorem put_midA_at {M:Hp}{n:Nat}{o:Ob} (wf:HpWf M) (s:SameO (ob M n) o) (j:Nat) (hj:j<M.small.length) (e:M.small.getD j 0=n):
  midA (putO M n o) [] = { midA M [] with X:=(midA M []).X.set j (o.refs.map (refW M)++o.raws) }:=by
 have e':M.small[j]=n:=by rw[List.getD_eq_getElem?_getD,List.getElem?_eq_getElem hj] at e;exact e
 have hm:n∈M.small:=e' ▸ List.getElem_mem hj
 have hl:=wf.ln n (.inl hm)
 unfold midA
 congr 1
 ·exact put_shapes s _
 ·refine List.ext_getElem? fun i=>?_
  rw[List.getElem?_map,List.getElem?_set]
  by_cases hi:j=i
  ·subst hi
   rw[if_pos rfl,List.length_map,if_pos hj]
   show Option.map _ M.small[j]?=_
   rw[List.getElem?_eq_getElem hj]
   show some (mix (putO M n o) [] 0 M.small[j])=_
   rw[e',put_mix_at s hl]
  ·rw[if_neg hi,List.getElem?_map]
   show Option.map _ M.small[i]?=_
   by_cases hl':i<M.small.length
   ·rw[List.getElem?_eq_getElem hl']
    show some (mix (putO M n o) [] 0 M.small[i])=some (mix M [] 0 M.small[i])
    rw[put_mix s]
    intro q
    have q1:=List.Nodup.idxOf_getElem wf.ok.sm j hj
    have q2:=List.Nodup.idxOf_getElem wf.ok.sm i hl'
    rw[e'] at q1
    rw[q] at q2
    exact hi (q1.symm.trans q2)
   ·rw[List.getElem?_eq_none (by omega)];rfl
theorem put_midK_other {M:Hp}{n:Nat}{o:Ob} (s:SameO (ob M n) o) (i:Nat) (hi:i≠n):midK (putO M n o) [] (fun _=>0) i=midK M [] (fun _=>0) i:=by
 unfold midK
 rw[put_shp s,put_mix s i hi,put_osz s]
theorem put_midK_at {M:Hp}{n:Nat}{o:Ob} (s:SameO (ob M n) o) (hl:n<M.objs.length):midK (putO M n o) [] (fun _=>0) n = { midK M [] (fun _=>0) n with X:=(midK M [] (fun _=>0) n).X.set 0 (o.refs.map (refW M)++o.raws) }:=by
 unfold midK
 rw[put_shp s,put_mix_at s hl,put_osz s]
 rfl
theorem HAt.putO {w:World}{ph:Nat}{tag:Nat→Nat}{M:Hp}{H:HC} (h:HAt w ph tag M H) {x n t q j:Nat}{a:Nat × Nat × Nat}{R:RefSt} (f:Found w ph M H x n t q a R j) (o:Ob) (s:SameO (ob M n) o) (hr:∀ r∈o.refs,r=0∨Is M r) {w0 w':World} (kb:Below w.heap.size w w0) (kk:But [a.1,a.2.1,a.2.2] w0 w')
  (hA:ArR w' a { R with X:=R.X.set j (o.refs.map (refW M)++o.raws) }):∃ H',HAt w' ph tag (putO M n o) H'∧Fr tag tag w w':=by
 have hsz:w.heap.size≤w'.heap.size:=Nat.le_trans kb.size kk.size
 have hbl:∀ g,g<w.heap.size→g≠a.1→g≠a.2.1→g≠a.2.2→w'.heap[g]?=w.heap[g]?:=fun g hg e1 e2 e3=>(kk.block g (Nat.lt_of_lt_of_le hg kb.size) (by simp [e1,e2,e3])).trans (kb.block g hg)
 have hln:=h.wf.ln n f.is
 have hfr:(tag a.1≠0∧tag a.2.1≠0∧tag a.2.2≠0)→Fr tag tag w w':=fun ht=>⟨kk.os.trans kb.os,kk.tape.trans kb.tape,kk.output.trans kb.output,hsz,fun g hg e=>⟨hbl g hg (by rintro rfl;exact ht.1 e) (by rintro rfl;exact ht.2.1 e) (by rintro rfl;exact ht.2.2 e),e⟩⟩
 rcases f.wh with ⟨hx,rfl,rfl,hj,e⟩|⟨sl,bp,hx,e,hbp,rfl,rfl,rfl⟩
 ·have tA:=h.raw.tA
  have hm:n∈M.small:=by rw[← e,List.getD_eq_getElem?_getD,List.getElem?_eq_getElem hj];exact List.getElem_mem hj
  have hb0:=(h.wf.ok.s1 n hm).2.1
  rw[← put_midA_at h.wf s j hj e] at hA
  have hraw:=h.raw.turn [2] (by decide) (by decide) hsz (fun g h0 h2=>hbl g (h.raw.un g h0) (by rintro rfl;exact h2 (by rw[tA.1];decide)) (by rintro rfl;exact h2 (by rw[tA.2.1];decide)) (by rintro rfl;exact h2 (by rw[tA.2.2];decide)))
   (midA (Go.Proofs.YtidfllgaeiopjabGreat.putO M n o) []) H.S H.cH H.bk H.re (.inr hA) (.inl ⟨by decide,rfl⟩) (.inl ⟨by decide,rfl⟩) (fun s' bp' _=>.inl ⟨by simp;omega,rfl,rfl⟩)
  refine ⟨_,⟨hraw,put_wf h.wf s hr,h.nL,h.nG,h.nK,h.nM,h.nC,h.nR,rfl,h.S,h.cB,?_,h.re,?_,h.lB,h.lH⟩,hfr ⟨by omega,by omega,by omega⟩⟩
  ·intro s' hs'
   rw[put_midK_other s _ (by intro q;have:=(h.wf.ok.b1 s' hs').1;have q':M.slots.getD s' 0=n:=q;rw[q',hb0] at this;cases this)]
   exact h.bk s' hs'
  ·intro y
   rw[put_refW' s]
   exact h.cH y
 ·have tK:=h.raw.tK sl bp hbp
  have tN:=h.raw.tN sl bp hbp
  have hs0:M.slots.getD sl 0≠0:=by rw[e];exact f.i0
  have hb1:=h.wf.ok.b1 sl hs0
  rw[e] at hb1
  rw[← put_midK_at s hln] at hA
  have hbb:=h.raw.bB sl bp hbp
  have hpl:w'.heap[bp]?=w.heap[bp]?:=hbl bp (h.raw.un bp (by omega)) tN.1 tN.2.1 tN.2.2
  have hK:BkAt w' bp (H.at' sl) (midK (Go.Proofs.YtidfllgaeiopjabGreat.putO M n o) [] (fun _=>0) n) (H.re sl):=⟨(cell_like hpl _).trans hbb.c0,(cell_like hpl _).trans hbb.c1,(froz_like hpl _).trans hbb.f1,hA⟩
  have hraw:=h.raw.turn [8+sl] (by simp;omega) (by simp;omega) hsz (fun g h0 h2=>hbl g (h.raw.un g h0) (by rintro rfl;exact h2 (by rw[tK.2.1];simp)) (by rintro rfl;exact h2 (by rw[tK.2.2.1];simp)) (by rintro rfl;exact h2 (by rw[tK.2.2.2];simp)))
   H.A H.S H.cH (fun s'=>if s'=sl then midK (Go.Proofs.YtidfllgaeiopjabGreat.putO M n o) [] (fun _=>0) n else H.bk s') H.re (.inl ⟨by simp;omega,rfl⟩) (.inl ⟨by simp;omega,rfl⟩) (.inl ⟨by simp;omega,rfl⟩) (fun s' bp' hbp'=>by
    by_cases hs':s'=sl
    ·subst hs'
     rw[hbp] at hbp'
     cases hbp'
     right
     rw[if_pos rfl]
     exact hK
    ·left
     exact ⟨by simp;omega,if_neg hs',rfl⟩)
  have hns:n ∉ M.small:=fun hm=>by have:=(h.wf.ok.s1 n hm).2.1;rw[hb1.1] at this;cases this
  refine ⟨_,⟨hraw,put_wf h.wf s hr,h.nL,h.nG,h.nK,h.nM,h.nC,h.nR,(h.A.trans (put_midA_other s hns).symm),h.S,h.cB,?_,h.re,?_,h.lB,h.lH⟩,hfr ⟨by omega,by omega,by omega⟩⟩
  ·intro s' hs'
   show (if s'=sl then _ else _)=_
   by_cases hss:s'=sl
   ·subst hss
    rw[if_pos rfl]
    show _=midK _ [] _ (M.slots.getD s' 0)
    rw[e]
   ·rw[if_neg hss,put_midK_other s _ (by intro q;have:=(h.wf.ok.b1 s' hs').2;have q':M.slots.getD s' 0=n:=q;rw[q',hb1.2] at this;exact hss this.symm)]
    exact h.bk s' hs'
  ·intro y
   rw[put_refW' s]
   exact h.cH y
theorem put_self (M:Hp) (n:Nat) (hn:n<M.objs.length):putO M n (ob M n)=M:=by
 unfold putO ob
 rw[List.getD_eq_getElem?_getD,List.getElem?_eq_getElem hn]
 show { M with objs:=M.objs.set n M.objs[n] } = M
 rw[List.set_getElem_self]
theorem HAt.sameA {w:World}{ph:Nat}{tag:Nat→Nat}{M:Hp}{H:HC} (h:HAt w ph tag M H) {x n t q j:Nat}{a:Nat × Nat × Nat}{R:RefSt} (f:Found w ph M H x n t q a R j) {w0 w':World} (kb:Below w.heap.size w w0) (kk:But [a.1,a.2.1,a.2.2] w0 w') (hA:ArR w' a R):
  ∃ H',HAt w' ph tag M H'∧Fr tag tag w w':=by
 have hn:=h.wf.ln n f.is
 have o:=hA.ok
 have hx:j<R.X.length:=by rw[o.xl];exact f.hj
 have e:{ R with X:=R.X.set j ((ob M n).refs.map (refW M)++(ob M n).raws) } = R:=by
  have:(ob M n).refs.map (refW M)++(ob M n).raws=R.X[j]:=by
   rw[← mix_zero M [] n,← f.fl,List.getD_eq_getElem?_getD,List.getElem?_eq_getElem hx]
   rfl
  rw[this,List.set_getElem_self]
 have:=h.putO f (ob M n) ⟨rfl,rfl,rfl,rfl,rfl⟩ (h.wf.ok.rf n f.is) kb kk (by rw[e];exact hA)
 rw[put_self M n hn] at this
 exact this
theorem num_zero (M:Hp):numOf M 0=0:=by
 unfold numOf
 rw[if_pos (by decide),findJ_no]
 intro j hj e
 have:=place_pos (shapes M M.small) j
 omega
theorem num_is {M:Hp}{x:Nat} (h:numOf M x≠0):Is M (numOf M x):=by
 unfold numOf at h ⊢
 by_cases ht:x<topW
 ·rw[if_pos ht] at h ⊢
  by_cases hf:∃ j,j<(shapes M M.small).length∧((x:Nat):Int)=(place (shapes M M.small) j:Nat)
  ·obtain ⟨j,hj,e⟩:=hf
   rw[findJ_yes hj e]
   have hj':j<M.small.length:=by rw[shapes_length] at hj;exact hj
   left
   show M.small.getD j 0∈M.small
   rw[List.getD_eq_getElem?_getD,List.getElem?_eq_getElem hj']
   exact List.getElem_mem hj'
  ·rw[findJ_no (fun j hj e=>hf ⟨j,hj,e⟩)] at h
   exact absurd rfl h
 ·rw[if_neg ht] at h ⊢
  exact .inr ⟨h,(slot_mem h).2⟩
theorem num_ref {M:Hp} (ok:HpOk M) {x:Nat} (h:numOf M x≠0):refW M (numOf M x)=x:=by
 unfold numOf at h ⊢
 by_cases ht:x<topW
 ·rw[if_pos ht] at h ⊢
  by_cases hf:∃ j,j<(shapes M M.small).length∧((x:Nat):Int)=(place (shapes M M.small) j:Nat)
  ·obtain ⟨j,hj,e⟩:=hf
   rw[findJ_yes hj e] at h ⊢
   have hj':j<M.small.length:=by rw[shapes_length] at hj;exact hj
   have hm:M.small.getD j 0∈M.small:=by
    rw[List.getD_eq_getElem?_getD,List.getElem?_eq_getElem hj']
    exact List.getElem_mem hj'
   have q:=ok.s1 _ hm
   show refW M (M.small.getD j 0)=x
   unfold refW
   rw[if_neg q.1,if_neg (by rw[q.2.1];decide),q.2.2,addr_at M _ ok.sm j hj']
   omega
  ·rw[findJ_no (fun j hj e=>hf ⟨j,hj,e⟩)] at h
   exact absurd rfl h
 ·rw[if_neg ht] at h ⊢
  have q:=ok.b1 _ h
  unfold refW
  rw[if_neg h,if_pos q.1,q.2]
  omega
theorem may_num {M:Hp} (ok:HpOk M) {x:Nat} (h:mayM M x=true):refW M (numOf M x)=x∧(numOf M x=0∨Is M (numOf M x)):=by
 by_cases h0:numOf M x=0
 ·have:x=0:=by
   have:=of_decide_eq_true h
   rcases this with e|e
   ·exact e
   ·exact absurd h0 e
  subst this
  rw[h0]
  exact ⟨by unfold refW;rw[if_pos rfl],.inl rfl⟩
 ·exact ⟨num_ref ok h0,.inr (num_is h0)⟩
def setO (M:Hp) (n i v:Nat):Ob:=if i<(ob M n).refs.length then { ob M n with refs:=(ob M n).refs.set i (numOf M v) } else { ob M n with raws:=(ob M n).raws.set (i-(ob M n).refs.length) v }
theorem setO_same (M:Hp) (n i v:Nat):SameO (ob M n) (setO M n i v):=by
 unfold setO
 split
 ·exact ⟨rfl,List.length_set,rfl,rfl,rfl⟩
 ·exact ⟨rfl,rfl,List.length_set,rfl,rfl⟩
theorem setO_refs {M:Hp} (wf:HpWf M) {n:Nat} (hn:Is M n) (i v:Nat) (hv:i<(ob M n).refs.length→mayM M v=true):∀ r∈(setO M n i v).refs,r=0∨Is M r:=by
 intro r hr
 unfold setO at hr
 by_cases h:i<(ob M n).refs.length
 ·rw[if_pos h] at hr
  rcases List.mem_or_eq_of_mem_set hr with e|e
  ·exact wf.ok.rf n hn r e
  ·subst e
   exact (may_num wf.ok (hv h)).2
 ·rw[if_neg h] at hr
  exact wf.ok.rf n hn r hr
theorem setO_fields {M:Hp} (wf:HpWf M) (n i v:Nat) (hv:i<(ob M n).refs.length→mayM M v=true):(mix M [] 0 n).set i v=(setO M n i v).refs.map (refW M)++(setO M n i v).raws:=by
 rw[mix_zero]
 unfold setO
 by_cases h:i<(ob M n).refs.length
 ·rw[if_pos h,List.set_append_left _ _ (by rw[List.length_map];exact h)]
  show _=List.map (refW M) ((ob M n).refs.set i (numOf M v))++(ob M n).raws
  rw[List.map_set,(may_num wf.ok (hv h)).1]
 ·rw[if_neg h,List.set_append_right _ _ (by rw[List.length_map];omega),List.length_map]
def setM (M:Hp) (x:Nat) (i:Int) (v:Nat):Hp × Nat:=
 if numOf M x=0 then (M,32)
 else if 0≤i∧i<((ob M (numOf M x)).refs.length:Nat)∧mayM M v=false then (M,32)
 else if 0≤i∧i<((fldM M (numOf M x)).length:Nat) then (putO M (numOf M x) (setO M (numOf M x) i.toNat v),0) else (M,33)
theorem HAt.still' {w w':World}{ph:Nat}{tag:Nat→Nat}{M:Hp}{H:HC} (h:HAt w ph tag M H) (k:Below w.heap.size w w'):∃ H',HAt w' ph tag M H'∧Fr tag tag w w':=
 ⟨H,h.still k,⟨k.os,k.tape,k.output,k.size,fun g hg e=>⟨k.block g hg,e⟩⟩⟩
theorem hset_any {w:World}{ph:Nat}{tag:Nat→Nat}{M:Hp}{H:HC} (h:HAt w ph tag M H) (x:Nat) (hx:x<18446744073709551616) (i:Int) (v:Nat) (hv:v<18446744073709551616):
  Calls Tryz.prog 19 #[.pointer (some ⟨ph,0,none⟩),.int .u64 (x:Nat),.int .i64 i,.int .u64 (v:Nat)] w fun e w'=>e=.returned (.int .i64 ((setM M x i v).2:Nat))∧∃ H',HAt w' ph tag (setM M x i v).1 H'∧Fr tag tag w w':=by
 rcases found_any h x hx with ⟨t,q,a,R,j,f⟩|⟨h0,⟨ho,hA,hno⟩|hn⟩
 ·obtain ⟨ws,hs,us,hA,r,o⟩:=f.ar
  have e0:(robj R (place R.L j:Nat)).2.2.2=0:=by rw[f.obj]
  have e1:(robj R (place R.L j:Nat)).2.1=(ob M (numOf M x)).refs.length:=by rw[f.obj]
  unfold setM
  rw[if_neg f.i0]
  by_cases hb:0≤i∧i<((ob M (numOf M x)).refs.length:Nat)∧mayM M v=false
  ·rw[if_pos hb]
   refine (hset_noref f.ho hA r o e0 hb.1 (by rw[e1];exact hb.2.1) (fun W k=>?_)).mono ?_
   ·have:=may_any (h.still k) v hv
    rw[hb.2.2] at this
    exact this
   ·rintro e w' ⟨rfl,kb⟩
    exact ⟨rfl,h.still' kb⟩
  ·rw[if_neg hb]
   have hor:¬ (0≤i∧i<((robj R (place R.L j:Nat)).2.1:Nat))∨∀ W,Below w.heap.size w W→Calls Tryz.prog 58 #[.pointer (some ⟨ph,0,none⟩),.int .u64 (v:Nat)] W fun e w'=>e=.returned (.bool true)∧Below W.heap.size W w':=by
    rw[e1]
    by_cases hi:0≤i∧i<((ob M (numOf M x)).refs.length:Nat)
    ·right
     intro W k
     have hm:mayM M v=true:=by
      cases hm:mayM M v with
      | true=>rfl
      | false=>exact absurd ⟨hi.1,hi.2,hm⟩ hb
     have:=may_any (h.still k) v hv
     rw[hm] at this
     exact this
    ·exact .inl hi
   have he:rsetErr R (place R.L j:Nat) i=if 0≤i∧i<((fldM M (numOf M x)).length:Nat) then 0 else 24:=by
    unfold rsetErr
    rw[f.get]
    split <;> rfl
   refine (hset_yes f.ho hA r o hv e0 hor).mono ?_
   rintro e w' ⟨rfl,w0,kb,kk,ws',hA',k1,k2⟩
   by_cases hi:0≤i∧i<((fldM M (numOf M x)).length:Nat)
   ·rw[if_pos hi] at he ⊢
    rw[he]
    refine ⟨rfl,?_⟩
    obtain ⟨m,rfl⟩:=Int.eq_ofNat_of_zero_le hi.1
    have hmf:m<fldsOf R.L j:=by
     have:fldsOf R.L j=(fldM M (numOf M x)).length:=by
      unfold fldsOf fldM
      rw[f.sh,List.length_append,List.length_map]
      rfl
     have:=hi.2
     omega
    have hR:=k2 he j m f.hj rfl rfl hmf
    have hmay:m<(ob M (numOf M x)).refs.length→mayM M v=true:=fun hm=>by
     cases hm':mayM M v with
     | true=>rfl
     | false=>exact absurd ⟨hi.1,by omega,hm'⟩ hb
    have hAR:ArR w' a (R.put j m v):=⟨ws',hs,us,hA',hR,o.put j m v hv⟩
    unfold RefSt.put at hAR
    rw[f.fl,setO_fields h.wf _ _ _ hmay] at hAR
    exact h.putO f (setO M (numOf M x) m v) (setO_same M _ _ _) (setO_refs h.wf f.is _ _ hmay) kb kk hAR
   ·rw[if_neg hi] at he ⊢
    rw[he]
    refine ⟨rfl,?_⟩
    have:=k1 (by rw[he];decide)
    subst this
    exact h.sameA f kb kk ⟨_,hs,us,hA',r,o⟩
 ·obtain ⟨ws,hs,us,hA,r,o⟩:=hA
  have e:setM M x i v=(M,32):=if_pos h0
  rw[e]
  refine (hset_noobj (v:=v) (i:=i) ho hA r o (by rw[robj_no hno];decide)).mono ?_
  rintro e w' ⟨rfl,kb⟩
  rw[robj_no hno]
  exact ⟨rfl,h.still' kb⟩
 ·have e:setM M x i v=(M,32):=if_pos h0
  rw[e]
  refine (hset_none hn).mono ?_
  rintro e w' ⟨rfl,kb⟩
  exact ⟨rfl,h.still' kb.below⟩
def tagRt (tag:Nat→Nat) (vc vf:Value):Nat→Nat:=tagAt (tagAt tag vc 4) vf 4
theorem HRaw.poolH {w w':World}{ph:Nat}{tag:Nat→Nat}{H:HC} (h:HRaw w ph tag H) {c':List (Option Nat)}{fr':List Nat}{vc' vf':Value} (p:PoolAt w' ph 6 197 encU (.int .u64 0) c' fr' vc' vf') (hvc:Own2 w H.vcH vc') (hvf:Own2 w H.vfH vf') (hs:w.heap.size≤w'.heap.size)
  (hb:∀ g,g<w.heap.size→tag g≠1→tag g≠4→w'.heap[g]?=w.heap[g]?) (hcc:∀ q,q≠6→q≠7→q≠8→w'.cell? ⟨ph,q,none⟩=w.cell? ⟨ph,q,none⟩) (hff:∀ q,w'.frozen? ⟨ph,q,none⟩=w.frozen? ⟨ph,q,none⟩):
  HRaw w' ph (tagRt tag vc' vf') { H with cH:=c',frH:=fr',vcH:=vc',vfH:=vf' }∧∀ g,g<w.heap.size→tagRt tag vc' vf' g=tag g:=by
 have t1:=tagAt_same (by decide) h.tH.1 hvc
 have ht:∀ g,g<w.heap.size→tagRt tag vc' vf' g=tag g:=fun g hg=>by
  unfold tagRt
  rw[tagAt_same (tag:=tagAt tag vc' 4) (v:=H.vfH) (by decide) (fun g' e=>by rw[t1 g' (h.pH.frl.lt g' e)];exact h.tH.2 g' e) hvf g hg]
  exact t1 g hg
 have hk:∀ g n,n≠0→tag g=n→tagRt tag vc' vf' g=n:=fun g n hn e=>(ht g (h.un g (by omega))).trans e
 have hg:∀ n g,n≠0→n≠1→n≠4→tag g=n→w'.heap[g]?=w.heap[g]?:=fun n g h0 h1 h4 e=>hb g (h.un g (by omega)) (by omega) (by omega)
 refine ⟨{
  n0:=(hcc 0 (by omega) (by omega) (by omega)).trans h.n0,n1:=(hcc 1 (by omega) (by omega) (by omega)).trans h.n1,n2:=(hcc 2 (by omega) (by omega) (by omega)).trans h.n2
  n9:=(hcc 9 (by omega) (by omega) (by omega)).trans h.n9,n10:=(hcc 10 (by omega) (by omega) (by omega)).trans h.n10,n11:=(hcc 11 (by omega) (by omega) (by omega)).trans h.n11,n12:=(hcc 12 (by omega) (by omega) (by omega)).trans h.n12,n13:=(hcc 13 (by omega) (by omega) (by omega)).trans h.n13
  fz:=fun i hi=>(hff i).trans (h.fz i hi)
  pB:=h.pB.conf (fun q q1 q2=>hcc q (by omega) (by omega) (by omega)) hff (fun g e=>hg 5 g (by omega) (by omega) (by omega) (h.tB.1 g e)) (fun g e=>hg 5 g (by omega) (by omega) (by omega) (h.tB.2 g e))
  pH:=p
  hA:=h.hA.conf hs (hg 2 _ (by omega) (by omega) (by omega) h.tA.1) (hg 2 _ (by omega) (by omega) (by omega) h.tA.2.1) (hg 2 _ (by omega) (by omega) (by omega) h.tA.2.2)
  hS:=h.hS.conf hs (hg 3 _ (by omega) (by omega) (by omega) h.tS.1) (hg 3 _ (by omega) (by omega) (by omega) h.tS.2.1) (hg 3 _ (by omega) (by omega) (by omega) h.tS.2.2)
  bB:=fun s b2 e2=>by
   have t:=h.tK s b2 e2
   exact (h.bB s b2 e2).conf hs (hg (8+s) _ (by omega) (by omega) (by omega) t.1) (hg (8+s) _ (by omega) (by omega) (by omega) t.2.1) (hg (8+s) _ (by omega) (by omega) (by omega) t.2.2.1) (hg (8+s) _ (by omega) (by omega) (by omega) t.2.2.2)
  t1:=hk _ _ (by decide) h.t1
  tA:=⟨hk _ _ (by decide) h.tA.1,hk _ _ (by decide) h.tA.2.1,hk _ _ (by decide) h.tA.2.2⟩
  tS:=⟨hk _ _ (by decide) h.tS.1,hk _ _ (by decide) h.tS.2.1,hk _ _ (by decide) h.tS.2.2⟩
  tB:=⟨fun g e=>hk _ _ (by decide) (h.tB.1 g e),fun g e=>hk _ _ (by decide) (h.tB.2 g e)⟩
  tH:=by
   refine ⟨fun g e=>?_,fun g e=>?_⟩
   ·have e':vc'.ownBlock=some g:=e
    unfold tagRt tagAt
    by_cases q:vf'.ownBlock=some g
    ·rw[if_pos q]
    ·rw[if_neg q,if_pos e']
   ·unfold tagRt
    unfold tagAt
    exact if_pos e
  tK:=fun s b2 e2=>by
   have t:=h.tK s b2 e2
   exact ⟨hk _ _ (by omega) t.1,hk _ _ (by omega) t.2.1,hk _ _ (by omega) t.2.2.1,hk _ _ (by omega) t.2.2.2⟩
  tN:=h.tN
  un:=fun g e=>by
   unfold tagRt tagAt at e
   split at e
   ·rename_i q;exact p.frl.lt g q
   ·split at e
    ·rename_i q;exact p.row.lt g q
    ·exact Nat.lt_of_lt_of_le (h.un g e) hs },ht⟩
theorem roots_wf {M:Hp} (wf:HpWf M) (r':List (Option Nat)) (hr:∀ i,some i∈r'→i=0∨Is M i):HpWf { M with roots:=r' }:=by
 have ok:=wf.ok
 exact { ok:={ sm:=ok.sm,s1:=ok.s1,b1:=ok.b1,rf:=ok.rf,rt:=hr,us:=ok.us,u2:=ok.u2,h2:=ok.h2,sl:=ok.sl },ln:=wf.ln,lg:=wf.lg,kp:=wf.kp,lm:=wf.lm,h1:=wf.h1,l2:=wf.l2,ss:=wf.ss,sb:=wf.sb }
theorem HAt.poolH {w w':World}{ph:Nat}{tag:Nat→Nat}{M:Hp}{H:HC} (h:HAt w ph tag M H) (r':List (Option Nat)) (hr:∀ i,some i∈r'→i=0∨Is M i) {c':List (Option Nat)}{fr':List Nat}{vc' vf':Value} (p:PoolAt w' ph 6 197 encU (.int .u64 0) c' fr' vc' vf') (hvc:Own2 w H.vcH vc') (hvf:Own2 w H.vfH vf')
  (hk:w'.os=w.os∧w'.tape=w.tape∧w'.output=w.output∧w.heap.size≤w'.heap.size) (hb:∀ g,g<w.heap.size→tag g≠1→tag g≠4→w'.heap[g]?=w.heap[g]?) (hcc:∀ q,q≠6→q≠7→q≠8→w'.cell? ⟨ph,q,none⟩=w.cell? ⟨ph,q,none⟩) (hff:∀ q,w'.frozen? ⟨ph,q,none⟩=w.frozen? ⟨ph,q,none⟩)
  (hc:∀ x,c'.getD x none=(r'.getD x none).map (refW M)) (hl:c'.length≤r'.length∧∀ q∈fr',q<r'.length):∃ tag' H',HAt w' ph tag' { M with roots:=r' } H'∧Fr tag tag' w w':=by
 obtain ⟨hraw,ht⟩:=h.raw.poolH p hvc hvf hk.2.2.2 hb hcc hff
 exact ⟨_,_,{ raw:=hraw,wf:=roots_wf h.wf r' hr,nL:=h.nL,nG:=h.nG,nK:=h.nK,nM:=h.nM,nC:=h.nC,nR:=h.nR,A:=h.A,S:=h.S,cB:=h.cB,bk:=h.bk,re:=h.re,cH:=hc,lB:=h.lB,lH:=hl },⟨hk.1,hk.2.1,hk.2.2.1,hk.2.2.2,fun g hg e=>⟨hb g hg (by omega) (by omega),(ht g hg).trans e⟩⟩⟩
theorem PChg.blk {ph:Nat}{vc vf:Value}{w w':World}{tag:Nat→Nat} (c:PChg ph 6 vc vf w w') (h1:tag ph=1) (n:Nat) (hc:∀ g,g<n→vc.ownBlock=some g→tag g=4) (hf:∀ g,g<n→vf.ownBlock=some g→tag g=4) (hn:n≤w.heap.size):∀ g,g<n→tag g≠1→tag g≠4→w'.heap[g]?=w.heap[g]?:=fun g hg t1 t4=>
 c.but.block g (by omega) (fun hm=>by
  rcases List.mem_cons.1 hm with q|q
  ·exact t1 (by rw[q];exact h1)
  ·rcases List.mem_append.1 q with q|q
   ·exact t4 (hc g hg (mem_gB.1 q))
   ·exact t4 (hf g hg (mem_gB.1 q)))
def handR (M:Hp) (n:Int):Option Nat:=poolGet M.roots (n-1)
theorem HAt.hand {w:World}{ph:Nat}{tag:Nat→Nat}{M:Hp}{H:HC} (h:HAt w ph tag M H) (n:Int):handGet H.cH n=(handR M n).map (refW M):=by
 unfold handGet handR poolGet
 split
 ·exact h.cH _
 ·rfl
theorem hatM_any {w:World}{ph:Nat}{tag:Nat→Nat}{M:Hp}{H:HC} (h:HAt w ph tag M H) (n:Int) (h1:-9223372036854775808≤n) (h2:n≤9223372036854775807):
  Calls Tryz.prog 22 #[.pointer (some ⟨ph,0,none⟩),.int .i64 n] w fun e w'=>e=.returned (.tuple #[.int .u64 ((((handR M n).map (refW M)).getD 0:Nat):Int),.int .i64 (if (handR M n).isSome then (0:Int) else 35)])∧Below w.heap.size w w':=by
 refine (hat_any h.raw.pH n h1 h2).mono ?_
 rintro e w' ⟨rfl,k⟩
 rw[h.hand]
 refine ⟨?_,k.below⟩
 cases handR M n <;> rfl
def LowR (M:Hp) (n:Nat):Prop:=M.roots.getD n none=none∧n≤M.roots.length∧∀ q,q<n→M.roots.getD q none≠none
def rootM (M:Hp) (n x:Nat):Hp:={ M with roots:=poolPut M.roots n (numOf M x) }
def putM (M:Hp) (m x:Nat):Hp:={ M with roots:=M.roots.set m (some (numOf M x)) }
def dropM (M:Hp) (m:Nat):Hp:={ M with roots:=M.roots.set m none }
theorem poolPut_length (c:List (Option Nat)) (n x:Nat):(poolPut c n x).length=if n<c.length then c.length else c.length+1:=by
 unfold poolPut
 split
 ·rw[List.length_set]
 ·rw[List.length_append];rfl
theorem poolPut_mem {c:List (Option Nat)}{n x i:Nat} (h:some i∈poolPut c n x):i=x∨some i∈c:=by
 unfold poolPut at h
 split at h
 ·rcases List.mem_or_eq_of_mem_set h with e|e
  ·exact .inr e
  ·cases e;exact .inl rfl
 ·rcases List.mem_append.1 h with e|e
  ·exact .inr e
  ·have:=List.mem_singleton.1 e
   cases this
   exact .inl rfl
theorem hrootM_no {w:World}{ph:Nat}{tag:Nat→Nat}{M:Hp}{H:HC} (h:HAt w ph tag M H) (x:Nat) (hx:x<18446744073709551616) (hm:mayM M x=false):
  Calls Tryz.prog 20 #[.pointer (some ⟨ph,0,none⟩),.int .u64 (x:Nat)] w fun e w'=>e=.returned (.tuple #[.int .i64 0,.int .i64 32])∧Below w.heap.size w w':=by
 have:=may_any h x hx
 rw[hm] at this
 exact hroot_no this
theorem hrootM_yes {w:World}{ph:Nat}{tag:Nat→Nat}{M:Hp}{H:HC} (h:HAt w ph tag M H) (hl:M.roots.length<1000000) (x:Nat) (hx:x<18446744073709551616) (hm:mayM M x=true):
  Calls Tryz.prog 20 #[.pointer (some ⟨ph,0,none⟩),.int .u64 (x:Nat)] w fun e w'=>∃ (n:Nat),∃ tag' H',e=.returned (.tuple #[.int .i64 (1+(n:Int)),.int .i64 0])∧LowR M n∧HAt w' ph tag' (rootM M n x) H'∧Fr tag tag' w w':=by
 have hmay:=may_any h x hx
 rw[hm] at hmay
 have hlH:=h.lH
 refine (hroot_yes h.raw.pH (by omega) (fun q hq=>by have:=hlH.2 q hq;omega) hmay).mono ?_
 rintro e w' ⟨n,rfl,c0,cq,cl,fr',vc',vf',w0,kb,p,pf,pl,ov,of',w1,c1,c2⟩
 have hnone:∀ q,H.cH.getD q none=none↔M.roots.getD q none=none:=fun q=>by
  rw[h.cH q]
  cases M.roots.getD q none <;> simp
 have hnum:=may_num h.wf.ok hm
 have ov':Own2 w H.vcH vc':=fun g e=>(ov g e).imp id (fun q=>Nat.le_trans kb.size q)
 have hnl:n≤M.roots.length:=by omega
 have b1:=c1.blk h.raw.t1 w.heap.size (fun g _=>h.raw.tH.1 g) (fun g _=>h.raw.tH.2 g) kb.size
 have b2:=c2.blk h.raw.t1 w.heap.size (fun g hg e=>by
  rcases ov' g e with q|q
  ·exact h.raw.tH.1 g q
  ·omega) (fun g _ e=>h.raw.tH.2 g (of' g e)) (Nat.le_trans kb.size c1.but.size)
 have hphl:ph<w.heap.size:=h.raw.un ph (by rw[h.raw.t1];decide)
 have hp0:=kb.block ph hphl
 obtain ⟨tag',H',hh,hfr⟩:=h.poolH (w':=w') (poolPut M.roots n (numOf M x)) (fun i hi=>by
   rcases poolPut_mem hi with e|e
   ·subst e;exact hnum.2
   ·exact h.wf.ok.rt i e) p ov' (fun g e=>.inl (of' g e))
  ⟨c2.but.os.trans (c1.but.os.trans kb.os),c2.but.tape.trans (c1.but.tape.trans kb.tape),c2.but.output.trans (c1.but.output.trans kb.output),Nat.le_trans kb.size (Nat.le_trans c1.but.size c2.but.size)⟩
  (fun g hg t1 t4=>(b2 g hg t1 t4).trans ((b1 g hg t1 t4).trans (kb.block g hg)))
  (fun q q1 q2 q3=>(c2.cell q q1 q2 q3).trans ((c1.cell q q1 q2 q3).trans (cell_like hp0 q)))
  (fun q=>(c2.froz q).trans ((c1.froz q).trans (froz_like hp0 q)))
  (fun y=>by
   rw[poolPut_at _ _ _ _ cl,poolPut_at _ _ _ _ hnl]
   by_cases hy:y=n
   ·rw[if_pos hy,if_pos hy]
    show _=some (refW M (numOf M x))
    rw[hnum.1]
   ·rw[if_neg hy,if_neg hy]
    exact h.cH y)
  (by
   rw[poolPut_length,poolPut_length]
   refine ⟨?_,fun q hq=>?_⟩
   ·split <;> split <;> omega
   ·have:=hlH.2 q (pf q hq)
    split <;> omega)
 exact ⟨n,tag',H',rfl,⟨(hnone n).1 c0,hnl,fun q hq e=>cq q hq ((hnone q).2 e)⟩,hh,hfr⟩
theorem hputM_no {w:World}{ph:Nat}{tag:Nat→Nat}{M:Hp}{H:HC} (h:HAt w ph tag M H) (x:Nat) (n:Int) (h1:-9223372036854775808≤n) (h2:n≤9223372036854775807) (hh:handR M n=none):
  Calls Tryz.prog 66 #[.pointer (some ⟨ph,0,none⟩),.int .i64 n,.int .u64 (x:Nat)] w fun e w'=>e=.returned (.int .i64 35)∧Below w.heap.size w w':=by
 refine (hput_no h.raw.pH n h1 h2 (by rw[h.hand,hh];rfl)).mono ?_
 rintro e w' ⟨rfl,k⟩
 exact ⟨rfl,k.below⟩
theorem hputM_yes {w:World}{ph:Nat}{tag:Nat→Nat}{M:Hp}{H:HC} (h:HAt w ph tag M H) (x:Nat) (hx:x<18446744073709551616) (m y:Nat) (hy:M.roots.getD m none=some y) (hml:m<M.roots.length):
  Calls Tryz.prog 66 #[.pointer (some ⟨ph,0,none⟩),.int .i64 ((m:Int)+1),.int .u64 (x:Nat)] w fun e w'=>e=.returned (.int .i64 (if mayM M x then (0:Int) else 32))∧∃ tag' H',HAt w' ph tag' (if mayM M x then putM M m x else M) H'∧Fr tag tag' w w':=by
 have hcm:H.cH.getD m none=some (refW M y):=by rw[h.cH,hy];rfl
 have hml':m<H.cH.length:=by
  by_cases q:m<H.cH.length
  ·exact q
  ·rw[List.getD_eq_getElem?_getD,List.getElem?_eq_none (by omega)] at hcm;cases hcm
 refine (hput_yes h.raw.pH m _ hcm (mayM M x) (may_any h x hx)).mono ?_
 rintro e w' ⟨rfl,w0,kb,k1,k2⟩
 refine ⟨rfl,?_⟩
 cases hm:mayM M x with
 | false=>
  have:=k1 hm
  subst this
  obtain ⟨H',a,b⟩:=h.still' kb
  exact ⟨tag,H',a,b⟩
 | true=>
  obtain ⟨p,kk⟩:=k2 hm
  have hnum:=may_num h.wf.ok hm
  have hphl:ph<w.heap.size:=h.raw.un ph (by rw[h.raw.t1];decide)
  have hp0:w'.heap[ph]?=w.heap[ph]?:=(kk.block ph (Nat.lt_of_lt_of_le hphl kb.size) (fun q=>h.raw.pH.a0 (mem_gB.1 q))).trans (kb.block ph hphl)
  refine h.poolH (M.roots.set m (some (numOf M x))) (fun i hi=>?_) p (fun g e=>.inl e) (fun g e=>.inl e) ⟨kk.os.trans kb.os,kk.tape.trans kb.tape,kk.output.trans kb.output,Nat.le_trans kb.size kk.size⟩
   (fun g hg t1 t4=>(kk.block g (Nat.lt_of_lt_of_le hg kb.size) (fun q=>t4 (h.raw.tH.1 g (mem_gB.1 q)))).trans (kb.block g hg)) (fun q _ _ _=>cell_like hp0 q) (fun q=>froz_like hp0 q) (fun z=>?_) ?_
  ·rcases List.mem_or_eq_of_mem_set hi with e|e
   ·exact h.wf.ok.rt i e
   ·cases e;exact hnum.2
  ·rw[getD_set_opt _ _ _ _ hml',getD_set_opt _ _ _ _ hml]
   by_cases hz:z=m
   ·rw[if_pos hz,if_pos hz]
    show _=some (refW M (numOf M x))
    rw[hnum.1]
   ·rw[if_neg hz,if_neg hz];exact h.cH z
  ·rw[List.length_set,List.length_set];exact h.lH
theorem hdropM_no {w:World}{ph:Nat}{tag:Nat→Nat}{M:Hp}{H:HC} (h:HAt w ph tag M H) (n:Int) (h1:-9223372036854775808≤n) (h2:n≤9223372036854775807) (hh:handR M n=none):
  Calls Tryz.prog 65 #[.pointer (some ⟨ph,0,none⟩),.int .i64 n] w fun e w'=>e=.returned (.int .i64 35)∧Below w.heap.size w w':=by
 refine (hdrop_no h.raw.pH n h1 h2 (by rw[h.hand,hh];rfl)).mono ?_
 rintro e w' ⟨rfl,k⟩
 exact ⟨rfl,k.below⟩
theorem hdropM_yes {w:World}{ph:Nat}{tag:Nat→Nat}{M:Hp}{H:HC} (h:HAt w ph tag M H) (hl:M.roots.length<1000000) (m y:Nat) (hy:M.roots.getD m none=some y) (hml:m<M.roots.length):
  Calls Tryz.prog 65 #[.pointer (some ⟨ph,0,none⟩),.int .i64 ((m:Int)+1)] w fun e w'=>e=.returned (.int .i64 0)∧∃ tag' H',HAt w' ph tag' (dropM M m) H'∧Fr tag tag' w w':=by
 have hcm:H.cH.getD m none=some (refW M y):=by rw[h.cH,hy];rfl
 have hlf:H.frH.length<1000000:=Nat.lt_of_le_of_lt (nodup_below h.raw.pH.ok.nd _ h.lH.2) hl
 refine (hdrop_yes h.raw.pH m _ hcm hlf).mono ?_
 rintro e w' ⟨rfl,c',fr',vc',vf',p,hc,hcl,hfl,hfr,ho,ov,c1⟩
 refine ⟨rfl,?_⟩
 have b1:=c1.blk h.raw.t1 w.heap.size (fun g _=>h.raw.tH.1 g) (fun g _=>h.raw.tH.2 g) (Nat.le_refl _)
 refine h.poolH (M.roots.set m none) (fun i hi=>?_) p (fun g e=>.inl (by rw[← ho];exact e)) ov ⟨c1.but.os,c1.but.tape,c1.but.output,c1.but.size⟩ b1 c1.cell c1.froz (fun z=>?_) ?_
 ·rcases List.mem_or_eq_of_mem_set hi with e|e
  ·exact h.wf.ok.rt i e
  ·cases e
 ·rw[hc,getD_set_opt _ _ _ _ hml]
  by_cases hz:z=m
  ·rw[if_pos hz,if_pos hz];rfl
  ·rw[if_neg hz,if_neg hz];exact h.cH z
 ·rw[List.length_set]
  refine ⟨Nat.le_trans hcl h.lH.1,fun q hq=>?_⟩
  rcases hfr q hq with e|e
  ·omega
  ·exact h.lH.2 q e
end Go.Proofs.YtidfllgaeiopjabGreat
