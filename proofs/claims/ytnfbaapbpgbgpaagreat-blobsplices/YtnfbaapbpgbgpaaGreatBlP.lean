import Derived.Test.YtnfbaapbpgbgpaaGreatBlI
import Derived.Defers
import Derived.Test.YtnfbaapbpgbgpaaGreatBlK
import Derived.Test.YtnfbaapbpgbgpaaGreatBlD
import Derived.Test.YtnfbaapbpgbgpaaGreatHObj
import Derived.Test.YtnfbaapbpgbgpaaGreatByteM
namespace Go.Proofs.YtnfbaapbpgbgpaaGreat
open Go.ChangeShapes Go.WideShapes Go.ChangeAt Go.RowKit
set_option linter.unusedVariables false
set_option linter.unusedSimpArgs false
set_option maxRecDepth 100000
set_option maxHeartbeats 1000000
theorem hdrop_yesD {u:FrameMode}{w:World}{ph:Nat}{c:List (Option Nat)}{fr:List Nat}{vc vf:Value} (h:PoolAt w ph 6 148 encU (.int .u64 0) c fr vc vf) (m y:Nat) (hy:c.getD m none=some y) (hlf:fr.length<1000000):
  CallsD Tryz.prog 54 #[.pointer (some ⟨ph,0,none⟩),.int .i64 ((m:Int)+1)] u w fun e u' w'=>u'=u∧e=.returned (.int .i64 0)∧∃ c' fr' vc' vf',PoolAt w' ph 6 148 encU (.int .u64 0) c' fr' vc' vf'∧(∀ q,c'.getD q none=if q=m then none else c.getD q none)∧c'.length≤c.length∧fr'.length≤fr.length+1∧(∀ q∈fr',q=m∨q∈fr)∧vc'.ownBlock=vc.ownBlock∧Own2 w vf vf'∧PChg ph 6 vc vf w w':=by
 have hml:m<c.length:=by
  by_cases h1:m<c.length
  ·exact h1
  ·rw[List.getD_eq_getElem?_getD,List.getElem?_eq_none (by omega)] at hy;cases hy
 have hlc:=h.lc
 have HG:Hid (Calls Tryz.prog 88 #[.pointer (some ⟨ph,6,none⟩),.int .i64 (m:Nat)] w fun e w'=>e=.returned (.bool true)∧w'=w):=hide (by
  have:=has_any h (m:Nat)
  have e:poolHas c (m:Nat)=true:=by rw[has_get];unfold poolGet;rw[if_pos (by omega),Int.toNat_natCast,hy];rfl
  rw[e] at this
  exact this)
 have HD:=hide (drop_any h m (by rw[hy];simp) hlf)
 clear h hy
 go_enter_d Tryz.func54,Tryz.ntmps54
 go_wp2_with fail
 refine (unhide HG).mono ?_
 clear HG
 rintro e w1 ⟨rfl,rfl⟩
 go_wp2_with fail
 refine (unhide HD).mono ?_
 clear HD
 rintro e w2 ⟨rfl,hst⟩
 have HF:=hide hst
 clear hst
 go_wp2
 go_ret
 exact ⟨rfl,unhide HF⟩
theorem hdropM_yesD {u:FrameMode}{w:World}{ph:Nat}{tag:Nat→Nat}{M:Hp}{H:HC} (h:HAt w ph tag M H) (hl:M.roots.length<1000000) (m y:Nat) (hy:M.roots.getD m none=some y) (hml:m<M.roots.length):
  CallsD Tryz.prog 54 #[.pointer (some ⟨ph,0,none⟩),.int .i64 ((m:Int)+1)] u w fun e u' w'=>u'=u∧e=.returned (.int .i64 0)∧∃ tag' H',HAt w' ph tag' (dropM M m) H'∧Fr tag tag' w w':=by
 have hcm:H.cH.getD m none=some (refW M y):=by rw[h.cH,hy];rfl
 have hlf:H.frH.length<1000000:=Nat.lt_of_le_of_lt (nodup_below h.raw.pH.ok.nd _ h.lH.2) hl
 refine (hdrop_yesD h.raw.pH m _ hcm hlf).mono ?_
 rintro e u' w' ⟨rfl,rfl,c',fr',vc',vf',p,hc,hcl,hfl,hfr,ho,ov,c1⟩
 refine ⟨rfl,rfl,?_⟩
 have b1:=c1.blk h.raw.t1 w.heap.size (fun g _=>h.raw.tH.1 g) (fun g _=>h.raw.tH.2 g) (Nat.le_refl _)
 refine h.poolH (M.roots.set m none) (fun i hi=>?_) p (fun g e=>.inl (by rw[← ho];exact e)) ov ⟨c1.but.os,c1.but.tape,c1.but.output,c1.but.size⟩ b1 c1.cell c1.froz (fun z=>?_) ?_
 ·rcases List.mem_or_eq_of_mem_set hi with e|e
  ·exact h.wf.ok.rt i e
  ·cases e
 ·rw[hc,getD_set_opt _ _ _ _ hml]
  by_cases hz:z=m
  ·rw[if_pos hz,if_pos hz];rfl
  ·rw[if_neg hz,if_neg hz];exact h.cH z
 ·rw[List.length_set]
  refine ⟨Nat.le_trans hcl h.lH.1,fun q hq=>?_⟩
  rcases hfr q hq with e|e
  ·omega
  ·exact h.lH.2 q e
def InS (S:Nat→Prop) (k:Wk):Prop:=(∀ i∈k.cop,S i)∧∀ i∈k.lin,S i
theorem InS.reach {M:Hp}{S:Nat→Prop}{k:Wk}{i:Nat} (h:InS S k) (hi:i=0∨S i):InS S (reachW M k i):=by
 unfold reachW
 split
 ·exact h
 ·rename_i q
  have hs:S i:=hi.resolve_left (fun e=>q (.inl e))
  split
  ·exact ⟨h.1,fun j hj=>by
    rcases List.mem_append.1 hj with a|a
    ·exact h.2 j a
    ·rw[List.mem_singleton.1 a];exact hs⟩
  ·exact ⟨fun j hj=>by
    rcases List.mem_append.1 hj with a|a
    ·exact h.1 j a
    ·rw[List.mem_singleton.1 a];exact hs,h.2⟩
theorem InS.fold {M:Hp}{S:Nat→Prop}:∀ (l:List Nat) {k:Wk},InS S k→(∀ i∈l,i=0∨S i)→InS S (l.foldl (reachW M) k)
 | [],k,h,_=>h
 | i :: l,k,h,hi=>InS.fold l (h.reach (hi i (List.mem_cons_self ..))) fun j hj=>hi j (List.mem_cons_of_mem _ hj)
theorem InS.roots {M:Hp}{S:Nat→Prop} (hr:∀ i,some i∈M.roots→i=0∨S i):∀ n,InS S (rootsW M n)
 | 0=>by
  unfold rootsW
  rw[List.take_zero]
  exact ⟨fun i hi=>absurd hi List.not_mem_nil,fun i hi=>absurd hi List.not_mem_nil⟩
 | n+1=>by
  rw[rootsW_succ]
  cases e:M.roots.getD n none with
  | none=>exact InS.roots hr n
  | some i=>
   refine (InS.roots hr n).reach (hr i ?_)
   by_cases q:n<M.roots.length
   ·rw[List.getD_eq_getElem?_getD,List.getElem?_eq_getElem q] at e
    rw[← (show M.roots[n]=some i from e)]
    exact List.getElem_mem q
   ·rw[List.getD_eq_getElem?_getD,List.getElem?_eq_none (by omega)] at e
    cases e
theorem mem_getD {l:List Nat}{a:Nat} (h:a<l.length):l.getD a 0∈l:=by
 rw[List.getD_eq_getElem?_getD,List.getElem?_eq_getElem h]
 exact List.getElem_mem h
theorem InS.star {M:Hp}{S:Nat→Prop} (hc:∀ i,S i→∀ r∈(ob M i).refs,r=0∨S r) {s t:St} (st:Star M s t) (h:InS S s.k):InS S t.k:=by
 induction st with
 | refl=>exact h
 | more st e ih=>
  unfold stepW at e
  split at e
  ·rename_i q
   cases e
   exact InS.fold _ ih fun r hr=>hc _ (ih.1 _ (mem_getD q)) r hr
  ·split at e
   ·rename_i q
    cases e
    exact InS.fold _ ih fun r hr=>hc _ (ih.2 _ (mem_getD q)) r hr
   ·cases e
theorem nodup_sub:∀ (S l:List Nat),l.Nodup→(∀ i∈l,i∈S)→l.length≤S.length
 | S,[],_,_=>Nat.zero_le _
 | S,a :: l,nd,h=>by
  have ha:=h a (List.mem_cons_self ..)
  obtain ⟨n1,n2⟩:=List.nodup_cons.1 nd
  have:=nodup_sub (S.erase a) l n2 fun i hi=>by
   have hne:i≠a:=fun e=>n1 (e ▸ hi)
   exact (List.mem_erase_of_ne hne).2 (h i (List.mem_cons_of_mem _ hi))
  rw[List.length_erase_of_mem ha] at this
  have:=List.length_pos_of_mem ha
  rw[List.length_cons]
  omega
theorem sum_le (f:Nat→Nat) (c:Nat):∀ l:List Nat,(∀ i∈l,f i≤c)→(l.map f).sum≤l.length*c
 | [],_=>by simp
 | a :: l,h=>by
  have h1:=h a (List.mem_cons_self ..)
  have h2:=sum_le f c l fun i hi=>h i (List.mem_cons_of_mem _ hi)
  rw[List.map_cons,List.sum_cons,List.length_cons,Nat.succ_mul]
  omega
theorem room_of {M:Hp} (wf:HpWf M) (hl:M.limit=262144) (S:List Nat) (hS:S.length≤20) (hr:∀ i,some i∈M.roots→i=0∨i∈S) (hb:∀ i∈S,(ob M i).refs=[]∧osz (ob M i)≤600) {k s v x:Nat}{M1:Hp} (hs:s≤600) (a:AllocR M k 0 s M1 v x):x=0:=by
 obtain ⟨t,h1,h2,f,_,_⟩:=walk_done wf.ok M.roots.length (fun x hx=>by rw[List.getD_eq_getElem?_getD,List.getElem?_eq_none (by omega)];rfl)
 have hin:InS (fun i=>i∈S) t.k:=InS.star (fun i hi r hr'=>by rw[(hb i hi).1] at hr';exact absurd hr' List.not_mem_nil) h1 (InS.roots hr _)
 have n1:=nodup_sub S t.k.cop f.nd.1 hin.1
 have n2:=nodup_sub S t.k.lin f.nd.2 hin.2
 have s1:=sum_le (fun i=>osz (ob M i)) 600 t.k.cop fun i hi=>(hb i (hin.1 i hi)).2
 have s2:=sum_le (fun i=>1+osz (ob M i)) 601 t.k.lin fun i hi=>by have:=(hb i (hin.2 i hi)).2;omega
 refine (alloc_room wf h1 h2 a).1.2 ?_
 unfold RoomK wordsK largeK
 generalize (t.k.cop.map fun i=>osz (ob M i)).sum=A at *
 generalize (t.k.lin.map fun i=>1+osz (ob M i)).sum=B at *
 rw[hl]
 have m1:A≤12000:=Nat.le_trans s1 (by have:=Nat.mul_le_mul_right 600 (Nat.le_trans n1 hS);omega)
 have m2:B≤12020:=Nat.le_trans s2 (by have:=Nat.mul_le_mul_right 601 (Nat.le_trans n2 hS);omega)
 by_cases q:1+0+s≤64
 ·exact .inl ⟨q,by omega⟩
 ·exact .inr ⟨by omega,by omega,by omega⟩
theorem root_of_mem {l:List (Option Nat)}{i:Nat} (h:some i∈l):∃ m,l.getD m none=some i:=by
 obtain ⟨m,hm,e⟩:=List.getElem_of_mem h
 exact ⟨m,by rw[List.getD_eq_getElem?_getD,List.getElem?_eq_getElem hm];exact e⟩
theorem mem_of_root {l:List (Option Nat)}{m i:Nat} (h:l.getD m none=some i):m<l.length∧some i∈l:=by
 by_cases q:m<l.length
 ·rw[List.getD_eq_getElem?_getD,List.getElem?_eq_getElem q] at h
  have h':l[m]=some i:=h
  exact ⟨q,h' ▸ List.getElem_mem q⟩
 ·rw[List.getD_eq_getElem?_getD,List.getElem?_eq_none (by omega)] at h
  cases h
structure Bk (M:Hp) (N:Nat) (T:List (Nat × Nat × List Nat)):Prop where
 fw:FewN M N
 li:M.limit=262144
 t1:∀ t∈T,M.roots.getD t.1 none=some t.2.1∧t.2.1≠0∧IsBlob M t.2.1 t.2.2∧Small t.2.2∧t.2.2.length≤4096
 t2:∀ m i,M.roots.getD m none=some i→∃ t∈T,t.1=m∧t.2.1=i
theorem Bk.mono {M:Hp}{N N':Nat}{T:List (Nat × Nat × List Nat)} (b:Bk M N T) (h:N≤N'):Bk M N' T:=⟨b.fw.mono h,b.li,b.t1,b.t2⟩
theorem blob_size {M:Hp}{i:Nat}{l:List Nat} (h:IsBlob M i l) (hl:l.length≤4096):(ob M i).refs=[]∧osz (ob M i)≤600:=by
 have k2:(ob M i).refs=[]:=congrArg (fun q=>q.2.1) h.2
 have k3:(ob M i).raws=blobW l:=congrArg (fun q=>q.2.2) h.2
 refine ⟨k2,?_⟩
 unfold osz
 rw[k2,k3,blobW_length]
 unfold Larder.wn
 simp only[List.length_nil]
 omega
theorem Bk.room {M:Hp}{N:Nat}{T:List (Nat × Nat × List Nat)} (b:Bk M N T) (wf:HpWf M) (hT:T.length≤20) {k s v x:Nat}{M1:Hp} (hs:s≤600) (a:AllocR M k 0 s M1 v x):x=0:=by
 refine room_of wf b.li (T.map fun t=>t.2.1) (by rw[List.length_map];exact hT) (fun i hi=>?_) (fun i hi=>?_) hs a
 ·obtain ⟨m,hm⟩:=root_of_mem hi
  obtain ⟨t,ht,_,e⟩:=b.t2 m i hm
  exact .inr (List.mem_map.2 ⟨t,ht,e⟩)
 ·obtain ⟨t,ht,rfl⟩:=List.mem_map.1 hi
  have q:=b.t1 t ht
  exact blob_size q.2.2.1 q.2.2.2.2
theorem Bk.root {M:Hp}{N m x i:Nat}{l:List Nat}{T:List (Nat × Nat × List Nat)} (b:Bk M N T) (low:LowR M m) (hx:numOf M x=i) (h0:i≠0) (hb:IsBlob M i l) (hs:Small l) (hl:l.length≤4096):Bk (rootM M m x) (N+1) ((m,i,l) :: T)∧∀ t∈T,t.1≠m:=by
 have hne:∀ t∈T,t.1≠m:=fun t ht e=>by
  have:=(b.t1 t ht).1
  rw[e,low.1] at this
  cases this
 have hg:∀ z,(rootM M m x).roots.getD z none=if z=m then some i else M.roots.getD z none:=fun z=>by
  show (poolPut M.roots m (numOf M x)).getD z none=_
  rw[poolPut_at _ _ _ _ low.2.1,hx]
 refine ⟨⟨⟨b.fw.o1,Nat.le_trans b.fw.cl (Nat.le_succ _),Nat.le_trans b.fw.rz (Nat.le_succ _),Nat.le_trans b.fw.sl (Nat.le_succ _),?_⟩,b.li,fun t ht=>?_,fun m' i' h=>?_⟩,hne⟩
 ·show (poolPut M.roots m (numOf M x)).length≤_
  rw[poolPut_length]
  have:=b.fw.rt
  split <;> omega
 ·rcases List.mem_cons.1 ht with rfl|ht
  ·exact ⟨by rw[hg,if_pos rfl],h0,hb,hs,hl⟩
  ·have q:=b.t1 t ht
   exact ⟨by rw[hg,if_neg (hne t ht)];exact q.1,q.2⟩
 ·rw[hg] at h
  by_cases q:m'=m
  ·rw[if_pos q] at h
   cases h
   exact ⟨_,List.mem_cons_self ..,q.symm,rfl⟩
  ·rw[if_neg q] at h
   obtain ⟨t,ht,e⟩:=b.t2 m' i' h
   exact ⟨t,List.mem_cons_of_mem _ ht,e⟩
theorem Bk.keeps {M M':Hp}{N N':Nat}{T:List (Nat × Nat × List Nat)} (b:Bk M N T) (k:Keeps M M') (f:FewN M' N'):Bk M' N' T:=by
 refine ⟨f,k.li.trans b.li,fun t ht=>?_,fun m i h=>b.t2 m i (by rw[← k.rt];exact h)⟩
 have q:=b.t1 t ht
 exact ⟨by rw[k.rt];exact q.1,q.2.1,k.bl _ _ q.2.1 (mem_of_root q.1).2 q.2.2.1,q.2.2.2⟩
theorem Keeps.lay {M M':Hp}{l:List Nat}{v:Nat} (wf:HpWf M) (h1:1≤M.objs.length) (q:LayR M l M' v 0):Keeps M M':=by
 obtain ⟨M1,wf1,a,⟨z,_⟩|⟨_,e⟩⟩:=q
 ·exact absurd rfl z
 ·rw[(lay_fits wf wf1 h1 a).2] at e
  subst e
  have k1:=Keeps.alloc wf wf1 h1 a
  refine ⟨k1.rt,k1.li,fun i l h0 hi hb=>?_⟩
  have b1:=k1.bl i l h0 hi hb
  have hn:i≠M.objs.length:=by have:=wf.ln i hb.1;omega
  refine ⟨b1.1,?_⟩
  show dat (ob (putO (putO M1 _ _) _ _) i)=_
  rw[ob_put,if_neg (fun q=>hn q.1),ob_put,if_neg (fun q=>hn q.1)]
  exact b1.2
theorem FewN.lay {M M':Hp}{n v:Nat}{l:List Nat} (h:FewN M n) (wf:HpWf M) (q:LayR M l M' v 0):FewN M' (n+2):=by
 obtain ⟨M1,wf1,a,⟨z,_⟩|⟨_,e⟩⟩:=q
 ·exact absurd rfl z
 ·rw[(lay_fits wf wf1 h.o1 a).2] at e
  subst e
  have f:=h.alloc wf a
  refine ⟨?_,f.cl,f.rz,f.sl,f.rt⟩
  show 1≤((M1.objs.set _ _).set _ _).length
  rw[List.length_set,List.length_set]
  exact f.o1
theorem Bk.drop {M:Hp}{N m i:Nat}{l:List Nat}{T:List (Nat × Nat × List Nat)} (b:Bk M N ((m,i,l) :: T)) (hne:∀ t∈T,t.1≠m):Bk (dropM M m) N T:=by
 have hm:=(mem_of_root (b.t1 _ (List.mem_cons_self ..)).1).1
 have hg:∀ z,(dropM M m).roots.getD z none=if z=m then none else M.roots.getD z none:=fun z=>getD_set_opt _ _ _ _ hm
 refine ⟨⟨b.fw.o1,b.fw.cl,b.fw.rz,b.fw.sl,?_⟩,b.li,fun t ht=>?_,fun m' i' h=>?_⟩
 ·show (M.roots.set m none).length≤_
  rw[List.length_set]
  exact b.fw.rt
 ·have q:=b.t1 t (List.mem_cons_of_mem _ ht)
  exact ⟨by rw[hg,if_neg (hne t ht)];exact q.1,q.2⟩
 ·rw[hg] at h
  by_cases q:m'=m
  ·rw[if_pos q] at h;cases h
  ·rw[if_neg q] at h
   obtain ⟨t,ht,e1,e2⟩:=b.t2 m' i' h
   rcases List.mem_cons.1 ht with rfl|ht
   ·exact absurd e1.symm q
   ·exact ⟨t,ht,e1,e2⟩
theorem grown_get {L at':Nat}{lo lb:List Nat} (h1:lo.length≤L) (h2:at'+lb.length≤L) (q:Nat):(grownL L at' lo lb).getD q 0=if at'≤q∧q<at'+lb.length then lb.getD (q-at') 0 else lo.getD q 0:=by
 unfold grownL
 by_cases hq:q<L
 ·rw[patch_at _ _ _ _ (by rw[patch_length,List.length_replicate];exact hq)]
  by_cases c:at'≤q∧q<at'+lb.length
  ·rw[if_pos c,if_pos c]
  ·rw[if_neg c,if_neg c,patch_at _ _ _ _ (by rw[List.length_replicate];exact hq)]
   by_cases c2:q<lo.length
   ·rw[if_pos ⟨Nat.zero_le _,by omega⟩,Nat.sub_zero]
   ·rw[if_neg (by omega),List.getD_eq_getElem?_getD,List.getElem?_replicate,if_pos hq,List.getD_eq_getElem?_getD,List.getElem?_eq_none (by omega)]
    rfl
 ·rw[if_neg (by omega),List.getD_eq_getElem?_getD,List.getElem?_eq_none (by rw[patch_length,patch_length,List.length_replicate];omega),List.getD_eq_getElem?_getD,List.getElem?_eq_none (by omega)]
theorem grown_small {L at':Nat}{lo lb:List Nat} (h1:Small lo) (h2:Small lb):Small (grownL L at' lo lb):=by
 unfold grownL
 refine small_patch _ (small_patch _ (fun i hi=>?_) h1) h2
 rw[List.length_replicate] at hi
 rw[List.getD_eq_getElem?_getD,List.getElem?_replicate,if_pos hi]
 decide
theorem blobW_byte2 {l:List Nat} (hs:Small l) (i:Nat) (hi:i<8*Larder.wn l.length):(Larder.unpackL (blobW l) (8*(blobW l).length)).getD (8+i) 0=l.getD i 0:=by
 rw[Larder.unpackL_get _ _ _ (by rw[blobW_length];omega)]
 have e1:(8+i) / 8=i / 8+1:=by omega
 have e2:(8+i)%8=i%8:=by omega
 rw[e1,e2]
 show (Larder.packL l).getD (i / 8) 0 / 2 ^ (8*(i%8))%256=_
 rw[Larder.packL_get _ _ (by omega),wordAt_byte l hs _ _ (by omega)]
 congr 1
 omega
theorem blob_put {l lb:List Nat}{L at':Nat} (hs:Small l) (hb:Small lb) (h1:l.length≤L) (h2:at'+lb.length≤L) (hw:Larder.wn L=Larder.wn l.length):(Larder.packL (patch (Larder.unpackL (blobW l) (8*(blobW l).length)) (8+at') lb)).set 0 L=blobW (grownL L at' l lb):=by
 obtain ⟨X,hX⟩:∃ X,patch (Larder.unpackL (blobW l) (8*(blobW l).length)) (8+at') lb=X:=⟨_,rfl⟩
 have hXs:Larder.SmallL X:=by rw[← hX];exact patch_below 256 _ _ lb (Larder.unpackL_small _ _) hb
 have hXl:X.length=8*(1+Larder.wn l.length):=by rw[← hX,patch_length,Larder.unpackL_length,blobW_length]
 have hwn:Larder.wn X.length=1+Larder.wn l.length:=by rw[hXl];unfold Larder.wn;omega
 have hpl:(Larder.packL X).length=1+Larder.wn l.length:=by rw[Larder.packL_length,hwn]
 have gl:=grown_length L at' l lb
 have gs:=grown_small (L:=L) (at':=at') hs hb
 have hgw:Larder.wn (grownL L at' l lb).length=Larder.wn l.length:=by rw[gl,hw]
 have key:∀ j,j<Larder.wn l.length→(Larder.packL X).getD (j+1) 0=(Larder.packL (grownL L at' l lb)).getD j 0:=fun j hj=>by
  rw[Larder.packL_get _ _ (by rw[hwn];omega),Larder.packL_get _ _ (by rw[hgw];exact hj)]
  refine by_bytes _ _ (Larder.wordAt_lt (Larder.small_mem hXs) _) (Larder.wordAt_lt (Larder.small_mem gs) _) (fun r hr=>?_)
  rw[wordAt_byte X hXs _ r hr,wordAt_byte _ gs _ r hr,← hX,patch_at _ _ _ _ (by rw[Larder.unpackL_length,blobW_length];omega),grown_get h1 h2]
  have e8:8*(j+1)+r=8+(8*j+r):=by omega
  rw[e8,blobW_byte2 hs _ (by omega)]
  by_cases c:at'≤8*j+r∧8*j+r<at'+lb.length
  ·rw[if_pos c,if_pos ⟨by omega,by omega⟩]
   congr 1
   omega
  ·rw[if_neg c,if_neg (by omega)]
 rw[hX]
 refine List.ext_getElem? fun j=>?_
 unfold blobW
 rw[gl]
 cases j with
 | zero=>rw[List.getElem?_set,if_pos rfl,if_pos (by rw[hpl];omega)];rfl
 | succ j=>
  rw[List.getElem?_set,if_neg (by omega)]
  show _=(Larder.packL (grownL L at' l lb))[j]?
  by_cases q:j<Larder.wn l.length
  ·rw[get_of_getD (by rw[hpl];omega),get_of_getD (by rw[Larder.packL_length,hgw];exact q),key j q]
  ·rw[List.getElem?_eq_none (by rw[hpl];omega),List.getElem?_eq_none (by rw[Larder.packL_length,hgw];omega)]
theorem put_fits {M:Hp}{x i L at':Nat}{l lb:List Nat} (wf:HpWf M) (hn:numOf M x=i) (h0:i≠0) (hb:IsBlob M i l) (hs:Small l) (hsb:Small lb) (h1:l.length≤L) (h2:at'+lb.length≤L) (hw:Larder.wn L=Larder.wn l.length):
  spanM M x ((8+at':Nat):Int) lb.length=0∧∃ M2,setM (setbM M x ((8+at':Nat):Int) lb) x 0 L=(M2,0)∧IsBlob M2 i (grownL L at' l lb)∧M2.roots=M.roots∧M2.limit=M.limit∧(∀ N,FewN M N→FewN M2 N)∧(∀ j k,j≠i→IsBlob M j k→IsBlob M2 j k)∧(∀ j,refW M2 j=refW M j):=by
 have hln:=wf.ln i hb.1
 have k1:(ob M i).kind=1:=congrArg Prod.fst hb.2
 have k2:(ob M i).refs=[]:=congrArg (fun q=>q.2.1) hb.2
 have k3:(ob M i).raws=blobW l:=congrArg (fun q=>q.2.2) hb.2
 have hlen:(ob M i).raws.length=1+Larder.wn l.length:=by rw[k3,blobW_length]
 have hwl:L≤8*Larder.wn L:=by unfold Larder.wn;omega
 have hsp:spanM M x ((8+at':Nat):Int) lb.length=0:=by
  unfold spanM
  rw[hn,if_neg h0,hlen,if_pos ⟨by omega,by omega,by omega⟩]
 refine ⟨hsp,?_⟩
 have e1:setbM M x ((8+at':Nat):Int) lb=putO M i (layO M i (8+at') lb):=by
  unfold setbM
  rw[if_pos hsp,hn]
  rfl
 have s1:=layO_same M i (8+at') lb
 have eo:ob (putO M i (layO M i (8+at') lb)) i=layO M i (8+at') lb:=by rw[ob_put,if_pos ⟨rfl,hln⟩]
 have s2:SameO (ob (putO M i (layO M i (8+at') lb)) i) { ob M i with raws:=(layO M i (8+at') lb).raws.set 0 L }:=by
  rw[eo]
  exact ⟨rfl,rfl,by rw[List.length_set],rfl,rfl⟩
 have er:(layO M i (8+at') lb).refs=[]:=k2
 have hw1:(layO M i (8+at') lb).raws.length=1+Larder.wn l.length:=by rw[s1.wl,hlen]
 have hset:setM (setbM M x ((8+at':Nat):Int) lb) x 0 L=(putO (putO M i (layO M i (8+at') lb)) i { ob M i with raws:=(layO M i (8+at') lb).raws.set 0 L },0):=by
  rw[e1]
  unfold setM
  rw[num_put s1,hn,if_neg h0]
  have hf:(fldM (putO M i (layO M i (8+at') lb)) i).length=1+Larder.wn l.length:=by
   unfold fldM
   rw[eo,er,List.map_nil,List.nil_append,hw1]
  rw[eo,er,if_neg (by simp),hf,if_pos ⟨by decide,by omega⟩]
  unfold setO
  rw[eo,er,if_neg (by simp)]
  rfl
 refine ⟨_,hset,⟨hb.1,?_⟩,rfl,rfl,fun N f=>?_,fun j k hj hk=>⟨hk.1,?_⟩,fun j=>?_⟩
 ·unfold dat
  have hl2:i<(putO M i (layO M i (8+at') lb)).objs.length:=by
   show i<(M.objs.set _ _).length
   rw[List.length_set];exact hln
  rw[ob_put,if_pos ⟨rfl,hl2⟩]
  show ((ob M i).kind,(ob M i).refs,(layO M i (8+at') lb).raws.set 0 L)=_
  rw[k1,k2]
  show (1,[],(Larder.packL (patch (Larder.unpackL (ob M i).raws (8*(ob M i).raws.length)) (8+at') lb)).set 0 L)=_
  rw[k3,blob_put hs hsb h1 h2 hw]
 ·refine ⟨?_,f.cl,f.rz,f.sl,f.rt⟩
  show 1≤((M.objs.set _ _).set _ _).length
  rw[List.length_set,List.length_set]
  exact f.o1
 ·rw[ob_put,if_neg (fun q=>hj q.1),ob_put,if_neg (fun q=>hj q.1)]
  exact hk.2
 ·rw[put_refW s2,put_refW s1]
theorem bread_is {w:World}{ph:Nat}{tag:Nat→Nat}{M:Hp}{H:HC} (h:HAt w ph tag M H) {x i:Nat}{l:List Nat} (hx:x<18446744073709551616) (hn:numOf M x=i) (h0:i≠0) (hb:IsBlob M i l) (hs:Small l) (hl:l.length≤4096):
  Calls Tryz.prog 16 #[.pointer (some ⟨ph,0,none⟩),.int .u64 (x:Nat)] w fun e w'=>∃ g,e=.returned (.tuple #[.slice (some ⟨g,0,none⟩) l.length l.length,.int .i64 0])∧w.heap.size≤g∧Bytes w' (some ⟨g,0,none⟩) l∧Below w.heap.size w w':=by
 obtain ⟨r1,r2,r3,r4⟩:=blob_reads hn h0 hb hs
 have e:(mapF l.length fun i=>(bytM M (numOf M x)).getD (8+i) 0)=l:=by
  refine List.ext_getElem? fun j=>?_
  by_cases q:j<l.length
  ·rw[get_of_getD (by rw[mapF_length];exact q),get_of_getD q,mapF_at _ _ _ q,r4 j q]
  ·rw[List.getElem?_eq_none (by rw[mapF_length];omega),List.getElem?_eq_none (by omega)]
 refine (bread_blob h x hx r1 r2 (by omega) (by have:=r3 0 l.length (by omega);exact this)).mono ?_
 rintro e' w' ⟨g,q1,q2,q3,q4⟩
 rw[e] at q3
 exact ⟨g,q1,q2,q3,q4⟩
theorem blen_is {w:World}{ph:Nat}{tag:Nat→Nat}{M:Hp}{H:HC} (h:HAt w ph tag M H) {x i:Nat}{l:List Nat} (hx:x<18446744073709551616) (hn:numOf M x=i) (h0:i≠0) (hb:IsBlob M i l) (hs:Small l) (hl:l.length≤4096):
  Calls Tryz.prog 17 #[.pointer (some ⟨ph,0,none⟩),.int .u64 (x:Nat)] w fun e w'=>e=.returned (.tuple #[.int .i64 (l.length:Nat),.int .i64 0])∧Below w.heap.size w w':=by
 obtain ⟨r1,r2,r3,r4⟩:=blob_reads hn h0 hb hs
 exact blen_blob h x hx r1 r2 (by omega)
theorem Bytes.fr {tag tag':Nat→Nat}{w w':World}{y:Addr}{l:List Nat} (h:Bytes w (some y) l) (f:Fr tag tag' w w') (ht:tag y.block=0):Bytes w' (some y) l:=by
 rcases h with z|⟨b,off,e,hlt,hcc⟩
 ·exact .inl z
 ·cases e
  exact .inr ⟨b,off,rfl,Nat.lt_of_lt_of_le hlt f.size,fun i hi=>(cell_like (f.blk b hlt ht).1 _).trans (hcc i hi)⟩
theorem bgrow_blob {w:World}{ph:Nat}{tag:Nat→Nat}{M:Hp}{H:HC} (h:HAt w ph tag M H) {N:Nat}{T:List (Nat × Nat × List Nat)} (bk:Bk M N T) (hN:N≤5000) (hT:T.length≤18) {x i L at' cap:Nat}{l lb:List Nat}{y:Addr} (hx:x<18446744073709551616) (hn:numOf M x=i) (h0:i≠0) (hb:IsBlob M i l) (hs:Small l) (hsb:Small lb) (h1:l.length≤L) (h2:at'+lb.length≤L) (h3:L≤4096) (hp:0<lb.length) (hB:Bytes w (some y) lb) (ht:tag y.block=0):
  Calls Tryz.prog 40 #[.pointer (some ⟨ph,0,none⟩),.int .u64 (x:Nat),.int .i64 (L:Nat),.int .i64 (at':Nat),.slice (some y) lb.length cap] w fun e w'=>∃ v z,e=.returned (.tuple #[v,z])∧∃ v':Nat,v=.int .u64 (v':Nat)∧z=.int .i64 0∧∃ tag' H' M' j,HAt w' ph tag' M' H'∧Fr tag tag' w w'∧j≠0∧numOf M' v'=j∧v'<18446744073709551616∧IsBlob M' j (grownL L at' l lb)∧(∀ t∈T,t.2.1≠j)∧Bk M' (N+5) T:=by
 have hgl:=grown_length L at' l lb
 have hgs:=grown_small (L:=L) (at':=at') hs hsb
 refine bgrow_walk (lo:=l) h2 hp (by omega) h1
  (G1:=fun m W=>LowR M m∧∃ tag1 H1,HAt W ph tag1 (rootM M m x) H1∧Fr tag tag1 w W)
  (G2:=fun m W=>LowR M m∧∃ tag1 H1,HAt W ph tag1 (rootM M m x) H1∧Fr tag tag1 w W)
  (G3:=fun m v z W=>LowR M m∧∃ (v':Nat) (tag2:Nat→Nat) (H2:HC) (M2:Hp),v=.int .u64 (v':Nat)∧z=.int .i64 0∧HpWf (rootM M m x)∧LayR (rootM M m x) (grownL L at' l lb) M2 v' 0∧HAt W ph tag2 M2 H2∧Fr tag tag2 w W) ?_ ?_ ?_ ?_
 ·have hm:mayM M x=true:=by
   unfold mayM
   rw[hn]
   exact decide_eq_true (.inr h0)
  refine (hrootM_yes h (by have:=bk.fw.rt;omega) x hx hm).mono ?_
  rintro e w' ⟨m,tag2,H2,rfl,low,he,f2⟩
  exact ⟨m,by rw[Int.add_comm],low,tag2,H2,he,f2⟩
 ·rintro W m ⟨low,tag1,H1,he,f1⟩
  refine (bread_is he (l:=l) hx hn h0 hb hs (by omega)).mono ?_
  rintro e w' ⟨g,q1,q2,q3,q4⟩
  have f2:Fr tag tag1 w w':=f1.trans (Fr.of_below q4)
  exact ⟨g,q1,q3,hB.fr f2 ht,low,tag1,H1,he.still q4,f2⟩
 ·rintro W W' s m ⟨low,tag1,H1,he,f1⟩ k hs' hBs
  have he':=he.still k
  have bk1:=(bk.root low hn h0 hb hs (by omega)).1
  have fw:=bk1.fw
  have f2:Fr tag tag1 w W':=f1.trans (Fr.of_below k)
  have q:=blay_any he' fw.o1 (by have:=fw.cl;omega) (by have:=fw.rz;omega) (by have:=fw.sl;omega) (grownL L at' l lb) (by omega) hgs (some ⟨s,0,none⟩) L hBs (fun _ b' off e=>by
   cases e
   by_cases q:tag1 s=0
   ·exact q
   ·have:=he.raw.un s q;omega)
  rw[hgl] at q
  refine q.mono ?_
  rintro e w' ⟨v,x',rfl,tag',H',M',q1,q2,q3⟩
  have hx':x'=0:=by
   obtain ⟨M1,_,al,_⟩:=q1
   rw[hgl] at al
   exact bk1.room he'.wf (by rw[List.length_cons];omega) (by unfold Larder.wn;omega) al
  subst hx'
  exact ⟨_,_,rfl,low,v,tag',H',M',rfl,rfl,he'.wf,q1,q3,f2.trans q2⟩
 ·rintro W m v z u ⟨low,v',tag2,H2,M2,rfl,rfl,wf1,q1,he,f1⟩
  obtain ⟨bk1,hne⟩:=bk.root low hn h0 hb hs (by omega)
  have kp:=Keeps.lay wf1 bk1.fw.o1 q1
  have bk2:=bk1.keeps kp (bk1.fw.lay wf1 q1)
  have bk3:=bk2.drop hne
  have r1:=(bk2.t1 _ (List.mem_cons_self ..)).1
  have r2:=(mem_of_root r1).1
  refine (hdropM_yesD he (by have:=bk2.fw.rt;omega) m i r1 r2).mono ?_
  rintro e u' w' ⟨rfl,rfl,tag',H',he',f2⟩
  obtain ⟨M1,wfM1,al,⟨zz,_⟩|⟨_,eM⟩⟩:=q1
  ·exact absurd rfl zz
  ·obtain ⟨n1,n2,n3,n4,n5⟩:=lay_blob wf1 bk1.fw.o1 hgs wfM1 al eM
   refine ⟨rfl,rfl,v',rfl,rfl,tag',H',dropM M2 m,M.objs.length,he',f1.trans f2,?_,n1,n2,n3,fun t ht' e=>?_,bk3.mono (by omega)⟩
   ·have:=bk.fw.o1;omega
   ·have:=h.wf.ln _ (bk.t1 t ht').2.2.1.1
    omega
theorem bwrite_blob {w:World}{ph:Nat}{tag:Nat→Nat}{M:Hp}{H:HC} (h:HAt w ph tag M H) {N:Nat}{T:List (Nat × Nat × List Nat)} (bk:Bk M N T) (hN:N≤5000) (hT:T.length≤18) {m i at' cap:Nat}{l lb:List Nat}{y:Addr} (htm:(m,i,l)∈T) (hsb:Small lb) (h2:at'+lb.length≤4096) (hp:0<lb.length) (hB:Bytes w (some y) lb) (ht:tag y.block=0):
  Calls Tryz.prog 14 #[.pointer (some ⟨ph,0,none⟩),.int .u64 (refW M i:Nat),.int .i64 (at':Nat),.slice (some y) lb.length cap] w fun e w'=>∃ v z,e=.returned (.tuple #[v,z])∧∃ v':Nat,v=.int .u64 (v':Nat)∧z=.int .i64 0∧∃ tag' H' M',HAt w' ph tag' M' H'∧Fr tag tag' w w'∧
   ((v'=refW M' i∧Bk M' (N+5) (T.map fun t=>if t.2.1=i then (t.1,i,grownL (max l.length (at'+lb.length)) at' l lb) else t))∨(∃ j,j≠0∧numOf M' v'=j∧v'<18446744073709551616∧IsBlob M' j (grownL (max l.length (at'+lb.length)) at' l lb)∧(∀ t∈T,t.2.1≠j)∧Bk M' (N+5) T)):=by
 obtain ⟨b1,h0,hb,hs,hl⟩:=bk.t1 _ htm
 dsimp only at b1 h0 hb hs hl
 obtain ⟨L,hL⟩:∃ L,L=max l.length (at'+lb.length):=⟨_,rfl⟩
 rw[← hL]
 have hL1:l.length≤L:=by omega
 have hL2:at'+lb.length≤L:=by omega
 have hL3:L≤4096:=by omega
 obtain ⟨nb1,nb2,nb3⟩:=num_back h.wf.ok hb.1
 obtain ⟨x,hx⟩:∃ x,refW M i=x:=⟨_,rfl⟩
 rw[hx] at nb1 nb2 nb3 ⊢
 refine bwrite_walk hp (by omega) (by omega) (old:=l.length) (by omega) hL (G:=fun W=>Below w.heap.size w W) ?_ ?_ ?_
 ·exact blen_is h nb2 nb1 h0 hb hs hl
 ·intro hw W W' k s
  have k':=k.trans (s.below.mono k.size)
  obtain ⟨hsp,M2,hset,p1,p2,p3,p4,p5,p6⟩:=put_fits h.wf nb1 h0 hb hs hsb hL1 hL2 hw
  refine (bput_yes (h.still k') x nb2 L at' (by omega) (by omega) lb (some y) cap (hB.below k') hsb hsp hset).mono ?_
  rintro e w' ⟨rfl,H',he,f⟩
  refine ⟨_,_,rfl,x,rfl,rfl,tag,H',M2,he,(Fr.of_below k').trans f,.inl ⟨by rw[p6,hx],⟨(p4 _ bk.fw).mono (by omega),by rw[p3];exact bk.li,fun t ht'=>?_,fun m' i' e=>?_⟩⟩⟩
  ·obtain ⟨t0,h0',rfl⟩:=List.mem_map.1 ht'
   have q:=bk.t1 t0 h0'
   by_cases c:t0.2.1=i
   ·rw[if_pos c]
    exact ⟨by rw[p2,← c];exact q.1,h0,p1,grown_small hs hsb,by rw[grown_length];exact hL3⟩
   ·rw[if_neg c]
    exact ⟨by rw[p2];exact q.1,q.2.1,p5 _ _ c q.2.2.1,q.2.2.2⟩
  ·rw[p2] at e
   obtain ⟨t0,h0',e1,e2⟩:=bk.t2 m' i' e
   refine ⟨_,List.mem_map.2 ⟨t0,h0',rfl⟩,?_⟩
   by_cases c:t0.2.1=i
   ·rw[if_pos c];exact ⟨e1,c ▸ e2⟩
   ·rw[if_neg c];exact ⟨e1,e2⟩
 ·intro hw W W' k s
  have k':=k.trans (s.below.mono k.size)
  refine (bgrow_blob (h.still k') bk hN hT nb2 nb1 h0 hb hs hsb hL1 hL2 hL3 hp (hB.below k') ht).mono ?_
  rintro e w' ⟨v,z,rfl,v',rfl,rfl,tag',H',M',j,q1,q2,q3⟩
  exact ⟨_,_,rfl,v',rfl,rfl,tag',H',M',q1,(Fr.of_below k').trans q2,.inr ⟨j,q3⟩⟩
def Lw (W0:World) (ph N:Nat) (T:List (Nat × Nat × List Nat)) (M:Hp) (W:World):Prop:=
 ∃ tag H,HAt W ph tag M H∧Bk M N T∧Below W0.heap.size W0 W∧∀ g,g<W0.heap.size→tag g=0
theorem Lw.still {W0 W W':World}{ph N:Nat}{T:List (Nat × Nat × List Nat)}{M:Hp} (h:Lw W0 ph N T M W) (k:Below W.heap.size W W'):Lw W0 ph N T M W':=by
 obtain ⟨tag,H,h1,h2,h3,h4⟩:=h
 exact ⟨tag,H,h1.still k,h2,h3.trans (k.mono h3.size),h4⟩
theorem Lw.below {W0 W:World}{ph N:Nat}{T:List (Nat × Nat × List Nat)}{M:Hp} (h:Lw W0 ph N T M W):Below W0.heap.size W0 W:=by
 obtain ⟨tag,H,h1,h2,h3,h4⟩:=h
 exact h3
theorem fr_below {tag tag':Nat→Nat}{w w' W0:World} (f:Fr tag tag' w w') (h:Below W0.heap.size W0 w) (ht:∀ g,g<W0.heap.size→tag g=0):Below W0.heap.size W0 w'∧∀ g,g<W0.heap.size→tag' g=0:=
 ⟨h.trans ⟨f.os,f.tape,f.output,f.size,fun g hg=>(f.blk g (Nat.lt_of_lt_of_le hg h.size) (ht g hg)).1⟩,fun g hg=>(f.blk g (Nat.lt_of_lt_of_le hg h.size) (ht g hg)).2⟩
theorem lw_new {W0:World}:Calls Tryz.prog 9 #[.int .i64 262144] W0 fun e w'=>∃ ph,e=.returned (.tuple #[.pointer (some ⟨ph,0,none⟩),.int .i64 0])∧Lw W0 ph 5 [] (newM 262144) w':=by
 refine (hnew_any 262144 (by decide) (by decide)).mono ?_
 rintro e w' ⟨ph,tag,H,rfl,he,ht,k⟩
 refine ⟨ph,rfl,tag,H,he,⟨⟨Nat.le_refl _,Nat.zero_le _,Nat.zero_le _,Nat.zero_le _,Nat.zero_le _⟩,rfl,fun t h=>absurd h List.not_mem_nil,fun m i h=>?_⟩,k,fun g hg=>?_⟩
 ·rw[show (newM 262144).roots=[] from rfl] at h
  simp at h
 ·by_cases q:tag g=0
  ·exact q
  ·have:=ht g q;omega
theorem lw_made {W0 W:World}{ph N:Nat}{T:List (Nat × Nat × List Nat)}{M:Hp} (h:Lw W0 ph N T M W) (hN:N≤4000) (hT:T.length≤18) {a:Option Addr}{cap:Nat}{l:List Nat} (hB:Bytes W a l) (hl:l.length≤4096) (hs:Small l):
  Calls Tryz.prog 11 #[.pointer (some ⟨ph,0,none⟩),.slice a l.length cap] W fun e w'=>∃ (m i:Nat) (M':Hp),e=.returned (.int .i64 ((m:Int)+1))∧(∀ t∈T,t.1≠m)∧Lw W0 ph (N+5) ((m,i,l) :: T) M' w':=by
 obtain ⟨tag,H,h1,h2,h3,h4⟩:=h
 refine (made_any h1 (h2.fw.few (by omega)) l hB hl hs (fun M1 v x a=>h2.room h1.wf (by omega) (by unfold Larder.wn;omega) a)).mono ?_
 rintro e w' ⟨m,rfl,tag',H',M1,v,q1,low,f,he⟩
 have kp:=Keeps.lay h1.wf h2.fw.o1 q1
 have b1:=h2.keeps kp (h2.fw.lay h1.wf q1)
 obtain ⟨M2,wf2,al,⟨zz,_⟩|⟨_,eM⟩⟩:=q1
 ·exact absurd rfl zz
 ·obtain ⟨n1,n2,n3,n4,n5⟩:=lay_blob h1.wf h2.fw.o1 hs wf2 al eM
  obtain ⟨b2,ne⟩:=b1.root low n1 (by have:=h2.fw.o1;omega) n3 hs hl
  obtain ⟨g1,g2⟩:=fr_below f h3 h4
  exact ⟨m,_,_,rfl,ne,tag',H',he,b2.mono (by omega),g1,g2⟩
def IntsB (W0:World) (a:Option Addr) (n:Nat):Prop:=n=0∨∃ b off,a=some ⟨b,off,none⟩∧b<W0.heap.size∧∀ i,i<n→∃ z:Int,W0.cell? ⟨b,off+i,none⟩=some (.int .i64 z)∧-9223372036854775808≤z∧z≤9223372036854775807
theorem lw_waste {W0 W:World}{ph N:Nat}{T:List (Nat × Nat × List Nat)}{M:Hp} (h:Lw W0 ph N T M W) (hN:N≤4000) {a:Option Addr}{n cap:Nat} (hz:IntsB W0 a n):
  Calls Tryz.prog 12 #[.pointer (some ⟨ph,0,none⟩),.slice a n cap] W fun e w'=>e=.returned (.tuple #[])∧∃ M',Lw W0 ph (N+100) T M' w':=by
 obtain ⟨tag,H,h1,h2,h3,h4⟩:=h
 have hI:Ints W tag a n:=by
  rcases hz with q|⟨b,off,e,hb,hc⟩
  ·exact .inl q
  ·refine .inr ⟨b,off,e,Nat.lt_of_lt_of_le hb h3.size,h4 b hb,fun i hi=>?_⟩
   obtain ⟨z,e1,z1,z2⟩:=hc i hi
   exact ⟨z,by rw[h3.cell (p:=⟨b,off+i,none⟩) hb];exact e1,z1,z2⟩
 refine (waste_any (N:=N) ⟨tag,H,M,Keeps.refl M,h2.fw,Fr.refl W,h1⟩ (by omega) hI).mono ?_
 rintro e w' ⟨rfl,tag',H',M',kp,fw,f,he⟩
 obtain ⟨g1,g2⟩:=fr_below f h3 h4
 exact ⟨rfl,M',tag',H',he,h2.keeps kp fw,g1,g2⟩
theorem hand_of {M:Hp}{m i:Nat} (h:M.roots.getD m none=some i):handR M ((m:Int)+1)=some i:=by
 unfold handR poolGet
 rw[if_pos (by omega)]
 rw[show ((m:Int)+1-1).toNat=m by omega]
 exact h
theorem lw_at {W0 W:World}{ph N m i:Nat}{l:List Nat}{T:List (Nat × Nat × List Nat)}{M:Hp} (h:Lw W0 ph N T M W) (hN:N≤4000) (ht:(m,i,l)∈T):
  Calls Tryz.prog 13 #[.pointer (some ⟨ph,0,none⟩),.int .i64 ((m:Int)+1)] W fun e w'=>e=.returned (.int .u64 (refW M i:Nat))∧Lw W0 ph N T M w'∧Below W.heap.size W w':=by
 have h':=h
 obtain ⟨tag,H,h1,h2,h3,h4⟩:=h
 have r1:=(h2.t1 _ ht).1
 have r2:=(mem_of_root r1).1
 have r3:=h2.fw.rt
 dsimp only at r1 r2
 refine (at_any h1 ((m:Int)+1) (by omega) (by omega)).mono ?_
 rintro e w' ⟨rfl,k⟩
 rw[hand_of r1]
 exact ⟨rfl,h'.still k,k⟩
theorem lw_write {W0 W:World}{ph N m i at' cap:Nat}{l lb:List Nat}{M:Hp} (h:Lw W0 ph N [(m,i,l)] M W) (hN:N≤4000) {y:Addr} (hsb:Small lb) (h2':at'+lb.length≤4096) (hp:0<lb.length) (hB:Bytes W (some y) lb) (hy:y.block<W0.heap.size):
  Calls Tryz.prog 14 #[.pointer (some ⟨ph,0,none⟩),.int .u64 (refW M i:Nat),.int .i64 (at':Nat),.slice (some y) lb.length cap] W fun e w'=>∃ v':Nat,e=.returned (.tuple #[.int .u64 (v':Nat),.int .i64 0])∧
   ∃ (M':Hp) (j:Nat) (lx:List Nat) (sm:Bool),decide (v'=refW M' i)=sm∧numOf M' v'=j∧v'<18446744073709551616∧j≠0∧IsBlob M' j (grownL (max l.length (at'+lb.length)) at' l lb)∧(lx=if sm then grownL (max l.length (at'+lb.length)) at' l lb else l)∧Lw W0 ph (N+5) [(m,i,lx)] M' w':=by
 obtain ⟨tag,H,h1,h2,h3,h4⟩:=h
 have ht:(m,i,l) ∈ [(m,i,l)]:=List.mem_cons_self ..
 refine (bwrite_blob h1 h2 (by omega) (by simp) ht hsb h2' hp hB (h4 _ hy)).mono ?_
 rintro e w' ⟨v,z,rfl,v',rfl,rfl,tag',H',M',he,f,q⟩
 obtain ⟨g1,g2⟩:=fr_below f h3 h4
 refine ⟨v',rfl,M',?_⟩
 rcases q with ⟨e1,b⟩|⟨j,j0,jn,jl,jb,jt,b⟩
 ·rw[List.map_cons,List.map_nil,if_pos rfl] at b
  have bb:=b.t1 _ (List.mem_cons_self ..)
  dsimp only at bb
  obtain ⟨n1,n2,n3⟩:=num_back he.wf.ok bb.2.2.1.1
  exact ⟨i,_,true,decide_eq_true e1,by rw[e1];exact n1,by rw[e1];exact n2,bb.2.1,bb.2.2.1,rfl,tag',H',he,b,g1,g2⟩
 ·have bb:=b.t1 _ ht
  dsimp only at bb
  obtain ⟨n1,n2,n3⟩:=num_back he.wf.ok bb.2.2.1.1
  have hne:i≠j:=jt _ ht
  exact ⟨j,l,false,decide_eq_false (fun e=>hne (by rw[← jn,e,n1])),jn,jl,j0,jb,rfl,tag',H',he,b,g1,g2⟩
theorem lw_root {W0 W:World}{ph N v j:Nat}{l:List Nat}{T:List (Nat × Nat × List Nat)}{M:Hp} (h:Lw W0 ph N T M W) (hN:N≤4000) (hv:v<18446744073709551616) (hn:numOf M v=j) (h0:j≠0) (hb:IsBlob M j l) (hs:Small l) (hl:l.length≤4096):
  Calls Tryz.prog 15 #[.pointer (some ⟨ph,0,none⟩),.int .u64 (v:Nat)] W fun e w'=>∃ (m:Nat) (M':Hp),e=.returned (.tuple #[.int .i64 ((m:Int)+1),.int .i64 0])∧Lw W0 ph (N+1) ((m,j,l) :: T) M' w':=by
 obtain ⟨tag,H,h1,h2,h3,h4⟩:=h
 have hm:mayM M v=true:=by
  unfold mayM
  rw[hn]
  exact decide_eq_true (.inr h0)
 refine (hrootM_yes h1 (by have:=h2.fw.rt;omega) v hv hm).mono ?_
 rintro e w' ⟨m,tag',H',rfl,low,he,f⟩
 obtain ⟨g1,g2⟩:=fr_below f h3 h4
 exact ⟨m,_,by rw[Int.add_comm],tag',H',he,(h2.root low hn h0 hb hs hl).1,g1,g2⟩
theorem lw_read {W0 W:World}{ph N m i:Nat}{l:List Nat}{T:List (Nat × Nat × List Nat)}{M:Hp} (h:Lw W0 ph N T M W) (ht:(m,i,l)∈T):
  Calls Tryz.prog 16 #[.pointer (some ⟨ph,0,none⟩),.int .u64 (refW M i:Nat)] W fun e w'=>∃ g,e=.returned (.tuple #[.slice (some ⟨g,0,none⟩) l.length l.length,.int .i64 0])∧Bytes w' (some ⟨g,0,none⟩) l∧Lw W0 ph N T M w'∧Below W.heap.size W w':=by
 have h':=h
 obtain ⟨tag,H,h1,h2,h3,h4⟩:=h
 obtain ⟨r1,r2,r3,r4,r5⟩:=h2.t1 _ ht
 dsimp only at r1 r2 r3 r4 r5
 obtain ⟨n1,n2,n3⟩:=num_back h1.wf.ok r3.1
 refine (bread_is h1 n2 n1 r2 r3 r4 r5).mono ?_
 rintro e w' ⟨g,rfl,q1,q2,k⟩
 exact ⟨g,rfl,q2,h'.still k,k⟩
theorem lw_len {W0 W:World}{ph N m i:Nat}{l:List Nat}{T:List (Nat × Nat × List Nat)}{M:Hp} (h:Lw W0 ph N T M W) (ht:(m,i,l)∈T):
  Calls Tryz.prog 17 #[.pointer (some ⟨ph,0,none⟩),.int .u64 (refW M i:Nat)] W fun e w'=>e=.returned (.tuple #[.int .i64 (l.length:Nat),.int .i64 0])∧Lw W0 ph N T M w'∧Below W.heap.size W w':=by
 have h':=h
 obtain ⟨tag,H,h1,h2,h3,h4⟩:=h
 obtain ⟨r1,r2,r3,r4,r5⟩:=h2.t1 _ ht
 dsimp only at r1 r2 r3 r4 r5
 obtain ⟨n1,n2,n3⟩:=num_back h1.wf.ok r3.1
 refine (blen_is h1 n2 n1 r2 r3 r4 r5).mono ?_
 rintro e w' ⟨rfl,k⟩
 exact ⟨rfl,h'.still k,k⟩
set_option maxHeartbeats 4000000
theorem Lw.st {W0 W W':World}{ph N:Nat}{T:List (Nat × Nat × List Nat)}{M:Hp} (h:Lw W0 ph N T M W) (k:Still W W'):Lw W0 ph N T M W':=h.still k.below
theorem Still.kb {W0 W W':World} (k:Below W0.heap.size W0 W) (s:Still W W'):Below W0.heap.size W0 W':=k.trans (s.below.mono k.size)
theorem Bytes.cells {W:World}{a:Option Addr}{l:List Nat} (h:Bytes W a l) (j:Nat) (hj:j<l.length):∃ b off,a=some ⟨b,off,none⟩∧W.cell? ⟨b,off+j,none⟩=some (.int .u8 (l.getD j 0:Nat)):=by
 rcases h with z|⟨b,off,e,_,hc⟩
 ·rw[z] at hj;cases hj
 ·exact ⟨b,off,e,hc j hj⟩
theorem splices_yes {w:World}{a1 a3:Option Addr}{c1 c2 c3 n3 at' yb yo:Nat}{A B:List Nat}{Nn:Int} (hA:A.length≤4096) (hB0:0<B.length) (hat:at'+B.length≤4096) (sA:Small A) (sB:Small B) (bA:Bytes w a1 A) (bB:Bytes w (some ⟨yb,yo,none⟩) B) (hyb:yb<w.heap.size) (hz:IntsB w a3 n3):
  Calls Tryz.prog 3 #[.agg #[.slice a1 A.length c1,.slice (some ⟨yb,yo,none⟩) B.length c2,.int .i64 (at':Nat),.int .i64 Nn,.slice a3 n3 c3]] w fun e w'=>e=.returned (.bool true)∧Below w.heap.size w w':=by
 obtain ⟨W0,hW0⟩:∃ W0,w.alloc (.cells #[.slice a1 A.length c1,.slice (some ⟨yb,yo,none⟩) B.length c2,.int .i64 (at':Nat),.int .i64 Nn,.slice a3 n3 c3] 25)=W0:=⟨_,rfl⟩
 have k0:Below w.heap.size w W0:=by rw[← hW0];exact (Below.refl _ _).alloc (Nat.le_refl _) _
 have hs0:W0.heap.size=w.heap.size+1:=by rw[← hW0];simp
 have bA':∀ W,Below W0.heap.size W0 W→Bytes W a1 A:=fun W k=>(bA.below k0).below k
 have bB':∀ W,Below W0.heap.size W0 W→Bytes W (some ⟨yb,yo,none⟩) B:=fun W k=>(bB.below k0).below k
 have hz':IntsB W0 a3 n3:=by
  rcases hz with q|⟨b,off,e,hb,hc⟩
  ·exact .inl q
  ·refine .inr ⟨b,off,e,by omega,fun i hi=>?_⟩
   obtain ⟨z,e1,e2⟩:=hc i hi
   exact ⟨z,by rw[k0.cell (p:=⟨b,off+i,none⟩) hb];exact e1,e2⟩
 obtain ⟨GL,hGL⟩:∃ GL,grownL (max A.length (at'+B.length)) at' A B=GL:=⟨_,rfl⟩
 have gl:GL.length=max A.length (at'+B.length):=by rw[← hGL,grown_length]
 have gs:Small GL:=by rw[← hGL];exact grown_small sA sB
 have gl4:GL.length≤4096:=by rw[gl];omega
 refine splices_walk (fA:=fun j=>A.getD j 0) (fB:=fun j=>B.getD j 0) (fG:=fun j=>GL.getD j 0) hA hB0 hat gl hW0
  (K:=fun W=>Below W0.heap.size W0 W) (R:=fun W=>Below w.heap.size w W)
  (G1:=fun ph W=>Lw W0 ph 5 [] (newM 262144) W)
  (G2:=fun ph m W=>∃ i M,Lw W0 ph 10 [(m,i,A)] M W)
  (G3:=fun ph m W=>∃ i M,Lw W0 ph 110 [(m,i,A)] M W)
  (G4:=fun ph m x W=>∃ i M,x=refW M i∧Lw W0 ph 110 [(m,i,A)] M W)
  (G5:=fun ph m v W=>∃ i M j lx sm,decide (v=refW M i)=sm∧numOf M v=j∧v<18446744073709551616∧j≠0∧IsBlob M j GL∧(lx=if sm then GL else A)∧Lw W0 ph 115 [(m,i,lx)] M W)
  (G6:=fun ph m v sm W=>∃ i M j lx,numOf M v=j∧v<18446744073709551616∧j≠0∧IsBlob M j GL∧(lx=if sm then GL else A)∧Lw W0 ph 115 [(m,i,lx)] M W)
  (G7:=fun ph m k sm W=>∃ i M j lx,(lx=if sm then GL else A)∧Lw W0 ph 116 [(k,j,GL),(m,i,lx)] M W)
  (G8:=fun ph m k sm W=>∃ i M j lx,(lx=if sm then GL else A)∧Lw W0 ph 216 [(k,j,GL),(m,i,lx)] M W)
  (G9:=fun ph m k sm x W=>∃ i M j lx,x=refW M j∧(lx=if sm then GL else A)∧Lw W0 ph 216 [(k,j,GL),(m,i,lx)] M W)
  (G10:=fun ph m k sm g W=>Bytes W (some ⟨g,0,none⟩) GL∧∃ i M j lx,(lx=if sm then GL else A)∧Lw W0 ph 216 [(k,j,GL),(m,i,lx)] M W)
  (G11:=fun ph m k sm g x W=>Bytes W (some ⟨g,0,none⟩) GL∧∃ i M j lx,x=refW M j∧(lx=if sm then GL else A)∧Lw W0 ph 216 [(k,j,GL),(m,i,lx)] M W)
  (G12:=fun ph m sm g W=>Bytes W (some ⟨g,0,none⟩) GL∧∃ k i M j lx,(lx=if sm then GL else A)∧Lw W0 ph 216 [(k,j,GL),(m,i,lx)] M W)
  (G13:=fun ph m sm g x W=>Bytes W (some ⟨g,0,none⟩) GL∧∃ k i M j lx,x=refW M i∧(lx=if sm then GL else A)∧Lw W0 ph 216 [(k,j,GL),(m,i,lx)] M W)
  (G14:=fun sm g g2 n2 W=>Bytes W (some ⟨g,0,none⟩) GL∧Below W0.heap.size W0 W∧∃ lx,(lx=if sm then GL else A)∧n2=lx.length∧Bytes W (some ⟨g2,0,none⟩) lx)
  ?_ ?_ ?_ ?_ ?_ ?_ ?_ ?_ ?_ ?_ ?_ ?_ ?_ ?_ ?_ ?_ ?_ ?_ ?_ ?_ ?_ ?_
 ·exact fun W W' k s=>Still.kb k s
 ·intro W k
  have g:∀ j,W.cell? ⟨w.heap.size,j,none⟩=W0.cell? ⟨w.heap.size,j,none⟩:=fun j=>k.cell (p:=⟨w.heap.size,j,none⟩) (by show w.heap.size<_;omega)
  unfold Cells5
  rw[g,g,g,g,g,← hW0]
  simp only[World.cell?,heap_alloc_new]
  exact ⟨rfl,rfl,rfl,rfl,rfl⟩
 ·exact fun W k j hj=>(bA' W k).cells j hj
 ·intro W k j hj
  obtain ⟨b,off,e,hc⟩:=(bB' W k).cells j hj
  cases e
  exact hc
 ·intro j hj
  show GL.getD j 0=_
  rw[← hGL,grown_get (by omega) (by omega)]
  by_cases q:at'≤j∧j<at'+B.length
  ·rw[if_pos q,if_pos q]
  ·rw[if_neg q,if_neg q]
   by_cases q2:j<A.length
   ·rw[if_pos q2]
   ·rw[if_neg q2,List.getD_eq_getElem?_getD,List.getElem?_eq_none (by omega)]
    rfl
 ·exact fun W x=>num_any x
 ·refine lw_new.mono ?_
  rintro e w' ⟨ph,rfl,l⟩
  exact ⟨ph,rfl,l.below,l⟩
 ·intro ph W W' g s
  have l:=g.st s
  refine (lw_made l (by decide) (by decide) (bA' _ l.below) hA sA).mono ?_
  rintro e w' ⟨m,i,M',rfl,_,l'⟩
  exact ⟨m,rfl,l'.below,i,M',l'⟩
 ·rintro ph m W W' ⟨i,M,g⟩ s
  refine (lw_waste (g.st s) (by decide) hz').mono ?_
  rintro e w' ⟨rfl,M',l⟩
  exact ⟨rfl,l.below,i,M',l⟩
 ·rintro ph m W W' ⟨i,M,g⟩ s
  refine (lw_at (g.st s) (by decide) (List.mem_cons_self ..)).mono ?_
  rintro e w' ⟨rfl,l,_⟩
  exact ⟨_,rfl,l.below,i,M,rfl,l⟩
 ·rintro ph m x W W' ⟨i,M,rfl,g⟩ s
  have l:=g.st s
  refine (lw_write (at':=at') (lb:=B) (cap:=c2) l (by decide) sB hat hB0 (bB' _ l.below) (by show yb<_;omega)).mono ?_
  rintro e w' ⟨v,rfl,M',j,lx,sm,q1,q2,q3,q4,q5,q6,l'⟩
  rw[hGL] at q5 q6
  exact ⟨v,rfl,l'.below,i,M',j,lx,sm,q1,q2,q3,q4,q5,q6,l'⟩
 ·rintro ph m v W W' ⟨i,M,j,lx,sm,q1,q2,q3,q4,q5,q6,g⟩ s
  refine (lw_at (g.st s) (by decide) (List.mem_cons_self ..)).mono ?_
  rintro e w' ⟨rfl,l,_⟩
  exact ⟨_,sm,rfl,q1,l.below,i,M,j,lx,q2,q3,q4,q5,q6,l⟩
 ·rintro ph m v sm W W' ⟨i,M,j,lx,q2,q3,q4,q5,q6,g⟩ s
  refine (lw_root (g.st s) (by decide) q3 q2 q4 q5 gs gl4).mono ?_
  rintro e w' ⟨k,M',rfl,l⟩
  exact ⟨k,rfl,l.below,i,M',j,lx,q6,l⟩
 ·rintro ph m k sm W W' ⟨i,M,j,lx,q6,g⟩ s
  refine (lw_waste (g.st s) (by decide) hz').mono ?_
  rintro e w' ⟨rfl,M',l⟩
  exact ⟨rfl,l.below,i,M',j,lx,q6,l⟩
 ·rintro ph m k sm W W' ⟨i,M,j,lx,q6,g⟩ s
  refine (lw_at (g.st s) (by decide) (List.mem_cons_self ..)).mono ?_
  rintro e w' ⟨rfl,l,_⟩
  exact ⟨_,rfl,l.below,i,M,j,lx,rfl,q6,l⟩
 ·rintro ph m k sm x W W' ⟨i,M,j,lx,rfl,q6,g⟩ s
  refine (lw_read (g.st s) (List.mem_cons_self ..)).mono ?_
  rintro e w' ⟨gg,rfl,hb,l,_⟩
  exact ⟨gg,rfl,l.below,hb,i,M,j,lx,q6,l⟩
 ·rintro ph m k sm gg W W' ⟨hb,i,M,j,lx,q6,g⟩ s
  refine (lw_at (g.st s) (by decide) (List.mem_cons_self ..)).mono ?_
  rintro e w' ⟨rfl,l,kb⟩
  exact ⟨_,rfl,l.below,(hb.below s.below).below kb,i,M,j,lx,rfl,q6,l⟩
 ·rintro ph m k sm gg x W W' ⟨hb,i,M,j,lx,rfl,q6,g⟩ s
  refine (lw_len (g.st s) (List.mem_cons_self ..)).mono ?_
  rintro e w' ⟨rfl,l,kb⟩
  have hb':=(hb.below s.below).below kb
  refine ⟨rfl,l.below,fun j' hj=>?_,hb',k,i,M,j,lx,q6,l⟩
  obtain ⟨b,off,e,hc⟩:=hb'.cells j' hj
  cases e
  rw[Nat.zero_add] at hc
  exact hc
 ·rintro ph m sm gg W W' ⟨hb,k,i,M,j,lx,q6,g⟩ s
  refine (lw_at (l:=lx) (g.st s) (by decide) (List.mem_cons_of_mem _ (List.mem_cons_self ..))).mono ?_
  rintro e w' ⟨rfl,l,kb⟩
  exact ⟨_,rfl,l.below,(hb.below s.below).below kb,k,i,M,j,lx,rfl,q6,l⟩
 ·rintro ph m sm gg x W W' ⟨hb,k,i,M,j,lx,rfl,q6,g⟩ s
  refine (lw_read (l:=lx) (g.st s) (List.mem_cons_of_mem _ (List.mem_cons_self ..))).mono ?_
  rintro e w' ⟨g2,rfl,hb2,l,kb⟩
  exact ⟨g2,_,rfl,l.below,(hb.below s.below).below kb,l.below,lx,q6,rfl,hb2⟩
 ·rintro gg g2 n2 W W' ⟨hb,kb,lx,q6,rfl,hb2⟩ s
  rw[if_pos rfl] at q6
  subst q6
  refine (eqb_yes (by omega) (hb2.below s.below) (hb.below s.below)).mono ?_
  rintro e w' ⟨rfl,s'⟩
  exact ⟨rfl,k0.trans ((Still.kb (Still.kb kb s) s').mono (by omega))⟩
 ·rintro gg g2 n2 W W' ⟨hb,kb,lx,q6,rfl,hb2⟩ s
  rw[if_neg (by decide)] at q6
  subst q6
  refine (eqb_yes (by omega) (hb2.below s.below) (bA' _ (Still.kb kb s))).mono ?_
  rintro e w' ⟨rfl,s'⟩
  exact ⟨rfl,k0.trans ((Still.kb (Still.kb kb s) s').mono (by omega))⟩
theorem splices_no {w:World}{a1 a2 a3:Option Addr}{c1 c2 c3 n3 nA nB:Nat}{at' Nn:Int} (hlA:nA≤140737488351232) (hlB:nB≤140737488351232) (h1:-9223372036854775808≤at') (h2:at'≤9223372036854775807) (hno:4096<nA∨nB=0∨at'<0∨4096-(nB:Int)<at'∨4096<nB):
  Calls Tryz.prog 3 #[.agg #[.slice a1 nA c1,.slice a2 nB c2,.int .i64 at',.int .i64 Nn,.slice a3 n3 c3]] w fun e w'=>e=.returned (.bool true)∧Below w.heap.size w w':=by
 have KB:=hide ((Below.refl w.heap.size w).alloc (Nat.le_refl _) (.cells #[.slice a1 nA c1,.slice a2 nB c2,.int .i64 at',.int .i64 Nn,.slice a3 n3 c3] 25))
 have w1:IntKind.i64.wrap (4096-(nB:Int))=4096-(nB:Int):=by unfold IntKind.wrap;simp [IntKind.bits,IntKind.signed];omega
 obtain ⟨W0,hW0⟩:∃ W0,w.alloc (.cells #[.slice a1 nA c1,.slice a2 nB c2,.int .i64 at',.int .i64 Nn,.slice a3 n3 c3] 25)=W0:=⟨_,rfl⟩
 obtain ⟨bx,hbx⟩:∃ bx,w.heap.size=bx:=⟨_,rfl⟩
 have q0:W0.cell? ⟨bx,0,none⟩=some (.slice a1 nA c1):=by rw[← hW0,← hbx];simp only[World.cell?,heap_alloc_new];rfl
 have q1:W0.cell? ⟨bx,1,none⟩=some (.slice a2 nB c2):=by rw[← hW0,← hbx];simp only[World.cell?,heap_alloc_new];rfl
 have q2:W0.cell? ⟨bx,2,none⟩=some (.int .i64 at'):=by rw[← hW0,← hbx];simp only[World.cell?,heap_alloc_new];rfl
 rw[hW0] at KB
 by_cases p1:4096<nA
 ·have d1':(4096<nA)=True:=eq_true p1
  have d1:decide ((4096:Int)<(nA:Nat))=true:=decide_eq_true (by omega)
  clear hno p1
  go_enter Tryz.func3,Tryz.ntmps3
  go_wp2_with fail
  go_ret
  exact ⟨rfl,unhide KB⟩
 ·have d1':(4096<nA)=False:=eq_false p1
  have d1:decide ((4096:Int)<(nA:Nat))=false:=decide_eq_false (by omega)
  by_cases p2:nB=0
  ·have d2':(nB=0)=True:=eq_true p2
   have d2:((nB:Int) == 0)=true:=by simp [p2]
   have d2'':((nB:Int)=0)=True:=eq_true (by omega)
   clear hno p1 p2
   go_enter Tryz.func3,Tryz.ntmps3
   go_wp2_with fail
   go_ret
   exact ⟨rfl,unhide KB⟩
  ·have d2':(nB=0)=False:=eq_false p2
   have d2:((nB:Int) == 0)=false:=by simp [p2]
   have d2'':((nB:Int)=0)=False:=eq_false (by omega)
   by_cases p3:at'<0
   ·have d3:decide (at'<0)=true:=decide_eq_true p3
    have d3':(at'<0)=True:=eq_true p3
    clear hno p1 p2 p3
    go_enter Tryz.func3,Tryz.ntmps3
    go_wp2_with fail
    go_ret
    exact ⟨rfl,unhide KB⟩
   ·have d3:decide (at'<0)=false:=decide_eq_false p3
    have d3':(at'<0)=False:=eq_false p3
    by_cases p4:4096-(nB:Int)<at'
    ·have d4:decide (4096-(nB:Int)<at')=true:=decide_eq_true p4
     have d4':(4096-(nB:Int)<at')=True:=eq_true p4
     clear hno p1 p2 p3 p4
     go_enter Tryz.func3,Tryz.ntmps3
     go_wp2_with fail
     go_ret
     exact ⟨rfl,unhide KB⟩
    ·exfalso
     omega
end Go.Proofs.YtnfbaapbpgbgpaaGreat
