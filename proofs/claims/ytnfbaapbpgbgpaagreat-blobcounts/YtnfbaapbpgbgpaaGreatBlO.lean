import Derived.Test.YtnfbaapbpgbgpaaGreatBlI
import Derived.Defers
import Derived.Test.YtnfbaapbpgbgpaaGreatBlK
import Derived.Test.YtnfbaapbpgbgpaaGreatBlD
import Derived.Test.YtnfbaapbpgbgpaaGreatHObj
namespace Go.Proofs.YtnfbaapbpgbgpaaGreat
open Go.ChangeShapes Go.WideShapes Go.ChangeAt Go.RowKit
set_option linter.unusedVariables false
set_option linter.unusedSimpArgs false
set_option maxRecDepth 100000
set_option maxHeartbeats 1000000
def InS (S:Nat→Prop) (k:Wk):Prop:=(∀ i∈k.cop,S i)∧∀ i∈k.lin,S i
theorem InS.reach {M:Hp}{S:Nat→Prop}{k:Wk}{i:Nat} (h:InS S k) (hi:i=0∨S i):InS S (reachW M k i):=by
 unfold reachW
 split
 ·exact h
 ·rename_i q
  have hs:S i:=hi.resolve_left (fun e=>q (.inl e))
  split
  ·exact ⟨h.1,fun j hj=>by
    rcases List.mem_append.1 hj with a|a
    ·exact h.2 j a
    ·rw[List.mem_singleton.1 a];exact hs⟩
  ·exact ⟨fun j hj=>by
    rcases List.mem_append.1 hj with a|a
    ·exact h.1 j a
    ·rw[List.mem_singleton.1 a];exact hs,h.2⟩
theorem InS.fold {M:Hp}{S:Nat→Prop}:∀ (l:List Nat) {k:Wk},InS S k→(∀ i∈l,i=0∨S i)→InS S (l.foldl (reachW M) k)
 | [],k,h,_=>h
 | i :: l,k,h,hi=>InS.fold l (h.reach (hi i (List.mem_cons_self ..))) fun j hj=>hi j (List.mem_cons_of_mem _ hj)
theorem InS.roots {M:Hp}{S:Nat→Prop} (hr:∀ i,some i∈M.roots→i=0∨S i):∀ n,InS S (rootsW M n)
 | 0=>by
  unfold rootsW
  rw[List.take_zero]
  exact ⟨fun i hi=>absurd hi List.not_mem_nil,fun i hi=>absurd hi List.not_mem_nil⟩
 | n+1=>by
  rw[rootsW_succ]
  cases e:M.roots.getD n none with
  | none=>exact InS.roots hr n
  | some i=>
   refine (InS.roots hr n).reach (hr i ?_)
   by_cases q:n<M.roots.length
   ·rw[List.getD_eq_getElem?_getD,List.getElem?_eq_getElem q] at e
    rw[← (show M.roots[n]=some i from e)]
    exact List.getElem_mem q
   ·rw[List.getD_eq_getElem?_getD,List.getElem?_eq_none (by omega)] at e
    cases e
theorem mem_getD {l:List Nat}{a:Nat} (h:a<l.length):l.getD a 0∈l:=by
 rw[List.getD_eq_getElem?_getD,List.getElem?_eq_getElem h]
 exact List.getElem_mem h
theorem InS.star {M:Hp}{S:Nat→Prop} (hc:∀ i,S i→∀ r∈(ob M i).refs,r=0∨S r) {s t:St} (st:Star M s t) (h:InS S s.k):InS S t.k:=by
 induction st with
 | refl=>exact h
 | more st e ih=>
  unfold stepW at e
  split at e
  ·rename_i q
   cases e
   exact InS.fold _ ih fun r hr=>hc _ (ih.1 _ (mem_getD q)) r hr
  ·split at e
   ·rename_i q
    cases e
    exact InS.fold _ ih fun r hr=>hc _ (ih.2 _ (mem_getD q)) r hr
   ·cases e
theorem nodup_sub:∀ (S l:List Nat),l.Nodup→(∀ i∈l,i∈S)→l.length≤S.length
 | S,[],_,_=>Nat.zero_le _
 | S,a :: l,nd,h=>by
  have ha:=h a (List.mem_cons_self ..)
  obtain ⟨n1,n2⟩:=List.nodup_cons.1 nd
  have:=nodup_sub (S.erase a) l n2 fun i hi=>by
   have hne:i≠a:=fun e=>n1 (e ▸ hi)
   exact (List.mem_erase_of_ne hne).2 (h i (List.mem_cons_of_mem _ hi))
  rw[List.length_erase_of_mem ha] at this
  have:=List.length_pos_of_mem ha
  rw[List.length_cons]
  omega
theorem sum_le (f:Nat→Nat) (c:Nat):∀ l:List Nat,(∀ i∈l,f i≤c)→(l.map f).sum≤l.length*c
 | [],_=>by simp
 | a :: l,h=>by
  have h1:=h a (List.mem_cons_self ..)
  have h2:=sum_le f c l fun i hi=>h i (List.mem_cons_of_mem _ hi)
  rw[List.map_cons,List.sum_cons,List.length_cons,Nat.succ_mul]
  omega
theorem room_of {M:Hp} (wf:HpWf M) (hl:M.limit=262144) (S:List Nat) (hS:S.length≤20) (hr:∀ i,some i∈M.roots→i=0∨i∈S) (hb:∀ i∈S,(ob M i).refs=[]∧osz (ob M i)≤600) {k s v x:Nat}{M1:Hp} (hs:s≤600) (a:AllocR M k 0 s M1 v x):x=0:=by
 obtain ⟨t,h1,h2,f,_,_⟩:=walk_done wf.ok M.roots.length (fun x hx=>by rw[List.getD_eq_getElem?_getD,List.getElem?_eq_none (by omega)];rfl)
 have hin:InS (fun i=>i∈S) t.k:=InS.star (fun i hi r hr'=>by rw[(hb i hi).1] at hr';exact absurd hr' List.not_mem_nil) h1 (InS.roots hr _)
 have n1:=nodup_sub S t.k.cop f.nd.1 hin.1
 have n2:=nodup_sub S t.k.lin f.nd.2 hin.2
 have s1:=sum_le (fun i=>osz (ob M i)) 600 t.k.cop fun i hi=>(hb i (hin.1 i hi)).2
 have s2:=sum_le (fun i=>1+osz (ob M i)) 601 t.k.lin fun i hi=>by have:=(hb i (hin.2 i hi)).2;omega
 refine (alloc_room wf h1 h2 a).1.2 ?_
 unfold RoomK wordsK largeK
 generalize (t.k.cop.map fun i=>osz (ob M i)).sum=A at *
 generalize (t.k.lin.map fun i=>1+osz (ob M i)).sum=B at *
 rw[hl]
 have m1:A≤12000:=Nat.le_trans s1 (by have:=Nat.mul_le_mul_right 600 (Nat.le_trans n1 hS);omega)
 have m2:B≤12020:=Nat.le_trans s2 (by have:=Nat.mul_le_mul_right 601 (Nat.le_trans n2 hS);omega)
 by_cases q:1+0+s≤64
 ·exact .inl ⟨q,by omega⟩
 ·exact .inr ⟨by omega,by omega,by omega⟩
theorem root_of_mem {l:List (Option Nat)}{i:Nat} (h:some i∈l):∃ m,l.getD m none=some i:=by
 obtain ⟨m,hm,e⟩:=List.getElem_of_mem h
 exact ⟨m,by rw[List.getD_eq_getElem?_getD,List.getElem?_eq_getElem hm];exact e⟩
theorem mem_of_root {l:List (Option Nat)}{m i:Nat} (h:l.getD m none=some i):m<l.length∧some i∈l:=by
 by_cases q:m<l.length
 ·rw[List.getD_eq_getElem?_getD,List.getElem?_eq_getElem q] at h
  have h':l[m]=some i:=h
  exact ⟨q,h' ▸ List.getElem_mem q⟩
 ·rw[List.getD_eq_getElem?_getD,List.getElem?_eq_none (by omega)] at h
  cases h
structure Bk (M:Hp) (N:Nat) (T:List (Nat × Nat × List Nat)):Prop where
 fw:FewN M N
 li:M.limit=262144
 t1:∀ t∈T,M.roots.getD t.1 none=some t.2.1∧t.2.1≠0∧IsBlob M t.2.1 t.2.2∧Small t.2.2∧t.2.2.length≤4096
 t2:∀ m i,M.roots.getD m none=some i→∃ t∈T,t.1=m∧t.2.1=i
theorem Bk.mono {M:Hp}{N N':Nat}{T:List (Nat × Nat × List Nat)} (b:Bk M N T) (h:N≤N'):Bk M N' T:=⟨b.fw.mono h,b.li,b.t1,b.t2⟩
theorem blob_size {M:Hp}{i:Nat}{l:List Nat} (h:IsBlob M i l) (hl:l.length≤4096):(ob M i).refs=[]∧osz (ob M i)≤600:=by
 have k2:(ob M i).refs=[]:=congrArg (fun q=>q.2.1) h.2
 have k3:(ob M i).raws=blobW l:=congrArg (fun q=>q.2.2) h.2
 refine ⟨k2,?_⟩
 unfold osz
 rw[k2,k3,blobW_length]
 unfold Larder.wn
 simp only[List.length_nil]
 omega
theorem Bk.room {M:Hp}{N:Nat}{T:List (Nat × Nat × List Nat)} (b:Bk M N T) (wf:HpWf M) (hT:T.length≤20) {k s v x:Nat}{M1:Hp} (hs:s≤600) (a:AllocR M k 0 s M1 v x):x=0:=by
 refine room_of wf b.li (T.map fun t=>t.2.1) (by rw[List.length_map];exact hT) (fun i hi=>?_) (fun i hi=>?_) hs a
 ·obtain ⟨m,hm⟩:=root_of_mem hi
  obtain ⟨t,ht,_,e⟩:=b.t2 m i hm
  exact .inr (List.mem_map.2 ⟨t,ht,e⟩)
 ·obtain ⟨t,ht,rfl⟩:=List.mem_map.1 hi
  have q:=b.t1 t ht
  exact blob_size q.2.2.1 q.2.2.2.2
theorem Bk.root {M:Hp}{N m x i:Nat}{l:List Nat}{T:List (Nat × Nat × List Nat)} (b:Bk M N T) (low:LowR M m) (hx:numOf M x=i) (h0:i≠0) (hb:IsBlob M i l) (hs:Small l) (hl:l.length≤4096):Bk (rootM M m x) (N+1) ((m,i,l) :: T)∧∀ t∈T,t.1≠m:=by
 have hne:∀ t∈T,t.1≠m:=fun t ht e=>by
  have:=(b.t1 t ht).1
  rw[e,low.1] at this
  cases this
 have hg:∀ z,(rootM M m x).roots.getD z none=if z=m then some i else M.roots.getD z none:=fun z=>by
  show (poolPut M.roots m (numOf M x)).getD z none=_
  rw[poolPut_at _ _ _ _ low.2.1,hx]
 refine ⟨⟨⟨b.fw.o1,Nat.le_trans b.fw.cl (Nat.le_succ _),Nat.le_trans b.fw.rz (Nat.le_succ _),Nat.le_trans b.fw.sl (Nat.le_succ _),?_⟩,b.li,fun t ht=>?_,fun m' i' h=>?_⟩,hne⟩
 ·show (poolPut M.roots m (numOf M x)).length≤_
  rw[poolPut_length]
  have:=b.fw.rt
  split <;> omega
 ·rcases List.mem_cons.1 ht with rfl|ht
  ·exact ⟨by rw[hg,if_pos rfl],h0,hb,hs,hl⟩
  ·have q:=b.t1 t ht
   exact ⟨by rw[hg,if_neg (hne t ht)];exact q.1,q.2⟩
 ·rw[hg] at h
  by_cases q:m'=m
  ·rw[if_pos q] at h
   cases h
   exact ⟨_,List.mem_cons_self ..,q.symm,rfl⟩
  ·rw[if_neg q] at h
   obtain ⟨t,ht,e⟩:=b.t2 m' i' h
   exact ⟨t,List.mem_cons_of_mem _ ht,e⟩
theorem Bk.keeps {M M':Hp}{N N':Nat}{T:List (Nat × Nat × List Nat)} (b:Bk M N T) (k:Keeps M M') (f:FewN M' N'):Bk M' N' T:=by
 refine ⟨f,k.li.trans b.li,fun t ht=>?_,fun m i h=>b.t2 m i (by rw[← k.rt];exact h)⟩
 have q:=b.t1 t ht
 exact ⟨by rw[k.rt];exact q.1,q.2.1,k.bl _ _ q.2.1 (mem_of_root q.1).2 q.2.2.1,q.2.2.2⟩
theorem Keeps.lay {M M':Hp}{l:List Nat}{v:Nat} (wf:HpWf M) (h1:1≤M.objs.length) (q:LayR M l M' v 0):Keeps M M':=by
 obtain ⟨M1,wf1,a,⟨z,_⟩|⟨_,e⟩⟩:=q
 ·exact absurd rfl z
 ·rw[(lay_fits wf wf1 h1 a).2] at e
  subst e
  have k1:=Keeps.alloc wf wf1 h1 a
  refine ⟨k1.rt,k1.li,fun i l h0 hi hb=>?_⟩
  have b1:=k1.bl i l h0 hi hb
  have hn:i≠M.objs.length:=by have:=wf.ln i hb.1;omega
  refine ⟨b1.1,?_⟩
  show dat (ob (putO (putO M1 _ _) _ _) i)=_
  rw[ob_put,if_neg (fun q=>hn q.1),ob_put,if_neg (fun q=>hn q.1)]
  exact b1.2
theorem FewN.lay {M M':Hp}{n v:Nat}{l:List Nat} (h:FewN M n) (wf:HpWf M) (q:LayR M l M' v 0):FewN M' (n+2):=by
 obtain ⟨M1,wf1,a,⟨z,_⟩|⟨_,e⟩⟩:=q
 ·exact absurd rfl z
 ·rw[(lay_fits wf wf1 h.o1 a).2] at e
  subst e
  have f:=h.alloc wf a
  refine ⟨?_,f.cl,f.rz,f.sl,f.rt⟩
  show 1≤((M1.objs.set _ _).set _ _).length
  rw[List.length_set,List.length_set]
  exact f.o1
theorem bread_is {w:World}{ph:Nat}{tag:Nat→Nat}{M:Hp}{H:HC} (h:HAt w ph tag M H) {x i:Nat}{l:List Nat} (hx:x<18446744073709551616) (hn:numOf M x=i) (h0:i≠0) (hb:IsBlob M i l) (hs:Small l) (hl:l.length≤4096):
  Calls Tryz.prog 16 #[.pointer (some ⟨ph,0,none⟩),.int .u64 (x:Nat)] w fun e w'=>∃ g,e=.returned (.tuple #[.slice (some ⟨g,0,none⟩) l.length l.length,.int .i64 0])∧w.heap.size≤g∧Bytes w' (some ⟨g,0,none⟩) l∧Below w.heap.size w w':=by
 obtain ⟨r1,r2,r3,r4⟩:=blob_reads hn h0 hb hs
 have e:(mapF l.length fun i=>(bytM M (numOf M x)).getD (8+i) 0)=l:=by
  refine List.ext_getElem? fun j=>?_
  by_cases q:j<l.length
  ·rw[get_of_getD (by rw[mapF_length];exact q),get_of_getD q,mapF_at _ _ _ q,r4 j q]
  ·rw[List.getElem?_eq_none (by rw[mapF_length];omega),List.getElem?_eq_none (by omega)]
 refine (bread_blob h x hx r1 r2 (by omega) (by have:=r3 0 l.length (by omega);exact this)).mono ?_
 rintro e' w' ⟨g,q1,q2,q3,q4⟩
 rw[e] at q3
 exact ⟨g,q1,q2,q3,q4⟩
theorem blen_is {w:World}{ph:Nat}{tag:Nat→Nat}{M:Hp}{H:HC} (h:HAt w ph tag M H) {x i:Nat}{l:List Nat} (hx:x<18446744073709551616) (hn:numOf M x=i) (h0:i≠0) (hb:IsBlob M i l) (hs:Small l) (hl:l.length≤4096):
  Calls Tryz.prog 17 #[.pointer (some ⟨ph,0,none⟩),.int .u64 (x:Nat)] w fun e w'=>e=.returned (.tuple #[.int .i64 (l.length:Nat),.int .i64 0])∧Below w.heap.size w w':=by
 obtain ⟨r1,r2,r3,r4⟩:=blob_reads hn h0 hb hs
 exact blen_blob h x hx r1 r2 (by omega)
def Lw (W0:World) (ph N:Nat) (T:List (Nat × Nat × List Nat)) (M:Hp) (W:World):Prop:=
 ∃ tag H,HAt W ph tag M H∧Bk M N T∧Below W0.heap.size W0 W∧∀ g,g<W0.heap.size→tag g=0
theorem Lw.still {W0 W W':World}{ph N:Nat}{T:List (Nat × Nat × List Nat)}{M:Hp} (h:Lw W0 ph N T M W) (k:Below W.heap.size W W'):Lw W0 ph N T M W':=by
 obtain ⟨tag,H,h1,h2,h3,h4⟩:=h
 exact ⟨tag,H,h1.still k,h2,h3.trans (k.mono h3.size),h4⟩
theorem Lw.below {W0 W:World}{ph N:Nat}{T:List (Nat × Nat × List Nat)}{M:Hp} (h:Lw W0 ph N T M W):Below W0.heap.size W0 W:=by
 obtain ⟨tag,H,h1,h2,h3,h4⟩:=h
 exact h3
theorem fr_below {tag tag':Nat→Nat}{w w' W0:World} (f:Fr tag tag' w w') (h:Below W0.heap.size W0 w) (ht:∀ g,g<W0.heap.size→tag g=0):Below W0.heap.size W0 w'∧∀ g,g<W0.heap.size→tag' g=0:=
 ⟨h.trans ⟨f.os,f.tape,f.output,f.size,fun g hg=>(f.blk g (Nat.lt_of_lt_of_le hg h.size) (ht g hg)).1⟩,fun g hg=>(f.blk g (Nat.lt_of_lt_of_le hg h.size) (ht g hg)).2⟩
theorem lw_new {W0:World}:Calls Tryz.prog 9 #[.int .i64 262144] W0 fun e w'=>∃ ph,e=.returned (.tuple #[.pointer (some ⟨ph,0,none⟩),.int .i64 0])∧Lw W0 ph 5 [] (newM 262144) w':=by
 refine (hnew_any 262144 (by decide) (by decide)).mono ?_
 rintro e w' ⟨ph,tag,H,rfl,he,ht,k⟩
 refine ⟨ph,rfl,tag,H,he,⟨⟨Nat.le_refl _,Nat.zero_le _,Nat.zero_le _,Nat.zero_le _,Nat.zero_le _⟩,rfl,fun t h=>absurd h List.not_mem_nil,fun m i h=>?_⟩,k,fun g hg=>?_⟩
 ·rw[show (newM 262144).roots=[] from rfl] at h
  simp at h
 ·by_cases q:tag g=0
  ·exact q
  ·have:=ht g q;omega
theorem lw_made {W0 W:World}{ph N:Nat}{T:List (Nat × Nat × List Nat)}{M:Hp} (h:Lw W0 ph N T M W) (hN:N≤4000) (hT:T.length≤18) {a:Option Addr}{cap:Nat}{l:List Nat} (hB:Bytes W a l) (hl:l.length≤4096) (hs:Small l):
  Calls Tryz.prog 11 #[.pointer (some ⟨ph,0,none⟩),.slice a l.length cap] W fun e w'=>∃ (m i:Nat) (M':Hp),e=.returned (.int .i64 ((m:Int)+1))∧(∀ t∈T,t.1≠m)∧Lw W0 ph (N+5) ((m,i,l) :: T) M' w':=by
 obtain ⟨tag,H,h1,h2,h3,h4⟩:=h
 refine (made_any h1 (h2.fw.few (by omega)) l hB hl hs (fun M1 v x a=>h2.room h1.wf (by omega) (by unfold Larder.wn;omega) a)).mono ?_
 rintro e w' ⟨m,rfl,tag',H',M1,v,q1,low,f,he⟩
 have kp:=Keeps.lay h1.wf h2.fw.o1 q1
 have b1:=h2.keeps kp (h2.fw.lay h1.wf q1)
 obtain ⟨M2,wf2,al,⟨zz,_⟩|⟨_,eM⟩⟩:=q1
 ·exact absurd rfl zz
 ·obtain ⟨n1,n2,n3,n4,n5⟩:=lay_blob h1.wf h2.fw.o1 hs wf2 al eM
  obtain ⟨b2,ne⟩:=b1.root low n1 (by have:=h2.fw.o1;omega) n3 hs hl
  obtain ⟨g1,g2⟩:=fr_below f h3 h4
  exact ⟨m,_,_,rfl,ne,tag',H',he,b2.mono (by omega),g1,g2⟩
def IntsB (W0:World) (a:Option Addr) (n:Nat):Prop:=n=0∨∃ b off,a=some ⟨b,off,none⟩∧b<W0.heap.size∧∀ i,i<n→∃ z:Int,W0.cell? ⟨b,off+i,none⟩=some (.int .i64 z)∧-9223372036854775808≤z∧z≤9223372036854775807
theorem lw_waste {W0 W:World}{ph N:Nat}{T:List (Nat × Nat × List Nat)}{M:Hp} (h:Lw W0 ph N T M W) (hN:N≤4000) {a:Option Addr}{n cap:Nat} (hz:IntsB W0 a n):
  Calls Tryz.prog 12 #[.pointer (some ⟨ph,0,none⟩),.slice a n cap] W fun e w'=>e=.returned (.tuple #[])∧∃ M',Lw W0 ph (N+100) T M' w':=by
 obtain ⟨tag,H,h1,h2,h3,h4⟩:=h
 have hI:Ints W tag a n:=by
  rcases hz with q|⟨b,off,e,hb,hc⟩
  ·exact .inl q
  ·refine .inr ⟨b,off,e,Nat.lt_of_lt_of_le hb h3.size,h4 b hb,fun i hi=>?_⟩
   obtain ⟨z,e1,z1,z2⟩:=hc i hi
   exact ⟨z,by rw[h3.cell (p:=⟨b,off+i,none⟩) hb];exact e1,z1,z2⟩
 refine (waste_any (N:=N) ⟨tag,H,M,Keeps.refl M,h2.fw,Fr.refl W,h1⟩ (by omega) hI).mono ?_
 rintro e w' ⟨rfl,tag',H',M',kp,fw,f,he⟩
 obtain ⟨g1,g2⟩:=fr_below f h3 h4
 exact ⟨rfl,M',tag',H',he,h2.keeps kp fw,g1,g2⟩
theorem hand_of {M:Hp}{m i:Nat} (h:M.roots.getD m none=some i):handR M ((m:Int)+1)=some i:=by
 unfold handR poolGet
 rw[if_pos (by omega)]
 rw[show ((m:Int)+1-1).toNat=m by omega]
 exact h
theorem lw_at {W0 W:World}{ph N m i:Nat}{l:List Nat}{T:List (Nat × Nat × List Nat)}{M:Hp} (h:Lw W0 ph N T M W) (hN:N≤4000) (ht:(m,i,l)∈T):
  Calls Tryz.prog 13 #[.pointer (some ⟨ph,0,none⟩),.int .i64 ((m:Int)+1)] W fun e w'=>e=.returned (.int .u64 (refW M i:Nat))∧Lw W0 ph N T M w'∧Below W.heap.size W w':=by
 have h':=h
 obtain ⟨tag,H,h1,h2,h3,h4⟩:=h
 have r1:=(h2.t1 _ ht).1
 have r2:=(mem_of_root r1).1
 have r3:=h2.fw.rt
 dsimp only at r1 r2
 refine (at_any h1 ((m:Int)+1) (by omega) (by omega)).mono ?_
 rintro e w' ⟨rfl,k⟩
 rw[hand_of r1]
 exact ⟨rfl,h'.still k,k⟩
end Go.Proofs.YtnfbaapbpgbgpaaGreat
