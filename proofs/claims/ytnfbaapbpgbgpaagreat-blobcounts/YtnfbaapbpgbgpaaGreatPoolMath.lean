import Derived.ProofKit
namespace Go.Proofs.YtnfbaapbpgbgpaaGreat
set_option linter.unusedVariables false
def HO (n:Nat) (f:Nat→Nat):Prop:=∀ i,0<i→i<n→f ((i-1) / 2)≤f i
theorem HO.least {n:Nat}{f:Nat→Nat} (h:HO n f):∀ k,k<n→f 0≤f k:=by
 intro k
 induction k using Nat.strongRecOn with
 | ind k ih=>
  intro hk
  by_cases h0:k=0
  ·rw[h0];exact Nat.le_refl _
  ·exact Nat.le_trans (ih ((k-1) / 2) (by omega) (by omega)) (h k (by omega) hk)
def UpI (n:Nat) (f:Nat→Nat) (j:Nat):Prop:=(∀ i,0<i→i<n→i≠j→f ((i-1) / 2)≤f i)∧(∀ c,0<c→c<n→(c-1) / 2=j→0<j→f ((j-1) / 2)≤f c)
def swf (f:Nat→Nat) (i j:Nat):Nat→Nat:=fun k=>if k=j then f i else if k=i then f j else f k
theorem swf_j (f:Nat→Nat) (i j:Nat):swf f i j j=f i:=by simp [swf]
theorem swf_i (f:Nat→Nat) (i j:Nat) (h:i≠j):swf f i j i=f j:=by simp [swf,h]
theorem swf_o (f:Nat→Nat) (i j k:Nat) (h1:k≠i) (h2:k≠j):swf f i j k=f k:=by simp [swf,h1,h2]
theorem UpI.step {n:Nat}{f:Nat→Nat}{j:Nat} (h:UpI n f j) (hj:0<j) (hn:j<n) (hl:f j<f ((j-1) / 2)):UpI n (swf f ((j-1) / 2) j) ((j-1) / 2):=by
 obtain ⟨h1,h2⟩:=h
 obtain ⟨p,hp⟩:∃ p,(j-1) / 2=p:=⟨_,rfl⟩
 rw[hp] at hl h2 ⊢
 have hpj:p≠j:=by omega
 refine ⟨fun i hi hin hip=>?_,fun c hc hcn hcp hp0=>?_⟩
 ·by_cases e1:i=j
  ·subst e1;rw[hp,swf_i f p i hpj,swf_j];omega
  ·by_cases e2:(i-1) / 2=j
   ·rw[e2,swf_j,swf_o f p j i hip e1];exact h2 i hi hin e2 hj
   ·by_cases e3:(i-1) / 2=p
    ·have:=h1 i hi hin e1
     rw[e3] at this ⊢
     rw[swf_i f p j hpj,swf_o f p j i hip e1];omega
    ·rw[swf_o f p j _ e3 e2,swf_o f p j i hip e1];exact h1 i hi hin e1
 ·have hpp:f ((p-1) / 2)≤f p:=h1 p hp0 (by omega) hpj
  rw[swf_o f p j ((p-1) / 2) (by omega) (by omega)]
  by_cases e1:c=j
  ·subst e1;rw[swf_j];exact hpp
  ·rw[swf_o f p j c (by omega) e1]
   have:=h1 c hc hcn e1
   rw[hcp] at this;omega
theorem UpI.done {n:Nat}{f:Nat→Nat}{j:Nat} (h:UpI n f j) (hd:j=0∨f ((j-1) / 2)≤f j):HO n f:=by
 intro i hi hin
 by_cases e:i=j
 ·subst e
  rcases hd with e|e
  ·omega
  ·exact e
 ·exact h.1 i hi hin e
theorem UpI.start {n:Nat}{f:Nat→Nat} (h:HO n f):UpI (n+1) f n:=
 ⟨fun i hi hin hne=>h i hi (by omega),fun c hc hcn hcp h0=>by omega⟩
def DnI (n:Nat) (f:Nat→Nat) (i:Nat):Prop:=(∀ k,0<k→k<n→(k-1) / 2≠i→f ((k-1) / 2)≤f k)∧(∀ c,0<c→c<n→(c-1) / 2=i→0<i→f ((i-1) / 2)≤f c)
theorem DnI.step {n:Nat}{f:Nat→Nat}{i j:Nat} (h:DnI n f i) (hj0:0<j) (hj:(j-1) / 2=i) (hn:j<n) (hm:∀ c,0<c→c<n→(c-1) / 2=i→f j≤f c) (hl:f j<f i):DnI n (swf f i j) j:=by
 obtain ⟨h1,h2⟩:=h
 have hij:i≠j:=by omega
 refine ⟨fun k hk hkn hkp=>?_,fun c hc hcn hcp _=>?_⟩
 ·by_cases e1:k=i
  ·subst e1
   rw[swf_i f k j hij,swf_o f k j _ (by omega) (by omega)]
   exact h2 j hj0 hn hj hk
  ·by_cases e2:k=j
   ·subst e2;rw[hj,swf_i f i k hij,swf_j];omega
   ·by_cases e3:(k-1) / 2=i
    ·rw[e3,swf_i f i j hij,swf_o f i j k e1 e2];exact hm k hk hkn e3
    ·rw[swf_o f i j _ e3 hkp,swf_o f i j k e1 e2];exact h1 k hk hkn e3
 ·rw[hj,swf_i f i j hij,swf_o f i j c (by omega) (by omega)]
  have:=h1 c hc hcn (by omega)
  rw[hcp] at this;exact this
theorem DnI.done {n:Nat}{f:Nat→Nat}{i:Nat} (h:DnI n f i) (hd:∀ c,0<c→c<n→(c-1) / 2=i→f i≤f c):HO n f:=by
 intro k hk hkn
 by_cases e:(k-1) / 2=i
 ·rw[e];exact hd k hk hkn e
 ·exact h.1 k hk hkn e
theorem DnI.start {n:Nat}{f:Nat→Nat} (h:HO (n+1) f):DnI n (swf f 0 n) 0:=by
 refine ⟨fun k hk hkn hkp=>?_,fun c _ _ _ h0=>absurd h0 (Nat.lt_irrefl _)⟩
 rw[swf_o f 0 n _ hkp (by omega),swf_o f 0 n k (by omega) (by omega)]
 exact h k hk (by omega)
def swp (l:List Nat) (i j:Nat):List Nat:=(l.set i (l.getD j 0)).set j (l.getD i 0)
theorem swp_length (l:List Nat) (i j:Nat):(swp l i j).length=l.length:=by simp [swp]
theorem swp_get (l:List Nat) (i j:Nat) (hi:i<l.length) (hj:j<l.length):(fun k=>(swp l i j).getD k 0)=swf (fun k=>l.getD k 0) i j:=by
 funext k
 unfold swp swf
 simp only[List.getD_eq_getElem?_getD,List.getElem?_set,List.length_set]
 by_cases e1:k=j
 ·subst e1;simp [hj]
 ·by_cases e2:k=i
  ·subst e2;simp [e1,hi,Ne.symm e1]
  ·simp [e1,e2,Ne.symm e1,Ne.symm e2]
theorem swp_perm (l:List Nat) (i j:Nat) (hi:i<l.length) (hj:j<l.length):(swp l i j).Perm l:=by
 unfold swp
 have:=List.set_set_perm (as:=l) hi hj
 simpa [List.getD_eq_getElem?_getD,List.getElem?_eq_getElem hi,List.getElem?_eq_getElem hj] using this
structure PoolOk (c:List (Option Nat)) (fr:List Nat):Prop where
 ho:HO fr.length (fun k=>fr.getD k 0)
 nd:fr.Nodup
 free:∀ n,n<c.length→(n∈fr↔c.getD n none=none)
 last:c.length=0∨c.getD (c.length-1) none≠none
theorem mem_at {fr:List Nat}{n:Nat} (h:n∈fr):∃ k,k<fr.length∧fr.getD k 0=n:=by
 obtain ⟨k,hk,e⟩:=List.getElem_of_mem h
 exact ⟨k,hk,by rw[List.getD_eq_getElem?_getD,List.getElem?_eq_getElem hk,e];rfl⟩
theorem at_mem {fr:List Nat}{k:Nat} (h:k<fr.length):fr.getD k 0∈fr:=by
 rw[List.getD_eq_getElem?_getD,List.getElem?_eq_getElem h];exact List.getElem_mem h
theorem PoolOk.low {c:List (Option Nat)}{fr:List Nat} (h:PoolOk c fr) {n:Nat} (hn:n∈fr):fr.getD 0 0≤n:=by
 obtain ⟨k,hk,e⟩:=mem_at hn
 rw[← e];exact h.ho.least k hk
theorem PoolOk.nil:PoolOk [] []:=⟨fun i _ h=>absurd h (Nat.not_lt_zero _),List.nodup_nil,fun n h=>absurd h (Nat.not_lt_zero _),.inl rfl⟩
theorem PoolOk.first {c:List (Option Nat)}{fr:List Nat} (h:PoolOk c fr) (hl:0<fr.length) (hm:fr.getD 0 0<c.length):c.getD (fr.getD 0 0) none=none∧∀ k,k<fr.getD 0 0→c.getD k none≠none:=
 ⟨(h.free _ hm).1 (at_mem hl),fun k hk e=>by have:=h.low ((h.free k (by omega)).2 e);omega⟩
theorem PoolOk.full {c:List (Option Nat)}{fr:List Nat} (h:PoolOk c fr) (hm:¬ (0<fr.length∧fr.getD 0 0<c.length)):∀ k,k<c.length→c.getD k none≠none:=fun k hk e=>by
 have h1:=(h.free k hk).2 e
 have h2:=h.low h1
 exact hm ⟨List.length_pos_of_mem h1,by omega⟩
theorem getD_set_opt (c:List (Option Nat)) (n k:Nat) (x:Option Nat) (h:n<c.length):(c.set n x).getD k none=if k=n then x else c.getD k none:=by
 simp only[List.getD_eq_getElem?_getD,List.getElem?_set]
 by_cases e:n=k
 ·subst e;simp [h]
 ·simp [e,Ne.symm e]
theorem PoolOk.takeFree {c:List (Option Nat)}{fr fr':List Nat} (h:PoolOk c fr) {m x:Nat} (hm:m<c.length) (hp:(m :: fr').Perm fr) (ho:HO fr'.length (fun k=>fr'.getD k 0)):PoolOk (c.set m (some x)) fr':=by
 have hnd:(m :: fr').Nodup:=hp.symm.nodup_iff.1 h.nd
 obtain ⟨h1,h2⟩:=List.nodup_cons.1 hnd
 refine ⟨ho,h2,fun n hn=>?_,?_⟩
 ·rw[List.length_set] at hn
  rw[getD_set_opt _ _ _ _ hm]
  by_cases e:n=m
  ·subst e;simp [h1]
  ·rw[if_neg e,← h.free n hn,← hp.mem_iff,List.mem_cons]
   exact ⟨.inr,fun q=>q.resolve_left e⟩
 ·rw[List.length_set,getD_set_opt _ _ _ _ hm]
  by_cases e:c.length-1=m
  ·rw[if_pos e];exact .inr (by simp)
  ·rw[if_neg e];exact h.last
theorem PoolOk.grow {c:List (Option Nat)} (x:Nat) (hf:∀ k,k<c.length→c.getD k none≠none):PoolOk (c ++ [some x]) []:=by
 refine ⟨fun i _ h=>absurd h (Nat.not_lt_zero _),List.nodup_nil,fun n hn=>?_,.inr ?_⟩
 ·simp only[List.not_mem_nil,false_iff]
  by_cases e:n<c.length
  ·rw[List.getD_eq_getElem?_getD,List.getElem?_append_left e,← List.getD_eq_getElem?_getD];exact hf n e
  ·rw[List.length_append] at hn
   rw[List.getD_eq_getElem?_getD,List.getElem?_append_right (by omega),show n-c.length=0 by simp at hn;omega]
   simp
 ·rw[List.length_append,List.getD_eq_getElem?_getD,List.getElem?_append_right (by simp)];simp
theorem PoolOk.dropMid {c:List (Option Nat)}{fr fr':List Nat} (h:PoolOk c fr) {n:Nat} (hn:n+1<c.length) (hu:c.getD n none≠none) (hp:fr'.Perm (n :: fr)) (ho:HO fr'.length (fun k=>fr'.getD k 0)):PoolOk (c.set n none) fr':=by
 refine ⟨ho,hp.nodup_iff.2 (List.nodup_cons.2 ⟨fun q=>hu ((h.free n (by omega)).1 q),h.nd⟩),fun k hk=>?_,?_⟩
 ·rw[List.length_set] at hk
  rw[getD_set_opt _ _ _ _ (by omega),hp.mem_iff,List.mem_cons]
  by_cases e:k=n
  ·simp [e]
  ·rw[if_neg e,← h.free k hk];exact ⟨fun q=>q.resolve_left e,.inr⟩
 ·rw[List.length_set,getD_set_opt _ _ _ _ (by omega),if_neg (by omega)]
  exact h.last
theorem PoolOk.dropLast {c:List (Option Nat)}{fr:List Nat} (h:PoolOk c fr) {n e:Nat} (hn:n+1=c.length) (he:e≤n) (hz:e=0∨c.getD (e-1) none≠none):PoolOk (c.take e) fr:=by
 have hl:(c.take e).length=e:=by simp;omega
 refine ⟨h.ho,h.nd,fun k hk=>?_,?_⟩
 ·rw[hl] at hk
  rw[List.getD_eq_getElem?_getD,List.getElem?_take,if_pos hk,← List.getD_eq_getElem?_getD]
  exact h.free k (by omega)
 ·rw[hl]
  rcases hz with z|z
  ·exact .inl z
  ·by_cases e0:e=0
   ·exact .inl e0
   ·refine .inr ?_
    rw[List.getD_eq_getElem?_getD,List.getElem?_take,if_pos (by omega),← List.getD_eq_getElem?_getD];exact z
end Go.Proofs.YtnfbaapbpgbgpaaGreat
