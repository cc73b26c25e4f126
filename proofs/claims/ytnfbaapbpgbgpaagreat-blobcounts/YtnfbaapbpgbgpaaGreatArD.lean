import Derived.Test.YtnfbaapbpgbgpaaGreatArC
import Derived.Deep.RegionHeld3
import Derived.BigQuiet
import Derived.Deep.AppendSrc
import Derived.Deep.Upon
namespace Go.Proofs.YtnfbaapbpgbgpaaGreat
open Go.ChangeShapes Go.WideShapes Go.ChangeAt Go.RowKit
set_option linter.unusedVariables false
set_option maxRecDepth 100000
set_option maxHeartbeats 8000000
structure Wrote (v:Value) (w w':World):Prop where
 os:w'.os=w.os
 tape:w'.tape=w.tape
 output:w'.output=w.output
 size:w'.heap.size=w.heap.size
 blk:∀ g,v.ownBlock≠some g→w'.heap[g]?=w.heap[g]?
theorem getD_last {α:Type} (l:List α) (x d:α) (n:Nat) (h:l.length=n):(l ++ [x]).getD n d=x:=by
 subst h
 simp [List.getD_eq_getElem?_getD]
set_option maxHeartbeats 2000000
def Wide (w:World) (e:TypeId) (sz:Nat) (v:Value) (n:Nat) (f:Nat→Value):Prop:=
 (v=.slice none 0 0∧n=0)∨∃ g cap cur,v=.slice (some ⟨g,0,none⟩) n cap∧w.heap[g]?=some (.cells cur e (0,0))∧n≤cap∧cap≤maxLen∧cur.size=cap*sz∧∀ j,j<n*sz→cur[j]?=some (f j)
theorem Wide.same {w w':World}{e:TypeId}{sz:Nat}{v:Value}{n:Nat}{f:Nat→Value} (h:Wide w e sz v n f) (hb:∀ g,v.ownBlock=some g→w'.heap[g]?=w.heap[g]?):Wide w' e sz v n f:=by
 rcases h with h|⟨g,cap,cur,rfl,hg,r⟩
 ·exact .inl h
 ·exact .inr ⟨g,cap,cur,rfl,by rw[hb g rfl];exact hg,r⟩
theorem Wide.lt {w:World}{e:TypeId}{sz:Nat}{v:Value}{n:Nat}{f:Nat→Value} (h:Wide w e sz v n f):∀ g,v.ownBlock=some g→g<w.heap.size:=by
 intro k hk
 rcases h with ⟨rfl,_⟩|⟨g,cap,cur,rfl,hg,r⟩
 ·simp [Value.ownBlock] at hk
 ·simp [Value.ownBlock] at hk
  subst hk
  exact (Array.getElem?_eq_some_iff.1 hg).1
theorem Wide.shape {w:World}{e:TypeId}{sz:Nat}{v:Value}{n:Nat}{f:Nat→Value} (h:Wide w e sz v n f):∃ a cap,v=.slice a n cap:=by
 rcases h with ⟨rfl,h0⟩|⟨g,cap,cur,rfl,hg,r⟩
 ·exact ⟨none,0,by rw[h0]⟩
 ·exact ⟨_,cap,rfl⟩
theorem Wide.at {w:World}{e:TypeId}{sz:Nat}{v:Value}{n:Nat}{f:Nat→Value} (h:Wide w e sz v n f) (hn:0<n):∃ g cap,v=.slice (some ⟨g,0,none⟩) n cap∧v.ownBlock=some g∧∀ j,j<n*sz→w.cell? ⟨g,j,none⟩=some (f j)∧w.frozen? ⟨g,j,none⟩=false:=by
 rcases h with ⟨rfl,h0⟩|⟨g,cap,cur,rfl,hg,hn,hc,hs,hf⟩
 ·omega
 ·refine ⟨g,cap,rfl,rfl,fun j hj=>⟨?_,?_⟩⟩
  ·simp only[World.cell?,hg]
   exact hf j hj
  ·simp only[World.frozen?,hg]
   simp
theorem Wide.congr {w:World}{e:TypeId}{sz:Nat}{v:Value}{n:Nat}{f f':Nat→Value} (h:Wide w e sz v n f) (hf:∀ j,j<n*sz→f j=f' j):Wide w e sz v n f':=by
 rcases h with h|⟨g,cap,cur,rfl,hg,hn,hc,hs,hh⟩
 ·exact .inl h
 ·exact .inr ⟨g,cap,cur,rfl,hg,hn,hc,hs,fun j hj=>by rw[hh j hj,hf j hj]⟩
theorem Wide.put {w:World}{e:TypeId}{sz:Nat}{v:Value}{n:Nat}{f:Nat→Value} (h:Wide w e sz v n f) {g:Nat} (hg:v.ownBlock=some g) (k:Nat) (u:Value) (hk:k<n*sz):Wide (w.setCell ⟨g,k,none⟩ u) e sz v n (fun j=>if j=k then u else f j):=by
 rcases h with ⟨rfl,h0⟩|⟨g',cap,cur,rfl,hg',hn,hc,hs,hh⟩
 ·subst h0;omega
 ·simp [Value.ownBlock] at hg
  subst hg
  have hcap:=Nat.mul_le_mul_right sz hn
  refine .inr ⟨g',cap,cur.setIfInBounds k u,rfl,setCell_block w g' k u cur e _ hg',hn,hc,by simpa using hs,fun j hj=>?_⟩
  rw[Array.getElem?_setIfInBounds]
  show _=some (if j=k then u else f j)
  by_cases e1:k=j
  ·subst e1
   rw[if_pos rfl,if_pos (by omega),if_pos rfl]
  ·rw[if_neg e1,if_neg (fun h=>e1 h.symm),hh j hj]
theorem run_append_wide {P:Program}{w:World} (ty t e:TypeId) (i:TypeInfo) (z:Value) (sz bytes:Nat) (ht:P.underlying t=some (.slice e)) (hi:P.info? e=some i) (hz:i.zero=some z) (hsize:i.size=sz) (hby:i.bytes=bytes) (hzs:z.cells.size=sz)
  (v:Value) (n:Nat) (f:Nat→Value) (hown:Wide w e sz v n f) (b:Nat) (us:List Value) (hu:us.length=sz) (hc:∀ j x,us[j]?=some x→w.cell? ⟨b,j,none⟩=some x) (h1:∀ x∈us,x.oneCell'=true) (hn:(n+1)*bytes≤140737488355328) (hn2:n+1≤9007199254740992):
  ∃ v' w',(Builtin.append_ #[t,t] ty #[v,.slice (some ⟨b,0,none⟩) 1 1]).run P w=.ok v' w'∧Wide w' e sz v' (n+1) (fun j=>if j<n*sz then f j else us.getD (j-n*sz) undef)∧w'.os=w.os∧w'.tape=w.tape∧w'.output=w.output∧
   ((∃ g,v.ownBlock=some g∧v'.ownBlock=some g∧w'.heap.size=w.heap.size∧∀ k,k≠g→w'.heap[k]?=w.heap[k]?)∨(v'.ownBlock=some w.heap.size∧w'.heap.size=w.heap.size+1∧∀ k,k<w.heap.size→w'.heap[k]?=w.heap[k]?)):=by
 have hnews:∀ j x,us[j]?=some x→w.cell? ((⟨b,0,none⟩:Addr).add j)=some x:=by
  intro j x hj
  have hadd:(⟨b,0,none⟩:Addr).add j=⟨b,j,none⟩:=by unfold Addr.add;split <;> simp_all
  rw[hadd]
  exact hc j x hj
 have hml:n+1≤maxLen:=by simp only[maxLen];omega
 have hus:us.length=1*i.size:=by rw[hsize];omega
 have hget:∀ j,j<sz→us[j]?=some (us.getD j undef):=fun j hj=>by
  rw[List.getD_eq_getElem?_getD,List.getElem?_eq_getElem (by omega)];rfl
 rcases hown with ⟨rfl,rfl⟩|⟨g,cap,cur,rfl,hg,hnc,hcm,hcs,hf⟩
 ·have hr:=run_append_nil (P:=P) w t ty e i z ht hi hz ⟨b,0,none⟩ 1 1 us hus hnews (by omega) (by omega) (by rw[hby];omega)
  have hge:=grownCap_ge w 1 0 e
  have hcm2:grownCap w 1 0 e≤maxLen:=grownCap_le_maxLen w 1 0 e hml
  refine ⟨_,_,hr,.inr ⟨w.heap.size,_,_,rfl,heap_alloc_new w.drew _,hge,hcm2,?_,fun j hj=>?_⟩,rfl,rfl,rfl,.inr ⟨rfl,by simp,fun k hk=>heap_alloc_old w.drew _ hk⟩⟩
  ·simp only[Array.size_append,List.size_toArray,size_zeroCells,hzs,hu]
   have:=Nat.sub_add_cancel hge
   rw[← this]
   simp [Nat.add_mul,Nat.add_comm]
  ·show _=some (if j<0*sz then f j else us.getD (j-0*sz) undef)
   rw[Nat.zero_mul,if_neg (by omega),Nat.sub_zero,Array.getElem?_append_left (by simp;omega),List.getElem?_toArray]
   exact hget j (by omega)
 ·by_cases hroom:n+1≤cap
  ·have hcap:=Nat.mul_le_mul_right sz hroom
   rw[Nat.add_mul,Nat.one_mul] at hcap
   have hr:=run_append_room (P:=P) w t ty e i ht hi g n cap cur hg ⟨b,0,none⟩ 1 1 us hus hnews h1 hroom (by rw[hsize];omega)
   rw[hsize] at hr
   have hcur:∀ j,(cur.toList.take (n*sz)++us++cur.toList.drop (n*sz+us.length)).toArray[j]?=if n*sz≤j∧j<n*sz+sz then us[j-n*sz]? else cur[j]?:=by
    intro j
    have hl:(cur.toList.take (n*sz)).length=n*sz:=by simp;omega
    rw[List.getElem?_toArray,List.append_assoc]
    by_cases hlt:j<n*sz
    ·rw[List.getElem?_append_left (by omega),List.getElem?_take,if_pos hlt,if_neg (by omega)]
     simp
    ·rw[List.getElem?_append_right (by omega),hl]
     by_cases h2:j<n*sz+sz
     ·rw[if_pos ⟨by omega,h2⟩,List.getElem?_append_left (by omega)]
     ·rw[if_neg (by omega),List.getElem?_append_right (by omega),List.getElem?_drop,hu]
      rw[show n*sz+sz+(j-n*sz-sz)=j by omega]
      simp
   have hsz:(cur.toList.take (n*sz)++us++cur.toList.drop (n*sz+us.length)).toArray.size=cur.size:=by
    simp only[List.size_toArray,List.length_append,List.length_take,List.length_drop,Array.length_toList]
    omega
   have hblk:=setRow_heap w g cur (cur.toList.take (n*sz)++us++cur.toList.drop (n*sz+us.length)).toArray e _ hg
   generalize (cur.toList.take (n*sz)++us++cur.toList.drop (n*sz+us.length)).toArray=cur' at *
   refine ⟨_,_,hr,.inr ⟨g,cap,cur',rfl,hblk,hroom,hcm,by omega,fun j hj=>?_⟩,rfl,rfl,rfl,.inl ⟨g,rfl,rfl,by simp [World.setRow],fun k hk=>setRow_other w g k _ hk⟩⟩
   rw[hcur]
   show _=some (if j<n*sz then f j else us.getD (j-n*sz) undef)
   rw[Nat.add_mul,Nat.one_mul] at hj
   by_cases e1:j<n*sz
   ·rw[if_neg (by omega),if_pos e1,hf j e1]
   ·rw[if_pos ⟨by omega,hj⟩,if_neg e1]
    exact hget _ (by omega)
  ·have hcl:cap=n:=by omega
   subst hcl
   have hol:(cur.toList.take (cap*sz)).length=cap*sz:=by simp;omega
   have holds:∀ j x,(cur.toList.take (cap*sz))[j]?=some x→w.cell? ((⟨g,0,none⟩:Addr).add j)=some x:=by
    intro j x hj
    have hadd:(⟨g,0,none⟩:Addr).add j=⟨g,j,none⟩:=by unfold Addr.add;split <;> simp_all
    rw[hadd]
    simp only[World.cell?,hg]
    rw[List.getElem?_take] at hj
    split at hj
    ·simpa using hj
    ·cases hj
   have hr:=run_append_grow (P:=P) w t ty e i z ht hi hz ⟨g,0,none⟩ cap cap (cur.toList.take (cap*sz)) (by rw[hsize];omega) holds ⟨b,0,none⟩ 1 1 us hus hnews (by omega) (by omega) (by rw[hby];exact growslice_fits (by omega) hn)
   have hge:=grownCap_ge w (cap+1) cap e
   have hcm2:grownCap w (cap+1) cap e≤maxLen:=grownCap_le_maxLen w (cap+1) cap e hml
   refine ⟨_,_,hr,.inr ⟨w.heap.size,_,_,rfl,heap_alloc_new w.drew _,hge,hcm2,?_,fun j hj=>?_⟩,rfl,rfl,rfl,.inr ⟨rfl,by simp,fun k hk=>heap_alloc_old w.drew _ hk⟩⟩
   ·simp only[Array.size_append,List.size_toArray,size_zeroCells,hzs,hol,hu]
    have:=Nat.sub_add_cancel hge
    rw[← this]
    simp [Nat.add_mul,Nat.add_comm]
   ·show _=some (if j<cap*sz then f j else us.getD (j-cap*sz) undef)
    rw[Nat.add_mul,Nat.one_mul] at hj
    rw[Array.getElem?_append_left (by simp;omega)]
    by_cases e1:j<cap*sz
    ·rw[if_pos e1,← hf j e1,Array.getElem?_append_left (by simp;omega),List.getElem?_toArray,List.getElem?_take,if_pos e1]
     simp
    ·rw[if_neg e1,Array.getElem?_append_right (by simp;omega),List.getElem?_toArray]
     have:(cur.toList.take (cap*sz)).toArray.size=cap*sz:=by simpa using hol
     rw[this]
     exact hget _ (by omega)
theorem append_wide {P:Program}{w:World}{ops:Array Oper}{rest:List Oper}{o:Oper}{a:Act}{Q:Exit→Act→World→Prop} (hgd:o.guard=none) (s x:Operand) (t:TypeId) (ho:o.op=.call { callee:=.builtin .append,args:=#[s,x],argTypes:=#[t,t] })
  (e:TypeId) (i:TypeInfo) (z:Value) (sz bytes:Nat) (ht:P.underlying t=some (.slice e)) (hi:P.info? e=some i) (hz:i.zero=some z) (hsize:i.size=sz) (hby:i.bytes=bytes) (hzs:z.cells.size=sz)
  (v:Value) (n:Nat) (f:Nat→Value) (hs:a.eval s=v) (hown:Wide w e sz v n f) (b:Nat) (hx:a.eval x=.slice (some ⟨b,0,none⟩) 1 1) (us:List Value) (hu:us.length=sz) (hc:∀ j x,us[j]?=some x→w.cell? ⟨b,j,none⟩=some x) (h1:∀ x∈us,x.oneCell'=true) (hn:(n+1)*bytes≤140737488355328) (hn2:n+1≤9007199254740992)
  (h:∀ v' w',Wide w' e sz v' (n+1) (fun j=>if j<n*sz then f j else us.getD (j-n*sz) undef)→w'.os=w.os∧w'.tape=w.tape∧w'.output=w.output→((∃ g,v.ownBlock=some g∧v'.ownBlock=some g∧w'.heap.size=w.heap.size∧∀ k,k≠g→w'.heap[k]?=w.heap[k]?)∨(v'.ownBlock=some w.heap.size∧w'.heap.size=w.heap.size+1∧∀ k,k<w.heap.size→w'.heap[k]?=w.heap[k]?))→wpList P ops Q rest (a.put o.dst v') w'):wpList P ops Q (o :: rest) a w:=by
 obtain ⟨v',w',hr,h2,q1,q2,q3,h3⟩:=run_append_wide (P:=P) o.type t e i z sz bytes ht hi hz hsize hby hzs v n f hown b us hu hc h1 hn hn2
 exact wpList_plain hgd fun _ hK=>wp_appended s x t ho _ _ hs hx _ _ hr (hK _ _ (h v' w' h2 ⟨q1,q2,q3⟩ h3))
set_option maxHeartbeats 8000000
structure Still (w w':World):Prop where
 os:w'.os=w.os
 tape:w'.tape=w.tape
 output:w'.output=w.output
 heap:w'.heap=w.heap
theorem Still.refl (w:World):Still w w:=⟨rfl,rfl,rfl,rfl⟩
theorem Still.trans {a b c:World} (h:Still a b) (k:Still b c):Still a c:=⟨k.os.trans h.os,k.tape.trans h.tape,k.output.trans h.output,k.heap.trans h.heap⟩
theorem Still.drew {w w':World} (h:Still w w') (n:Nat):Still w (w'.drewN n):=⟨h.os,h.tape,h.output,h.heap⟩
theorem Still.cell {w w':World} (h:Still w w') (a:Addr):w'.cell? a=w.cell? a:=by simp only[World.cell?,h.heap]
set_option maxHeartbeats 4000000
structure RefSt where
 L:List (Nat × Nat × Nat)
 X:List (List Nat)
 Gn:List (Option Nat)
 F:List Value
 v:Value
 size:Nat
def RefSt.used (R:RefSt):Nat:=place R.L R.L.length
def w64 (x:Nat):Value:=.int .u64 (x:Nat)
theorem place_inj (L:List (Nat × Nat × Nat)) {i j:Nat} (h:place L i=place L j):i=j:=by
 rcases Nat.lt_trichotomy i j with h1|h1|h1
 ·have:=place_lt L h1;unfold wd at this;omega
 ·exact h1
 ·have:=place_lt L h1;unfold wd at this;omega
def findJ (L:List (Nat × Nat × Nat)) (at':Int):Option Nat:=(List.range L.length).find? fun j=>decide (at'=((place L j:Nat):Int))
theorem findJ_yes {L:List (Nat × Nat × Nat)}{at':Int}{j:Nat} (hj:j<L.length) (h:at'=((place L j:Nat):Int)):findJ L at'=some j:=by
 unfold findJ
 rw[List.find?_eq_some_iff_append]
 refine ⟨decide_eq_true h,List.range j,List.range' (j+1) (L.length-j-1),?_,fun i hi=>?_⟩
 ·rw[List.range_eq_range',List.range_eq_range']
  have e:L.length=j+(1+(L.length-j-1)):=by omega
  conv=>lhs;rw[e,← List.range'_append_1,← List.range'_append_1]
  simp
 ·rw[List.mem_range] at hi
  simp
  intro e
  have:place L i=place L j:=by omega
  have:=place_inj L this
  omega
theorem findJ_no {L:List (Nat × Nat × Nat)}{at':Int} (h:∀ j,j<L.length→at'≠((place L j:Nat):Int)):findJ L at'=none:=by
 unfold findJ
 rw[List.find?_eq_none]
 intro j hj
 rw[List.mem_range] at hj
 simp
 exact h j hj
def robj (R:RefSt) (at':Int):Nat × Nat × Nat × Nat:=
 match findJ R.L at' with
 | none=>(0,0,0,23)
 | some j=>if (R.Gn.getD j none).isSome=true then (0,0,0,26) else ((R.L.getD j (0,0,0)).1,(R.L.getD j (0,0,0)).2.1,(R.L.getD j (0,0,0)).2.2,0)
def rget (R:RefSt) (at' k:Int):Nat × Nat:=
 match findJ R.L at' with
 | none=>(0,23)
 | some j=>if (R.Gn.getD j none).isSome=true then (0,26) else if 0≤k∧k<(fldsOf R.L j:Nat) then ((R.X.getD j []).getD k.toNat 0,0) else (0,24)
def rmoved (R:RefSt) (at':Int):Nat × Bool × Nat:=
 match findJ R.L at' with
 | none=>(0,false,23)
 | some j=>match R.Gn.getD j none with
  | none=>(0,false,0)
  | some t=>(t,true,0)
theorem Still.below {w w':World} (k:Still w w'):Below w.heap.size w w':=⟨k.os,k.tape,k.output,by rw[k.heap];exact Nat.le_refl _,fun g _=>by rw[k.heap]⟩
theorem at_cases (L:List (Nat × Nat × Nat)) (at':Int):(∃ j,j<L.length∧at'=(place L j:Nat))∨∀ j,j<L.length→at'≠(place L j:Nat):=by
 by_cases h:∃ j,j<L.length∧at'=(place L j:Nat)
 ·exact .inl h
 ·exact .inr (fun j hj e=>h ⟨j,hj,e⟩)
structure RChg (P:Nat→Prop) (rt rt':Nat→Nat) (w w':World):Prop where
 os:w'.os=w.os
 tape:w'.tape=w.tape
 output:w'.output=w.output
 size:w.heap.size≤w'.heap.size
 tg:∀ g,g<w.heap.size→rt' g=rt g
 blk:∀ g,g<w.heap.size→¬ P (rt g)→w'.heap[g]?=w.heap[g]?
 un:∀ g,rt' g≠0→g<w'.heap.size
def RefSt.put (R:RefSt) (j m v:Nat):RefSt:={ R with X:=R.X.set j ((R.X.getD j []).set m v) }
theorem put_at (R:RefSt) (j m v i:Nat) (hj:j<R.X.length):(R.put j m v).X.getD i []=if i=j then (R.X.getD j []).set m v else R.X.getD i []:=by
 show (R.X.set j _).getD i []=_
 rw[List.getD_eq_getElem?_getD,List.getElem?_set]
 by_cases e:j=i
 ·subst e
  rw[if_pos rfl,if_pos hj,if_pos rfl];rfl
 ·rw[if_neg e,if_neg (fun h=>e h.symm),← List.getD_eq_getElem?_getD]
def rsetErr (R:RefSt) (at' k:Int):Nat:=(rget R at' k).2
set_option maxHeartbeats 2000000
theorem place_prefix (A B:List (Nat × Nat × Nat)):∀ m,m≤A.length→place (A++B) m=place A m:=by
 intro m
 induction m with
 | zero=>intro _;rfl
 | succ m ih=>
  intro h
  show place (A++B) m+wd ((A++B).getD m (0,0,0))=place A m+wd (A.getD m (0,0,0))
  rw[ih (by omega)]
  congr 2
  rw[List.getD_eq_getElem?_getD,List.getElem?_append_left (by omega),← List.getD_eq_getElem?_getD]
set_option maxHeartbeats 4000000
def RefSt.new (size:Nat):RefSt:=⟨[],[],[],[],.slice none 0 0,size⟩
def RefSt.lay (R:RefSt) (k rf rw:Nat) (x:List Nat) (F v':Value):RefSt:=⟨R.L ++ [(k,rf,rw)],R.X ++ [x],R.Gn ++ [none],R.F ++ [F],v',R.size⟩
theorem getD_snoc {α:Type} (l:List α) (x d:α) (j:Nat):(l ++ [x]).getD j d=if j<l.length then l.getD j d else if j=l.length then x else d:=by
 by_cases h:j<l.length
 ·rw[if_pos h,List.getD_eq_getElem?_getD,List.getElem?_append_left h,← List.getD_eq_getElem?_getD]
 ·rw[if_neg h]
  by_cases e:j=l.length
  ·subst e;rw[if_pos rfl];simp
  ·rw[if_neg e,List.getD_eq_getElem?_getD,List.getElem?_eq_none (by simp;omega)];rfl
theorem place_snoc (L:List (Nat × Nat × Nat)) (s:Nat × Nat × Nat):place (L ++ [s]) (L.length+1)=place L L.length+wd s:=by
 show place (L ++ [s]) L.length+wd ((L ++ [s]).getD L.length (0,0,0))=_
 rw[place_prefix L [s] L.length (Nat.le_refl _),getD_snoc,if_neg (by omega),if_pos rfl]
def RefSt.mark (R:RefSt) (j t:Nat):RefSt:={ R with Gn:=R.Gn.set j (some t) }
def rawsOf (R:RefSt) (j:Nat):List Nat:=(R.X.getD j []).drop (R.L.getD j (0,0,0)).2.1
def rbyN (R:RefSt) (j:Nat):List Nat:=Larder.unpackL (rawsOf R j) (8*(R.L.getD j (0,0,0)).2.2)
theorem getD_dropped (l:List Nat) (a i:Nat):(l.drop a).getD i 0=l.getD (a+i) 0:=by rw[List.getD_eq_getElem?_getD,List.getElem?_drop,← List.getD_eq_getElem?_getD]
theorem getD_zeros (n i:Nat):(List.replicate n 0).getD i 0=0:=by
 rw[List.getD_eq_getElem?_getD,List.getElem?_replicate]
 by_cases h:i<n <;> simp [h]
def rword (R:RefSt) (j:Nat):Nat:=
 match R.Gn.getD j none with
 | none=>(R.L.getD j (0,0,0)).1+256*(R.L.getD j (0,0,0)).2.1+4294967296*(R.L.getD j (0,0,0)).2.2
 | some t=>9223372036854775808+t
def rimg (R:RefSt) (m:Nat):List Nat:=0 :: (List.range m).flatMap (fun j=>rword R j :: R.X.getD j [])
structure Imaged (R:RefSt) (w wq:World) (v:Value) (m:Nat):Prop where
 below:Below w.heap.size w wq
 own:wq.ownsRow w.heap.size 33 1 v (place R.L m) ((rimg R m).map w64)
set_option maxHeartbeats 2000000
def sizeOf' (x:Nat):Nat:=1+x / 256%16777216+x / 4294967296%16777216
def Sound (ws:List Nat) (hs:List Bool) (used:Nat):Prop:=∀ k,k<used→hs.getD k false=true→ws.getD k 0<9223372036854775808→
 IsHead (ws.getD k 0)∧k+sizeOf' (ws.getD k 0)≤used∧∀ j,k<j→j<k+sizeOf' (ws.getD k 0)→hs.getD j false=false
theorem Sound.heads {ws:List Nat}{hs:List Bool}{used:Nat} (h:Sound ws hs used):Heads ws hs used:=fun k h1 h2 h3=>by
 obtain ⟨a,b,_⟩:=h k h1 h2 h3
 unfold sizeOf' at b
 exact ⟨a,by omega⟩
structure Step (w w':World) (p bw bh:Nat) (ws:List Nat) (hs:List Bool) (used:Nat) (f:Nat) (ws':List Nat) (hs':List Bool) (used':Nat):Prop where
 ar:Ar w' p bw bh ws' hs' used'
 sound:Sound ws' hs' used'
 but:But [p,bw,bh] w w'
 no:f≠0→ws'=ws∧hs'=hs∧used'=used
set_option maxHeartbeats 8000000
structure Growing (pb o:Nat) (S:BookSt) (t0:Nat→Nat) (w0:World) (tag:Nat→Nat) (w:World) (B:HalfSt) (more:Nat):Prop where
 mid:Mid pb o t0 w0 tag w ((S.flds.set 0 B.v).set 1 B.o) S.turn B S.u
 lenL:B.L.length=S.b.M.length+more
 lenM:B.M.length=S.b.M.length+more
 n:B.n=1000000000000
 preL:∀ j,j<S.b.M.length→B.L.getD j undef=S.b.L.getD j undef
 preM:∀ j,j<S.b.M.length→B.M.getD j 0=S.b.M.getD j 0
theorem getD_old {α:Type} (l:List α) (x d:α) (j:Nat) (h:j<l.length):(l ++ [x]).getD j d=l.getD j d:=by
 rw[List.getD_eq_getElem?_getD,List.getElem?_append_left h,← List.getD_eq_getElem?_getD]
set_option maxHeartbeats 2000000
structure RefOk (R:RefSt):Prop where
 xl:R.X.length=R.L.length
 gl:R.Gn.length=R.L.length
 xs:∀ j,j<R.L.length→(R.X.getD j []).length=fldsOf R.L j
 u2:R.used≤R.size
 sz:R.size≤1048576
 sm:∀ j k,(R.X.getD j []).getD k 0<18446744073709551616
 go:∀ j t,R.Gn.getD j none=some t→t≤1048576
 sh:∀ j,j<R.L.length→1≤(R.L.getD j (0,0,0)).1∧(R.L.getD j (0,0,0)).1≤255
structure Rel (ws:List Nat) (hs:List Bool) (used:Nat) (R:RefSt):Prop where
 us:used=R.used
 sz:ws.length=R.size
 hl:hs.length=ws.length
 marks:∀ k,k<used→(hs.getD k false=true↔∃ j,j<R.L.length∧k=place R.L j)
 heads:∀ j,j<R.L.length→ws.getD (place R.L j) 0=rword R j
 flds:∀ j k,j<R.L.length→k<fldsOf R.L j→ws.getD (place R.L j+1+k) 0=(R.X.getD j []).getD k 0
 zero:ws.getD 0 0=0
theorem used_of (R:RefSt) (j:Nat) (hj:j<R.L.length):place R.L j+1+fldsOf R.L j≤R.used:=by
 have h1:=place_lt R.L hj
 unfold RefSt.used
 unfold wd at h1
 unfold fldsOf
 omega
theorem flds_le {R:RefSt} (o:RefOk R) (j:Nat) (hj:j<R.L.length):(R.L.getD j (0,0,0)).2.1≤1048576∧(R.L.getD j (0,0,0)).2.2≤1048576∧fldsOf R.L j≤1048576:=by
 have h1:=used_of R j hj
 have h2:=o.u2
 have h3:=o.sz
 have h4:fldsOf R.L j=(R.L.getD j (0,0,0)).2.1+(R.L.getD j (0,0,0)).2.2:=rfl
 omega
theorem rword_none {R:RefSt}{j:Nat} (hg:R.Gn.getD j none=none):rword R j=(R.L.getD j (0,0,0)).1+256*(R.L.getD j (0,0,0)).2.1+4294967296*(R.L.getD j (0,0,0)).2.2:=by unfold rword;rw[hg]
theorem rword_some {R:RefSt}{j t:Nat} (hg:R.Gn.getD j none=some t):rword R j=9223372036854775808+t:=by unfold rword;rw[hg]
theorem rword_parts {R:RefSt} (o:RefOk R) {j:Nat} (hj:j<R.L.length) (hg:R.Gn.getD j none=none):rword R j%256=(R.L.getD j (0,0,0)).1∧rword R j / 256%16777216=(R.L.getD j (0,0,0)).2.1∧rword R j / 4294967296%16777216=(R.L.getD j (0,0,0)).2.2∧rword R j<72057594037927936:=by
 rw[rword_none hg]
 obtain ⟨h1,h2,_⟩:=flds_le o j hj
 have h3:=o.sh j hj
 generalize (R.L.getD j (0,0,0)).1=k at *
 generalize (R.L.getD j (0,0,0)).2.1=r at *
 generalize (R.L.getD j (0,0,0)).2.2=s at *
 omega
theorem Rel.there {ws:List Nat}{hs:List Bool}{used:Nat}{R:RefSt} (h:Rel ws hs used R) (j:Nat) (hj:j<R.L.length):1≤place R.L j∧place R.L j<used∧hs.getD (place R.L j) false=true:=by
 have h1:=used_of R j hj
 have h2:=h.us
 have hlt:place R.L j<used:=by omega
 exact ⟨place_pos R.L j,hlt,(h.marks _ hlt).2 ⟨j,hj,rfl⟩⟩
theorem Rel.absent {ws:List Nat}{hs:List Bool}{used:Nat}{R:RefSt} (h:Rel ws hs used R) {at':Int} (hno:∀ j,j<R.L.length→at'≠(place R.L j:Nat)):¬ (1≤at'∧at'<used∧hs.getD at'.toNat false=true):=by
 rintro ⟨h1,h2,h3⟩
 obtain ⟨k,rfl⟩:=Int.eq_ofNat_of_zero_le (show (0:Int)≤at' by omega)
 rw[Int.toNat_natCast] at h3
 obtain ⟨j,hj,e⟩:=(h.marks k (by omega)).1 h3
 exact hno j hj (by rw[e])
theorem robj_none {R:RefSt}{j:Nat} (hj:j<R.L.length) (hg:R.Gn.getD j none=none):robj R (place R.L j:Nat)=((R.L.getD j (0,0,0)).1,(R.L.getD j (0,0,0)).2.1,(R.L.getD j (0,0,0)).2.2,0):=by
 unfold robj
 rw[findJ_yes hj rfl]
 dsimp only
 rw[hg,if_neg (by simp)]
theorem robj_some {R:RefSt}{j t:Nat} (hj:j<R.L.length) (hg:R.Gn.getD j none=some t):robj R (place R.L j:Nat)=(0,0,0,26):=by
 unfold robj
 rw[findJ_yes hj rfl]
 dsimp only
 rw[hg,if_pos (show (some t).isSome=true from rfl)]
theorem robj_no {R:RefSt}{at':Int} (hno:∀ j,j<R.L.length→at'≠(place R.L j:Nat)):robj R at'=(0,0,0,23):=by
 unfold robj
 rw[findJ_no hno]
theorem rget_none {R:RefSt}{j:Nat} (hj:j<R.L.length) (hg:R.Gn.getD j none=none) (i:Int):rget R (place R.L j:Nat) i=if 0≤i∧i<(fldsOf R.L j:Nat) then ((R.X.getD j []).getD i.toNat 0,0) else (0,24):=by
 unfold rget
 rw[findJ_yes hj rfl]
 dsimp only
 rw[hg,if_neg (by simp)]
theorem rget_some {R:RefSt}{j t:Nat} (hj:j<R.L.length) (hg:R.Gn.getD j none=some t) (i:Int):rget R (place R.L j:Nat) i=(0,26):=by
 unfold rget
 rw[findJ_yes hj rfl]
 dsimp only
 rw[hg,if_pos (show (some t).isSome=true from rfl)]
theorem rget_no {R:RefSt}{at':Int} (hno:∀ j,j<R.L.length→at'≠(place R.L j:Nat)) (i:Int):rget R at' i=(0,23):=by
 unfold rget
 rw[findJ_no hno]
theorem rmoved_none {R:RefSt}{j:Nat} (hj:j<R.L.length) (hg:R.Gn.getD j none=none):rmoved R (place R.L j:Nat)=(0,false,0):=by
 unfold rmoved
 rw[findJ_yes hj rfl]
 dsimp only
 rw[hg]
theorem rmoved_some {R:RefSt}{j t:Nat} (hj:j<R.L.length) (hg:R.Gn.getD j none=some t):rmoved R (place R.L j:Nat)=(t,true,0):=by
 unfold rmoved
 rw[findJ_yes hj rfl]
 dsimp only
 rw[hg]
theorem rmoved_no {R:RefSt}{at':Int} (hno:∀ j,j<R.L.length→at'≠(place R.L j:Nat)):rmoved R at'=(0,false,23):=by
 unfold rmoved
 rw[findJ_no hno]
theorem top_sub (t:Nat):9223372036854775808+t-9223372036854775808=t:=Nat.add_sub_cancel_left ..
theorem Rel.obj {ws:List Nat}{hs:List Bool}{used:Nat}{R:RefSt} (h:Rel ws hs used R) (o:RefOk R) (at':Int):objRes ws hs used at'=robj R at':=by
 rcases at_cases R.L at' with ⟨j,hj,rfl⟩|hno
 ·obtain ⟨m1,m2,m3⟩:=h.there j hj
  unfold objRes
  rw[if_pos ⟨by omega,by omega,by rw[Int.toNat_natCast];exact m3⟩,Int.toNat_natCast,h.heads j hj]
  cases hg:R.Gn.getD j none with
  | none=>
   obtain ⟨p1,p2,p3,p4⟩:=rword_parts o hj hg
   rw[if_neg (by omega),p1,p2,p3,robj_none hj hg]
  | some t=>rw[rword_some hg,if_pos (Nat.le_add_right ..),robj_some hj hg]
 ·unfold objRes
  rw[robj_no hno,if_neg (h.absent hno)]
theorem Rel.moved {ws:List Nat}{hs:List Bool}{used:Nat}{R:RefSt} (h:Rel ws hs used R) (o:RefOk R) (at':Int):movedRes ws hs used at'=rmoved R at':=by
 rcases at_cases R.L at' with ⟨j,hj,rfl⟩|hno
 ·obtain ⟨m1,m2,m3⟩:=h.there j hj
  unfold movedRes
  rw[if_pos ⟨by omega,by omega,by rw[Int.toNat_natCast];exact m3⟩,Int.toNat_natCast,h.heads j hj]
  cases hg:R.Gn.getD j none with
  | none=>
   obtain ⟨p1,p2,p3,p4⟩:=rword_parts o hj hg
   rw[if_neg (by omega),rmoved_none hj hg]
  | some t=>rw[rword_some hg,if_pos (Nat.le_add_right ..),rmoved_some hj hg,top_sub]
 ·unfold movedRes
  rw[rmoved_no hno,if_neg (h.absent hno)]
theorem Rel.sound {ws:List Nat}{hs:List Bool}{used:Nat}{R:RefSt} (h:Rel ws hs used R) (o:RefOk R):Sound ws hs used:=by
 intro k hk hm hlt
 obtain ⟨j,hj,rfl⟩:=(h.marks k hk).1 hm
 rw[h.heads j hj] at hlt ⊢
 cases hg:R.Gn.getD j none with
 | some t=>rw[rword_some hg] at hlt;omega
 | none=>
  obtain ⟨p1,p2,p3,p4⟩:=rword_parts o hj hg
  obtain ⟨f1,f2,f3⟩:=flds_le o j hj
  have hsh:=o.sh j hj
  have hu:=used_of R j hj
  have hus:=h.us
  have hfl:fldsOf R.L j=(R.L.getD j (0,0,0)).2.1+(R.L.getD j (0,0,0)).2.2:=rfl
  have hsz:sizeOf' (rword R j)=1+fldsOf R.L j:=by unfold sizeOf';rw[p2,p3,hfl];omega
  refine ⟨⟨?_,p4⟩,by rw[hsz];omega,fun i h1 h2=>?_⟩
  ·rw[p1,p2,p3]
   unfold Fits
   omega
  ·rw[hsz] at h2
   cases e:hs.getD i false with
   | false=>rfl
   | true=>
    exfalso
    obtain ⟨j2,hj2,rfl⟩:=(h.marks i (by omega)).1 e
    rcases Nat.lt_trichotomy j j2 with q|q|q
    ·have:=place_lt R.L q
     unfold wd at this
     omega
    ·subst q;omega
    ·have:=place_lt R.L q
     unfold wd at this
     omega
theorem Rel.err {ws:List Nat}{hs:List Bool}{used:Nat}{R:RefSt} (h:Rel ws hs used R) (o:RefOk R) (at' i:Int):fieldErr ws hs used at' i=rsetErr R at' i:=by
 unfold fieldErr rsetErr
 rw[h.obj o]
 rcases at_cases R.L at' with ⟨j,hj,rfl⟩|hno
 ·cases hg:R.Gn.getD j none with
  | none=>
   rw[robj_none hj hg,rget_none hj hg,if_neg (by simp)]
   show (if 0≤i∧i<(fldsOf R.L j:Nat) then 0 else 24)=_
   split <;> rfl
  | some t=>rw[robj_some hj hg,rget_some hj hg,if_pos (by simp)]
 ·rw[robj_no hno,rget_no hno,if_pos (by simp)]
theorem robj_zero {R:RefSt}{at':Int} (h:(robj R at').2.2.2=0):∃ j,j<R.L.length∧at'=(place R.L j:Nat)∧R.Gn.getD j none=none∧robj R at'=((R.L.getD j (0,0,0)).1,(R.L.getD j (0,0,0)).2.1,(R.L.getD j (0,0,0)).2.2,0):=by
 rcases at_cases R.L at' with ⟨j,hj,rfl⟩|hno
 ·cases hg:R.Gn.getD j none with
  | none=>exact ⟨j,hj,rfl,hg,robj_none hj hg⟩
  | some t=>rw[robj_some hj hg] at h;cases h
 ·rw[robj_no hno] at h
  cases h
theorem rget_zero {R:RefSt}{at' i:Int} (h:rsetErr R at' i=0):∃ j m:Nat,j<R.L.length∧at'=(place R.L j:Nat)∧i=m∧m<fldsOf R.L j∧R.Gn.getD j none=none∧rget R at' i=((R.X.getD j []).getD m 0,0)∧robj R at'=((R.L.getD j (0,0,0)).1,(R.L.getD j (0,0,0)).2.1,(R.L.getD j (0,0,0)).2.2,0):=by
 unfold rsetErr at h
 rcases at_cases R.L at' with ⟨j,hj,rfl⟩|hno
 ·cases hg:R.Gn.getD j none with
  | none=>
   rw[rget_none hj hg] at h
   by_cases hi:0≤i∧i<(fldsOf R.L j:Nat)
   ·obtain ⟨m,rfl⟩:=Int.eq_ofNat_of_zero_le hi.1
    exact ⟨j,m,hj,rfl,rfl,by omega,hg,by rw[rget_none hj hg,if_pos hi,Int.toNat_natCast],robj_none hj hg⟩
   ·rw[if_neg hi] at h;cases h
  | some t=>rw[rget_some hj hg] at h;cases h
 ·rw[rget_no hno] at h
  cases h
theorem Rel.new (n:Nat) (h1:1≤n):Rel (List.replicate n 0) (List.replicate n false) 1 (RefSt.new n):=by
 refine ⟨rfl,by simp [RefSt.new],by simp,fun k hk=>⟨fun h=>?_,fun ⟨j,hj,_⟩=>absurd hj (Nat.not_lt_zero _)⟩,fun j hj=>absurd hj (Nat.not_lt_zero _),fun j k hj=>absurd hj (Nat.not_lt_zero _),rep_at n 0 0 0 (by omega)⟩
 rw[rep_at n k false false (by omega)] at h
 cases h
theorem Rel.clear {ws:List Nat}{hs:List Bool}{used:Nat}{R:RefSt} (h:Rel ws hs used R) (hu:1≤used):Rel ws hs 1 (RefSt.new R.size):=by
 refine ⟨rfl,h.sz,h.hl,fun k hk=>⟨fun e=>?_,fun ⟨j,hj,_⟩=>absurd hj (Nat.not_lt_zero _)⟩,fun j hj=>absurd hj (Nat.not_lt_zero _),fun j k hj=>absurd hj (Nat.not_lt_zero _),h.zero⟩
 obtain ⟨j,hj,e2⟩:=(h.marks k (by omega)).1 e
 have:=place_pos R.L j
 omega
theorem Rel.put {ws:List Nat}{hs:List Bool}{used:Nat}{R:RefSt} (h:Rel ws hs used R) (o:RefOk R) (j m v:Nat) (hj:j<R.L.length) (hm:m<fldsOf R.L j):Rel (ws.set (place R.L j+1+m) v) hs used (R.put j m v):=by
 have hu:=used_of R j hj
 have h2:=o.u2
 have h3:=h.sz
 have hq:place R.L j+1+m<ws.length:=by omega
 have hat:=fun i=>put_at R j m v i (by rw[o.xl];exact hj)
 refine ⟨h.us,by rw[List.length_set];exact h.sz,by rw[List.length_set];exact h.hl,h.marks,fun i hi=>?_,fun i k hi hk=>?_,?_⟩
 ·have hi':i<R.L.length:=hi
  show (ws.set _ v).getD (place R.L i) 0=rword R i
  rw[getD_set _ _ _ _ hq,if_neg ?_]
  ·exact h.heads i hi'
  ·intro e
   rcases Nat.lt_trichotomy i j with q|q|q
   ·have:=place_lt R.L q;unfold wd at this;omega
   ·subst q;omega
   ·have:=place_lt R.L q;unfold wd at this;unfold fldsOf at hm;omega
 ·have hi':i<R.L.length:=hi
  have hk':k<fldsOf R.L i:=hk
  show (ws.set _ v).getD (place R.L i+1+k) 0=_
  rw[getD_set _ _ _ _ hq,hat i]
  by_cases e:place R.L i+1+k=place R.L j+1+m
  ·obtain ⟨rfl,rfl⟩:=place_apart R.L i k j m hk' hm e
   rw[if_pos rfl,if_pos rfl,getD_set _ _ _ _ (by rw[o.xs i hi'];exact hm),if_pos rfl]
  ·rw[if_neg e]
   by_cases e2:i=j
   ·subst e2
    rw[if_pos rfl,getD_set _ _ _ _ (by rw[o.xs i hi'];exact hm),if_neg (by omega)]
    exact h.flds i k hi' hk'
   ·rw[if_neg e2]
    exact h.flds i k hi' hk'
 ·rw[getD_set _ _ _ _ hq,if_neg (by omega)]
  exact h.zero
theorem place_old (L:List (Nat × Nat × Nat)) (s:Nat × Nat × Nat):∀ i,i≤L.length→place (L ++ [s]) i=place L i
 | 0,_=>rfl
 | i+1,h=>by
  show place (L ++ [s]) i+wd ((L ++ [s]).getD i (0,0,0))=place L i+wd (L.getD i (0,0,0))
  rw[place_old L s i (by omega),getD_old _ _ _ _ (by omega)]
theorem flds_old (L:List (Nat × Nat × Nat)) (s:Nat × Nat × Nat) (i:Nat) (h:i<L.length):fldsOf (L ++ [s]) i=fldsOf L i:=by unfold fldsOf;rw[getD_old _ _ _ _ h]
theorem rword_old {R:RefSt} (o:RefOk R) (k rf rw':Nat) (x:List Nat) (F v':Value) (j:Nat) (hj:j<R.L.length):rword (R.lay k rf rw' x F v') j=rword R j:=by
 unfold rword RefSt.lay
 dsimp only
 rw[getD_old _ _ _ _ (by rw[o.gl];exact hj),getD_old _ _ _ _ hj]
theorem used_lay (R:RefSt) (k rf rw':Nat) (x:List Nat) (F v':Value):(R.lay k rf rw' x F v').used=R.used+(1+rf+rw'):=by
 show place (R.L ++ [(k,rf,rw')]) (R.L ++ [(k,rf,rw')]).length=_
 rw[List.length_append,List.length_singleton,place_snoc]
 rfl
theorem Rel.lay {ws ws':List Nat}{hs:List Bool}{used:Nat}{R:RefSt} (h:Rel ws hs used R) (o:RefOk R) (k rf rw':Nat) (x:List Nat) (F v':Value) (hx:x.length=rf+rw') (hfit:used+(1+rf+rw')≤ws.length)
  (hl:ws'.length=ws.length) (hold:∀ i,i<used→ws'.getD i 0=ws.getD i 0) (hhd:ws'.getD used 0=k+256*rf+4294967296*rw') (hfd:∀ i,i<rf+rw'→ws'.getD (used+1+i) 0=x.getD i 0):
  Rel ws' (mark hs used (1+rf+rw')) (used+(1+rf+rw')) (R.lay k rf rw' x F v'):=by
 have hus:=h.us
 have hpl:place R.L R.L.length=used:=hus.symm
 have hLl:(R.lay k rf rw' x F v').L.length=R.L.length+1:=by show (R.L ++ [_]).length=_;simp
 refine ⟨by rw[used_lay,hus],by rw[hl];exact h.sz,by rw[mark_length,hl];exact h.hl,fun i hi=>?_,fun j hj=>?_,fun j i hj hi=>?_,?_⟩
 ·rw[mark_at _ _ _ _ (by rw[h.hl];omega)]
  constructor
  ·intro e
   by_cases e1:i=used
   ·refine ⟨R.L.length,by omega,?_⟩
    show i=place (R.L ++ [_]) R.L.length
    rw[place_old _ _ _ (Nat.le_refl _),hpl,e1]
   ·rw[if_neg e1] at e
    by_cases e2:used≤i∧i<used+(1+rf+rw')
    ·rw[if_pos e2] at e;cases e
    ·rw[if_neg e2] at e
     obtain ⟨j,hj,rfl⟩:=(h.marks i (by omega)).1 e
     refine ⟨j,by omega,?_⟩
     show place R.L j=place (R.L ++ [_]) j
     rw[place_old _ _ _ (by omega)]
  ·rintro ⟨j,hj,e⟩
   have e':i=place (R.L ++ [(k,rf,rw')]) j:=e
   rw[place_old _ _ _ (by omega)] at e'
   by_cases e1:j=R.L.length
   ·rw[e1,hpl] at e'
    rw[if_pos e']
   ·have h1:=h.there j (by omega)
    rw[if_neg (by omega),if_neg (by omega),e']
    exact h1.2.2
 ·show ws'.getD (place (R.L ++ [(k,rf,rw')]) j) 0=_
  rw[place_old _ _ _ (by omega)]
  by_cases e1:j<R.L.length
  ·rw[rword_old o _ _ _ _ _ _ _ e1,hold _ (h.there j e1).2.1]
   exact h.heads j e1
  ·have e2:j=R.L.length:=by omega
   subst e2
   rw[hpl,hhd]
   unfold rword RefSt.lay
   dsimp only
   rw[getD_last _ _ _ _ o.gl,getD_last _ _ _ _ rfl]
 ·have hi':i<fldsOf (R.L ++ [(k,rf,rw')]) j:=hi
  show ws'.getD (place (R.L ++ [(k,rf,rw')]) j+1+i) 0=((R.X ++ [x]).getD j []).getD i 0
  rw[place_old _ _ _ (by omega)]
  by_cases e1:j<R.L.length
  ·rw[flds_old _ _ _ e1] at hi'
   have h1:=used_of R j e1
   rw[hold _ (by omega),getD_old _ _ _ _ (by rw[o.xl];exact e1)]
   exact h.flds j i e1 hi'
  ·have e2:j=R.L.length:=by omega
   subst e2
   rw[hpl,getD_last _ _ _ _ o.xl]
   unfold fldsOf at hi'
   rw[getD_last _ _ _ _ rfl] at hi'
   exact hfd i hi'
 ·have hp:=place_pos R.L R.L.length
  rw[hold 0 (by omega)]
  exact h.zero
theorem mark_gn (R:RefSt) (j t i:Nat) (hj:j<R.Gn.length):(R.mark j t).Gn.getD i none=if i=j then some t else R.Gn.getD i none:=by
 show (R.Gn.set j (some t)).getD i none=_
 rw[List.getD_eq_getElem?_getD,List.getElem?_set]
 by_cases e:j=i
 ·subst e
  rw[if_pos rfl,if_pos hj,if_pos rfl];rfl
 ·rw[if_neg e,if_neg (fun h=>e h.symm),← List.getD_eq_getElem?_getD]
theorem Rel.gone {ws:List Nat}{hs:List Bool}{used:Nat}{R:RefSt} (h:Rel ws hs used R) (o:RefOk R) (j t:Nat) (hj:j<R.L.length):Rel (ws.set (place R.L j) (9223372036854775808+t)) hs used (R.mark j t):=by
 have hm:=h.there j hj
 have h2:=o.u2
 have h3:=h.sz
 have h4:=h.us
 have hq:place R.L j<ws.length:=by omega
 have hat:=fun i=>mark_gn R j t i (by rw[o.gl];exact hj)
 refine ⟨h.us,by rw[List.length_set];exact h.sz,by rw[List.length_set];exact h.hl,h.marks,fun i hi=>?_,fun i k hi hk=>?_,?_⟩
 ·have hi':i<R.L.length:=hi
  show (ws.set _ _).getD (place R.L i) 0=rword (R.mark j t) i
  rw[getD_set _ _ _ _ hq]
  by_cases e:i=j
  ·subst e
   rw[if_pos rfl]
   have hg:(R.mark i t).Gn.getD i none=some t:=by rw[hat i,if_pos rfl]
   rw[rword_some hg]
  ·rw[if_neg (fun e2=>e (place_inj R.L e2)),h.heads i hi']
   have hg:=hat i
   rw[if_neg e] at hg
   unfold rword
   rw[hg]
   rfl
 ·have hi':i<R.L.length:=hi
  have hk':k<fldsOf R.L i:=hk
  show (ws.set _ _).getD (place R.L i+1+k) 0=(R.X.getD i []).getD k 0
  rw[getD_set _ _ _ _ hq,if_neg ?_]
  ·exact h.flds i k hi' hk'
  ·intro e
   rcases Nat.lt_trichotomy i j with q|q|q
   ·have:=place_lt R.L q;unfold wd at this;unfold fldsOf at hk';omega
   ·subst q;omega
   ·have:=place_lt R.L q;unfold wd at this;omega
 ·rw[getD_set _ _ _ _ hq,if_neg (by omega)]
  exact h.zero
end Go.Proofs.YtnfbaapbpgbgpaaGreat
