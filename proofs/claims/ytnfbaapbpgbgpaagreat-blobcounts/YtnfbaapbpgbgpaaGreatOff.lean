import Derived.Test.YtnfbaapbpgbgpaaGreatBlQ
import Derived.ArgAppend
namespace Go.Proofs.YtnfbaapbpgbgpaaGreat
open Go.ChangeShapes Go.WideShapes Go.ChangeAt Go.RowKit
set_option linter.unusedVariables false
set_option maxRecDepth 100000
def Off (w:World) (e:TypeId) (v:Value) (n:Nat) (f:Nat→Value):Prop:=
 (v=.slice none 0 0∧n=0)∨∃ g o cap cur,v=.slice (some ⟨g,o,none⟩) n cap∧w.heap[g]?=some (.cells cur e (0,0))∧n≤cap∧cap≤maxLen∧o+cap≤cur.size∧∀ j,j<n→cur[o+j]?=some (f j)
theorem Off.same {w w':World}{e:TypeId}{v:Value}{n:Nat}{f:Nat→Value} (h:Off w e v n f) (hb:∀ g,v.ownBlock=some g→w'.heap[g]?=w.heap[g]?):Off w' e v n f:=by
 rcases h with h|⟨g,o,cap,cur,rfl,hg,r⟩
 ·exact .inl h
 ·exact .inr ⟨g,o,cap,cur,rfl,(hb g rfl).trans hg,r⟩
theorem Off.lt {w:World}{e:TypeId}{v:Value}{n:Nat}{f:Nat→Value} (h:Off w e v n f):∀ g,v.ownBlock=some g→g<w.heap.size:=by
 rcases h with ⟨rfl,_⟩|⟨g,o,cap,cur,rfl,hg,r⟩
 ·intro g hg;cases hg
 ·intro g' hg';cases hg';exact (Array.getElem?_eq_some_iff.1 hg).1
theorem Off.shape {w:World}{e:TypeId}{v:Value}{n:Nat}{f:Nat→Value} (h:Off w e v n f):∃ a cap,v=.slice a n cap:=by
 rcases h with ⟨rfl,rfl⟩|⟨g,o,cap,cur,rfl,hg,r⟩
 ·exact ⟨_,_,rfl⟩
 ·exact ⟨_,_,rfl⟩
theorem Off.congr {w:World}{e:TypeId}{v:Value}{n:Nat}{f f':Nat→Value} (h:Off w e v n f) (hf:∀ j,j<n→f j=f' j):Off w e v n f':=by
 rcases h with h|⟨g,o,cap,cur,rfl,hg,h1,h2,h3,h4⟩
 ·exact .inl h
 ·exact .inr ⟨g,o,cap,cur,rfl,hg,h1,h2,h3,fun j hj=>by rw[h4 j hj,hf j hj]⟩
theorem append_off {P:Program}{w:World}{ops:Array Oper}{rest:List Oper}{o:Oper}{a:Act}{Q:Exit→Act→World→Prop} (hgd:o.guard=none) (s x:Operand) (t:TypeId) (ho:o.op=.call { callee:=.builtin .append,args:=#[s,x],argTypes:=#[t,t] })
  (e:TypeId) (i:TypeInfo) (z:Value) (bytes:Nat) (ht:P.underlying t=some (.slice e)) (hi:P.info? e=some i) (hz:i.zero=some z) (hsize:i.size=1) (hby:i.bytes=bytes) (hzs:z.cells.size=1)
  (v:Value) (n:Nat) (f:Nat→Value) (hs:a.eval s=v) (hown:Off w e v n f) (b:Nat) (hx:a.eval x=.slice (some ⟨b,0,none⟩) 1 1) (u:Value) (hc:w.cell? ⟨b,0,none⟩=some u) (h1:u.oneCell'=true) (hn:(n+1)*bytes≤140737488355328) (hn2:n+1≤9007199254740992)
  (h:∀ v' w',Off w' e v' (n+1) (fun j=>if j<n then f j else u)→w'.os=w.os∧w'.tape=w.tape∧w'.output=w.output→((∃ g,v.ownBlock=some g∧v'.ownBlock=some g∧w'.heap.size=w.heap.size∧∀ k,k≠g→w'.heap[k]?=w.heap[k]?)∨(v'.ownBlock=some w.heap.size∧w'.heap.size=w.heap.size+1∧∀ k,k<w.heap.size→w'.heap[k]?=w.heap[k]?))→wpList P ops Q rest (a.put o.dst v') w'):wpList P ops Q (o :: rest) a w:=by
 have hnews:∀ j x,[u][j]?=some x→w.cell? ((⟨b,0,none⟩:Addr).add j)=some x:=by
  intro j x hj
  match j,hj with
  | 0,hj=>simp at hj;subst hj;simpa [Addr.add] using hc
 have h1':∀ x ∈ [u],x.oneCell'=true:=by intro x hx;simp at hx;subst hx;exact h1
 refine wpList_plain hgd fun _ hK=>?_
 have hml:n+1≤maxLen:=by simp only[maxLen];omega
 rcases hown with ⟨rfl,rfl⟩|⟨g,og,cap,cur,rfl,hg,hnc,hcm,hcs,hf⟩
 ·have hr:=run_append_nil (P:=P) w t o.type e i z ht hi hz ⟨b,0,none⟩ 1 1 [u] (by rw[hsize];rfl) hnews (by omega) (by omega) (by rw[hby];omega)
  have hge:=grownCap_ge w 1 0 e
  have hcm2:grownCap w 1 0 e≤maxLen:=grownCap_le_maxLen w 1 0 e hml
  refine wp_appended s x t ho _ _ hs hx _ _ hr (hK _ _ (h _ _ (.inr ⟨w.heap.size,0,_,_,rfl,heap_alloc_new w.drew _,hge,hcm2,?_,fun j hj=>?_⟩) ⟨rfl,rfl,rfl⟩ (.inr ⟨rfl,by simp,fun k hk=>heap_alloc_old w.drew _ hk⟩)))
  ·simp only[Array.size_append,List.size_toArray,size_zeroCells,hzs,List.length_singleton]
   omega
  ·have:j=0:=by omega
   subst this
   show _=some (if 0<0 then f 0 else u)
   rw[if_neg (by omega),Array.getElem?_append_left (by simp)]
   rfl
 ·by_cases hroom:n+1≤cap
  ·have hcc:∀ q,w.cell? ⟨g,q,none⟩=cur[q]?:=by intro q;simp [World.cell?,hg]
   have hr:=run_append_room_cells (P:=P) w t o.type e i ht hi g og n cap ⟨b,0,none⟩ 1 1 [u] (by rw[hsize];rfl) hnews h1' hroom (fun j hj=>by
     rw[hcc,hsize,Array.getElem?_eq_getElem (by simp at hj;omega)];rfl) (fun j hj=>by simp only[World.frozen?,hg];simp)
   rw[hsize,Nat.mul_one] at hr
   have hw:w.setCells g (og+n) [u]=w.setCell ⟨g,og+n,none⟩ u:=rfl
   rw[hw] at hr
   have hb:=setCell_block w g (og+n) u cur e (0,0) hg
   have hsz:(w.setCell ⟨g,og+n,none⟩ u).heap.size=w.heap.size:=by simp
   refine wp_appended s x t ho _ _ hs hx _ _ hr (hK _ _ (h _ _ (.inr ⟨g,og,cap,_,rfl,hb,hroom,hcm,by rw[Array.size_setIfInBounds];exact hcs,fun j hj=>?_⟩) ⟨rfl,rfl,rfl⟩ (.inl ⟨g,rfl,rfl,hsz,fun k hk=>setCell_else w g (og+n) k u hk⟩)))
   rw[Array.getElem?_setIfInBounds]
   show _=some (if j<n then f j else u)
   by_cases e1:j<n
   ·rw[if_neg (by omega),if_pos e1];exact hf j e1
   ·rw[if_pos (by omega),if_neg e1,if_pos (by omega)]
  ·have hol:((cur.toList.drop og).take n).length=n:=by simp;omega
   have holds:∀ j x,((cur.toList.drop og).take n)[j]?=some x→w.cell? ((⟨g,og,none⟩:Addr).add j)=some x:=by
    intro j x hj
    have hadd:(⟨g,og,none⟩:Addr).add j=⟨g,og+j,none⟩:=by unfold Addr.add;split <;> simp_all
    rw[hadd]
    simp only[World.cell?,hg]
    rw[List.getElem?_take] at hj
    split at hj
    ·rw[List.getElem?_drop] at hj;simpa using hj
    ·cases hj
   have hr:=run_append_grow (P:=P) w t o.type e i z ht hi hz ⟨g,og,none⟩ n cap ((cur.toList.drop og).take n) (by rw[hol,hsize];omega) holds ⟨b,0,none⟩ 1 1 [u] (by rw[hsize];rfl) hnews (by omega) (by omega) (by rw[hby];exact growslice_fits (by omega) hn)
   have hge:=grownCap_ge w (n+1) cap e
   have hcm2:grownCap w (n+1) cap e≤maxLen:=grownCap_le_maxLen w (n+1) cap e hml
   refine wp_appended s x t ho _ _ hs hx _ _ hr (hK _ _ (h _ _ (.inr ⟨w.heap.size,0,_,_,rfl,heap_alloc_new w.drew _,hge,hcm2,?_,fun j hj=>?_⟩) ⟨rfl,rfl,rfl⟩ (.inr ⟨rfl,by simp,fun k hk=>heap_alloc_old w.drew _ hk⟩)))
   ·simp only[Array.size_append,List.size_toArray,size_zeroCells,hzs,hol,List.length_singleton]
    omega
   ·rw[Nat.zero_add,Array.getElem?_append_left (by simp;omega)]
    show _=some (if j<n then f j else u)
    by_cases e1:j<n
    ·rw[if_pos e1,← hf j e1,Array.getElem?_append_left (by simp;omega),List.getElem?_toArray,List.getElem?_take,if_pos e1,List.getElem?_drop]
     simp
    ·have:j=n:=by omega
     subst this
     rw[if_neg (by omega),Array.getElem?_append_right (by simp;omega)]
     simp [hol]
end Go.Proofs.YtnfbaapbpgbgpaaGreat
