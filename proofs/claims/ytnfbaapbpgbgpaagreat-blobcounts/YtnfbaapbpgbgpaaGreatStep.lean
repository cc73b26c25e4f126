import Derived.Test.YtnfbaapbpgbgpaaGreatArC
import Derived.Deep.RegionLaw
namespace Go.Proofs.YtnfbaapbpgbgpaaGreat
open Go.ChangeShapes Go.WideShapes Go.ChangeAt Go.RowKit
set_option linter.unusedVariables false
set_option maxRecDepth 100000
set_option maxHeartbeats 4000000
theorem run_append_line {P:Program}{w:World} (ty t e:TypeId) (i:TypeInfo) (z:Value) (bytes:Nat) (ht:P.underlying t=some (.slice e)) (hi:P.info? e=some i) (hz:i.zero=some z) (hsize:i.size=1) (hby:i.bytes=bytes) (hzs:z.cells.size=1)
  (v:Value) (n:Nat) (f:Nat→Value) (hown:Line w e v n f) (b:Nat) (u:Value) (hc:w.cell? ⟨b,0,none⟩=some u) (h1:u.oneCell'=true) (hn:(n+1)*bytes≤140737488355328) (hn2:n+1≤9007199254740992):
  ∃ v' w',(Builtin.append_ #[t,t] ty #[v,.slice (some ⟨b,0,none⟩) 1 1]).run P w=.ok v' w'∧Line w' e v' (n+1) (fun j=>if j<n then f j else u)∧Grew e n u w w' v v':=by
 have hnews:∀ j x,[u][j]?=some x→w.cell? ((⟨b,0,none⟩:Addr).add j)=some x:=by
  intro j x hj
  match j,hj with
  | 0,hj=>simp at hj;subst hj;simpa [Addr.add] using hc
 have h1':∀ x ∈ [u],x.oneCell'=true:=by intro x hx;simp at hx;subst hx;exact h1
 have hml:n+1≤maxLen:=by simp only[maxLen];omega
 rcases hown with ⟨rfl,rfl⟩|⟨g,cap,cur,rfl,hg,hnc,hcm,hcs,hf⟩
 ·have hr:=run_append_nil (P:=P) w t ty e i z ht hi hz ⟨b,0,none⟩ 1 1 [u] (by rw[hsize];rfl) hnews (by omega) (by omega) (by rw[hby];omega)
  have hge:=grownCap_ge w 1 0 e
  have hcm2:grownCap w 1 0 e≤maxLen:=grownCap_le_maxLen w 1 0 e hml
  refine ⟨_,_,hr,(.inr ⟨w.heap.size,_,_,rfl,heap_alloc_new w.drew _,hge,hcm2,?_,fun j hj=>?_⟩),⟨rfl,rfl,rfl,.inr ⟨rfl,by simp,fun k hk=>heap_alloc_old w.drew _ hk⟩⟩⟩
  ·simp only[Array.size_append,List.size_toArray,size_zeroCells,hzs,List.length_singleton]
   omega
  ·have:j=0:=by omega
   subst this
   show _=some (if 0<0 then f 0 else u)
   rw[if_neg (by omega),Array.getElem?_append_left (by simp)]
   rfl
 ·by_cases hroom:n+1≤cap
  ·have hr:=run_append_room (P:=P) w t ty e i ht hi g n cap cur hg ⟨b,0,none⟩ 1 1 [u] (by rw[hsize];rfl) hnews h1' hroom (by rw[hsize];simp;omega)
   rw[hsize] at hr
   have hcur:∀ j,(cur.toList.take (n*1) ++ [u]++cur.toList.drop (n*1 + [u].length)).toArray[j]?=if j=n then some u else cur[j]?:=by
    intro j
    rw[List.getElem?_toArray,Nat.mul_one,List.append_assoc]
    by_cases hlt:j<n
    ·rw[List.getElem?_append_left (by simp;omega),List.getElem?_take,if_pos hlt,if_neg (by omega)]
     simp
    ·rw[List.getElem?_append_right (by simp;omega)]
     have hl:(cur.toList.take n).length=n:=by simp;omega
     rw[hl]
     by_cases e1:j=n
     ·subst e1;rw[if_pos rfl];simp
     ·rw[if_neg e1]
      obtain ⟨d,rfl⟩:∃ d,j=n+1+d:=⟨j-n-1,by omega⟩
      rw[show n+1+d-n=d+1 by omega]
      simp [List.getElem?_drop]
   have hsz:(cur.toList.take (n*1) ++ [u]++cur.toList.drop (n*1 + [u].length)).toArray.size=cur.size:=by
    simp only[List.size_toArray,List.length_append,List.length_take,List.length_drop,Array.length_toList,List.length_singleton]
    omega
   have hblk:=setRow_heap w g cur (cur.toList.take (n*1) ++ [u]++cur.toList.drop (n*1 + [u].length)).toArray e _ hg
   generalize (cur.toList.take (n*1) ++ [u]++cur.toList.drop (n*1 + [u].length)).toArray=cur' at *
   refine ⟨_,_,hr,(.inr ⟨g,cap,cur',rfl,hblk,hroom,hcm,by omega,fun j hj=>?_⟩),⟨rfl,rfl,rfl,.inl ⟨g,cur,rfl,rfl,hg,⟨cur',hblk,hsz,by rw[hcur,if_pos rfl],fun j hj=>by rw[hcur,if_neg hj]⟩,by simp [World.setRow],fun k hk=>setRow_other w g k _ hk⟩⟩⟩
   rw[hcur]
   show _=some (if j<n then f j else u)
   by_cases e1:j=n
   ·subst e1;rw[if_pos rfl,if_neg (by omega)]
   ·rw[if_neg e1,if_pos (by omega),hf j (by omega)]
  ·have hcl:cap=n:=by omega
   subst hcl
   have hol:(cur.toList.take cap).length=cap:=by simp;omega
   have holds:∀ j x,(cur.toList.take cap)[j]?=some x→w.cell? ((⟨g,0,none⟩:Addr).add j)=some x:=by
    intro j x hj
    have hadd:(⟨g,0,none⟩:Addr).add j=⟨g,j,none⟩:=by unfold Addr.add;split <;> simp_all
    rw[hadd]
    simp only[World.cell?,hg]
    rw[List.getElem?_take] at hj
    split at hj
    ·simpa using hj
    ·cases hj
   have hr:=run_append_grow (P:=P) w t ty e i z ht hi hz ⟨g,0,none⟩ cap cap (cur.toList.take cap) (by rw[hsize];omega) holds ⟨b,0,none⟩ 1 1 [u] (by rw[hsize];rfl) hnews (by omega) (by omega) (by rw[hby];exact growslice_fits (by omega) hn)
   have hge:=grownCap_ge w (cap+1) cap e
   have hcm2:grownCap w (cap+1) cap e≤maxLen:=grownCap_le_maxLen w (cap+1) cap e hml
   refine ⟨_,_,hr,(.inr ⟨w.heap.size,_,_,rfl,heap_alloc_new w.drew _,hge,hcm2,?_,fun j hj=>?_⟩),⟨rfl,rfl,rfl,.inr ⟨rfl,by simp,fun k hk=>heap_alloc_old w.drew _ hk⟩⟩⟩
   ·simp only[Array.size_append,List.size_toArray,size_zeroCells,hzs,hol,List.length_singleton]
    omega
   ·rw[Array.getElem?_append_left (by simp;omega)]
    show _=some (if j<cap then f j else u)
    by_cases e1:j<cap
    ·rw[if_pos e1,← hf j e1,Array.getElem?_append_left (by simp;omega),List.getElem?_toArray,List.getElem?_take,if_pos e1]
     simp
    ·have:j=cap:=by omega
     subst this
     rw[if_neg (by omega),Array.getElem?_append_right (by simp;omega)]
     simp [hol]
theorem step_append_line {P:Program}{ops:Array Oper}{o:Oper}{a:Act}{w:World}{K:Act→World→Prop}{Q:Exit→Act→World→Prop}{E:Prop} (hg:o.guard=none) (s x:Operand) (t:TypeId) (ho:o.op=.call { callee:=.builtin .append,args:=#[s,x],argTypes:=#[t,t] })
  (e:TypeId) (i:TypeInfo) (z:Value) (bytes:Nat) (ht:P.underlying t=some (.slice e)) (hi:P.info? e=some i) (hz:i.zero=some z) (hsize:i.size=1) (hby:i.bytes=bytes) (hzs:z.cells.size=1)
  (v:Value) (n:Nat) (f:Nat→Value) (hs:a.eval s=v) (hown:Line w e v n f) (b:Nat) (hx:a.eval x=.slice (some ⟨b,0,none⟩) 1 1) (u:Value) (hc:w.cell? ⟨b,0,none⟩=some u) (h1:u.oneCell'=true) (hn:(n+1)*bytes≤140737488355328) (hn2:n+1≤9007199254740992)
  (h:∀ v' w',Line w' e v' (n+1) (fun j=>if j<n then f j else u)→Grew e n u w w' v v'→K (a.put o.dst v') w'):if Region.wanted o (yielded ops a.tmps)=true then Oper.wp P o a w K Q else E:=by
 have hw:Region.wanted o (yielded ops a.tmps)=true:=by simp [Region.wanted,hg]
 rw[if_pos hw]
 obtain ⟨v',w',hr,h2,h3⟩:=run_append_line (P:=P) o.type t e i z bytes ht hi hz hsize hby hzs v n f hown b u hc h1 hn hn2
 exact wp_appended s x t ho _ _ hs hx _ _ hr (h v' w' h2 h3)
end Go.Proofs.YtnfbaapbpgbgpaaGreat
