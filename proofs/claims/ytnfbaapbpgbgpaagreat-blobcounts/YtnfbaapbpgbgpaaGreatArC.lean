import Derived.Test.YtnfbaapbpgbgpaaGreatArB
import Derived.BigQuiet
import Derived.Deep.RegionHeld3
namespace Go.Proofs.YtnfbaapbpgbgpaaGreat
open Go.ChangeShapes Go.WideShapes Go.ChangeAt Go.RowKit
set_option linter.unusedVariables false
set_option maxRecDepth 100000
set_option maxHeartbeats 2000000
theorem But.over {B C:List Nat}{w w':World} (h:But B w w') (hs:∀ x∈B,x∈C):But C w w':=⟨h.os,h.tape,h.output,h.size,fun j hj hn=>h.block j hj (fun hm=>hn (hs j hm))⟩
def movedRes (ws:List Nat) (hs:List Bool) (used:Nat) (at':Int):Nat × Bool × Nat:=
 if 1≤at'∧at'<used∧hs.getD at'.toNat false=true then
  (if 9223372036854775808≤ws.getD at'.toNat 0 then (ws.getD at'.toNat 0-9223372036854775808,true,0) else (0,false,0))
 else (0,false,23)
theorem low_bits (x:Nat) (hx:x<18446744073709551616) (hm:9223372036854775808≤x):bits BinOp.andNot IntKind.u64 (x:Int) 9223372036854775808=((x-9223372036854775808:Nat):Int):=by
 have h:=u64_andNot_nat x 9223372036854775808 hx (by decide)
 have e:bits BinOp.andNot IntKind.u64 (x:Int) 9223372036854775808=((x &&& (18446744073709551615-9223372036854775808):Nat):Int):=h
 rw[e]
 have e2:(18446744073709551615-9223372036854775808:Nat)=2 ^ 63-1:=by decide
 rw[e2,Nat.and_two_pow_sub_one_eq_mod]
 have:x%2 ^ 63=x-9223372036854775808:=by omega
 rw[this]
theorem movedcall_any {p bw bh:Nat}{ws:List Nat}{hs:List Bool}{used:Nat} (at':Int) (w:World) (h:Ar w p bw bh ws hs used):
  Calls Tryz.prog 167 #[.pointer (some ⟨p,0,none⟩),.int .i64 at'] w fun e w'=>e=.returned (.tuple #[.int .i64 ((movedRes ws hs used at').1:Nat),.bool (movedRes ws hs used at').2.1,.int .i64 ((movedRes ws hs used at').2.2:Nat)])∧w'=w:=by
 unfold movedRes
 by_cases hb:1≤at'∧at'<used∧hs.getD at'.toNat false=true
 ·rw[if_pos hb]
  obtain ⟨k,rfl⟩:=Int.eq_ofNat_of_zero_le (show (0:Int)≤at' by omega)
  have HB:=hide (begins_yes k w h hb)
  rw[Int.toNat_natCast] at hb ⊢
  have hlt:k<ws.length:=by have:=h.u2;omega
  have hk:=h.ww k hlt
  have c0:=h.c0
  have hx:=h.small k hlt
  have hz:=h.sz
  obtain ⟨x,hxe⟩:∃ x,x=ws.getD k 0:=⟨_,rfl⟩
  rw[← hxe] at hk hx ⊢
  have HM:=hide (moved_any x hx w)
  by_cases hm:9223372036854775808≤x
  ·rw[if_pos hm]
   rw[decide_eq_true hm] at HM
   have HLB:=hide (low_bits x hx hm)
   have hsub:wrap64 ((x-9223372036854775808:Nat):Int)=((x-9223372036854775808:Nat):Int):=by unfold wrap64;omega
   have HSB:=hide hsub
   clear h hb hxe hsub
   go_enter Tryz.func167,Tryz.ntmps167
   go_wp2_with fail
   refine (unhide HB).mono ?_
   rintro e w' ⟨rfl,hw'⟩
   obtain rfl:=hw'.symm
   go_wp2_with fail
   refine (unhide HM).mono ?_
   rintro e w' ⟨rfl,hw'⟩
   obtain rfl:=hw'.symm
   go_wp2
   rw[unhide HLB,unhide HSB]
   go_ret3
   exact ⟨rfl,rfl⟩
  ·rw[if_neg hm]
   rw[decide_eq_false hm] at HM
   clear h hb hxe
   go_enter Tryz.func167,Tryz.ntmps167
   go_wp2_with fail
   refine (unhide HB).mono ?_
   rintro e w' ⟨rfl,hw'⟩
   obtain rfl:=hw'.symm
   go_wp2_with fail
   refine (unhide HM).mono ?_
   rintro e w' ⟨rfl,hw'⟩
   obtain rfl:=hw'.symm
   go_wp2
   go_ret3
   exact ⟨rfl,rfl⟩
 ·rw[if_neg hb]
  have HB:=hide (begins_no at' w h hb)
  clear h hb
  go_enter Tryz.func167,Tryz.ntmps167
  go_wp2_with fail
  refine (unhide HB).mono ?_
  rintro e w' ⟨rfl,hw'⟩
  obtain rfl:=hw'.symm
  go_wp2
  go_ret3
  exact ⟨rfl,rfl⟩
theorem or_top (u:Nat) (hu:u<9223372036854775808):bits BinOp.or IntKind.u64 9223372036854775808 (u:Int)=((9223372036854775808+u:Nat):Int):=by
 have h:=u64_or_nat 9223372036854775808 u (by decide) (by omega)
 have e:bits BinOp.or IntKind.u64 9223372036854775808 (u:Int)=((9223372036854775808 ||| u:Nat):Int):=h
 rw[e]
 have:9223372036854775808 ||| u=9223372036854775808+u:=nat_join 63 _ _ (by decide) hu
 rw[this]
theorem take_not {ps bs hb:Nat}{ws:List Nat}{hs:List Bool}{us:Nat} (dst:Value) (at':Int) (w:World) (h:Ar w ps bs hb ws hs us) (hm:(movedRes ws hs us at').2.1=true∨(movedRes ws hs us at').2.2≠0):
  Calls Tryz.prog 148 #[dst,.pointer (some ⟨ps,0,none⟩),.int .i64 at'] w fun e w'=>e=.returned (.tuple #[.int .i64 ((movedRes ws hs us at').1:Nat),.int .i64 ((movedRes ws hs us at').2.2:Nat)])∧w'=w:=by
 have HM:=hide (movedcall_any at' w h)
 generalize (movedRes ws hs us at').1=tto at *
 generalize (movedRes ws hs us at').2.1=mv at *
 generalize (movedRes ws hs us at').2.2=f at *
 clear h
 by_cases hf:f=0
 ·subst hf
  have hmv:mv=true:=by rcases hm with h|h;exact h;exact absurd rfl h
  subst hmv
  clear hm
  go_enter Tryz.func148,Tryz.ntmps148
  go_wp2_with fail
  refine (unhide HM).mono ?_
  rintro e w' ⟨rfl,hw'⟩
  obtain rfl:=hw'.symm
  go_wp2
  go_ret2
  exact ⟨rfl,rfl⟩
 ·have e1:((f:Int) == 0)=false:=by rw[beq_eq_false_iff_ne];omega
  clear hm
  go_enter Tryz.func148,Tryz.ntmps148
  go_wp2_with fail
  refine (unhide HM).mono ?_
  rintro e w' ⟨rfl,hw'⟩
  obtain rfl:=hw'.symm
  go_wp2
  go_ret2
  exact ⟨rfl,rfl⟩
theorem movedRes_not {ws:List Nat}{hs:List Bool}{us k kd r s:Nat} (h:objRes ws hs us k=(kd,r,s,0)):movedRes ws hs us k=(0,false,0)∧1≤k∧k<us∧hs.getD k false=true∧ws.getD k 0<9223372036854775808:=by
 unfold objRes at h
 unfold movedRes
 by_cases hb:1≤(k:Int)∧(k:Int)<us∧hs.getD (k:Int).toNat false=true
 ·rw[if_pos hb] at h ⊢
  by_cases hm:9223372036854775808≤ws.getD (k:Int).toNat 0
  ·rw[if_pos hm] at h;cases h
  ·rw[if_neg hm]
   rw[Int.toNat_natCast] at hb hm
   exact ⟨rfl,by omega,by omega,hb.2.2,by omega⟩
 ·rw[if_neg hb] at h;cases h
theorem take_yes {p bw bh:Nat}{wd:List Nat}{hd:List Bool}{ud:Nat}{ps bs hb:Nat}{ws:List Nat}{hs:List Bool}{us:Nat} (k kd r s:Nat) (w:World) (hd0:Ar w p bw bh wd hd ud) (h:Ar w ps bs hb ws hs us) (hh:Heads ws hs us) (h1:ps ∉ [p,bh,bw]) (h2:bs ∉ [p,bh,bw]) (h3:hb ∉ [p,bh,bw]) (ho:objRes ws hs us k=(kd,r,s,0)) (hn:ud+(1+r+s)≤wd.length):
  Calls Tryz.prog 148 #[.pointer (some ⟨p,0,none⟩),.pointer (some ⟨ps,0,none⟩),.int .i64 k] w fun e w'=>e=.returned (.tuple #[.int .i64 ud,.int .i64 0])∧Ar w' p bw bh (patch wd ud (runL ws k (1+r+s))) (mark hd ud (1+r+s)) (ud+(1+r+s))∧Ar w' ps bs hb (ws.set k (9223372036854775808+ud)) hs us∧But [p,bh,bw,bs] w w':=by
 have HM:=hide (movedcall_any k w h)
 obtain ⟨hmr,hk1,hk2,hk3,hk4⟩:=movedRes_not ho
 rw[hmr] at HM
 have HF:=hide (fields_yes k w h hh (by rw[ho]))
 rw[ho] at HF
 have hu:=h.u2
 have hz:=h.sz
 have hzd:=hd0.sz
 obtain ⟨n,hnn⟩:∃ n,n=1+r+s:=⟨_,rfl⟩
 have HGR:Hid (∀ w',Below w.heap.size w w'→Calls Tryz.prog 152 #[.pointer (some ⟨p,0,none⟩),.int .i64 (1+((r+s:Nat):Int))] w' fun e w''=>e=.returned (.tuple #[.int .i64 ud,.slice (some ⟨bw,ud,none⟩) n n,.int .i64 0])∧Ar w'' p bw bh wd (mark hd ud n) (ud+n)∧But [p,bh] w' w''):=hide (fun w' hb=>by
  have h1:=grow_yes n w' (hd0.below hb) (by omega) (by omega)
  rw[show ((n:Nat):Int)=1+((r+s:Nat):Int) from by omega] at h1
  exact h1)
 have HH:=hide h
 have hn1:1≤n:=by omega
 have hrs:((r+s:Nat):Int)=(n:Int)-1:=by omega
 have hkn:k+1+r+s≤us→k+n≤us:=by omega
 have hne:=h.ne1
 rw[← hnn] at hn ⊢
 have HNN:=hide hnn
 clear h hh ho hmr hd0 hnn
 dsimp only at HM HF
 have hms:∃ m,m=r+s:=⟨_,rfl⟩
 obtain ⟨m,hm⟩:=hms
 rw[← hm] at HF HGR hrs
 have hmn:m=n-1:=by omega
 have HMN:=hide hmn
 clear hmn hm
 go_enter Tryz.func148,Tryz.ntmps148
 go_wp2_with fail
 refine (unhide HM).mono ?_
 rintro e w' ⟨rfl,hw'⟩
 obtain rfl:=hw'.symm
 go_wp2_with fail
 refine (unhide HF).mono ?_
 rintro e w1 ⟨⟨off,rfl,hoff⟩,hb1,hfit⟩
 have HC:=hide (unhide HGR w1 hb1)
 have hfit2:=hkn hfit
 have hn20:n≤1048576:=by omega
 have hm20:m≤1048576:=by have:=unhide HMN;omega
 have HRS:=hide hrs
 clear hoff hkn hrs
 go_wp2_with fail
 refine (unhide HC).mono ?_
 rintro e w2 ⟨rfl,hA2,hB2⟩
 have hS2:=((unhide HH).below hb1).but hB2 (fun h=>h1 (by simp at h ⊢;omega)) (fun h=>h2 (by simp at h ⊢;omega)) (fun h=>h3 (by simp at h ⊢;omega))
 have hul:ud+n≤wd.length:=hn
 have HSP:Hid (Calls Tryz.prog 169 #[.pointer (some ⟨ps,0,none⟩),.int .i64 k,.int .i64 (1+(m:Int))] w2 fun e w'=>(∃ off,e=.returned (.slice (some ⟨bs,off,none⟩) n n)∧(0<n→off=k))∧w'=w2):=hide (by
  have h1:=span_any k n w2 hS2 (by omega)
  rw[show (1+(m:Int))=(n:Int) from by have:=unhide HRS;omega]
  exact h1)
 have hc:(Builtin.copy_ #[61,61] 3 #[.slice (some ⟨bw,ud,none⟩) n n,.slice (some ⟨bs,k,none⟩) n n]).run Tryz.prog w2=.ok (goInt n) (w2.setCells bw ud (wcells (runL ws k n))):=by
  have h1:=run_copy_cells (P:=Tryz.prog) w2 61 61 3 33 bw ud n n ⟨bs,k,none⟩ n n (wcells (runL ws k n)) Tryz.underlying61 size36 (by rw[wcells_length,runL_length];show _=min _ _;omega)
   (fun j v hv=>by
    have hj:j<n:=by have:=(List.getElem?_eq_some_iff.1 hv).1;rwa [wcells_length,runL_length] at this
    rw[wcells_at _ j (by rw[runL_length];exact hj),runL_at _ _ _ _ hj] at hv
    rw[add_plain,← hv]
    exact hS2.ww _ (by omega))
   (fun j hj=>by rw[wcells_length,runL_length] at hj;rw[hA2.ww _ (by omega)];rfl) (fun j hj=>by rw[wcells_length,runL_length] at hj;exact hA2.wf _ (by omega)) (wcells_one _)
  rw[wcells_length,runL_length] at h1
  exact h1
 have hsm:∀ i,i<(runL ws k n).length→(runL ws k n).getD i 0<18446744073709551616:=fun i hi=>by
  rw[runL_length] at hi
  rw[runL_at _ _ _ _ hi]
  exact hS2.small _ (by omega)
 have hA3:=hA2.puts ud (runL ws k n) (by rw[runL_length];omega) hsm
 have hb3:But [bw] w2 (w2.setCells bw ud (wcells (runL ws k n))):=But.sets bw (by simp) _ _ _ (But.refl _ _)
 obtain ⟨w3,hw3⟩:∃ w3,w3=w2.setCells bw ud (wcells (runL ws k n)):=⟨_,rfl⟩
 rw[← hw3] at hc hA3 hb3
 have hS3:=hS2.but hb3 (fun h=>h1 (by simp at h ⊢;omega)) (fun h=>h2 (by simp at h ⊢;omega)) (fun h=>h3 (by simp at h ⊢;omega))
 have c0:=hS3.c0
 have ck:=hS3.ww k (by omega)
 have cf:=hS3.wf k (by omega)
 have HBU:=hide ((But.of_below (B:=[p,bh,bw,bs]) hb1).trans ((hB2.over (by simp)).trans (hb3.over (by simp))))
 have HOT:=hide (or_top ud (by omega))
 have HS3:=hide hS3
 have HA3:=hide hA3
 generalize ws.getD k 0=old at *
 have ew:IntKind.u64.wrap (ud:Int)=(ud:Int):=by rw[IntKind.wrap_u64];omega
 have hkl:k<ws.length:=by omega
 have z0:(0:Int)≤(k:Int):=by omega
 have z1:(k:Int)<(ws.length:Int):=by omega
 clear hA2 hB2 hA3 hS3 hS2 hb1 hb3 hsm hw3 HGR HC HF HM HH
 go_wp2_with fail
 refine (unhide HSP).mono ?_
 rintro e w' ⟨⟨off2,rfl,hoff2⟩,hw'⟩
 obtain rfl:=hw'.symm
 have ho2:=hoff2 (by omega)
 subst ho2
 clear hoff2
 go_wp2
 rw[unhide HOT]
 have hb4:But [bs] w3 (w3.setCell ⟨bs,off2,none⟩ (.int .u64 ((9223372036854775808+ud:Nat):Int))):=(But.refl _ _).set ⟨bs,off2,none⟩ (by simp) _
 have hS4:=(unhide HS3).put off2 (9223372036854775808+ud) hkl (by omega)
 have hA4:=(unhide HA3).but hb4 (fun h=>h2 (by simp at h ⊢;omega)) (fun h=>h2 (by simp at h ⊢;omega)) (fun h=>h2 (by simp at h ⊢;omega))
 have hB4:=(unhide HBU).trans (hb4.over (by simp))
 go_ret2
 exact ⟨rfl,hA4,hS4,hB4⟩
set_option maxHeartbeats 8000000
def refsOf (L:List (Nat × Nat × Nat)) (i:Nat):Nat:=(L.getD i (0,0,0)).2.1
def fldsOf (L:List (Nat × Nat × Nat)) (i:Nat):Nat:=(L.getD i (0,0,0)).2.1+(L.getD i (0,0,0)).2.2
def refTo (L:List (Nat × Nat × Nat)):Option Nat→Nat
 | none=>0
 | some t=>place L t
def fieldOf (L:List (Nat × Nat × Nat)) (E:List (List Int)) (i f:Nat):Nat:=if f<refsOf L i then refTo L (edgeN E L.length i f) else rawN i (f-refsOf L i)
def Part (L:List (Nat × Nat × Nat)) (E:List (List Int)) (i c:Nat) (ws:List Nat):Prop:=∀ j f,j<L.length→f<fldsOf L j→ws.getD (place L j+1+f) 0=if j<i∨(j=i∧f<c) then fieldOf L E j f else 0
structure GrAt (w0 w:World) (p bw bh:Nat) (L:List (Nat × Nat × Nat)) (E:List (List Int)) (hs:List Bool) (i c:Nat) (ws:List Nat):Prop where
 ar:Ar w p bw bh ws hs (place L L.length)
 len:ws.length=place L L.length
 kept:Kept L ws hs
 part:Part L E i c ws
 but:But [bw] w0 w
set_option maxHeartbeats 2000000
theorem wp_appended {P:Program}{w:World}{o:Oper}{a:Act}{K:Act→World→Prop}{Q:Exit→Act→World→Prop} (s x:Operand) (t:TypeId) (ho:o.op=.call { callee:=.builtin .append,args:=#[s,x],argTypes:=#[t,t] }) (v vx:Value) (hs:a.eval s=v) (hx:a.eval x=vx) (v':Value) (w':World) (hr:(Builtin.append_ #[t,t] o.type #[v,vx]).run P w=.ok v' w') (h:K (a.put o.dst v') w'):o.wp P a w K Q:=by
 unfold Oper.wp execOp
 simp only[ho,resolve,invoke,builtin,Sem.run_bind,Sem.run_pure,Result.andThen_ok,List.map_toArray,List.map_cons,List.map_nil,hs,hx,hr]
 exact h
def lenOf:Value→Nat
 | .slice _ n _=>n
 | _=>0
def Line (w:World) (e:TypeId) (v:Value) (n:Nat) (f:Nat→Value):Prop:=
 (v=.slice none 0 0∧n=0)∨∃ g cap cur,v=.slice (some ⟨g,0,none⟩) n cap∧w.heap[g]?=some (.cells cur e (0,0))∧n≤cap∧cap≤maxLen∧cur.size=cap∧∀ j,j<n→cur[j]?=some (f j)
theorem Line.same {w w':World}{e:TypeId}{v:Value}{n:Nat}{f:Nat→Value} (h:Line w e v n f) (hb:∀ g,v.ownBlock=some g→w'.heap[g]?=w.heap[g]?):Line w' e v n f:=by
 rcases h with h|⟨g,cap,cur,rfl,hg,r⟩
 ·exact .inl h
 ·exact .inr ⟨g,cap,cur,rfl,by rw[hb g rfl];exact hg,r⟩
theorem Line.lt {w:World}{e:TypeId}{v:Value}{n:Nat}{f:Nat→Value} (h:Line w e v n f):∀ g,v.ownBlock=some g→g<w.heap.size:=by
 intro k hk
 rcases h with ⟨rfl,_⟩|⟨g,cap,cur,rfl,hg,r⟩
 ·simp [Value.ownBlock] at hk
 ·simp [Value.ownBlock] at hk
  subst hk
  exact (Array.getElem?_eq_some_iff.1 hg).1
theorem Line.shape {w:World}{e:TypeId}{v:Value}{n:Nat}{f:Nat→Value} (h:Line w e v n f):∃ a cap,v=.slice a n cap:=by
 rcases h with ⟨rfl,h0⟩|⟨g,cap,cur,rfl,hg,r⟩
 ·exact ⟨none,0,by rw[h0]⟩
 ·exact ⟨_,cap,rfl⟩
theorem Line.at {w:World}{e:TypeId}{v:Value}{n:Nat}{f:Nat→Value} (h:Line w e v n f) (hn:0<n):∃ g cap,v=.slice (some ⟨g,0,none⟩) n cap∧v.ownBlock=some g∧∀ j,j<n→w.cell? ⟨g,j,none⟩=some (f j)∧w.frozen? ⟨g,j,none⟩=false:=by
 rcases h with ⟨rfl,h0⟩|⟨g,cap,cur,rfl,hg,hn,hc,hs,hf⟩
 ·omega
 ·refine ⟨g,cap,rfl,rfl,fun j hj=>⟨?_,?_⟩⟩
  ·simp only[World.cell?,hg]
   exact hf j hj
  ·simp only[World.frozen?,hg]
   simp
theorem Line.congr {w:World}{e:TypeId}{v:Value}{n:Nat}{f f':Nat→Value} (h:Line w e v n f) (hf:∀ j,j<n→f j=f' j):Line w e v n f':=by
 rcases h with h|⟨g,cap,cur,rfl,hg,hn,hc,hs,hh⟩
 ·exact .inl h
 ·exact .inr ⟨g,cap,cur,rfl,hg,hn,hc,hs,fun j hj=>by rw[hh j hj,hf j hj]⟩
theorem setCell_block (w:World) (g k:Nat) (u:Value) (cur:Array Value) (e:TypeId) (fr:Nat × Nat) (hg:w.heap[g]?=some (.cells cur e fr)):(w.setCell ⟨g,k,none⟩ u).heap[g]?=some (.cells (cur.setIfInBounds k u) e fr):=by
 simp only[World.setCell,Array.getElem?_modify,if_true,hg,Option.map_some]
 rfl
theorem setCell_else (w:World) (g k j:Nat) (u:Value) (h:j≠g):(w.setCell ⟨g,k,none⟩ u).heap[j]?=w.heap[j]?:=by
 simp [World.setCell,Array.getElem?_modify,Ne.symm h]
theorem Line.put {w:World}{e:TypeId}{v:Value}{n:Nat}{f:Nat→Value} (h:Line w e v n f) {g:Nat} (hg:v.ownBlock=some g) (k:Nat) (u:Value) (hk:k<n):Line (w.setCell ⟨g,k,none⟩ u) e v n (fun j=>if j=k then u else f j):=by
 rcases h with ⟨rfl,h0⟩|⟨g',cap,cur,rfl,hg',hn,hc,hs,hh⟩
 ·omega
 ·simp [Value.ownBlock] at hg
  subst hg
  refine .inr ⟨g',cap,cur.setIfInBounds k u,rfl,setCell_block w g' k u cur e _ hg',hn,hc,by simpa using hs,fun j hj=>?_⟩
  rw[Array.getElem?_setIfInBounds]
  show _=some (if j=k then u else f j)
  by_cases e1:k=j
  ·subst e1
   rw[if_pos rfl,if_pos (by omega),if_pos rfl]
  ·rw[if_neg e1,if_neg (fun h=>e1 h.symm),hh j hj]
structure Grew (e:TypeId) (n:Nat) (u:Value) (w w':World) (v v':Value):Prop where
 os:w'.os=w.os
 tape:w'.tape=w.tape
 output:w'.output=w.output
 how:(∃ g cur,v.ownBlock=some g∧v'.ownBlock=some g∧w.heap[g]?=some (.cells cur e (0,0))∧(∃ cur',w'.heap[g]?=some (.cells cur' e (0,0))∧cur'.size=cur.size∧cur'[n]?=some u∧∀ j,j≠n→cur'[j]?=cur[j]?)∧w'.heap.size=w.heap.size∧∀ k,k≠g→w'.heap[k]?=w.heap[k]?)∨
  (v'.ownBlock=some w.heap.size∧w'.heap.size=w.heap.size+1∧∀ k,k<w.heap.size→w'.heap[k]?=w.heap[k]?)
theorem Grew.size {e:TypeId}{n:Nat}{u:Value}{w w':World}{v v':Value} (h:Grew e n u w w' v v'):w.heap.size≤w'.heap.size:=by
 rcases h.how with ⟨g,cur,_,_,_,_,hs,_⟩|⟨_,hs,_⟩ <;> omega
theorem Grew.other {e:TypeId}{n:Nat}{u:Value}{w w':World}{v v':Value} (h:Grew e n u w w' v v') (k:Nat) (hk:k<w.heap.size) (hv:v.ownBlock≠some k):w'.heap[k]?=w.heap[k]?:=by
 rcases h.how with ⟨g,cur,h1,_,_,_,_,hb⟩|⟨_,_,hb⟩
 ·exact hb k (fun e=>hv (by rw[h1,e]))
 ·exact hb k hk
theorem append_line {P:Program}{w:World}{ops:Array Oper}{rest:List Oper}{o:Oper}{a:Act}{Q:Exit→Act→World→Prop} (hgd:o.guard=none) (s x:Operand) (t:TypeId) (ho:o.op=.call { callee:=.builtin .append,args:=#[s,x],argTypes:=#[t,t] })
  (e:TypeId) (i:TypeInfo) (z:Value) (bytes:Nat) (ht:P.underlying t=some (.slice e)) (hi:P.info? e=some i) (hz:i.zero=some z) (hsize:i.size=1) (hby:i.bytes=bytes) (hzs:z.cells.size=1)
  (v:Value) (n:Nat) (f:Nat→Value) (hs:a.eval s=v) (hown:Line w e v n f) (b:Nat) (hx:a.eval x=.slice (some ⟨b,0,none⟩) 1 1) (u:Value) (hc:w.cell? ⟨b,0,none⟩=some u) (h1:u.oneCell'=true) (hn:(n+1)*bytes≤140737488355328) (hn2:n+1≤9007199254740992)
  (h:∀ v' w',Line w' e v' (n+1) (fun j=>if j<n then f j else u)→Grew e n u w w' v v'→wpList P ops Q rest (a.put o.dst v') w'):wpList P ops Q (o :: rest) a w:=by
 have hnews:∀ j x,[u][j]?=some x→w.cell? ((⟨b,0,none⟩:Addr).add j)=some x:=by
  intro j x hj
  match j,hj with
  | 0,hj=>simp at hj;subst hj;simpa [Addr.add] using hc
 have h1':∀ x ∈ [u],x.oneCell'=true:=by intro x hx;simp at hx;subst hx;exact h1
 refine wpList_plain hgd fun _ hK=>?_
 have hml:n+1≤maxLen:=by simp only[maxLen];omega
 rcases hown with ⟨rfl,rfl⟩|⟨g,cap,cur,rfl,hg,hnc,hcm,hcs,hf⟩
 ·have hr:=run_append_nil (P:=P) w t o.type e i z ht hi hz ⟨b,0,none⟩ 1 1 [u] (by rw[hsize];rfl) hnews (by omega) (by omega) (by rw[hby];omega)
  have hge:=grownCap_ge w 1 0 e
  have hcm2:grownCap w 1 0 e≤maxLen:=grownCap_le_maxLen w 1 0 e hml
  refine wp_appended s x t ho _ _ hs hx _ _ hr (hK _ _ (h _ _ (.inr ⟨w.heap.size,_,_,rfl,heap_alloc_new w.drew _,hge,hcm2,?_,fun j hj=>?_⟩) ⟨rfl,rfl,rfl,.inr ⟨rfl,by simp,fun k hk=>heap_alloc_old w.drew _ hk⟩⟩))
  ·simp only[Array.size_append,List.size_toArray,size_zeroCells,hzs,List.length_singleton]
   omega
  ·have:j=0:=by omega
   subst this
   show _=some (if 0<0 then f 0 else u)
   rw[if_neg (by omega),Array.getElem?_append_left (by simp)]
   rfl
 ·by_cases hroom:n+1≤cap
  ·have hr:=run_append_room (P:=P) w t o.type e i ht hi g n cap cur hg ⟨b,0,none⟩ 1 1 [u] (by rw[hsize];rfl) hnews h1' hroom (by rw[hsize];simp;omega)
   rw[hsize] at hr
   have hcur:∀ j,(cur.toList.take (n*1) ++ [u]++cur.toList.drop (n*1 + [u].length)).toArray[j]?=if j=n then some u else cur[j]?:=by
    intro j
    rw[List.getElem?_toArray,Nat.mul_one,List.append_assoc]
    by_cases hlt:j<n
    ·rw[List.getElem?_append_left (by simp;omega),List.getElem?_take,if_pos hlt,if_neg (by omega)]
     simp
    ·rw[List.getElem?_append_right (by simp;omega)]
     have hl:(cur.toList.take n).length=n:=by simp;omega
     rw[hl]
     by_cases e1:j=n
     ·subst e1;rw[if_pos rfl];simp
     ·rw[if_neg e1]
      obtain ⟨d,rfl⟩:∃ d,j=n+1+d:=⟨j-n-1,by omega⟩
      rw[show n+1+d-n=d+1 by omega]
      simp [List.getElem?_drop]
   have hsz:(cur.toList.take (n*1) ++ [u]++cur.toList.drop (n*1 + [u].length)).toArray.size=cur.size:=by
    simp only[List.size_toArray,List.length_append,List.length_take,List.length_drop,Array.length_toList,List.length_singleton]
    omega
   have hblk:=setRow_heap w g cur (cur.toList.take (n*1) ++ [u]++cur.toList.drop (n*1 + [u].length)).toArray e _ hg
   generalize (cur.toList.take (n*1) ++ [u]++cur.toList.drop (n*1 + [u].length)).toArray=cur' at *
   refine wp_appended s x t ho _ _ hs hx _ _ hr (hK _ _ (h _ _ (.inr ⟨g,cap,cur',rfl,hblk,hroom,hcm,by omega,fun j hj=>?_⟩) ⟨rfl,rfl,rfl,.inl ⟨g,cur,rfl,rfl,hg,⟨cur',hblk,hsz,by rw[hcur,if_pos rfl],fun j hj=>by rw[hcur,if_neg hj]⟩,by simp [World.setRow],fun k hk=>setRow_other w g k _ hk⟩⟩))
   rw[hcur]
   show _=some (if j<n then f j else u)
   by_cases e1:j=n
   ·subst e1;rw[if_pos rfl,if_neg (by omega)]
   ·rw[if_neg e1,if_pos (by omega),hf j (by omega)]
  ·have hcl:cap=n:=by omega
   subst hcl
   have hol:(cur.toList.take cap).length=cap:=by simp;omega
   have holds:∀ j x,(cur.toList.take cap)[j]?=some x→w.cell? ((⟨g,0,none⟩:Addr).add j)=some x:=by
    intro j x hj
    have hadd:(⟨g,0,none⟩:Addr).add j=⟨g,j,none⟩:=by unfold Addr.add;split <;> simp_all
    rw[hadd]
    simp only[World.cell?,hg]
    rw[List.getElem?_take] at hj
    split at hj
    ·simpa using hj
    ·cases hj
   have hr:=run_append_grow (P:=P) w t o.type e i z ht hi hz ⟨g,0,none⟩ cap cap (cur.toList.take cap) (by rw[hsize];omega) holds ⟨b,0,none⟩ 1 1 [u] (by rw[hsize];rfl) hnews (by omega) (by omega) (by rw[hby];exact growslice_fits (by omega) hn)
   have hge:=grownCap_ge w (cap+1) cap e
   have hcm2:grownCap w (cap+1) cap e≤maxLen:=grownCap_le_maxLen w (cap+1) cap e hml
   refine wp_appended s x t ho _ _ hs hx _ _ hr (hK _ _ (h _ _ (.inr ⟨w.heap.size,_,_,rfl,heap_alloc_new w.drew _,hge,hcm2,?_,fun j hj=>?_⟩) ⟨rfl,rfl,rfl,.inr ⟨rfl,by simp,fun k hk=>heap_alloc_old w.drew _ hk⟩⟩))
   ·simp only[Array.size_append,List.size_toArray,size_zeroCells,hzs,hol,List.length_singleton]
    omega
   ·rw[Array.getElem?_append_left (by simp;omega)]
    show _=some (if j<cap then f j else u)
    by_cases e1:j<cap
    ·rw[if_pos e1,← hf j e1,Array.getElem?_append_left (by simp;omega),List.getElem?_toArray,List.getElem?_take,if_pos e1]
     simp
    ·have:j=cap:=by omega
     subst this
     rw[if_neg (by omega),Array.getElem?_append_right (by simp;omega)]
     simp [hol]
def offOf:Value→Nat
 | .slice (some a) _ _=>a.off
 | _=>0
def Span (w:World) (e:TypeId) (v:Value) (n:Nat) (f:Nat→Value):Prop:=
 Line w e v n f∨(∃ g o cur,o≠0∧v=.slice (some ⟨g,o,none⟩) n n∧w.heap[g]?=some (.cells cur e (0,0))∧n≤maxLen∧o+n≤cur.size∧∀ j,j<n→cur[o+j]?=some (f j))∨∃ g x,n=0∧v=.slice (some ⟨g,0,none⟩) 0 0∧w.heap[g]?=some x
def code (m c:Nat) (v:Value):Nat:=if offOf v=0 then 10+2*m+c else 5+c
theorem Span.lt {w:World}{e:TypeId}{v:Value}{n:Nat}{f:Nat→Value} (h:Span w e v n f):∀ g,v.ownBlock=some g→g<w.heap.size:=by
 intro k hk
 rcases h with h|⟨g,o,cur,h0,rfl,hg,r⟩|⟨g,x,h0,rfl,hg⟩
 ·exact h.lt k hk
 ·simp [Value.ownBlock] at hk
  subst hk
  exact (Array.getElem?_eq_some_iff.1 hg).1
 ·simp [Value.ownBlock] at hk
  subst hk
  exact (Array.getElem?_eq_some_iff.1 hg).1
theorem Span.congr {w:World}{e:TypeId}{v:Value}{n:Nat}{f f':Nat→Value} (h:Span w e v n f) (hf:∀ j,j<n→f j=f' j):Span w e v n f':=by
 rcases h with h|⟨g,o,cur,h0,rfl,hg,h1,h2,hh⟩|h
 ·exact .inl (h.congr hf)
 ·exact .inr (.inl ⟨g,o,cur,h0,rfl,hg,h1,h2,fun j hj=>by rw[hh j hj,hf j hj]⟩)
 ·exact .inr (.inr h)
theorem Span.at {w:World}{e:TypeId}{v:Value}{n:Nat}{f:Nat→Value} (h:Span w e v n f) (hn:0<n):∃ g o cap,v=.slice (some ⟨g,o,none⟩) n cap∧v.ownBlock=some g∧∀ j,j<n→w.cell? ⟨g,o+j,none⟩=some (f j)∧w.frozen? ⟨g,o+j,none⟩=false:=by
 rcases h with h|⟨g,o,cur,h0,rfl,hg,h1,h2,hh⟩|⟨g,x,h0,rfl,hg⟩
 rotate_left 2
 ·omega
 ·obtain ⟨g,cap,hv,hb,hc⟩:=h.at hn
  exact ⟨g,0,cap,hv,hb,fun j hj=>by rw[Nat.zero_add];exact hc j hj⟩
 ·refine ⟨g,o,n,rfl,rfl,fun j hj=>⟨?_,?_⟩⟩
  ·simp only[World.cell?,hg]
   exact hh j hj
  ·simp only[World.frozen?,hg]
   simp
set_option maxHeartbeats 4000000
def atN (n k:Nat):Nat:=if k%2=0 then 1+n%251 else 1+(7*n+n / 251)%251
def wmN (m:Nat):Nat:=m*1099511627776
def intV (n:Nat):Value:=.int .i64 (n:Int)
structure HalfSt where
 v:Value
 o:Value
 L:List Value
 M:List Nat
 n:Nat
structure Half (c:Nat) (te tl:TypeId) (mk:Nat→Nat→Value) (w:World) (tag:Nat→Nat) (T:Nat) (H:HalfSt):Prop where
 rl:Line w tl H.v H.L.length (fun j=>H.L.getD j undef)
 ro:Line w 3 H.o H.M.length (fun j=>intV (H.M.getD j 0))
 tl':∀ g,H.v.ownBlock=some g→tag g=1+2*c
 to':∀ g,H.o.ownBlock=some g→tag g=2+2*c
 ent:∀ j,j<H.M.length→Span w te (H.L.getD j undef) (lenOf (H.L.getD j undef)) (mk (H.M.getD j 0))∧(∀ g,(H.L.getD j undef).ownBlock=some g→tag g=code (H.M.getD j 0) c (H.L.getD j undef))∧lenOf (H.L.getD j undef)≤33554432∧H.M.getD j 0≤T
 fresh:∀ j,H.n≤j→j<H.M.length→lenOf (H.L.getD j undef)≤16777216
 le:H.M.length≤H.L.length
def Under (w:World) (tag:Nat→Nat):Prop:=∀ g,tag g≠0→g<w.heap.size
def tagAt (tag:Nat→Nat) (v:Value) (k:Nat):Nat→Nat:=fun g=>if v.ownBlock=some g then k else tag g
structure BookSt where
 b:HalfSt
 u:HalfSt
 turn:Nat
 done:Nat
 used:Nat
def nilS:Value:=.slice none 0 0
def BookSt.flds (S:BookSt):List Value:=[S.b.v,S.b.o,intV S.b.n,nilS,nilS,intV 0,S.u.v,S.u.o,intV S.u.n,nilS,nilS,intV 0,nilS,nilS,intV 0,nilS,nilS,intV 0,nilS,nilS,intV 0,nilS,nilS,intV 0,nilS,nilS,intV 0,nilS,nilS,intV 0,intV S.turn,intV S.done,intV S.used]
structure Flds (w:World) (pb o:Nat) (l:List Value):Prop where
 c:∀ i,i<33→w.cell? ⟨pb,o+i,none⟩=some (l.getD i undef)
 f:∀ i,i<33→w.frozen? ⟨pb,o+i,none⟩=false
 lt:pb<w.heap.size
def bmk (m k:Nat):Value:=.int .u8 (atN m k:Nat)
def wmk (m k:Nat):Value:=.int .u64 (wmN m:Nat)
structure BookAt (w:World) (pb o:Nat) (tag:Nat→Nat) (S:BookSt):Prop where
 fl:Flds w pb o S.flds
 hb:Half 0 5 22 bmk w tag S.turn S.b
 hu:Half 1 33 61 wmk w tag S.turn S.u
 un:Under w tag
 tp:tag pb=0
 eb:S.b.L.length=S.b.M.length
 eu:S.u.L.length=S.u.M.length
 nb:S.b.n≤S.b.M.length
 nu:S.u.n≤S.u.M.length
 cnt:1200*S.b.M.length+1200*S.u.M.length≤S.used+1080*S.b.n+1080*S.u.n
 us:S.used≤16777216
 tn:S.turn≤1000000
structure Noted (pb o:Nat) (tag tag':Nat→Nat) (w w':World):Prop where
 os:w'.os=w.os
 tape:w'.tape=w.tape
 output:w'.output=w.output
 size:w.heap.size≤w'.heap.size
 tg:∀ g,g<w.heap.size→tag' g=tag g
 blk:∀ g,g<w.heap.size→tag g=0→g≠pb→w'.heap[g]?=w.heap[g]?
 rest:∀ j,(j<o∨o+33≤j)→w'.cell? ⟨pb,j,none⟩=w.cell? ⟨pb,j,none⟩∧w'.frozen? ⟨pb,j,none⟩=w.frozen? ⟨pb,j,none⟩
structure Mid (pb o:Nat) (t0:Nat→Nat) (w0:World) (tag:Nat→Nat) (w:World) (l:List Value) (T:Nat) (B U:HalfSt):Prop where
 fl:Flds w pb o l
 len:l.length=33
 hb:Half 0 5 22 bmk w tag T B
 hu:Half 1 33 61 wmk w tag T U
 un:Under w tag
 tp:tag pb=0
 no:Noted pb o t0 tag w0 w
end Go.Proofs.YtnfbaapbpgbgpaaGreat
