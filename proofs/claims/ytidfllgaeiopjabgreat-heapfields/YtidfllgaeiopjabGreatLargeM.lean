import Derived.Test.YtidfllgaeiopjabGreatHGet
import Derived.Test.YtidfllgaeiopjabGreatBecomeM
import Derived.Test.YtidfllgaeiopjabGreatCollB
namespace Go.Proofs.YtidfllgaeiopjabGreat
open Go.ChangeShapes Go.WideShapes Go.ChangeAt Go.RowKit
set_option linter.unusedVariables false
set_option maxRecDepth 100000
set_option maxHeartbeats 1000000
theorem wantF_ok:∀ (f u h:Nat),1≤h→(4*u≤3*wantF f u h∨wantF f u h=h*2 ^ f)∧(wantF f u h=h∨3*wantF f u h<8*u)∧h≤wantF f u h
 | 0,u,h,h1=>by unfold wantF;exact ⟨.inr (by simp),.inl rfl,Nat.le_refl _⟩
 | f+1,u,h,h1=>by
  unfold wantF
  by_cases hc:3*h<4*u
  ·rw[if_pos hc]
   obtain ⟨i1,i2,i3⟩:=wantF_ok f u (h*2) (by omega)
   refine ⟨?_,?_,by omega⟩
   ·rcases i1 with q|q
    ·exact .inl q
    ·exact .inr (by rw[q,Nat.pow_succ,Nat.mul_assoc,Nat.mul_comm 2])
   ·rcases i2 with q|q
    ·exact .inr (by rw[q];omega)
    ·exact .inr q
  ·rw[if_neg hc]
   exact ⟨.inl (by omega),.inl rfl,Nat.le_refl _⟩
theorem wantOf_ok (u:Nat) (hu:u≤4194304):4*u≤3*wantOf u∧(wantOf u=64∨3*wantOf u<8*u)∧64≤wantOf u∧wantOf u≤16777216:=by
 obtain ⟨h1,h2,h3⟩:=wantF_ok 40 u 64 (by omega)
 have e:wantOf u=wantF 40 u 64:=rfl
 rw[← e] at h1 h2 h3
 have h4:wantOf u≤16777216:=by rcases h2 with q|q <;> omega
 refine ⟨?_,h2,h3,h4⟩
 rcases h1 with q|q
 ·exact q
 ·exfalso
  have:(64:Nat)*2 ^ 40=70368744177664:=by decide
  rw[this] at q
  omega
def fitM (M:Hp) (s:Nat):Hp:=
 if 3*M.half<4*(M.used+s) then (if M.half<min (wantOf (M.used+s)) ((M.limit-M.large) / 2) then becM M (min (wantOf (M.used+s)) ((M.limit-M.large) / 2)) else M)
 else if 64<M.half∧8*(M.used+s)<M.half then becM M (wantOf (M.used+s)) else M
theorem HAt.still {w w':World}{ph:Nat}{tag:Nat→Nat}{M:Hp}{H:HC} (h:HAt w ph tag M H) (k:Below w.heap.size w w'):HAt w' ph tag M H:=
 { h with raw:=h.raw.below k }
theorem fit_any {w:World}{ph:Nat}{tag:Nat→Nat}{M:Hp}{H:HC} (h:HAt w ph tag M H) (s:Nat) (hs:s≤64) (hr:M.resz≤1000000000000):
  Calls Tryz.prog 61 #[.pointer (some ⟨ph,0,none⟩),.int .i64 (s:Nat)] w fun e w'=>e=.returned (.tuple #[])∧∃ tag' H',HAt w' ph tag' (fitM M s) H'∧Fr tag tag' w w':=by
 have wf:=h.wf
 have ok:=wf.ok
 have hA:=h.raw.hA
 rw[h.A] at hA
 have hu2:=ok.u2
 have hl2:=wf.l2
 have hlm:=wf.lm
 have hh1:=wf.h1
 have e0:=h.raw.n0
 rw[h.nL] at e0
 have e9:=h.raw.n9
 rw[h.nG] at e9
 have cf:∀ W,Still w W→ArR W H.a (midA M []):=fun W k=>hA.conf (by rw[k.heap];exact Nat.le_refl _) (by rw[k.heap]) (by rw[k.heap]) (by rw[k.heap])
 have HU:∀ W,Still w W→Calls Tryz.prog 95 #[.pointer (some ⟨H.a.1,0,none⟩)] W fun e w'=>e=.returned (.int .i64 (M.used:Nat))∧w'=W:=fun W k=>by
  have:=r_used (cf W k)
  rw[midA_used M ok] at this
  exact this
 have HS:∀ W,Still w W→Calls Tryz.prog 96 #[.pointer (some ⟨H.a.1,0,none⟩)] W fun e w'=>e=.returned (.int .i64 (M.half:Nat))∧w'=W:=fun W k=>r_size (cf W k)
 have HW:∀ W,Calls Tryz.prog 127 #[.int .i64 ((M.used+s:Nat):Int)] W fun e w'=>e=.returned (.int .i64 (wantOf (M.used+s):Nat))∧w'=W:=fun W=>want_any _ (by omega) W
 obtain ⟨w1,w2,w3,w4⟩:=wantOf_ok (M.used+s) (by omega)
 have same:∀ w',Still w w'→∃ tag' H',HAt w' ph tag' M H'∧Fr tag tag' w w':=fun w' k=>⟨tag,H,h.still k.below,Fr.of_below k.below⟩
 unfold fitM
 by_cases c1:3*M.half<4*(M.used+s)
 ·rw[if_pos c1]
  by_cases c2:M.half<min (wantOf (M.used+s)) ((M.limit-M.large) / 2)
  ·rw[if_pos c2]
   refine fit_grow (R:=fun w'=>∃ tag' H',HAt w' ph tag' (becM M (min (wantOf (M.used+s)) ((M.limit-M.large) / 2))) H'∧Fr tag tag' w w') (by omega) (by omega) (by omega) hl2 (by omega) w4 e0 h.raw.n1 e9 HU HS HW c1 c2 (fun W k=>?_)
   have m1:min (wantOf (M.used+s)) ((M.limit-M.large) / 2)≤(M.limit-M.large) / 2:=Nat.min_le_right _ _
   refine (become_any (h.still k.below) _ (by omega) (by omega) (by omega) hr).mono ?_
   rintro e w' ⟨rfl,tag',H',q1,q2⟩
   exact ⟨rfl,tag',H',q1,(Fr.of_below k.below).trans q2⟩
  ·rw[if_neg c2]
   refine (fit_stay (R:=fun _=>True) (by omega) (by omega) (by omega) hl2 (by omega) w4 e0 h.raw.n1 e9 HU HS HW c1 (by omega)).mono ?_
   rintro e w' ⟨rfl,k⟩
   exact ⟨rfl,same w' k⟩
 ·rw[if_neg c1]
  by_cases c2:64<M.half∧8*(M.used+s)<M.half
  ·rw[if_pos c2]
   refine fit_shrink (R:=fun w'=>∃ tag' H',HAt w' ph tag' (becM M (wantOf (M.used+s))) H'∧Fr tag tag' w w') (by omega) (by omega) (by omega) hl2 (by omega) w4 e0 h.raw.n1 e9 HU HS HW (by omega) c2.1 c2.2 (fun W k=>?_)
   refine (become_any (h.still k.below) _ w3 (by omega) (by rcases w2 with q|q <;> omega) hr).mono ?_
   rintro e w' ⟨rfl,tag',H',q1,q2⟩
   exact ⟨rfl,tag',H',q1,(Fr.of_below k.below).trans q2⟩
  ·rw[if_neg c2]
   refine (fit_keep (R:=fun _=>True) (by omega) (by omega) (by omega) hl2 (by omega) w4 e0 h.raw.n1 e9 HU HS HW (by omega) c2).mono ?_
   rintro e w' ⟨rfl,k⟩
   exact ⟨rfl,same w' k⟩
def IsColl (M M':Hp):Prop:=∃ t,Star M (stR M M.roots.length) t∧stepW M t=none∧Fin' M t.k∧M'=collM M t.k
theorem IsColl.one {M M1 M2:Hp} (h:IsColl M M1) (k:IsColl M M2):M1=M2:=by
 obtain ⟨t,a1,a2,a3,rfl⟩:=h
 obtain ⟨u,b1,b2,b3,rfl⟩:=k
 rw[star_end a1 a2 b1 b2]
theorem IsColl.nums {M M':Hp} (h:IsColl M M'):M'.limit=M.limit∧M'.half=M.half∧M'.coll=M.coll+1∧M'.resz=M.resz∧M'.roots=M.roots∧M'.objs.length=M.objs.length:=by
 obtain ⟨t,a1,a2,a3,rfl⟩:=h
 refine ⟨rfl,rfl,rfl,rfl,rfl,?_⟩
 show ((List.range M.objs.length).map _).length=_
 rw[List.length_map,List.length_range]
theorem coll_any {w:World}{ph:Nat}{tag:Nat→Nat}{M:Hp}{H:HC} (h:HAt w ph tag M H) (hc:M.coll≤1000000000000):
  Calls Tryz.prog 60 #[.pointer (some ⟨ph,0,none⟩)] w fun e w'=>e=.returned (.tuple #[])∧∃ tag' H' M',IsColl M M'∧HAt w' ph tag' M' H'∧Fr tag tag' w w':=by
 refine (collect_any h hc).mono ?_
 rintro e w' ⟨rfl,tag',H',t,a1,a2,a3,a4,a5⟩
 exact ⟨rfl,tag',H',_,⟨t,a1,a2,a3,rfl⟩,a4,a5⟩
theorem hcollect_any {w:World}{ph:Nat}{tag:Nat→Nat}{M:Hp}{H:HC} (h:HAt w ph tag M H) (hc:M.coll≤1000000000000) (hr:M.resz≤1000000000000):
  Calls Tryz.prog 21 #[.pointer (some ⟨ph,0,none⟩)] w fun e w'=>e=.returned (.tuple #[])∧∃ tag' H' M',IsColl M M'∧HAt w' ph tag' (fitM M' 0) H'∧Fr tag tag' w w':=by
 have H1:=hide (coll_any h hc)
 have H2:Hid (∀ W tag' H' M',IsColl M M'→HAt W ph tag' M' H'→Calls Tryz.prog 61 #[.pointer (some ⟨ph,0,none⟩),.int .i64 ((0:Nat):Int)] W fun e w'=>e=.returned (.tuple #[])∧∃ tag'' H'',HAt w' ph tag'' (fitM M' 0) H''∧Fr tag' tag'' W w'):=hide (fun W tag' H' M' k q=>fit_any q 0 (by omega) (by rw[k.nums.2.2.2.1];exact hr))
 clear h
 go_enter Tryz.func21,Tryz.ntmps21
 go_wp2_with fail
 refine (unhide H1).mono ?_
 clear H1
 rintro e w1 ⟨rfl,tag',H',M',k1,k2,k3⟩
 have H3:=hide (unhide H2 w1 tag' H' M' k1 k2)
 have K1:=hide k1
 have K3:=hide k3
 clear H2 k1 k2 k3
 go_wp2_with fail
 refine (unhide H3).mono ?_
 clear H3
 rintro e w2 ⟨rfl,tag2,H2',q1,q2⟩
 go_wp2
 go_end0
 exact ⟨rfl,tag2,H2',M',unhide K1,q1,(unhide K3).trans q2⟩
structure Agree (M N:Hp) (k:Wk):Prop where
 rt:N.roots=M.roots
 ob:∀ i,i∈k.cop∨i∈k.lin→(ob N i).refs=(ob M i).refs∧(ob N i).big=(ob M i).big
theorem fit_half (M:Hp) (s:Nat):(fitM M s).half=if 3*M.half<4*(M.used+s) then (if M.half<min (wantOf (M.used+s)) ((M.limit-M.large) / 2) then min (wantOf (M.used+s)) ((M.limit-M.large) / 2) else M.half) else if 64<M.half∧8*(M.used+s)<M.half then wantOf (M.used+s) else M.half:=by
 have hb:∀ n,(becM M n).half=n:=fun n=>by
  unfold becM
  split
  ·rename_i h;exact h.symm
  ·rfl
 unfold fitM
 split
 ·split
  ·exact hb _
  ·rfl
 ·split
  ·exact hb _
  ·rfl
theorem r_alloc_yes {w:World}{a:Nat × Nat × Nat}{R:RefSt} (h:ArR w a R) (k r s:Nat) (hf:Fits k r s) (hfit:R.used+(1+r+s)≤R.size):
  Calls Tryz.prog 93 #[.pointer (some ⟨a.1,0,none⟩),.int .i64 (k:Nat),.int .i64 (r:Nat),.int .i64 (s:Nat)] w fun e w'=>e=.returned (.tuple #[.int .i64 (R.used:Nat),.int .i64 0])∧ArR w' a (R.lay k r s (List.replicate (r+s) 0) undef (.slice none 0 0))∧But [a.1,a.2.1,a.2.2] w w':=by
 obtain ⟨ws,hs,used,h,r',o⟩:=h
 have hn:used+(1+r+s)≤ws.length:=by rw[r'.us,r'.sz];exact hfit
 refine (alloc_yes k r s w h hf hn).mono ?_
 rintro e w' ⟨rfl,q1,q2⟩
 have f1:(1:Int)≤k:=hf.1
 have f2:(k:Int)≤255:=hf.2.1
 refine ⟨by rw[r'.us],⟨_,_,_,q1,alloc_rel r' o k r s undef (.slice none 0 0) hn,o.lay k r s _ _ _ (by omega) (by omega) (by simp) (fun q=>by rw[getD_zeros];decide) hfit⟩,q2⟩
theorem r_alloc_full {w:World}{a:Nat × Nat × Nat}{R:RefSt} (h:ArR w a R) (k r s:Nat) (hf:Fits k r s) (hfit:R.size<R.used+(1+r+s)):
  Calls Tryz.prog 93 #[.pointer (some ⟨a.1,0,none⟩),.int .i64 (k:Nat),.int .i64 (r:Nat),.int .i64 (s:Nat)] w fun e w'=>e=.returned (.tuple #[.int .i64 0,.int .i64 22])∧Below w.heap.size w w':=by
 obtain ⟨ws,hs,used,h,r',o⟩:=h
 exact alloc_full k r s w h hf (by rw[r'.us,r'.sz];exact hfit)
def newOb (k r s:Nat) (big:Bool) (at':Nat):Ob:=⟨k,List.replicate r 0,List.replicate s 0,true,big,at'⟩
def addS (M:Hp) (k r s:Nat):Hp:={ M with used:=M.used+(1+r+s),objs:=M.objs ++ [newOb k r s false M.used],small:=M.small ++ [M.objs.length] }
theorem ob_old {M M':Hp}{x:Ob} (h:M'.objs=M.objs ++ [x]) {i:Nat} (hi:i<M.objs.length):ob M' i=ob M i:=by
 unfold ob
 rw[h,List.getD_eq_getElem?_getD,List.getElem?_append_left hi,List.getD_eq_getElem?_getD]
theorem ob_new {M M':Hp}{x:Ob} (h:M'.objs=M.objs ++ [x]):ob M' M.objs.length=x:=by
 unfold ob
 rw[h,List.getD_eq_getElem?_getD,List.getElem?_append_right (Nat.le_refl _)]
 simp
theorem refW_old {M M':Hp}{x:Ob} (h:M'.objs=M.objs ++ [x]) {i:Nat} (hi:i=0∨i<M.objs.length):refW M' i=refW M i:=by
 unfold refW
 by_cases h0:i=0
 ·rw[if_pos h0,if_pos h0]
 ·rw[if_neg h0,if_neg h0,ob_old h (hi.resolve_left h0)]
theorem mix_old {M M':Hp} (wf:HpWf M) {x:Ob} (h:M'.objs=M.objs ++ [x]) {i:Nat} (hi:Is M i):mix M' [] 0 i=mix M [] 0 i:=by
 rw[mix_zero,mix_zero,ob_old h (wf.ln i hi)]
 rw[List.map_congr_left (fun r hr=>refW_old h ((wf.ok.rf i hi r hr).imp id (fun q=>wf.ln r q)))]
theorem mix_new {M M':Hp}{k r s:Nat}{big:Bool}{at':Nat} (h:M'.objs=M.objs ++ [newOb k r s big at']):mix M' [] 0 M.objs.length=List.replicate (r+s) 0:=by
 rw[mix_zero,ob_new h]
 show (List.replicate r 0).map (refW M')++List.replicate s 0=_
 rw[List.map_replicate,show refW M' 0=0 by unfold refW;rw[if_pos rfl],List.replicate_append_replicate]
theorem shapes_old {M M':Hp} (wf:HpWf M) {x:Ob} (h:M'.objs=M.objs ++ [x]):shapes M' M.small=shapes M M.small:=List.map_congr_left (fun i hi=>by rw[ob_old h (wf.ln i (.inl hi))])
theorem addS_wf {M:Hp} (wf:HpWf M) (h1:1≤M.objs.length) (k r s:Nat) (hs:1+r+s≤64) (hfit:M.used+(1+r+s)≤M.half):HpWf (addS M k r s):=by
 have e:(addS M k r s).objs=M.objs ++ [newOb k r s false M.used]:=rfl
 have hn:M.objs.length ∉ M.small:=fun q=>by have:=wf.ln _ (.inl q);omega
 have hsl:∀ i,i≠0→i∈M.slots→i<M.objs.length:=fun i h0 h=>wf.ln i (.inr ⟨h0,h⟩)
 have hIs:∀ i,Is (addS M k r s) i→i=M.objs.length∨Is M i:=by
  intro i h
  rcases h with h|h
  ·rcases List.mem_append.1 h with q|q
   ·exact .inr (.inl q)
   ·exact .inl (List.mem_singleton.1 q)
  ·exact .inr (.inr h)
 have hIs2:∀ i,Is M i→Is (addS M k r s) i:=by
  intro i h
  rcases h with h|h
  ·exact .inl (List.mem_append.2 (.inl h))
  ·exact .inr h
 have hsh:shapes (addS M k r s) (M.small ++ [M.objs.length])=shapes M M.small ++ [(k,r,s)]:=by
  rw[shapes_app,shapes_old wf e]
  congr 1
  show [shp (ob (addS M k r s) M.objs.length)]=_
  rw[ob_new e]
  show [(k,(List.replicate r 0).length,(List.replicate s 0).length)]=_
  rw[List.length_replicate,List.length_replicate]
 have hadr:∀ i,i∈M.small→addr (addS M k r s) (M.small ++ [M.objs.length]) i=addr M M.small i:=fun i hi=>by
  rw[addr_more _ _ _ _ hi]
  unfold addr
  rw[shapes_old wf e]
 have ho:∀ i∈M.small,ob (addS M k r s) i=ob M i:=fun i hi=>ob_old e (wf.ln i (.inl hi))
 refine ⟨⟨nodup_snoc wf.ok.sm hn,fun i hi=>?_,fun q hq=>?_,fun i hi rr hr=>?_,fun i hi=>?_,?_,hfit,wf.ok.h2,wf.ok.sl⟩,fun i hi=>?_,?_,wf.kp,wf.lm,wf.h1,wf.l2,fun i hi=>?_,fun i h0 hi=>?_⟩
 ·rcases List.mem_append.1 hi with q|q
  ·rw[ho i q]
   show _∧_∧_=addr (addS M k r s) (M.small ++ [M.objs.length]) i
   rw[hadr i q]
   exact wf.ok.s1 i q
  ·rw[List.mem_singleton.1 q,ob_new e]
   refine ⟨by omega,rfl,?_⟩
   show M.used=addr (addS M k r s) (M.small ++ [M.objs.length]) M.objs.length
   rw[addr_last _ _ _ hn,shapes_old wf e,wf.ok.us]
 ·have q1:=wf.ok.b1 q hq
  have q2:=slot_mem hq
  show (ob (addS M k r s) (M.slots.getD q 0)).big=true∧(ob (addS M k r s) (M.slots.getD q 0)).at'=q
  have hlt:M.slots.getD q 0<M.objs.length:=hsl _ hq q2.2
  rw[ob_old e hlt]
  exact q1
 ·rcases hIs i hi with rfl|q
  ·rw[ob_new e] at hr
   exact .inl (List.eq_of_mem_replicate hr)
  ·rw[ob_old e (wf.ln i q)] at hr
   exact (wf.ok.rf i q rr hr).imp id (hIs2 rr)
 ·exact (wf.ok.rt i hi).imp id (hIs2 i)
 ·show M.used+(1+r+s)=place (shapes (addS M k r s) (M.small ++ [M.objs.length])) (M.small ++ [M.objs.length]).length
  rw[hsh,List.length_append,List.length_singleton]
  have:=place_snoc (shapes M M.small) (k,r,s)
  rw[shapes_length] at this
  rw[this,wf.ok.us]
  rfl
 ·show i<(M.objs ++ [_]).length
  rw[List.length_append,List.length_singleton]
  rcases hIs i hi with rfl|q
  ·omega
  ·have:=wf.ln i q;omega
 ·show M.large=lgOf (addS M k r s) M.slots
  rw[wf.lg]
  unfold lgOf
  congr 1
  refine List.map_congr_left (fun i hi=>?_)
  by_cases h0:i=0
  ·rw[if_pos h0,if_pos h0]
  ·rw[if_neg h0,if_neg h0,ob_old e (hsl i h0 hi)]
 ·rcases List.mem_append.1 hi with q|q
  ·rw[ho i q];exact wf.ss i q
  ·rw[List.mem_singleton.1 q,ob_new e]
   unfold osz newOb
   rw[List.length_replicate,List.length_replicate]
   exact hs
 ·rw[ob_old e (hsl i h0 hi)];exact wf.sb i h0 hi
theorem addS_any {w:World}{ph:Nat}{tag:Nat→Nat}{M:Hp}{H:HC} (h:HAt w ph tag M H) (ho1:1≤M.objs.length) (k r s:Nat) (hf:Fits k r s) (hs:1+r+s≤64) (hfit:M.used+(1+r+s)≤M.half):
  Calls Tryz.prog 93 #[.pointer (some ⟨H.a.1,0,none⟩),.int .i64 (k:Nat),.int .i64 (r:Nat),.int .i64 (s:Nat)] w fun e w'=>e=.returned (.tuple #[.int .i64 (M.used:Nat),.int .i64 0])∧∃ H',HAt w' ph tag (addS M k r s) H'∧Fr tag tag w w':=by
 have wf:=h.wf
 have ok:=wf.ok
 have hA:=h.raw.hA
 rw[h.A] at hA
 have hu:=midA_used M ok []
 have e:(addS M k r s).objs=M.objs ++ [newOb k r s false M.used]:=rfl
 refine (r_alloc_yes hA k r s hf (by rw[hu];exact hfit)).mono ?_
 rintro e' w' ⟨rfl,g1,g2⟩
 have hbb:∀ g,tag g≠0→tag g ∉ [2]→w'.heap[g]?=w.heap[g]?:=fun g q1 q2=>g2.block g (h.raw.un g q1) (fun hm=>q2 (by
  simp only[List.mem_cons,List.not_mem_nil,or_false] at hm ⊢
  rcases hm with rfl|rfl|rfl
  exact h.raw.tA.1;exact h.raw.tA.2.1;exact h.raw.tA.2.2))
 have g1':ArR w' H.a (midA (addS M k r s) []):=g1.like (by
   show shapes (addS M k r s) (M.small ++ [M.objs.length])=shapes M M.small ++ [(k,r,s)]
   rw[shapes_app,shapes_old wf e]
   congr 1
   show [shp (ob (addS M k r s) M.objs.length)]=_
   rw[ob_new e]
   show [(k,(List.replicate r 0).length,(List.replicate s 0).length)]=_
   rw[List.length_replicate,List.length_replicate]) (by
   show (M.small ++ [M.objs.length]).map _=M.small.map _ ++ [List.replicate (r+s) 0]
   rw[List.map_append]
   congr 1
   ·exact List.map_congr_left (fun i hi=>mix_old wf e (.inl hi))
   ·show [mix (addS M k r s) [] 0 M.objs.length]=_
    rw[mix_new e]) (by
   show (M.small ++ [M.objs.length]).map _=M.small.map _ ++ [none]
   rw[List.map_append]
   congr 1) rfl
 have h':=h.raw.turn [2] (by simp) (by simp) g2.size hbb (midA (addS M k r s) []) H.S H.cH H.bk H.re (.inr g1') (.inl ⟨by simp,rfl⟩) (.inl ⟨by simp,rfl⟩) (fun q bp hq=>.inl ⟨by simp;omega,rfl,rfl⟩)
 refine ⟨by rw[hu],_,⟨h',addS_wf wf ho1 k r s hs hfit,h.nL,h.nG,h.nK,h.nM,h.nC,h.nR,rfl,h.S,h.cB,fun q hq=>?_,h.re,fun x=>?_,h.lB,h.lH⟩,Fr.of_but g2 (fun g hm _=>?_)⟩
 ·show H.bk q=midK (addS M k r s) [] (fun _=>0) (M.slots.getD q 0)
  rw[h.bk q hq]
  have hIs:Is M (M.slots.getD q 0):=.inr ⟨hq,(slot_mem hq).2⟩
  unfold midK
  rw[mix_old wf e hIs,ob_old e (wf.ln _ hIs)]
 ·show H.cH.getD x none=(M.roots.getD x none).map (refW (addS M k r s))
  rw[h.cH x]
  cases hx:M.roots.getD x none with
  | none=>rfl
  | some i=>
   show some _=some _
   rw[refW_old e ((ok.rt i (roots_mem hx)).imp id (fun q=>wf.ln i q))]
 ·simp only[List.mem_cons,List.not_mem_nil,or_false] at hm
  have:=h.raw.tA
  rcases hm with rfl|rfl|rfl <;> omega
def PreS (M M1:Hp) (s:Nat):Prop:=(M.used+s≤M.half∧M1=M)∨(M.half<M.used+s∧∃ M0,IsColl M M0∧M1=fitM M0 s)
theorem fitM_objs (M:Hp) (s:Nat):(fitM M s).objs=M.objs∧(fitM M s).roots=M.roots∧(fitM M s).limit=M.limit∧(fitM M s).used=M.used∧(fitM M s).slots=M.slots:=by
 unfold fitM becM
 split
 ·split
  ·split <;> exact ⟨rfl,rfl,rfl,rfl,rfl⟩
  ·exact ⟨rfl,rfl,rfl,rfl,rfl⟩
 ·split
  ·split <;> exact ⟨rfl,rfl,rfl,rfl,rfl⟩
  ·exact ⟨rfl,rfl,rfl,rfl,rfl⟩
theorem allocSmall_any {w:World}{ph:Nat}{tag:Nat→Nat}{M:Hp}{H:HC} (h:HAt w ph tag M H) (ho1:1≤M.objs.length) (hc:M.coll≤1000000000000) (hr:M.resz≤1000000000000) (k r s:Nat) (hf:Fits k r s) (hs:1+r+s≤64):
  Calls Tryz.prog 43 #[.pointer (some ⟨ph,0,none⟩),.int .i64 (k:Nat),.int .i64 (r:Nat),.int .i64 (s:Nat),.int .i64 ((1+r+s:Nat):Int)] w fun e w'=>∃ tag' H' M1,PreS M M1 (1+r+s)∧Fr tag tag' w w'∧
   ((M1.used+(1+r+s)≤M1.half∧e=.returned (.tuple #[.int .u64 (M1.used:Nat),.int .i64 0])∧HAt w' ph tag' (addS M1 k r s) H')∨(M1.half<M1.used+(1+r+s)∧e=.returned (.tuple #[.int .u64 0,.int .i64 31])∧HAt w' ph tag' M1 H')):=by
 have wf:=h.wf
 have ok:=wf.ok
 have hA:=h.raw.hA
 rw[h.A] at hA
 have hu2:=ok.u2
 have hh2:=ok.h2
 have cf:∀ W,Still w W→ArR W H.a (midA M []):=fun W k=>hA.conf (by rw[k.heap];exact Nat.le_refl _) (by rw[k.heap]) (by rw[k.heap]) (by rw[k.heap])
 have HU:∀ W,Still w W→Calls Tryz.prog 95 #[.pointer (some ⟨H.a.1,0,none⟩)] W fun e w'=>e=.returned (.int .i64 (M.used:Nat))∧w'=W:=fun W k=>by
  have:=r_used (cf W k)
  rw[midA_used M ok] at this
  exact this
 have HS:∀ W,Still w W→Calls Tryz.prog 96 #[.pointer (some ⟨H.a.1,0,none⟩)] W fun e w'=>e=.returned (.int .i64 (M.half:Nat))∧w'=W:=fun W k=>r_size (cf W k)
 by_cases hfit:M.used+(1+r+s)≤M.half
 ·refine (small_end (e0:=0) (at':=M.used) (G:=fun w'=>∃ H',HAt w' ph tag (addS M k r s) H'∧Fr tag tag w w') (by omega) (by omega) hs hfit hh2 h.raw.n1 HU HS (fun W k'=>?_)).mono ?_
  ·refine (addS_any (h.still k'.below) ho1 k r s hf hs hfit).mono ?_
   rintro e w' ⟨rfl,H',q1,q2⟩
   exact ⟨rfl,H',q1,(Fr.of_below k'.below).trans q2⟩
  ·rintro e w' ⟨rfl,H',q1,q2⟩
   exact ⟨tag,H',M,.inl ⟨hfit,rfl⟩,q2,.inl ⟨hfit,rfl,q1⟩⟩
 ·refine (small_coll (G1:=fun W=>∃ tag' H' M',IsColl M M'∧HAt W ph tag' M' H'∧Fr tag tag' w W) (G2:=fun W=>∃ tag' H' M',IsColl M M'∧HAt W ph tag' (fitM M' (1+r+s)) H'∧Fr tag tag' w W)
   (G3:=fun at' e0 w'=>∃ tag' H' M',IsColl M M'∧Fr tag tag' w w'∧(((fitM M' (1+r+s)).used+(1+r+s)≤(fitM M' (1+r+s)).half∧at'=(fitM M' (1+r+s)).used∧e0=0∧HAt w' ph tag' (addS (fitM M' (1+r+s)) k r s) H')∨((fitM M' (1+r+s)).half<(fitM M' (1+r+s)).used+(1+r+s)∧e0=22∧HAt w' ph tag' (fitM M' (1+r+s)) H')))
   (by omega) hs (by omega) hh2 h.raw.n1 HU HS (fun W k'=>?_) (fun W hg=>?_) (fun W hg=>?_)).mono ?_
  ·refine (coll_any (h.still k'.below) hc).mono ?_
   rintro e w' ⟨rfl,tag',H',M',q1,q2,q3⟩
   exact ⟨rfl,tag',H',M',q1,q2,(Fr.of_below k'.below).trans q3⟩
  ·obtain ⟨tag',H',M',q1,q2,q3⟩:=hg
   refine (fit_any q2 (1+r+s) hs (by rw[q1.nums.2.2.2.1];exact hr)).mono ?_
   rintro e w' ⟨rfl,tag2,H2,p1,p2⟩
   exact ⟨rfl,tag2,H2,M',q1,p1,q3.trans p2⟩
  ·obtain ⟨tag',H',M',q1,q2,q3⟩:=hg
   have hobj:1≤(fitM M' (1+r+s)).objs.length:=by rw[(fitM_objs M' _).1,q1.nums.2.2.2.2.2];exact ho1
   have hA2:=q2.raw.hA
   rw[q2.A] at hA2
   have hu:=midA_used _ q2.wf.ok []
   have b1:=q2.wf.ok.u2
   have b2:=q2.wf.ok.h2
   by_cases hfit2:(fitM M' (1+r+s)).used+(1+r+s)≤(fitM M' (1+r+s)).half
   ·refine ⟨H'.a.1,(fitM M' (1+r+s)).used,0,q2.raw.n1,by omega,(addS_any q2 hobj k r s hf hs hfit2).mono ?_⟩
    rintro e w' ⟨rfl,H2,p1,p2⟩
    exact ⟨rfl,tag',H2,M',q1,q3.trans p2,.inl ⟨hfit2,rfl,rfl,p1⟩⟩
   ·refine ⟨H'.a.1,0,22,q2.raw.n1,by omega,(r_alloc_full hA2 k r s hf (by rw[hu];show (fitM M' (1+r+s)).half<_;omega)).mono ?_⟩
    rintro e w' ⟨rfl,hb⟩
    exact ⟨rfl,tag',H',M',q1,q3.trans (Fr.of_below hb),.inr ⟨by omega,rfl,q2.still hb⟩⟩
  ·rintro e w' ⟨at',e0,rfl,tag',H',M',q1,q2,(⟨p1,p2,p3,p4⟩|⟨p1,p2,p3⟩)⟩
   ·subst p3
    subst p2
    exact ⟨tag',H',_,.inr ⟨by omega,M',q1,rfl⟩,q2,.inl ⟨p1,rfl,p4⟩⟩
   ·subst p2
    exact ⟨tag',H',_,.inr ⟨by omega,M',q1,rfl⟩,q2,.inr ⟨p1,rfl,p3⟩⟩
theorem hresize_any {w:World}{ph:Nat}{tag:Nat→Nat}{M:Hp}{H:HC} (h:HAt w ph tag M H) (hc:M.coll≤1000000000000) (hr:M.resz≤1000000000000) (n:Nat) (h1:64≤n) (h2:n≤524288):
  Calls Tryz.prog 49 #[.pointer (some ⟨ph,0,none⟩),.int .i64 (n:Nat)] w fun e w'=>∃ tag' H' M',IsColl M M'∧Fr tag tag' w w'∧
   (((n<M'.used∨M'.limit<2*n+M'.large)∧e=.returned (.int .i64 31)∧HAt w' ph tag' M' H')∨((M'.used≤n∧2*n+M'.large≤M'.limit)∧e=.returned (.int .i64 0)∧HAt w' ph tag' (becM M' n) H')):=by
 refine (resize_walk (G1:=fun W=>∃ tag' H' M',IsColl M M'∧HAt W ph tag' M' H'∧Fr tag tag' w W)
  (R:=fun c w'=>∃ tag' H' M',IsColl M M'∧Fr tag tag' w w'∧(((n<M'.used∨M'.limit<2*n+M'.large)∧c=31∧HAt w' ph tag' M' H')∨((M'.used≤n∧2*n+M'.large≤M'.limit)∧c=0∧HAt w' ph tag' (becM M' n) H'))) h1 h2 ?_ (fun W hg=>?_)).mono ?_
 ·refine (coll_any h hc).mono ?_
  rintro e w' ⟨rfl,tag',H',M',q1,q2,q3⟩
  exact ⟨rfl,tag',H',M',q1,q2,q3⟩
 ·obtain ⟨tag',H',M',q1,q2,q3⟩:=hg
  have wf:=q2.wf
  have hA:=q2.raw.hA
  rw[q2.A] at hA
  have e0:=q2.raw.n0
  rw[q2.nL] at e0
  have e9:=q2.raw.n9
  rw[q2.nG] at e9
  have b1:=wf.ok.u2
  have b2:=wf.ok.h2
  have b3:=wf.l2
  have b4:=wf.lm
  refine ⟨H'.a.1,M'.used,M'.limit,M'.large,by omega,b3,by omega,e0,q2.raw.n1,e9,fun W' k=>?_,fun hn W' k=>?_,fun p1 p2 W' k=>?_⟩
  ·have:=r_used (hA.conf (w':=W') (by rw[k.heap];exact Nat.le_refl _) (by rw[k.heap]) (by rw[k.heap]) (by rw[k.heap]))
   rw[midA_used M' wf.ok] at this
   exact this
  ·exact ⟨tag',H',M',q1,q3.trans (Fr.of_below k.below),.inl ⟨hn,rfl,q2.still k.below⟩⟩
  ·refine (become_any (q2.still k.below) n h1 p1 p2 (by rw[q1.nums.2.2.2.1];exact hr)).mono ?_
   rintro e w' ⟨rfl,tag2,H2,r1,r2⟩
   exact ⟨rfl,tag2,H2,M',q1,q3.trans ((Fr.of_below k.below).trans r2),.inr ⟨⟨p1,p2⟩,rfl,r1⟩⟩
 ·rintro e w' ⟨c,rfl,tag',H',M',q1,q2,(⟨p1,rfl,p3⟩|⟨p1,rfl,p3⟩)⟩
  ·exact ⟨tag',H',M',q1,q2,.inl ⟨p1,rfl,p3⟩⟩
  ·exact ⟨tag',H',M',q1,q2,.inr ⟨p1,rfl,p3⟩⟩
theorem poolPut_at (c:List (Option Nat)) (n x s:Nat) (hn:n≤c.length):(poolPut c n x).getD s none=if s=n then some x else c.getD s none:=by
 unfold poolPut
 by_cases h:n<c.length
 ·rw[if_pos h,getD_set_opt c n s (some x) h]
 ·rw[if_neg h]
  have e:n=c.length:=by omega
  subst e
  rw[List.getD_eq_getElem?_getD]
  by_cases hs:s<c.length
  ·rw[List.getElem?_append_left hs,if_neg (by omega),List.getD_eq_getElem?_getD]
  ·rw[List.getElem?_append_right (by omega)]
   by_cases e:s=c.length
   ·subst e;simp
   ·rw[if_neg e,List.getD_eq_getElem?_getD,List.getElem?_eq_none (by omega:c.length≤s),List.getElem?_eq_none (by simp;omega)]
def tagB (tag:Nat→Nat) (bp:Nat) (a:Nat × Nat × Nat) (v:Value) (n:Nat):Nat→Nat:=fun g=>if g=bp∨g=a.1∨g=a.2.1∨g=a.2.2 then 8+n else tagAt tag v 5 g
theorem HRaw.addB {w w':World}{ph:Nat}{tag:Nat→Nat}{H:HC} (h:HRaw w ph tag H) (n bp:Nat) (a:Nat × Nat × Nat) (R:RefSt) (hz:tag bp=0∧tag a.1=0∧tag a.2.1=0∧tag a.2.2=0) (hlt:bp<w.heap.size) (hk:BkAt w bp a R 0) (hne:bp≠a.1∧bp≠a.2.1∧bp≠a.2.2) (hn:n≤H.cB.length)
  {fr':List Nat}{vc' vf':Value} (p:PoolAt w' ph 3 220 encP (.pointer none) (poolPut H.cB n bp) fr' vc' vf') (hv:Own2 w H.vcB vc') (hf:∀ g,vf'.ownBlock=some g→H.vfB.ownBlock=some g) {w1:World} (c1:PChg ph 3 H.vcB H.vfB w w1) (c2:PChg ph 3 vc' vf' w1 w'):
  HRaw w' ph (tagB tag bp a vc' n) { H with cB:=poolPut H.cB n bp,frB:=fr',vcB:=vc',vfB:=vf',at':=updF H.at' n a,bk:=updF H.bk n R,re:=updF H.re n 0 }∧
   (w'.os=w.os∧w'.tape=w.tape∧w'.output=w.output∧w.heap.size≤w'.heap.size)∧(∀ g,g<w.heap.size→tag g=0→w'.heap[g]?=w.heap[g]?)∧∀ g,g<w.heap.size→g≠bp→g≠a.1→g≠a.2.1→g≠a.2.2→tagB tag bp a vc' n g=tag g:=by
 have hal:=hk.ar.lt
 have hta:=tagAt_same (by decide) h.tB.1 hv
 have hold:∀ g,g<w.heap.size→g≠bp→g≠a.1→g≠a.2.1→g≠a.2.2→tagB tag bp a vc' n g=tag g:=fun g hg q1 q2 q3 q4=>by
  unfold tagB
  rw[if_neg (by rintro (e|e|e|e);exact q1 e;exact q2 e;exact q3 e;exact q4 e)]
  exact hta g hg
 have hkk:∀ g m,m≠0→tag g=m→tagB tag bp a vc' n g=m:=fun g m hm e=>by
  refine (hold g (h.un g (by omega)) ?_ ?_ ?_ ?_).trans e
  ·rintro rfl;omega
  ·rintro rfl;omega
  ·rintro rfl;omega
  ·rintro rfl;omega
 have hs:w.heap.size≤w'.heap.size:=Nat.le_trans c1.but.size c2.but.size
 have hb:∀ g,g<w.heap.size→tag g≠1→tag g≠5→w'.heap[g]?=w.heap[g]?:=fun g hg h1 h5=>by
  rw[c2.but.block g (Nat.lt_of_lt_of_le hg c1.but.size) (fun hm=>by
   rcases List.mem_cons.1 hm with q|q
   ·exact h1 (by rw[q];exact h.t1)
   ·rcases List.mem_append.1 q with q|q
    ·rcases hv g (mem_gB.1 q) with z|z
     ·exact h5 (h.tB.1 g z)
     ·omega
    ·exact h5 (h.tB.2 g (hf g (mem_gB.1 q)))),c1.but.block g hg (fun hm=>by
   rcases List.mem_cons.1 hm with q|q
   ·exact h1 (by rw[q];exact h.t1)
   ·rcases List.mem_append.1 q with q|q
    ·exact h5 (h.tB.1 g (mem_gB.1 q))
    ·exact h5 (h.tB.2 g (mem_gB.1 q)))]
 have hg:∀ m g,m≠0→m≠1→m≠5→tag g=m→w'.heap[g]?=w.heap[g]?:=fun m g h0 h1 h5 e=>hb g (h.un g (by omega)) (by omega) (by omega)
 have hcc:∀ q,q≠3→q≠4→q≠5→w'.cell? ⟨ph,q,none⟩=w.cell? ⟨ph,q,none⟩:=fun q h1 h2 h3=>(c2.cell q h1 h2 h3).trans (c1.cell q h1 h2 h3)
 have hff:∀ q,w'.frozen? ⟨ph,q,none⟩=w.frozen? ⟨ph,q,none⟩:=fun q=>(c2.froz q).trans (c1.froz q)
 have hget:∀ s b2,(poolPut H.cB n bp).getD s none=some b2→(s=n∧b2=bp)∨(s≠n∧H.cB.getD s none=some b2):=fun s b2 e=>by
  rw[poolPut_at _ _ _ _ hn] at e
  by_cases q:s=n
  ·rw[if_pos q] at e;cases e;exact .inl ⟨q,rfl⟩
  ·rw[if_neg q] at e;exact .inr ⟨q,e⟩
 have u1:∀ {α:Type} (f:Nat→α) (x:α),updF f n x n=x:=fun f x=>by unfold updF;rw[if_pos rfl]
 have u2:∀ {α:Type} (f:Nat→α) (x:α) (s:Nat),s≠n→updF f n x s=f s:=fun f x s q=>by unfold updF;rw[if_neg q]
 refine ⟨{
  n0:=(hcc 0 (by omega) (by omega) (by omega)).trans h.n0,n1:=(hcc 1 (by omega) (by omega) (by omega)).trans h.n1,n2:=(hcc 2 (by omega) (by omega) (by omega)).trans h.n2
  n9:=(hcc 9 (by omega) (by omega) (by omega)).trans h.n9,n10:=(hcc 10 (by omega) (by omega) (by omega)).trans h.n10,n11:=(hcc 11 (by omega) (by omega) (by omega)).trans h.n11,n12:=(hcc 12 (by omega) (by omega) (by omega)).trans h.n12,n13:=(hcc 13 (by omega) (by omega) (by omega)).trans h.n13
  fz:=fun i hi=>(hff i).trans (h.fz i hi)
  pB:=p
  pH:=h.pH.conf (fun q q1 q2=>hcc q (by omega) (by omega) (by omega)) hff (fun g e=>hg 4 g (by omega) (by omega) (by omega) (h.tH.1 g e)) (fun g e=>hg 4 g (by omega) (by omega) (by omega) (h.tH.2 g e))
  hA:=h.hA.conf hs (hg 2 _ (by omega) (by omega) (by omega) h.tA.1) (hg 2 _ (by omega) (by omega) (by omega) h.tA.2.1) (hg 2 _ (by omega) (by omega) (by omega) h.tA.2.2)
  hS:=h.hS.conf hs (hg 3 _ (by omega) (by omega) (by omega) h.tS.1) (hg 3 _ (by omega) (by omega) (by omega) h.tS.2.1) (hg 3 _ (by omega) (by omega) (by omega) h.tS.2.2)
  bB:=fun s b2 e=>by
   rcases hget s b2 e with ⟨rfl,rfl⟩|⟨q,e2⟩
   ·show BkAt w' b2 (updF H.at' s a s) (updF H.bk s R s) (updF H.re s 0 s)
    rw[u1,u1,u1]
    exact hk.conf hs (hb _ hlt (by omega) (by omega)) (hb _ hal.1 (by omega) (by omega)) (hb _ hal.2.1 (by omega) (by omega)) (hb _ hal.2.2 (by omega) (by omega))
   ·show BkAt w' b2 (updF H.at' n a s) (updF H.bk n R s) (updF H.re n 0 s)
    rw[u2 _ _ _ q,u2 _ _ _ q,u2 _ _ _ q]
    have t:=h.tK s b2 e2
    exact (h.bB s b2 e2).conf hs (hg (8+s) _ (by omega) (by omega) (by omega) t.1) (hg (8+s) _ (by omega) (by omega) (by omega) t.2.1) (hg (8+s) _ (by omega) (by omega) (by omega) t.2.2.1) (hg (8+s) _ (by omega) (by omega) (by omega) t.2.2.2)
  t1:=hkk _ _ (by decide) h.t1
  tA:=⟨hkk _ _ (by decide) h.tA.1,hkk _ _ (by decide) h.tA.2.1,hkk _ _ (by decide) h.tA.2.2⟩
  tS:=⟨hkk _ _ (by decide) h.tS.1,hkk _ _ (by decide) h.tS.2.1,hkk _ _ (by decide) h.tS.2.2⟩
  tH:=⟨fun g e=>hkk _ _ (by decide) (h.tH.1 g e),fun g e=>hkk _ _ (by decide) (h.tH.2 g e)⟩
  tB:=by
   refine ⟨fun g e=>?_,fun g e=>hkk _ _ (by decide) (h.tB.2 g (hf g e))⟩
   unfold tagB
   rw[if_neg,show tagAt tag vc' 5 g=5 by unfold tagAt;rw[if_pos e]]
   have e':vc'.ownBlock=some g:=e
   rcases hv g e' with z|z
   ·have:=h.tB.1 g z
    rintro (q|q|q|q)
    ·rw[q] at this;omega
    ·rw[q] at this;omega
    ·rw[q] at this;omega
    ·rw[q] at this;omega
   ·rintro (q|q|q|q) <;> omega
  tK:=fun s b2 e=>by
   rcases hget s b2 e with ⟨rfl,rfl⟩|⟨q,e2⟩
   ·show _∧tagB tag b2 a vc' s (updF H.at' s a s).1=_∧tagB tag b2 a vc' s (updF H.at' s a s).2.1=_∧tagB tag b2 a vc' s (updF H.at' s a s).2.2=_
    rw[u1]
    unfold tagB
    exact ⟨if_pos (.inl rfl),if_pos (.inr (.inl rfl)),if_pos (.inr (.inr (.inl rfl))),if_pos (.inr (.inr (.inr rfl)))⟩
   ·show _∧tagB tag bp a vc' n (updF H.at' n a s).1=_∧tagB tag bp a vc' n (updF H.at' n a s).2.1=_∧tagB tag bp a vc' n (updF H.at' n a s).2.2=_
    rw[u2 _ _ _ q]
    have t:=h.tK s b2 e2
    exact ⟨hkk _ _ (by omega) t.1,hkk _ _ (by omega) t.2.1,hkk _ _ (by omega) t.2.2.1,hkk _ _ (by omega) t.2.2.2⟩
  tN:=fun s b2 e=>by
   rcases hget s b2 e with ⟨rfl,rfl⟩|⟨q,e2⟩
   ·show b2≠(updF H.at' s a s).1∧b2≠(updF H.at' s a s).2.1∧b2≠(updF H.at' s a s).2.2
    rw[u1];exact hne
   ·show b2≠(updF H.at' n a s).1∧b2≠(updF H.at' n a s).2.1∧b2≠(updF H.at' n a s).2.2
    rw[u2 _ _ _ q];exact h.tN s b2 e2
  un:=fun g e=>by
   unfold tagB at e
   split at e
   ·rename_i q
    rcases q with rfl|rfl|rfl|rfl <;> omega
   ·unfold tagAt at e
    split at e
    ·rename_i q;exact p.row.lt g q
    ·exact Nat.lt_of_lt_of_le (h.un g e) hs },⟨c2.but.os.trans c1.but.os,c2.but.tape.trans c1.but.tape,c2.but.output.trans c1.but.output,hs⟩,fun g hg e=>hb g hg (by omega) (by omega),hold⟩
def addL (M:Hp) (k r s n:Nat):Hp:=
 { M with large:=M.large+(2+r+s),objs:=M.objs ++ [newOb k r s true n],slots:=if n<M.slots.length then M.slots.set n M.objs.length else M.slots ++ [M.objs.length] }
theorem addL_slot (M:Hp) (k r s n q:Nat) (hn:n≤M.slots.length):(addL M k r s n).slots.getD q 0=if q=n then M.objs.length else M.slots.getD q 0:=by
 show (if n<M.slots.length then M.slots.set n M.objs.length else M.slots ++ [M.objs.length]).getD q 0=_
 by_cases h:n<M.slots.length
 ·rw[if_pos h,getD_set _ _ _ _ h]
 ·rw[if_neg h]
  have e:n=M.slots.length:=by omega
  rw[getD_snoc,e]
  by_cases hq:q<M.slots.length
  ·rw[if_pos hq,if_neg (by omega)]
  ·rw[if_neg hq]
   by_cases e2:q=M.slots.length
   ·rw[if_pos e2,if_pos e2]
   ·rw[if_neg e2,if_neg e2,List.getD_eq_getElem?_getD,List.getElem?_eq_none (by omega)];rfl
theorem addL_mem (M:Hp) (k r s n:Nat) (hn:n≤M.slots.length) (h0:M.slots.getD n 0=0) (i:Nat) (hi:i≠0):i∈(addL M k r s n).slots↔i=M.objs.length∨i∈M.slots:=by
 have e:=addL_slot M k r s n
 constructor
 ·intro h
  obtain ⟨q,hq,eq⟩:=mem_slot h
  rw[e q hn] at eq
  by_cases z:q=n
  ·rw[if_pos z] at eq;exact .inl eq.symm
  ·rw[if_neg z] at eq
   have:M.slots.getD q 0≠0:=by rw[eq];exact hi
   have:=(slot_mem this).2
   rw[eq] at this
   exact .inr this
 ·rintro (h|h)
  ·have:(addL M k r s n).slots.getD n 0=i:=by rw[e n hn,if_pos rfl];exact h.symm
   have h1:=(slot_mem (M:=addL M k r s n) (s:=n) (by rw[this];exact hi)).2
   rw[this] at h1
   exact h1
  ·obtain ⟨q,hq,eq⟩:=mem_slot h
   have hqn:q≠n:=by rintro rfl;rw[h0] at eq;exact hi eq.symm
   have:(addL M k r s n).slots.getD q 0=i:=by rw[e q hn,if_neg hqn];exact eq
   have h1:=(slot_mem (M:=addL M k r s n) (s:=q) (by rw[this];exact hi)).2
   rw[this] at h1
   exact h1
theorem addL_len (M:Hp) (k r s n:Nat) (hn:n≤M.slots.length):M.slots.length≤(addL M k r s n).slots.length∧n<(addL M k r s n).slots.length∧(addL M k r s n).slots.length≤M.slots.length+1:=by
 show M.slots.length≤(if n<M.slots.length then M.slots.set n M.objs.length else M.slots ++ [M.objs.length]).length∧_<(if n<M.slots.length then M.slots.set n M.objs.length else M.slots ++ [M.objs.length]).length∧(if n<M.slots.length then M.slots.set n M.objs.length else M.slots ++ [M.objs.length]).length≤_
 split
 ·rw[List.length_set];omega
 ·rw[List.length_append,List.length_singleton];omega
theorem addL_wf {M:Hp} (wf:HpWf M) (h1:1≤M.objs.length) (k r s n:Nat) (hs:64<1+r+s) (hfit:2*M.half+M.large+(2+r+s)≤M.limit) (hn:n≤M.slots.length) (h0:M.slots.getD n 0=0) (hlen:M.slots.length<1000000):HpWf (addL M k r s n):=by
 have e:(addL M k r s n).objs=M.objs ++ [newOb k r s true n]:=rfl
 have hsl:∀ i,i≠0→i∈M.slots→i<M.objs.length:=fun i h0 h=>wf.ln i (.inr ⟨h0,h⟩)
 have hmem:=addL_mem M k r s n hn h0
 have hIs:∀ i,Is (addL M k r s n) i→i=M.objs.length∨Is M i:=by
  intro i h
  rcases h with h|h
  ·exact .inr (.inl h)
  ·rcases (hmem i h.1).1 h.2 with q|q
   ·exact .inl q
   ·exact .inr (.inr ⟨h.1,q⟩)
 have hIs2:∀ i,Is M i→Is (addL M k r s n) i:=by
  intro i h
  rcases h with h|h
  ·exact .inl h
  ·exact .inr ⟨h.1,(hmem i h.1).2 (.inr h.2)⟩
 have hsh:shapes (addL M k r s n) M.small=shapes M M.small:=shapes_old wf e
 have ho:∀ i∈M.small,ob (addL M k r s n) i=ob M i:=fun i hi=>ob_old e (wf.ln i (.inl hi))
 have hll:=addL_len M k r s n hn
 refine ⟨⟨wf.ok.sm,fun i hi=>?_,fun q hq=>?_,fun i hi rr hr=>?_,fun i hi=>?_,?_,wf.ok.u2,wf.ok.h2,by omega⟩,fun i hi=>?_,?_,?_,?_,wf.h1,wf.l2,fun i hi=>?_,fun i h00 hi=>?_⟩
 ·rw[ho i hi]
  show _∧_∧_=addr (addL M k r s n) M.small i
  unfold addr
  rw[hsh]
  exact wf.ok.s1 i hi
 ·have eq:=addL_slot M k r s n q hn
  rw[eq] at hq ⊢
  by_cases z:q=n
  ·rw[if_pos z,ob_new e];exact ⟨rfl,z.symm⟩
  ·rw[if_neg z] at hq ⊢
   rw[ob_old e (hsl _ hq (slot_mem hq).2)]
   exact wf.ok.b1 q hq
 ·rcases hIs i hi with rfl|q
  ·rw[ob_new e] at hr
   exact .inl (List.eq_of_mem_replicate hr)
  ·rw[ob_old e (wf.ln i q)] at hr
   exact (wf.ok.rf i q rr hr).imp id (hIs2 rr)
 ·exact (wf.ok.rt i hi).imp id (hIs2 i)
 ·show M.used=place (shapes (addL M k r s n) M.small) M.small.length
  rw[hsh];exact wf.ok.us
 ·show i<(M.objs ++ [_]).length
  rw[List.length_append,List.length_singleton]
  rcases hIs i hi with rfl|q
  ·omega
  ·have:=wf.ln i q;omega
 ·show M.large+(2+r+s)=lgOf (addL M k r s n) (addL M k r s n).slots
  have hterm:∀ q,(if (addL M k r s n).slots.getD q 0=0 then 0 else 1+osz (ob (addL M k r s n) ((addL M k r s n).slots.getD q 0)))=if q=n then 2+r+s else (if M.slots.getD q 0=0 then 0 else 1+osz (ob M (M.slots.getD q 0))):=fun q=>by
   rw[addL_slot M k r s n q hn]
   by_cases z:q=n
   ·rw[if_pos z,if_pos z,if_neg (by omega),ob_new e]
    unfold osz newOb
    rw[List.length_replicate,List.length_replicate]
    omega
   ·rw[if_neg z,if_neg z]
    by_cases z0:M.slots.getD q 0=0
    ·rw[if_pos z0,if_pos z0]
    ·rw[if_neg z0,if_neg z0,ob_old e (hsl _ z0 (slot_mem z0).2)]
  rw[lgOf_sum,sumB_congr _ _ _ (fun q _=>hterm q),wf.lg,lgOf_sum]
  have e3:=sumB_upd (fun q=>if q=n then 2+r+s else (if M.slots.getD q 0=0 then 0 else 1+osz (ob M (M.slots.getD q 0)))) (fun q=>if M.slots.getD q 0=0 then 0 else 1+osz (ob M (M.slots.getD q 0))) n (addL M k r s n).slots.length (fun q hq=>if_neg hq) hll.2.1
  simp only[if_true] at e3
  rw[if_pos h0] at e3
  obtain ⟨d,hd⟩:=Nat.exists_eq_add_of_le hll.1
  have e4:=sumB_past (fun q=>if M.slots.getD q 0=0 then 0 else 1+osz (ob M (M.slots.getD q 0))) M.slots.length (fun q hq=>if_pos (by rw[List.getD_eq_getElem?_getD,List.getElem?_eq_none hq];rfl)) d
  rw[← hd] at e4
  omega
 ·show M.kept≤M.large+(2+r+s)
  have:=wf.kp;omega
 ·show 2*M.half+(M.large+(2+r+s))≤M.limit
  omega
 ·rw[ho i hi];exact wf.ss i hi
 ·rcases (hmem i h00).1 hi with rfl|q
  ·rw[ob_new e]
   unfold osz newOb
   rw[List.length_replicate,List.length_replicate]
   exact hs
  ·rw[ob_old e (hsl i h00 q)];exact wf.sb i h00 q
theorem low_bound {M:Hp} (wf:HpWf M) (n:Nat) (h:∀ q,q<n→M.slots.getD q 0≠0):n≤15887:=by
 have hl:=wf.lm
 have hl2:=wf.l2
 have hlg:=wf.lg
 rw[lgOf_sum] at hlg
 have hn:n≤M.slots.length:=Classical.byContradiction (fun q=>h M.slots.length (by omega) (by rw[List.getD_eq_getElem?_getD,List.getElem?_eq_none (Nat.le_refl _)];rfl))
 have key:∀ m,m≤n→66*m≤sumB m (fun s=>if M.slots.getD s 0=0 then 0 else 1+osz (ob M (M.slots.getD s 0))):=by
  intro m
  induction m with
  | zero=>intro _;exact Nat.zero_le _
  | succ m ih=>
   intro hm
   have i1:=ih (by omega)
   have h0:=h m (by omega)
   have hb:=wf.sb _ h0 (slot_mem h0).2
   unfold sumB at *
   rw[List.range_succ,List.map_append,List.sum_append]
   simp only[List.map_cons,List.map_nil,List.sum_cons,List.sum_nil]
   rw[if_neg h0]
   omega
 have mono:∀ d,sumB n (fun s=>if M.slots.getD s 0=0 then 0 else 1+osz (ob M (M.slots.getD s 0)))≤sumB (n+d) (fun s=>if M.slots.getD s 0=0 then 0 else 1+osz (ob M (M.slots.getD s 0))):=by
  intro d
  induction d with
  | zero=>exact Nat.le_refl _
  | succ d ih=>
   have:n+(d+1)=(n+d)+1:=by omega
   rw[this]
   unfold sumB at *
   rw[List.range_succ,List.map_append,List.sum_append]
   omega
 obtain ⟨d,hd⟩:=Nat.exists_eq_add_of_le hn
 have k1:=key n (Nat.le_refl _)
 have k2:=mono d
 rw[← hd] at k2
 omega
def LowS (M:Hp) (n:Nat):Prop:=M.slots.getD n 0=0∧n≤M.slots.length∧∀ q,q<n→M.slots.getD q 0≠0
theorem LowS.one {M:Hp}{n m:Nat} (h:LowS M n) (k:LowS M m):n=m:=by
 rcases Nat.lt_trichotomy n m with q|q|q
 ·exact absurd h.1 (k.2.2 n q)
 ·exact q
 ·exact absurd k.1 (h.2.2 m q)
def PreL (M M1:Hp) (b:Nat):Prop:=(2*M.half+M.large+b≤M.limit∧M.large-M.kept+b≤M.half+M.kept∧M1=M)∨((M.limit<2*M.half+M.large+b∨M.half+M.kept<M.large-M.kept+b)∧∃ M0,IsColl M M0∧M1=fitM M0 0)
def WayL (M1 M2:Hp) (b:Nat):Prop:=(2*M1.half+M1.large+b≤M1.limit∧M2=M1)∨(M1.limit<2*M1.half+M1.large+b∧M1.large+b≤M1.limit∧64≤(M1.limit-M1.large-b) / 2∧M1.used≤(M1.limit-M1.large-b) / 2∧M2=becM M1 ((M1.limit-M1.large-b) / 2))
def NoWay (M1:Hp) (b:Nat):Prop:=M1.limit<2*M1.half+M1.large+b∧(M1.limit<M1.large+b∨(M1.limit-M1.large-b) / 2<64∨(M1.limit-M1.large-b) / 2<M1.used)
theorem becM_parts (M:Hp) (n:Nat):(becM M n).objs=M.objs∧(becM M n).roots=M.roots∧(becM M n).limit=M.limit∧(becM M n).used=M.used∧(becM M n).slots=M.slots∧(becM M n).large=M.large∧(becM M n).half=n∧(becM M n).small=M.small∧(becM M n).kept=M.kept:=by
 unfold becM
 split
 ·rename_i h;exact ⟨rfl,rfl,rfl,rfl,rfl,rfl,h.symm,rfl,rfl⟩
 ·exact ⟨rfl,rfl,rfl,rfl,rfl,rfl,rfl,rfl,rfl⟩
theorem hpass_any {w:World}{ph:Nat}{tag:Nat→Nat}{M:Hp}{H:HC} (h:HAt w ph tag M H) (b:Nat) (hb:b≤4194304):
  Calls Tryz.prog 90 #[.pointer (some ⟨ph,0,none⟩),.int .i64 (b:Nat)] w fun e w'=>e=.returned (.bool (decide (M.limit<2*M.half+M.large+b)))∧Still w w':=by
 have wf:=h.wf
 have hA:=h.raw.hA
 rw[h.A] at hA
 have e0:=h.raw.n0
 rw[h.nL] at e0
 have e9:=h.raw.n9
 rw[h.nG] at e9
 have b1:=wf.l2
 have b2:=wf.lm
 exact passes_any (by omega) b1 (by omega) hb e0 h.raw.n1 e9 (fun W k=>r_size (hA.conf (by rw[k.heap];exact Nat.le_refl _) (by rw[k.heap]) (by rw[k.heap]) (by rw[k.heap])))
theorem allocLarge_any {w:World}{ph:Nat}{tag:Nat→Nat}{M:Hp}{H:HC} (h:HAt w ph tag M H) (ho1:1≤M.objs.length) (hc:M.coll≤1000000000000) (hr:M.resz≤900000000000) (hsl:M.slots.length≤20000) (k r s:Nat) (hf:Fits k r s) (hs:64<1+r+s):
  Calls Tryz.prog 42 #[.pointer (some ⟨ph,0,none⟩),.int .i64 (k:Nat),.int .i64 (r:Nat),.int .i64 (s:Nat),.int .i64 ((2+r+s:Nat):Int)] w fun e w'=>∃ tag' H' M1,PreL M M1 (2+r+s)∧Fr tag tag' w w'∧
   ((∃ M2 n,WayL M1 M2 (2+r+s)∧LowS M2 n∧e=.returned (.tuple #[.int .u64 ((9223372036854775808+n:Nat):Int),.int .i64 0])∧HAt w' ph tag' (addL M2 k r s n) H')∨(NoWay M1 (2+r+s)∧e=.returned (.tuple #[.int .u64 0,.int .i64 31])∧HAt w' ph tag' M1 H')):=by
 obtain ⟨b,hbe⟩:∃ b,2+r+s=b:=⟨_,rfl⟩
 have f1:(r:Int)≤1048576:=hf.2.2.2.1
 have f2:(s:Int)≤1048576:=hf.2.2.2.2.2
 have hb:b≤4194304:=by omega
 have wf:=h.wf
 have hA:=h.raw.hA
 rw[h.A] at hA
 have e9:=h.raw.n9
 rw[h.nG] at e9
 have e10:=h.raw.n10
 rw[h.nK] at e10
 have b1:=wf.l2
 have b2:=wf.lm
 rw[hbe]
 have hpre:∀ M1,PreL M M1 b→1≤M1.objs.length∧M1.slots.length≤20000∧M1.resz≤900000000001:=by
  rintro M1 (⟨_,_,rfl⟩|⟨_,M0,q,rfl⟩)
  ·exact ⟨ho1,hsl,by omega⟩
  ·have q1:=fitM_objs M0 0
   have q2:=q.nums
   refine ⟨by rw[q1.1,q2.2.2.2.2.2];exact ho1,?_,?_⟩
   ·rw[q1.2.2.2.2]
    obtain ⟨t,_,_,_,rfl⟩:=q
    show (M.slots.map _).length≤_
    rw[List.length_map];exact hsl
   ·have e1:M0.resz=M.resz:=q2.2.2.2.1
    unfold fitM becM
    split
    ·split
     ·split
      ·omega
      ·show M0.resz+1≤_;omega
     ·omega
    ·split
     ·split
      ·omega
      ·show M0.resz+1≤_;omega
     ·omega
 refine (large_walk (G1:=fun W=>∃ tag' H' M1,PreL M M1 b∧HAt W ph tag' M1 H'∧Fr tag tag' w W)
  (G2:=fun W=>∃ tag' H' M1 M2,PreL M M1 b∧WayL M1 M2 b∧HAt W ph tag' M2 H'∧Fr tag tag' w W)
  (GN:=fun W=>∃ tag' H' M1,PreL M M1 b∧NoWay M1 b∧HAt W ph tag' M1 H'∧Fr tag tag' w W)
  (G3:=fun a W=>∃ tag' H' M1 M2,PreL M M1 b∧WayL M1 M2 b∧HAt W ph tag' M2 H'∧Fr tag tag' w W∧ArR W a (RefSt.new b)∧(tag' a.1=0∧tag' a.2.1=0∧tag' a.2.2=0)∧(w.heap.size≤a.1∧w.heap.size≤a.2.1∧w.heap.size≤a.2.2))
  (G4:=fun a W=>∃ tag' H' M1 M2,PreL M M1 b∧WayL M1 M2 b∧HAt W ph tag' M2 H'∧Fr tag tag' w W∧ArR W a ((RefSt.new b).lay k r s (List.replicate (r+s) 0) undef (.slice none 0 0))∧(tag' a.1=0∧tag' a.2.1=0∧tag' a.2.2=0)∧(w.heap.size≤a.1∧w.heap.size≤a.2.1∧w.heap.size≤a.2.2))
  (GY:=fun n W=>∃ tag' H' M1 M2,PreL M M1 b∧WayL M1 M2 b∧LowS M2 n∧HAt W ph tag' (addL M2 k r s n) H'∧Fr tag tag' w W)
  hb (decide (M.limit<2*M.half+M.large+b)) (decide (M.half+M.kept<M.large-M.kept+b)) (hpass_any h b hb) ?_ ?_ ?_ ?_ ?_ ?_ ?_).mono ?_
 ·intro hp W k'
  have cf:=hA.conf (w':=W) (by rw[k'.heap];exact Nat.le_refl _) (by rw[k'.heap]) (by rw[k'.heap]) (by rw[k'.heap])
  have hh:=h.still k'.below
  have e9':=hh.raw.n9
  rw[h.nG] at e9'
  have e10':=hh.raw.n10
  rw[h.nK] at e10'
  refine (due_any (b:=b) (half:=M.half) (by omega) wf.kp (by omega) hb hh.raw.n1 e9' e10' (fun W2 k2=>r_size (cf.conf (by rw[k2.heap];exact Nat.le_refl _) (by rw[k2.heap]) (by rw[k2.heap]) (by rw[k2.heap])))).mono ?_
  rintro e w' ⟨rfl,k3⟩
  exact ⟨rfl,k'.trans k3⟩
 ·intro hpd W k'
  refine (hcollect_any (h.still k'.below) hc (by omega)).mono ?_
  rintro e w' ⟨rfl,tag',H',M',q1,q2,q3⟩
  exact ⟨rfl,tag',H',_,.inr ⟨hpd.imp of_decide_eq_true of_decide_eq_true,M',q1,rfl⟩,q2,(Fr.of_below k'.below).trans q3⟩
 ·intro p0 d0 W k'
  have p1:=of_decide_eq_false p0
  have d1:=of_decide_eq_false d0
  exact ⟨tag,H,M,.inl ⟨by omega,by omega,rfl⟩,h.still k'.below,Fr.of_below k'.below⟩
 ·rintro W ⟨tag',H',M1,q1,q2,q3⟩
  have wf1:=q2.wf
  have c1:=wf1.l2
  have c2:=wf1.lm
  refine ⟨decide (M1.limit<2*M1.half+M1.large+b),hpass_any q2 b hb,fun hq W' k'=>?_,fun hq W' k'=>?_⟩
  ·have:=of_decide_eq_false hq
   exact ⟨tag',H',M1,M1,q1,.inl ⟨by omega,rfl⟩,q2.still k'.below,q3.trans (Fr.of_below k'.below)⟩
  ·have hpass:=of_decide_eq_true hq
   have qh:=q2.still k'.below
   have hA1:=qh.raw.hA
   rw[qh.A] at hA1
   have n0:=qh.raw.n0
   rw[qh.nL] at n0
   have n9:=qh.raw.n9
   rw[qh.nG] at n9
   have HU:∀ W2,Still W' W2→Calls Tryz.prog 95 #[.pointer (some ⟨H'.a.1,0,none⟩)] W2 fun e w'=>e=.returned (.int .i64 (M1.used:Nat))∧w'=W2:=fun W2 k2=>by
    have:=r_used (hA1.conf (w':=W2) (by rw[k2.heap];exact Nat.le_refl _) (by rw[k2.heap]) (by rw[k2.heap]) (by rw[k2.heap]))
    rw[midA_used M1 wf1.ok] at this
    exact this
   by_cases z1:M1.limit<M1.large+b
   ·refine ⟨false,(way_low (b:=b) (U:=M1.used) c1 (by omega) hb rfl n0 qh.raw.n1 n9 ?_).mono ?_⟩
    ·rw[show (M1.limit:Int)-(M1.large:Nat)-(b:Nat) = -(((M1.large+b-M1.limit:Nat)):Int) by omega,Int.neg_tdiv,Int.tdiv_eq_ediv_of_nonneg (by omega)]
     omega
    ·rintro e w' ⟨rfl,k2⟩
     exact ⟨rfl,fun x=>(by cases x),fun _=>⟨tag',H',M1,q1,⟨hpass,.inl z1⟩,qh.still k2.below,q3.trans ((Fr.of_below k'.below).trans (Fr.of_below k2.below))⟩⟩
   ·obtain ⟨V,hV⟩:∃ V:Nat,(M1.limit-M1.large-b) / 2=V:=⟨_,rfl⟩
    have hV2:((M1.limit:Int)-(M1.large:Nat)-(b:Nat)).tdiv 2=(V:Nat):=by
     rw[Int.tdiv_eq_ediv_of_nonneg (by omega)]
     omega
    by_cases z2:V<64
    ·refine ⟨false,(way_low (b:=b) (U:=M1.used) c1 (by omega) hb hV2 n0 qh.raw.n1 n9 (by omega)).mono ?_⟩
     rintro e w' ⟨rfl,k2⟩
     exact ⟨rfl,fun x=>(by cases x),fun _=>⟨tag',H',M1,q1,⟨hpass,.inr (.inl (by omega))⟩,qh.still k2.below,q3.trans ((Fr.of_below k'.below).trans (Fr.of_below k2.below))⟩⟩
    ·by_cases z3:V<M1.used
     ·refine ⟨false,(way_used (b:=b) (U:=M1.used) c1 (by omega) hb hV2 n0 qh.raw.n1 n9 HU (by omega) (by omega)).mono ?_⟩
      rintro e w' ⟨rfl,k2⟩
      exact ⟨rfl,fun x=>(by cases x),fun _=>⟨tag',H',M1,q1,⟨hpass,.inr (.inr (by omega))⟩,qh.still k2.below,q3.trans ((Fr.of_below k'.below).trans (Fr.of_below k2.below))⟩⟩
     ·refine ⟨true,(way_yes (b:=b) (U:=M1.used) c1 (by omega) hb hV2 n0 qh.raw.n1 n9 HU (by omega) (by omega) (fun w'=>∃ tag'' H'',HAt w' ph tag'' (becM M1 V) H''∧Fr tag' tag'' W' w') (fun W2 k2=>?_)).mono ?_⟩
      ·refine (become_any (qh.still k2.below) V (by omega) (by omega) (by omega) (by have:=(hpre M1 q1).2.2;omega)).mono ?_
       rintro e w' ⟨rfl,t2,H2,r1,r2⟩
       exact ⟨rfl,t2,H2,r1,(Fr.of_below k2.below).trans r2⟩
      ·rintro e w' ⟨rfl,t2,H2,r1,r2⟩
       exact ⟨rfl,fun _=>⟨t2,H2,M1,becM M1 V,q1,.inr ⟨hpass,by omega,by omega,by omega,by rw[hV]⟩,r1,q3.trans ((Fr.of_below k'.below).trans r2)⟩,fun x=>(by cases x)⟩
 ·rintro W ⟨tag',H',M1,M2,q1,q2,q3,q4⟩
  have c1:=q3.wf.l2
  have c2:=q3.wf.lm
  have hfit:b≤1048576:=by
   rcases q2 with ⟨z,rfl⟩|⟨z1,z2,z3,z4,rfl⟩
   ·omega
   ·have:=becM_parts M1 ((M1.limit-M1.large-b) / 2)
    rw[this.2.2.1] at c1
    omega
  refine (r_new b (by omega) hfit W).mono ?_
  rintro e w' ⟨a,rfl,s1,s2,s3⟩
  have hz:∀ x,W.heap.size≤x→tag' x=0:=fun x hx=>Classical.byContradiction (fun q=>by have:=q3.raw.un x q;omega)
  have:=q4.size
  exact ⟨a,rfl,tag',H',M1,M2,q1,q2,q3.still s3,q4.trans (Fr.of_below s3),s1,⟨hz _ s2.1,hz _ s2.2.1,hz _ s2.2.2⟩,⟨by omega,by omega,by omega⟩⟩
 ·rintro a W ⟨tag',H',M1,M2,q1,q2,q3,q4,q5,q6,q7⟩
  have hu:(RefSt.new b).used=1:=rfl
  refine (r_alloc_yes q5 k r s hf (by rw[hu];show 1+(1+r+s)≤b;omega)).mono ?_
  rintro e w' ⟨rfl,g1,g2⟩
  have hsame:∀ g,tag' g≠0→w'.heap[g]?=W.heap[g]?:=fun g hg=>g2.block g (q3.raw.un g hg) (fun hm=>by
   simp only[List.mem_cons,List.not_mem_nil,or_false] at hm
   rcases hm with rfl|rfl|rfl
   exact hg q6.1;exact hg q6.2.1;exact hg q6.2.2)
  refine ⟨⟨_,rfl⟩,tag',H',M1,M2,q1,q2,{ q3 with raw:=q3.raw.same g2.size hsame },⟨g2.os.trans q4.os,g2.tape.trans q4.tape,g2.output.trans q4.output,Nat.le_trans q4.size g2.size,fun g hg e=>?_⟩,g1,q6,q7⟩
  have z:=q4.blk g hg e
  refine ⟨(g2.block g (Nat.lt_of_lt_of_le hg q4.size) (fun hm=>?_)).trans z.1,z.2⟩
  simp only[List.mem_cons,List.not_mem_nil,or_false] at hm
  rcases hm with rfl|rfl|rfl <;> omega
 ·rintro a W ⟨tag',H',M1,M2,q1,q2,q3,q4,q5,q6,q7⟩
  have c1:=q3.wf.l2
  have c2:=q3.wf.lm
  have n9:=q3.raw.n9
  rw[q3.nG] at n9
  have hp1:=hpre M1 q1
  have hM2:1≤M2.objs.length∧M2.slots.length≤20000∧2*M2.half+M2.large+b≤M2.limit:=by
   rcases q2 with ⟨z,rfl⟩|⟨z1,z2,z3,z4,rfl⟩
   ·exact ⟨hp1.1,hp1.2.1,z⟩
   ·obtain ⟨x1,x2,x3,x4,x5,x6,x7,_⟩:=becM_parts M1 ((M1.limit-M1.large-b) / 2)
    rw[x1,x5,x7,x6,x3]
    exact ⟨hp1.1,hp1.2.1,by omega⟩
  have hcBl:H'.cB.length<1000000:=by have:=q3.lB.1;omega
  refine ⟨M2.large,by omega,n9,q3.raw.fz 9 (by decide),?_⟩
  have enum:((M2.large:Int)+(b:Nat))=((M2.large+b:Nat):Int):=by omega
  rw[enum]
  have hl1:=hraw_large q3.raw (M2.large+b)
  obtain ⟨W3,hW3⟩:∃ W3,W.setCell ⟨ph,9,none⟩ (.int .i64 ((M2.large+b:Nat):Int))=W3:=⟨_,rfl⟩
  rw[hW3] at hl1 ⊢
  have z3:W3.heap.size=W.heap.size:=by rw[← hW3,World.size_setCell]
  have hphW:ph<W.heap.size:=q3.raw.un ph (by rw[q3.raw.t1];decide)
  have hph0:tag' ph≠0:=by rw[q3.raw.t1];decide
  have h3:∀ g,g≠ph→W3.heap[g]?=W.heap[g]?:=fun g hg=>by rw[← hW3,setCell_else _ _ _ _ _ hg]
  have al:=q5.lt
  have na:a.1≠ph∧a.2.1≠ph∧a.2.2≠ph:=⟨fun e=>hph0 (by rw[← e];exact q6.1),fun e=>hph0 (by rw[← e];exact q6.2.1),fun e=>hph0 (by rw[← e];exact q6.2.2)⟩
  have aA3:ArR W3 a ((RefSt.new b).lay k r s (List.replicate (r+s) 0) undef (.slice none 0 0)):=q5.conf (by rw[z3];exact Nat.le_refl _) (h3 _ na.1) (h3 _ na.2.1) (h3 _ na.2.2)
  have k4:Below W3.heap.size W3 (W3.alloc (.cells #[.pointer (some ⟨a.1,0,none⟩),.int .i64 0] 176)):=(Below.refl _ _).alloc (Nat.le_refl _) _
  have hl2:=hl1.below k4
  have hbz:tag' W.heap.size=0:=Classical.byContradiction (fun q=>by have:=q3.raw.un _ q;omega)
  have hblk:(W3.alloc (.cells #[.pointer (some ⟨a.1,0,none⟩),.int .i64 0] 176)).heap[W.heap.size]?=some (.cells #[.pointer (some ⟨a.1,0,none⟩),.int .i64 0] 176 (0,0)):=by
   rw[← z3];exact heap_alloc_new W3 _
  have aA4:=aA3.conf k4.size (k4.block _ (by omega)) (k4.block _ (by omega)) (k4.block _ (by omega))
  have hbk:∀ n,BkAt (W3.alloc (.cells #[.pointer (some ⟨a.1,0,none⟩),.int .i64 0] 176)) W.heap.size a (midK (addL M2 k r s n) [] (fun _=>0) M2.objs.length) 0:=by
   intro n
   have eo:(addL M2 k r s n).objs=M2.objs ++ [newOb k r s true n]:=rfl
   refine ⟨?_,?_,?_,aA4.like ?_ ?_ rfl ?_⟩
   ·simp only[World.cell?,hblk];simp
   ·simp only[World.cell?,hblk];simp
   ·simp only[World.frozen?,hblk];simp
   ·show [shp (ob (addL M2 k r s n) M2.objs.length)]=[] ++ [(k,r,s)]
    rw[ob_new eo]
    show [(k,(List.replicate r 0).length,(List.replicate s 0).length)]=_
    rw[List.length_replicate,List.length_replicate]
    rfl
   ·show [mix (addL M2 k r s n) [] 0 M2.objs.length]=[] ++ [List.replicate (r+s) 0]
    rw[mix_new eo]
    rfl
   ·show 1+osz (ob (addL M2 k r s n) M2.objs.length)=b
    rw[ob_new eo]
    unfold osz newOb
    rw[List.length_replicate,List.length_replicate]
    omega
  refine (addB_any hl2.pB hcBl (fun q hq=>by have:=q3.lB.2 q hq;omega) W.heap.size).mono ?_
  rintro e w' ⟨n,rfl,n1,n2,n3,fr',vc',vf',p1,p2,p3,p4,p5,w1,p6,p7⟩
  have hs4:(W3.alloc (.cells #[.pointer (some ⟨a.1,0,none⟩),.int .i64 0] 176)).heap.size=W.heap.size+1:=by rw[World.size_alloc,z3]
  obtain ⟨r1,r2,r3,r4⟩:=hl2.addB n W.heap.size a _ ⟨hbz,q6.1,q6.2.1,q6.2.2⟩ (by omega) (hbk n) ⟨by omega,by omega,by omega⟩ n3 p1 p4 p5 p6 p7
  have hslot:∀ q,(H'.cB.getD q none).isSome=true↔M2.slots.getD q 0≠0:=q3.cB
  have low:LowS M2 n:=by
   refine ⟨Classical.byContradiction (fun z=>?_),Nat.le_trans n3 q3.lB.1,fun q hq=>?_⟩
   ·have:=(hslot n).2 z
    have n1':H'.cB.getD n none=none:=n1
    rw[n1'] at this
    cases this
   ·refine (hslot q).1 ?_
    have n2':H'.cB.getD q none≠none:=n2 q hq
    cases hx:H'.cB.getD q none with
    | none=>exact absurd hx n2'
    | some x=>rfl
  have hlb:=low_bound q3.wf n low.2.2
  have eo:(addL M2 k r s n).objs=M2.objs ++ [newOb k r s true n]:=rfl
  have wf2:=addL_wf q3.wf hM2.1 k r s n hs (by omega) low.2.1 low.1 (by omega)
  have hsln:=addL_len M2 k r s n low.2.1
  refine ⟨n,rfl,by omega,tagB tag' W.heap.size a vc' n,_,M1,M2,q1,q2,low,⟨r1,wf2,q3.nL,?_,q3.nK,q3.nM,q3.nC,q3.nR,?_,q3.S,fun q=>?_,fun q hq=>?_,fun q hq=>?_,fun x=>?_,⟨?_,fun x hx=>?_⟩,q3.lH⟩,?_⟩
  ·show M2.large+b=M2.large+(2+r+s);omega
  ·show H'.A=midA (addL M2 k r s n) []
   rw[q3.A]
   unfold midA
   have x1:shapes M2 M2.small=shapes (addL M2 k r s n) (addL M2 k r s n).small:=(shapes_old q3.wf eo).symm
   have x2:M2.small.map (fun i=>mix M2 [] 0 i)=(addL M2 k r s n).small.map (fun i=>mix (addL M2 k r s n) [] 0 i):=List.map_congr_left (fun i hi=>(mix_old q3.wf eo (.inl hi)).symm)
   have x3:M2.small.map (fun i=>if i∈([]:List Nat) then some (addr M2 [] i) else none)=(addL M2 k r s n).small.map (fun i=>if i∈([]:List Nat) then some (addr (addL M2 k r s n) [] i) else none):=List.map_congr_left (fun i hi=>by rw[if_neg (by simp),if_neg (by simp)])
   rw[x1,x2,x3]
   rfl
  ·show ((poolPut H'.cB n W.heap.size).getD q none).isSome=true↔_
   rw[poolPut_at _ _ _ _ n3,addL_slot M2 k r s n q low.2.1]
   by_cases z:q=n
   ·rw[if_pos z,if_pos z]
    simp only[Option.isSome_some,true_iff]
    omega
   ·rw[if_neg z,if_neg z];exact hslot q
  ·rw[addL_slot M2 k r s n q low.2.1] at hq ⊢
   show updF H'.bk n _ q=_
   unfold updF
   by_cases z:q=n
   ·rw[if_pos z,if_pos z]
   ·rw[if_neg z] at hq
    rw[if_neg z,if_neg z,q3.bk q hq]
    have hIs:Is M2 (M2.slots.getD q 0):=.inr ⟨hq,(slot_mem hq).2⟩
    unfold midK
    rw[mix_old q3.wf eo hIs,ob_old eo (q3.wf.ln _ hIs)]
  ·rw[addL_slot M2 k r s n q low.2.1] at hq
   show updF H'.re n 0 q≤H'.coll
   unfold updF
   by_cases z:q=n
   ·rw[if_pos z];exact Nat.zero_le _
   ·rw[if_neg z] at hq ⊢;exact q3.re q hq
  ·show H'.cH.getD x none=(M2.roots.getD x none).map (refW (addL M2 k r s n))
   rw[q3.cH x]
   cases hx:M2.roots.getD x none with
   | none=>rfl
   | some i=>
    show some _=some _
    rw[refW_old eo ((q3.wf.ok.rt i (roots_mem hx)).imp id (fun q=>q3.wf.ln i q))]
  ·show (poolPut H'.cB n W.heap.size).length≤_
   have:=q3.lB.1
   have n3':n≤H'.cB.length:=n3
   unfold poolPut
   split
   ·rw[List.length_set];omega
   ·rw[List.length_append,List.length_singleton];omega
  ·have:=q3.lB.2 x (p2 x hx);omega
  ·have s4:=k4.size
   refine ⟨r2.1.trans ?_,r2.2.1.trans ?_,r2.2.2.1.trans ?_,?_,fun g hg e=>?_⟩
   ·rw[← hW3];exact q4.os
   ·rw[← hW3];exact q4.tape
   ·rw[← hW3];exact q4.output
   ·have:=q4.size;have:=r2.2.2.2;omega
   ·have z:=q4.blk g hg e
    have hgs:g<W.heap.size:=Nat.lt_of_lt_of_le hg q4.size
    have hgp:g≠ph:=by rintro rfl;exact hph0 z.2
    refine ⟨?_,?_⟩
    ·rw[r3 g (by omega) z.2,k4.block g (by omega),h3 g hgp];exact z.1
    ·rw[r4 g (by omega) (by omega) (by omega) (by omega) (by omega)];exact z.2
 ·rintro e w' (⟨n,rfl,tag',H',M1,M2,q1,q2,q3,q4,q5⟩|⟨rfl,tag',H',M1,q1,q2,q3,q4⟩)
  ·exact ⟨tag',H',M1,q1,q5,.inl ⟨M2,n,q2,q3,rfl,q4⟩⟩
  ·exact ⟨tag',H',M1,q1,q4,.inr ⟨q2,rfl,q3⟩⟩
end Go.Proofs.YtidfllgaeiopjabGreat
