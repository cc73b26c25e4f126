import Derived.Test.YtidfllgaeiopjabGreatTwin
import Derived.Test.YtidfllgaeiopjabGreatPoolMath
namespace Go.Proofs.YtidfllgaeiopjabGreat
open Go.ChangeShapes Go.WideShapes Go.ChangeAt Go.RowKit
set_option linter.unusedVariables false
set_option maxRecDepth 100000
set_option maxHeartbeats 2000000
def nv (l:List Nat) (j:Nat):Value:=.int .i64 (l.getD j 0:Nat)
def gB (v:Value):List Nat:=(v.ownBlock).toList
theorem nv_int (l:List Nat) (k:Nat) (h:k<l.length):l.getD k 0=l[k]:=by
 rw[List.getD_eq_getElem?_getD,List.getElem?_eq_getElem h];rfl
theorem less_any {w:World}{v:Value}{l:List Nat} (h:Line w 3 v l.length (nv l)) (i j:Nat) (hi:i<l.length) (hj:j<l.length):
  Calls Tryz.prog 223 #[v,.int .i64 (i:Nat),.int .i64 (j:Nat)] w fun e w'=>e=.returned (.bool (decide (l.getD i 0<l.getD j 0)))∧Still w w':=by
 obtain ⟨g,cap,rfl,hg,hc⟩:=h.at (by omega)
 have c1:=(hc i hi).1
 have c2:=(hc j hj).1
 unfold nv at c1 c2
 clear h hc
 generalize l.getD i 0=x at *
 generalize l.getD j 0=y at *
 go_enter Tryz.func223,Tryz.ntmps223
 go_wp2
 go_region
 all_goals go_wp2
 all_goals go_ret
 all_goals (refine ⟨?_,?_⟩)
 all_goals first|exact ⟨rfl,rfl,rfl,rfl⟩|(congr 2;simp)|rfl
theorem swap_any {w:World}{v:Value}{l:List Nat} (h:Line w 3 v l.length (nv l)) (i j:Nat) (hi:i<l.length) (hj:j<l.length):
  Calls Tryz.prog 224 #[v,.int .i64 (i:Nat),.int .i64 (j:Nat)] w fun e w'=>e=.returned (.tuple #[])∧Line w' 3 v l.length (nv (swp l i j))∧But (gB v) w w':=by
 obtain ⟨g,cap,rfl,hg,hc⟩:=h.at (by omega)
 have c1:=(hc i hi).1
 have c2:=(hc j hj).1
 have f1:=(hc i hi).2
 have f2:=(hc j hj).2
 unfold nv at c1 c2
 have HL:Hid (Line ((w.setCell ⟨g,i,none⟩ (.int .i64 (l.getD j 0:Nat))).setCell ⟨g,j,none⟩ (.int .i64 (l.getD i 0:Nat))) 3 (.slice (some ⟨g,0,none⟩) l.length cap) l.length (nv (swp l i j))):=hide (by
  refine ((h.put hg i (.int .i64 (l.getD j 0:Nat)) hi).put hg j (.int .i64 (l.getD i 0:Nat)) hj).congr (fun k hk=>?_)
  have e:=congrFun (swp_get l i j hi hj) k
  unfold swf at e
  dsimp only at e
  unfold nv
  rw[e]
  by_cases e1:k=j
  ·rw[if_pos e1,if_pos e1]
  ·rw[if_neg e1,if_neg e1]
   by_cases e2:k=i
   ·rw[if_pos e2,if_pos e2]
   ·rw[if_neg e2,if_neg e2])
 have HB:Hid (But (gB (.slice (some ⟨g,0,none⟩) l.length cap)) w ((w.setCell ⟨g,i,none⟩ (.int .i64 (l.getD j 0:Nat))).setCell ⟨g,j,none⟩ (.int .i64 (l.getD i 0:Nat))).drew):=hide
  ((((But.refl _ _).set ⟨g,i,none⟩ (by simp [gB,Value.ownBlock]) _).set ⟨g,j,none⟩ (by simp [gB,Value.ownBlock]) _).trans (But.of_below (Below.refl _ _).drew))
 have HE:Hid (∀ W:World,Line W 3 (.slice (some ⟨g,0,none⟩) l.length cap) l.length (nv (swp l i j))→Line W.drew 3 (.slice (some ⟨g,0,none⟩) l.length cap) l.length (nv (swp l i j))):=hide (fun W h=>h.same (fun _ _=>rfl))
 clear hc h
 generalize nv (swp l i j)=F at *
 by_cases eij:i=j
 ·subst eij
  generalize l.getD i 0=x at *
  go_enter Tryz.func224,Tryz.ntmps224
  go_wp2
  go_region
  all_goals go_wp2
  all_goals go_end0
  all_goals exact ⟨rfl,unhide HE _ (unhide HL),unhide HB⟩
 ·generalize l.getD i 0=x at *
  generalize l.getD j 0=y at *
  go_enter Tryz.func224,Tryz.ntmps224
  go_wp2
  go_region
  all_goals go_wp2
  all_goals go_end0
  all_goals exact ⟨rfl,unhide HE _ (unhide HL),unhide HB⟩
theorem less_raw {w:World}{v:Value}{l:List Nat} (h:Line w 3 v l.length (nv l)) {i j:Nat}{I J:Int} (hI:I=(i:Nat)) (hJ:J=(j:Nat)) (hi:i<l.length) (hj:j<l.length):
  ∀ w1,Still w w1→Calls Tryz.prog 223 #[v,.int .i64 I,.int .i64 J] w1 fun e w'=>e=.returned (.bool (decide (l.getD i 0<l.getD j 0)))∧Still w1 w':=fun w1 hs=>by
 rw[hI,hJ];exact less_any (h.same (fun g _=>by rw[hs.heap])) i j hi hj
theorem swap_raw {w:World}{v:Value}{l:List Nat} (h:Line w 3 v l.length (nv l)) {i j:Nat}{I J:Int} (hI:I=(i:Nat)) (hJ:J=(j:Nat)) (hi:i<l.length) (hj:j<l.length):
  ∀ w1,Still w w1→Calls Tryz.prog 224 #[v,.int .i64 I,.int .i64 J] w1 fun e w'=>e=.returned (.tuple #[])∧Line w' 3 v l.length (nv (swp l i j))∧But (gB v) w1 w':=fun w1 hs=>by
 rw[hI,hJ];exact swap_any (h.same (fun g _=>by rw[hs.heap])) i j hi hj
theorem len_any (w:World) (a:Option Addr) (n cap:Nat):Calls Tryz.prog 222 #[.slice a n cap] w fun e w'=>e=.returned (.int .i64 (n:Nat))∧w'=w:=by
 go_enter Tryz.func222,Tryz.ntmps222
 go_wp2
 go_ret
 exact ⟨rfl,rfl⟩
theorem m_less0 (W:World) (b o:Nat):(method 403 228 (.pointer (some ⟨b,o,none⟩)) "Less").run Tryz.prog W=((load ⟨b,o,none⟩) >>= fun v=>pure (223,v)).run Tryz.prog W:=by kernel_rfl
theorem m_swap0 (W:World) (b o:Nat):(method 403 228 (.pointer (some ⟨b,o,none⟩)) "Swap").run Tryz.prog W=((load ⟨b,o,none⟩) >>= fun v=>pure (224,v)).run Tryz.prog W:=by kernel_rfl
theorem m_len0 (W:World) (b o:Nat):(method 403 228 (.pointer (some ⟨b,o,none⟩)) "Len").run Tryz.prog W=((load ⟨b,o,none⟩) >>= fun v=>pure (222,v)).run Tryz.prog W:=by kernel_rfl
theorem m_push (W:World) (b o:Nat):(method 403 228 (.pointer (some ⟨b,o,none⟩)) "Push").run Tryz.prog W=.ok (227,.pointer (some ⟨b,o,none⟩)) W:=by kernel_rfl
theorem m_pop (W:World) (b o:Nat):(method 403 228 (.pointer (some ⟨b,o,none⟩)) "Pop").run Tryz.prog W=.ok (226,.pointer (some ⟨b,o,none⟩)) W:=by kernel_rfl
theorem m_less (W:World) (b o:Nat) (v:Value) (h:W.cell? ⟨b,o,none⟩=some v):(method 403 228 (.pointer (some ⟨b,o,none⟩)) "Less").run Tryz.prog W=.ok (223,v) W:=by
 rw[m_less0,Sem.run_bind,run_load,h];rfl
theorem m_swap (W:World) (b o:Nat) (v:Value) (h:W.cell? ⟨b,o,none⟩=some v):(method 403 228 (.pointer (some ⟨b,o,none⟩)) "Swap").run Tryz.prog W=.ok (224,v) W:=by
 rw[m_swap0,Sem.run_bind,run_load,h];rfl
theorem m_len (W:World) (b o:Nat) (v:Value) (h:W.cell? ⟨b,o,none⟩=some v):(method 403 228 (.pointer (some ⟨b,o,none⟩)) "Len").run Tryz.prog W=.ok (222,v) W:=by
 rw[m_len0,Sem.run_bind,run_load,h];rfl
theorem not_gB {v:Value}{b:Nat} (h:v.ownBlock≠some b):b ∉ gB v:=by
 unfold gB
 cases hv:v.ownBlock with
 | none=>simp
 | some g=>simp;rintro rfl;exact h hv
theorem up_any {b o:Nat}{v:Value}{l:List Nat} (w:World) (hcell:w.cell? ⟨b,o,none⟩=some v) (hL:Line w 3 v l.length (nv l)) (hap:v.ownBlock≠some b) (hlen:l.length≤1099511627776) (j:Nat) (hj:j<l.length) (hU:UpI l.length (fun k=>l.getD k 0) j):
  Calls Tryz.prog 189 #[.iface 228 (.pointer (some ⟨b,o,none⟩)),.int .i64 (j:Nat)] w fun e w'=>e=.returned (.tuple #[])∧∃ l',l'.Perm l∧HO l.length (fun k=>l'.getD k 0)∧Line w' 3 v l.length (nv l')∧But (gB v) w w':=by
 have hbw:b<w.heap.size:=by have:=block_lt_of_cell hcell;simpa using this
 have hng:=not_gB hap
 go_enter Tryz.func189,Tryz.ntmps189
 go_wp2_with fail
 go_loopw [1] (fun jv wr=>∃ (k:Nat) (l':List Nat),jv=.int .i64 (k:Nat)∧k<l.length∧l'.Perm l∧UpI l.length (fun q=>l'.getD q 0) k∧Line wr 3 v l.length (nv l')∧wr.cell? ⟨b,o,none⟩=some v∧But (gB v) w wr) (fun jv _=>(intOf jv).toNat)
 case atStart=>exact ⟨j,l,rfl,hj,List.Perm.refl _,hU,hL,hcell,But.refl _ _⟩
 case round=>
  obtain ⟨k,l',rfl,hk,hp,hu,hl,hc,hb⟩:=hrel
  clear hL hcell hU
  have hll:l'.length=l.length:=hp.length_eq
  by_cases k0:k=0
  ·subst k0
   have HF:=hide (show ∃ l',l'.Perm l∧HO l.length (fun k=>l'.getD k 0)∧Line wr 3 v l.length (nv l')∧But (gB v) w wr from ⟨l',hp,hu.done (.inl rfl),hl,hb⟩)
   clear hp hu hl hb hll
   go_wp2_with fail
   go_end0
   exact ⟨rfl,unhide HF⟩
  ·obtain ⟨i,hi⟩:∃ i,(k-1) / 2=i:=⟨_,rfl⟩
   have e0:((k:Int)-1) / 2=((i:Nat):Int):=by omega
   have hik:i<k:=by omega
   have HLs:=hide (less_any (w:=wr) (v:=v) (l:=l') (by rw[hll];exact hl) k i (by omega) (by omega))
   have HSw:Hid (∀ w1,Still wr w1→Calls Tryz.prog 224 #[v,.int .i64 (i:Nat),.int .i64 (k:Nat)] w1 fun e w'=>e=.returned (.tuple #[])∧Line w' 3 v l.length (nv (swp l' i k))∧But (gB v) w1 w'):=hide (fun w1 hs=>by
    have:=swap_any (w:=w1) (v:=v) (l:=l') (by rw[hll];exact hl.same (fun g _=>by rw[hs.heap])) i k (by omega) (by omega)
    rw[hll] at this;exact this)
   have HD:Hid (¬ l'.getD k 0<l'.getD i 0→HO l.length (fun k=>l'.getD k 0)):=hide (fun h=>hu.done (.inr (by rw[hi];omega)))
   have HU:Hid (l'.getD k 0<l'.getD i 0→UpI l.length (fun q=>(swp l' i k).getD q 0) i):=hide (fun h=>by
    have:=hu.step (by omega) hk (by rw[hi];exact h)
    rw[hi] at this
    rw[swp_get l' i k (by omega) (by omega)];exact this)
   have HP:Hid ((swp l' i k).Perm l):=hide ((swp_perm l' i k (by omega) (by omega)).trans hp)
   have HK:=hide (And.intro hl (And.intro hp hb))
   have hm:=m_less wr b o v hc
   clear hu hl hp hb hll hi
   go_wp2_with fail
   refine (unhide HLs).mono ?_
   clear HLs hm
   rintro e w1 ⟨rfl,hst⟩
   have hc1:w1.cell? ⟨b,o,none⟩=some v:=(hst.cell _).trans hc
   have hm:=m_swap w1 b o v hc1
   have HT:=hide hst
   clear hc hst
   by_cases hlt:l'.getD k 0<l'.getD i 0
   ·have hd:decide (l'.getD k 0<l'.getD i 0)=true:=decide_eq_true hlt
    have HU2:=hide (unhide HU hlt)
    rw[hd]
    clear HU HD hlt hd
    go_wp2_with fail
    refine (unhide HSw w1 (unhide HT)).mono ?_
    clear HSw hm
    rintro e w2 ⟨rfl,hl2,hb2⟩
    have hb02:But (gB v) w w2:=((unhide HK).2.2.trans (But.of_below (unhide HT).below)).trans hb2
    have hc2:w2.cell? ⟨b,o,none⟩=some v:=(hb2.cell (q:=⟨b,o,none⟩) (by have:=block_lt_of_cell hc1;simpa using this) hng).trans hc1
    have HR:=hide (show ∃ (k:Nat) (l':List Nat),(Value.int .i64 (i:Nat))=.int .i64 (k:Nat)∧k<l.length∧l'.Perm l∧UpI l.length (fun q=>l'.getD q 0) k∧Line w2 3 v l.length (nv l')∧w2.cell? ⟨b,o,none⟩=some v∧But (gB v) w w2 from ⟨i,swp l' i k,rfl,by omega,unhide HP,unhide HU2,hl2,hc2,hb02⟩)
    clear hl2 hb2 hb02 hc2 HU2 HP HK hc1
    go_wp2
    go_roundw
    case rel=>exact unhide HR
    case measure=>simp [intOf];omega
   ·have hd:decide (l'.getD k 0<l'.getD i 0)=false:=decide_eq_false hlt
    have HF:=hide (show ∃ l',l'.Perm l∧HO l.length (fun k=>l'.getD k 0)∧Line w1 3 v l.length (nv l')∧But (gB v) w w1 from ⟨l',(unhide HK).2.1,unhide HD hlt,(unhide HK).1.same (fun g _=>by rw[(unhide HT).heap]),(unhide HK).2.2.trans (But.of_below (unhide HT).below)⟩)
    rw[hd]
    clear HU HD hlt hd HSw hm HK HT
    go_wp2_with fail
    go_end0
    exact ⟨rfl,unhide HF⟩
def BoolEnd (e:Ending):Prop:=∃ u,e=.returned (.bool u)
theorem down_any {b o:Nat}{v:Value}{l:List Nat} (w:World) (hcell:w.cell? ⟨b,o,none⟩=some v) (hL:Line w 3 v l.length (nv l)) (hap:v.ownBlock≠some b) (hlen:l.length≤1099511627776) (i0 n:Nat) (hn:n≤l.length) (hi0:i0<l.length) (hU:DnI n (fun k=>l.getD k 0) i0):
  Calls Tryz.prog 184 #[.iface 228 (.pointer (some ⟨b,o,none⟩)),.int .i64 (i0:Nat),.int .i64 (n:Nat)] w fun e w'=>BoolEnd e∧∃ l',l'.Perm l∧(∀ q,n≤q→l'.getD q 0=l.getD q 0)∧HO n (fun k=>l'.getD k 0)∧Line w' 3 v l.length (nv l')∧But (gB v) w w':=by
 have hbw:b<w.heap.size:=by have:=block_lt_of_cell hcell;simpa using this
 have hng:=not_gB hap
 go_enter Tryz.func184,Tryz.ntmps184
 go_wp2_with fail
 go_loopw [7] (fun jv wr=>∃ (k:Nat) (l':List Nat),jv=.int .i64 (k:Nat)∧k<l.length∧l'.Perm l∧(∀ q,n≤q→l'.getD q 0=l.getD q 0)∧DnI n (fun q=>l'.getD q 0) k∧Line wr 3 v l.length (nv l')∧wr.cell? ⟨b,o,none⟩=some v∧But (gB v) w wr) (fun jv _=>n+1-(intOf jv).toNat)
 case atStart=>exact ⟨i0,l,rfl,hi0,List.Perm.refl _,fun _ _=>rfl,hU,hL,hcell,But.refl _ _⟩
 case round=>
  obtain ⟨k,l',rfl,hk,hp,hsame,hu,hl,hc,hb⟩:=hrel
  clear hL hcell hU
  have hll:l'.length=l.length:=hp.length_eq
  by_cases ha:n≤2*k+1
  ·have HF:=hide (show ∃ l',l'.Perm l∧(∀ q,n≤q→l'.getD q 0=l.getD q 0)∧HO n (fun k=>l'.getD k 0)∧Line wr 3 v l.length (nv l')∧But (gB v) w wr from ⟨l',hp,hsame,hu.done (fun c h1 h2 h3=>by omega),hl,hb⟩)
   clear hp hsame hu hl hb hll
   go_wp2_with fail
   go_ret
   exact ⟨⟨_,rfl⟩,unhide HF⟩
  ·have hlr:Line wr 3 v l'.length (nv l'):=by rw[hll];exact hl
   by_cases h2:2*k+2<n
   ·have HL1:=hide (less_raw (i:=2*k+1+1) (I:=2*(k:Int)+1+1) (j:=2*k+1) (J:=2*(k:Int)+1) hlr (by omega) (by omega) (by omega) (by omega))
    have hm:=m_less wr b o v hc
    go_wp2_with fail
    refine (unhide HL1 wr (Still.refl _)).mono ?_
    clear HL1 hm
    rintro e w4 ⟨rfl,hst4⟩
    have hcW:w4.cell? ⟨b,o,none⟩=some v:=(hst4.cell _).trans hc
    have hlW:Line w4 3 v l'.length (nv l'):=hlr.same (fun g _=>by rw[hst4.heap])
    have hbW:But (gB v) w w4:=hb.trans (But.of_below hst4.below)
    clear hl hlr hb hc hst4
    by_cases h3:l'.getD (2*k+1+1) 0<l'.getD (2*k+1) 0
    ·have hd3:decide (l'.getD (2*k+1+1) 0<l'.getD (2*k+1) 0)=true:=decide_eq_true h3
     have hmin:∀ c,0<c→c<n→(c-1) / 2=k→l'.getD (2*k+1+1) 0≤l'.getD c 0:=fun c c1 c2 c3=>by
      rcases (by omega:c=2*k+1∨c=2*k+1+1) with e|e <;> rw[e] <;> omega
     rw[hd3]
     clear hd3 h3
     have HL2:=hide (less_raw (i:=2*k+1+1) (I:=2*(k:Int)+1+1) (j:=k) (J:=(k:Int)) hlW (by omega) (by omega) (by omega) (by omega))
     have HSw:=hide (swap_raw (i:=k) (I:=(k:Int)) (j:=2*k+1+1) (J:=2*(k:Int)+1+1) hlW (by omega) (by omega) (by omega) (by omega))
     have hm:=m_less w4 b o v hcW
     go_wp2_with fail
     refine (unhide HL2 w4 (Still.refl _)).mono ?_
     clear HL2 hm
     rintro e w5 ⟨rfl,hst5⟩
     have hc5:w5.cell? ⟨b,o,none⟩=some v:=(hst5.cell _).trans hcW
     have hm:=m_swap w5 b o v hc5
     by_cases hlt:l'.getD (2*k+1+1) 0<l'.getD k 0
     ·have hd:decide (l'.getD (2*k+1+1) 0<l'.getD k 0)=true:=decide_eq_true hlt
      rw[hd]
      clear hd
      have HU2:Hid (DnI n (fun q=>(swp l' k (2*k+1+1)).getD q 0) (2*k+1+1)):=hide (by
       rw[swp_get l' k (2*k+1+1) (by omega) (by omega)]
       exact hu.step (by omega) (by omega) (by omega) hmin hlt)
      have HQ:Hid (∀ q,n≤q→(swp l' k (2*k+1+1)).getD q 0=l.getD q 0):=hide (fun q hq=>by
       have:=congrFun (swp_get l' k (2*k+1+1) (by omega) (by omega)) q
       rw[this,swf_o _ _ _ _ (by omega) (by omega)];exact hsame q hq)
      have HP:Hid ((swp l' k (2*k+1+1)).Perm l):=hide ((swp_perm l' k (2*k+1+1) (by omega) (by omega)).trans hp)
      have HB5:Hid (But (gB v) w w5):=hide (hbW.trans (But.of_below hst5.below))
      have HSw2:=hide (unhide HSw w5 hst5)
      rw[hll] at HSw2
      clear HSw hu hp hbW hlW hst5 hcW hlt hmin hsame hll
      go_wp2_with fail
      refine (unhide HSw2).mono ?_
      clear HSw2 hm
      rintro e w6 ⟨rfl,hl6,hb6⟩
      have HR:=hide (show ∃ (k':Nat) (l':List Nat),(Value.int .i64 (2*(k:Int)+1+1))=.int .i64 (k':Nat)∧k'<l.length∧l'.Perm l∧(∀ q,n≤q→l'.getD q 0=l.getD q 0)∧DnI n (fun q=>l'.getD q 0) k'∧Line w6 3 v l.length (nv l')∧w6.cell? ⟨b,o,none⟩=some v∧But (gB v) w w6 from ⟨2*k+1+1,swp l' k (2*k+1+1),by congr 1,by omega,unhide HP,unhide HQ,unhide HU2,hl6,(hb6.cell (q:=⟨b,o,none⟩) (by have:=block_lt_of_cell hc5;simpa using this) hng).trans hc5,(unhide HB5).trans hb6⟩)
      clear hl6 hb6 HU2 HQ HP HB5 hc5
      go_wp2
      go_roundw
      case rel=>exact unhide HR
      case measure=>simp [intOf];omega
     ·have hd:decide (l'.getD (2*k+1+1) 0<l'.getD k 0)=false:=decide_eq_false hlt
      have HF:=hide (show ∃ l',l'.Perm l∧(∀ q,n≤q→l'.getD q 0=l.getD q 0)∧HO n (fun k=>l'.getD k 0)∧Line w5 3 v l.length (nv l')∧But (gB v) w w5 from ⟨l',hp,hsame,hu.done (fun c h1 h2 h3=>Nat.le_trans (Nat.le_of_not_lt hlt) (hmin c h1 h2 h3)),by rw[← hll];exact hlW.same (fun g _=>by rw[hst5.heap]),hbW.trans (But.of_below hst5.below)⟩)
      rw[hd]
      clear hd HSw hm hu hp hbW hlW hst5 hcW hlt hmin hsame hll hc5
      go_wp2_with fail
      go_ret
      exact ⟨⟨_,rfl⟩,unhide HF⟩
    ·have hd3:decide (l'.getD (2*k+1+1) 0<l'.getD (2*k+1) 0)=false:=decide_eq_false h3
     have hmin:∀ c,0<c→c<n→(c-1) / 2=k→l'.getD (2*k+1) 0≤l'.getD c 0:=fun c c1 c2 c3=>by
      rcases (by omega:c=2*k+1∨c=2*k+1+1) with e|e <;> rw[e] <;> omega
     rw[hd3]
     clear hd3 h3
     have HL2:=hide (less_raw (i:=2*k+1) (I:=2*(k:Int)+1) (j:=k) (J:=(k:Int)) hlW (by omega) (by omega) (by omega) (by omega))
     have HSw:=hide (swap_raw (i:=k) (I:=(k:Int)) (j:=2*k+1) (J:=2*(k:Int)+1) hlW (by omega) (by omega) (by omega) (by omega))
     have hm:=m_less w4 b o v hcW
     go_wp2_with fail
     refine (unhide HL2 w4 (Still.refl _)).mono ?_
     clear HL2 hm
     rintro e w5 ⟨rfl,hst5⟩
     have hc5:w5.cell? ⟨b,o,none⟩=some v:=(hst5.cell _).trans hcW
     have hm:=m_swap w5 b o v hc5
     by_cases hlt:l'.getD (2*k+1) 0<l'.getD k 0
     ·have hd:decide (l'.getD (2*k+1) 0<l'.getD k 0)=true:=decide_eq_true hlt
      rw[hd]
      clear hd
      have HU2:Hid (DnI n (fun q=>(swp l' k (2*k+1)).getD q 0) (2*k+1)):=hide (by
       rw[swp_get l' k (2*k+1) (by omega) (by omega)]
       exact hu.step (by omega) (by omega) (by omega) hmin hlt)
      have HQ:Hid (∀ q,n≤q→(swp l' k (2*k+1)).getD q 0=l.getD q 0):=hide (fun q hq=>by
       have:=congrFun (swp_get l' k (2*k+1) (by omega) (by omega)) q
       rw[this,swf_o _ _ _ _ (by omega) (by omega)];exact hsame q hq)
      have HP:Hid ((swp l' k (2*k+1)).Perm l):=hide ((swp_perm l' k (2*k+1) (by omega) (by omega)).trans hp)
      have HB5:Hid (But (gB v) w w5):=hide (hbW.trans (But.of_below hst5.below))
      have HSw2:=hide (unhide HSw w5 hst5)
      rw[hll] at HSw2
      clear HSw hu hp hbW hlW hst5 hcW hlt hmin hsame hll
      go_wp2_with fail
      refine (unhide HSw2).mono ?_
      clear HSw2 hm
      rintro e w6 ⟨rfl,hl6,hb6⟩
      have HR:=hide (show ∃ (k':Nat) (l':List Nat),(Value.int .i64 (2*(k:Int)+1))=.int .i64 (k':Nat)∧k'<l.length∧l'.Perm l∧(∀ q,n≤q→l'.getD q 0=l.getD q 0)∧DnI n (fun q=>l'.getD q 0) k'∧Line w6 3 v l.length (nv l')∧w6.cell? ⟨b,o,none⟩=some v∧But (gB v) w w6 from ⟨2*k+1,swp l' k (2*k+1),by congr 1,by omega,unhide HP,unhide HQ,unhide HU2,hl6,(hb6.cell (q:=⟨b,o,none⟩) (by have:=block_lt_of_cell hc5;simpa using this) hng).trans hc5,(unhide HB5).trans hb6⟩)
      clear hl6 hb6 HU2 HQ HP HB5 hc5
      go_wp2
      go_roundw
      case rel=>exact unhide HR
      case measure=>simp [intOf];omega
     ·have hd:decide (l'.getD (2*k+1) 0<l'.getD k 0)=false:=decide_eq_false hlt
      have HF:=hide (show ∃ l',l'.Perm l∧(∀ q,n≤q→l'.getD q 0=l.getD q 0)∧HO n (fun k=>l'.getD k 0)∧Line w5 3 v l.length (nv l')∧But (gB v) w w5 from ⟨l',hp,hsame,hu.done (fun c h1 h2 h3=>Nat.le_trans (Nat.le_of_not_lt hlt) (hmin c h1 h2 h3)),by rw[← hll];exact hlW.same (fun g _=>by rw[hst5.heap]),hbW.trans (But.of_below hst5.below)⟩)
      rw[hd]
      clear hd HSw hm hu hp hbW hlW hst5 hcW hlt hmin hsame hll hc5
      go_wp2_with fail
      go_ret
      exact ⟨⟨_,rfl⟩,unhide HF⟩
   ·have hmin:∀ c,0<c→c<n→(c-1) / 2=k→l'.getD (2*k+1) 0≤l'.getD c 0:=fun c c1 c2 c3=>by
     rw[show c=2*k+1 by omega];exact Nat.le_refl _
    have hcW:=hc
    have hlW:=hlr
    have hbW:=hb
    clear hl hlr hb hc
    have HL2:=hide (less_raw (i:=2*k+1) (I:=2*(k:Int)+1) (j:=k) (J:=(k:Int)) hlW (by omega) (by omega) (by omega) (by omega))
    have HSw:=hide (swap_raw (i:=k) (I:=(k:Int)) (j:=2*k+1) (J:=2*(k:Int)+1) hlW (by omega) (by omega) (by omega) (by omega))
    have hm:=m_less wr b o v hcW
    go_wp2_with fail
    refine (unhide HL2 wr (Still.refl _)).mono ?_
    clear HL2 hm
    rintro e w5 ⟨rfl,hst5⟩
    have hc5:w5.cell? ⟨b,o,none⟩=some v:=(hst5.cell _).trans hcW
    have hm:=m_swap w5 b o v hc5
    by_cases hlt:l'.getD (2*k+1) 0<l'.getD k 0
    ·have hd:decide (l'.getD (2*k+1) 0<l'.getD k 0)=true:=decide_eq_true hlt
     rw[hd]
     clear hd
     have HU2:Hid (DnI n (fun q=>(swp l' k (2*k+1)).getD q 0) (2*k+1)):=hide (by
      rw[swp_get l' k (2*k+1) (by omega) (by omega)]
      exact hu.step (by omega) (by omega) (by omega) hmin hlt)
     have HQ:Hid (∀ q,n≤q→(swp l' k (2*k+1)).getD q 0=l.getD q 0):=hide (fun q hq=>by
      have:=congrFun (swp_get l' k (2*k+1) (by omega) (by omega)) q
      rw[this,swf_o _ _ _ _ (by omega) (by omega)];exact hsame q hq)
     have HP:Hid ((swp l' k (2*k+1)).Perm l):=hide ((swp_perm l' k (2*k+1) (by omega) (by omega)).trans hp)
     have HB5:Hid (But (gB v) w w5):=hide (hbW.trans (But.of_below hst5.below))
     have HSw2:=hide (unhide HSw w5 hst5)
     rw[hll] at HSw2
     clear HSw hu hp hbW hlW hst5 hcW hlt hmin hsame hll
     go_wp2_with fail
     refine (unhide HSw2).mono ?_
     clear HSw2 hm
     rintro e w6 ⟨rfl,hl6,hb6⟩
     have HR:=hide (show ∃ (k':Nat) (l':List Nat),(Value.int .i64 (2*(k:Int)+1))=.int .i64 (k':Nat)∧k'<l.length∧l'.Perm l∧(∀ q,n≤q→l'.getD q 0=l.getD q 0)∧DnI n (fun q=>l'.getD q 0) k'∧Line w6 3 v l.length (nv l')∧w6.cell? ⟨b,o,none⟩=some v∧But (gB v) w w6 from ⟨2*k+1,swp l' k (2*k+1),by congr 1,by omega,unhide HP,unhide HQ,unhide HU2,hl6,(hb6.cell (q:=⟨b,o,none⟩) (by have:=block_lt_of_cell hc5;simpa using this) hng).trans hc5,(unhide HB5).trans hb6⟩)
     clear hl6 hb6 HU2 HQ HP HB5 hc5
     go_wp2
     go_roundw
     case rel=>exact unhide HR
     case measure=>simp [intOf];omega
    ·have hd:decide (l'.getD (2*k+1) 0<l'.getD k 0)=false:=decide_eq_false hlt
     have HF:=hide (show ∃ l',l'.Perm l∧(∀ q,n≤q→l'.getD q 0=l.getD q 0)∧HO n (fun k=>l'.getD k 0)∧Line w5 3 v l.length (nv l')∧But (gB v) w w5 from ⟨l',hp,hsame,hu.done (fun c h1 h2 h3=>Nat.le_trans (Nat.le_of_not_lt hlt) (hmin c h1 h2 h3)),by rw[← hll];exact hlW.same (fun g _=>by rw[hst5.heap]),hbW.trans (But.of_below hst5.below)⟩)
     rw[hd]
     clear hd HSw hm hu hp hbW hlW hst5 hcW hlt hmin hsame hll hc5
     go_wp2_with fail
     go_ret
     exact ⟨⟨_,rfl⟩,unhide HF⟩
end Go.Proofs.YtidfllgaeiopjabGreat
namespace Go.Proofs.YtidfllgaeiopjabGreat
set_option linter.unusedVariables false
def byteN (x q:Nat):Nat:=x / 2 ^ (8*q)%256
theorem byteN_bit (x q m:Nat):(byteN x q).testBit m=(decide (m<8) && x.testBit (8*q+m)):=by
 unfold byteN
 rw[show (256:Nat)=2 ^ 8 from rfl,Nat.testBit_mod_two_pow,Nat.testBit_div_two_pow,Nat.add_comm]
def updN (x q c:Nat):Nat:=(x &&& (18446744073709551615-255*2 ^ (8*q))) ||| (c*2 ^ (8*q))
theorem pow_lt (q:Nat) (hq:q<8):255*2 ^ (8*q)<2 ^ 64:=by
 have h2:2 ^ (8*q)≤2 ^ 56:=Nat.pow_le_pow_right (by decide) (by omega)
 omega
theorem updN_bit (x q c i:Nat) (hq:q<8) (hx:x<2 ^ 64) (hc:c<256):(updN x q c).testBit i=if 8*q≤i∧i<8*q+8 then c.testBit (i-8*q) else x.testBit i:=by
 unfold updN
 have hp:=pow_lt q hq
 rw[Nat.testBit_or,Nat.testBit_and,show 18446744073709551615-255*2 ^ (8*q)=2 ^ 64-(255*2 ^ (8*q)+1) by omega,Nat.testBit_two_pow_sub_succ hp,Nat.testBit_mul_two_pow,Nat.testBit_mul_two_pow,show (255:Nat)=2 ^ 8-1 from rfl,Nat.testBit_two_pow_sub_one]
 by_cases h1:8*q≤i
 ·by_cases h2:i<8*q+8
  ·rw[if_pos ⟨h1,h2⟩]
   have e1:decide (8*q≤i)=true:=decide_eq_true h1
   have e2:decide (i-8*q<8)=true:=decide_eq_true (by omega)
   simp [e1,e2]
  ·rw[if_neg (fun h=>h2 h.2)]
   have e2:decide (i-8*q<8)=false:=decide_eq_false (by omega)
   have e3:c.testBit (i-8*q)=false:=Nat.testBit_lt_two_pow (Nat.lt_of_lt_of_le hc (by
    have:2 ^ 8≤2 ^ (i-8*q):=Nat.pow_le_pow_right (by decide) (by omega)
    exact this))
   simp only[e2,e3,Bool.and_false,Bool.not_false,Bool.and_true,Bool.or_false]
   by_cases h3:i<64
   ·simp [h3]
   ·have:x.testBit i=false:=Nat.testBit_lt_two_pow (Nat.lt_of_lt_of_le hx (Nat.pow_le_pow_right (by decide) (by omega)))
    simp [this]
 ·rw[if_neg (fun h=>h1 h.1)]
  have e1:decide (8*q≤i)=false:=decide_eq_false h1
  have h3:i<64:=by omega
  simp [e1,h3]
theorem updN_lt (x q c:Nat) (hq:q<8) (hx:x<2 ^ 64) (hc:c<256):updN x q c<2 ^ 64:=by
 refine Nat.lt_pow_two_of_testBit _ fun i hi=>?_
 rw[updN_bit x q c i hq hx hc,if_neg (by omega)]
 exact Nat.testBit_lt_two_pow (Nat.lt_of_lt_of_le hx (Nat.pow_le_pow_right (by decide) hi))
theorem updN_byte (x q c p:Nat) (hq:q<8) (hx:x<2 ^ 64) (hc:c<256):byteN (updN x q c) p=if p=q then c else byteN x p:=by
 apply Nat.eq_of_testBit_eq
 intro m
 rw[byteN_bit,updN_bit x q c _ hq hx hc]
 by_cases hm:m<8
 ·by_cases e:p=q
  ·subst e
   rw[if_pos (by omega),if_pos rfl,Nat.add_sub_cancel_left]
   simp [hm]
  ·rw[if_neg (by omega),if_neg e,byteN_bit]
 ·have e1:decide (m<8)=false:=decide_eq_false hm
  rw[e1,Bool.false_and]
  by_cases e:p=q
  ·rw[if_pos e]
   exact (Nat.testBit_lt_two_pow (Nat.lt_of_lt_of_le hc (by
    have:2 ^ 8≤2 ^ m:=Nat.pow_le_pow_right (by decide) (by omega)
    exact this))).symm
  ·rw[if_neg e,byteN_bit,e1,Bool.false_and]
theorem word_ext (x y:Nat) (hx:x<2 ^ 64) (hy:y<2 ^ 64) (h:∀ q,q<8→byteN x q=byteN y q):x=y:=by
 apply Nat.eq_of_testBit_eq
 intro i
 by_cases hi:i<64
 ·have e:=congrArg (fun z=>z.testBit (i%8)) (h (i / 8) (by omega))
  simp only[byteN_bit] at e
  have h8:i%8<8:=Nat.mod_lt _ (by decide)
  have e2:8*(i / 8)+i%8=i:=by omega
  simpa [h8,e2] using e
 ·rw[Nat.testBit_lt_two_pow (Nat.lt_of_lt_of_le hx (Nat.pow_le_pow_right (by decide) (by omega))),Nat.testBit_lt_two_pow (Nat.lt_of_lt_of_le hy (Nat.pow_le_pow_right (by decide) (by omega)))]
def W64 (l:List Nat):Prop:=∀ i,l.getD i 0<18446744073709551616
theorem words_ext (l m:List Nat) (hl:W64 l) (hm:W64 m) (e:l.length=m.length) (h:∀ p,p<8*l.length→byteN (l.getD (p / 8) 0) (p%8)=byteN (m.getD (p / 8) 0) (p%8)):l=m:=by
 apply List.ext_getElem e
 intro i h1 h2
 have e1:∀ (x:List Nat) (h:i<x.length),x[i]=x.getD i 0:=fun x h=>by rw[List.getD_eq_getElem?_getD,List.getElem?_eq_getElem h];rfl
 rw[e1 _ h1,e1 _ h2]
 refine word_ext _ _ (hl i) (hm i) fun q hq=>?_
 have:=h (8*i+q) (by omega)
 rw[show (8*i+q) / 8=i by omega,show (8*i+q)%8=q by omega] at this
 exact this
def layN (l:List Nat) (f:Nat) (d:List Nat):Nat→List Nat
 | 0=>l
 | k+1=>(layN l f d k).set ((f+k) / 8) (updN ((layN l f d k).getD ((f+k) / 8) 0) ((f+k)%8) (d.getD k 0))
theorem layN_length (l:List Nat) (f:Nat) (d:List Nat):∀ k,(layN l f d k).length=l.length
 | 0=>rfl
 | k+1=>by unfold layN;rw[List.length_set];exact layN_length l f d k
theorem getD_set0 (l:List Nat) (i j x:Nat) (hi:i<l.length):(l.set i x).getD j 0=if j=i then x else l.getD j 0:=by
 rw[List.getD_eq_getElem?_getD,List.getElem?_set]
 by_cases e:i=j
 ·subst e;rw[if_pos rfl,if_pos hi,if_pos rfl];rfl
 ·rw[if_neg e,if_neg (Ne.symm e),List.getD_eq_getElem?_getD]
theorem layN_is (l:List Nat) (f:Nat) (d:List Nat) (hl:W64 l) (hd:∀ i,i<d.length→d.getD i 0<256) (hf:f+d.length≤8*l.length):∀ k,k≤d.length→W64 (layN l f d k)∧∀ p,p<8*l.length→byteN ((layN l f d k).getD (p / 8) 0) (p%8)=if f≤p∧p<f+k then d.getD (p-f) 0 else byteN (l.getD (p / 8) 0) (p%8)
 | 0,_=>⟨hl,fun p _=>by rw[if_neg (by omega)];rfl⟩
 | k+1,hk=>by
  obtain ⟨h1,h2⟩:=layN_is l f d hl hd hf k (by omega)
  have hx:=layN_length l f d k
  have hq:(f+k)%8<8:=Nat.mod_lt _ (by decide)
  have hi:(f+k) / 8<(layN l f d k).length:=by rw[hx];omega
  have hc:=hd k (by omega)
  refine ⟨fun i=>?_,fun p hp=>?_⟩
  ·unfold layN
   rw[getD_set0 _ _ _ _ hi]
   split
   ·exact updN_lt _ _ _ hq (h1 _) hc
   ·exact h1 i
  ·unfold layN
   rw[getD_set0 _ _ _ _ hi]
   by_cases e:p / 8=(f+k) / 8
   ·rw[if_pos e,updN_byte _ _ _ _ hq (h1 _) hc]
    by_cases e2:p%8=(f+k)%8
    ·have e3:p=f+k:=by omega
     subst e3
     rw[if_pos rfl,if_pos (by omega),Nat.add_sub_cancel_left]
    ·rw[if_neg e2,← e,h2 p hp]
     by_cases e4:f≤p∧p<f+k
     ·rw[if_pos e4,if_pos (by omega)]
     ·rw[if_neg e4,if_neg (by omega)]
   ·rw[if_neg e,h2 p hp]
    by_cases e4:f≤p∧p<f+k
    ·rw[if_pos e4,if_pos (by omega)]
    ·rw[if_neg e4,if_neg (by omega)]
theorem layN_pack (l:List Nat) (f:Nat) (d:List Nat) (hl:W64 l) (hd:∀ i,i<d.length→d.getD i 0<256) (hf:f+d.length≤8*l.length):layN l f d d.length=Larder.packL (patch (Larder.unpackL l (8*l.length)) f d):=by
 obtain ⟨h1,h2⟩:=layN_is l f d hl hd hf d.length (Nat.le_refl _)
 have hpl:(patch (Larder.unpackL l (8*l.length)) f d).length=8*l.length:=by rw[patch_length,Larder.unpackL_length]
 have hsm:Larder.SmallL (patch (Larder.unpackL l (8*l.length)) f d):=patch_below 256 _ f d (Larder.unpackL_small _ _) hd
 have hwn:Larder.wn (8*l.length)=l.length:=by unfold Larder.wn;omega
 have hlen:(Larder.packL (patch (Larder.unpackL l (8*l.length)) f d)).length=l.length:=by rw[Larder.packL_length,hpl,hwn]
 refine words_ext _ _ h1 (fun i=>?_) (by rw[layN_length,hlen]) fun p hp=>?_
 ·by_cases hi:i<l.length
  ·rw[Larder.packL_get _ _ (by rw[hpl,hwn];exact hi)]
   exact Larder.wordAt_lt (fun c hc=>Larder.small_mem hsm c hc) i
  ·rw[List.getD_eq_getElem?_getD,List.getElem?_eq_none (by omega)];decide
 ·rw[layN_length] at hp
  rw[h2 p hp]
  have h3:=Larder.unpack_pack hsm (8*l.length) p hp (by rw[hpl,hwn];exact Nat.le_refl _)
  rw[Larder.unpackL_get _ _ _ hp] at h3
  unfold byteN
  rw[h3,patch_at _ _ _ _ (by rw[Larder.unpackL_length];exact hp)]
  by_cases e:f≤p∧p<f+d.length
  ·rw[if_pos e,if_pos e]
  ·rw[if_neg e,if_neg e,Larder.unpackL_get _ _ _ hp]
end Go.Proofs.YtidfllgaeiopjabGreat
