import Derived.Test.YtidfllgaeiopjabGreatOpenO
namespace Go.Proofs.YtidfllgaeiopjabGreat.HeapImage
open Go.ChangeShapes Go.WideShapes Go.ChangeAt Go.RowKit Go.Joins Go.Deep
set_option linter.unusedVariables false
set_option maxRecDepth 100000
theorem law (w:World) (l0 l1:Int) (a:Option Addr) (n cap:Nat) (hS:Ops3 w a n):Calls Tryz.prog 6 #[.agg #[.int .i64 l0,.int .i64 l1,.slice a n cap]] w fun e w'=>e=.returned (.bool true)∧Below w.heap.size w w':=by
 have hb0:Below w.heap.size w (w.alloc (.cells #[.int .i64 l0,.int .i64 l1,.slice a n cap] 25)):=(Below.refl _ _).alloc (Nat.le_refl _) _
 have H23:Hid (Calls Tryz.prog 9 #[.agg #[.int .i64 l0,.int .i64 l1,.slice a n cap],.int .i64 14,.int .i64 14] (w.alloc (.cells #[.int .i64 l0,.int .i64 l1,.slice a n cap] 25)) fun e w'=>e=.returned (.bool true)∧Below w.heap.size w w'):=hide ((holds_law _ l0 l1 14 14 a n cap (hS.under hb0)).mono fun e w' ⟨q1,q2⟩=>⟨q1,hb0.trans (q2.mono hb0.size)⟩)
 clear hS hb0
 go_enter Tryz.func6,Tryz.ntmps6
 go_wp2_with fail
 refine (unhide H23).mono ?_
 rintro e w2 ⟨rfl,hb⟩
 have HB:=hide hb
 clear hb H23
 go_wp2_with fail
 go_ret
 exact ⟨rfl,unhide HB⟩
theorem lifted (os:Os) (started:os.Started) (H:Type) (enc:TypeId × Value→H):
  ReturnsInHanded {} Tryz.checked os 6 .any (Rows.heapImageSpec.pre6 enc Tryz.prog Tryz.f6 Rows.heapImageRow.domain false) (Rows.heapImageSpec.post enc Tryz.prog Tryz.f6 false true false false):=by
 refine returnsInHanded_of_change_sized (C:=Tryz.checked) own started (by kernel_rfl) Tryz.func6
  (ChangeSpec.witness6 (enc:=enc) (C:=Tryz.checked) false ⟨#[],#[.agg #[.int .i64 0,.int .i64 0,.slice none 0 0]],[]⟩ 8 (by kernel_rfl) (by kernel_rfl) (by kernel_rfl) (by kernel_rfl)) ?_
 intro W base args ds gs before hval0 hW hcnd hsz0 _
 have hval:∀ (j:Nat) t v,Tryz.f6.params[j]?=some t→args[j]?=some v→Value.okWide Tryz.prog W .any base t v:=hval0
 have hsz:(DataW.weightsEach Tryz.prog (Tryz.f6.params.toList++Rows.heapImageSpec.plain.varTypes Tryz.prog) (ds++gs)).all (·≤reachBytes)=true:=hsz0
 have hW':=hW
 obtain ⟨p,q,hA0,hV,rfl,hfz,hnd⟩:=hW
 have hA:DataW.TrodAll enc Tryz.prog W 0 (fun _=>true) true Tryz.f6.params.toList args.toList ds p:=hA0
 rw[Tryz.params6] at hA hval hsz
 obtain ⟨v0,vs0,d0,ds0,p0,q0,hargs,rfl,rfl,h0,r0⟩:=trodAll_cons hA
 obtain ⟨rfl,rfl,rfl⟩:=trodAll_nil r0
 obtain rfl:args=#[v0]:=by cases args;simp_all
 obtain ⟨rfl,rfl⟩:=trodVars_none hV
 have k0:=h0
 have lt0:∀ x∈p0,x.block<W.heap.size:=by obtain ⟨m,hm⟩:=k0;exact DataW.trod_lt m _ _ _ hm
 obtain ⟨l0,l1,aS,n,cS,rfl,hS⟩:=open_two (hval 0 25 v0 rfl rfl) h0 (fun m hm=>held_sized hsz hm)
 clear hA0 hval0 hsz0
 refine (law W l0 l1 aS n cS hS).mono fun e W' ⟨he,bel⟩=>?_
 subst he
 exact ⟨_,rfl,_,_,_,[],_,[],hW',trodAll_mk1 (shut_bool Tryz.underlying4 _),(trodAll_cons_mk (Below.trod laidOut (by kernel_rfl) (of_decide_eq_true (by kernel_rfl)) k0 bel lt0) trodAll_mk0),rfl,bel.frame _,fun h=>by cases h⟩
theorem over:Rows.heapImageRow.holds Tryz.pinned (OpenSpec.ofChange Rows.heapImageSpec):=
 OpenClaim.holds_of_wide 6 Tryz.f6 rfl rfl rfl rfl rfl rfl rfl ⟨rfl,rfl,rfl,rfl,rfl⟩ rfl rfl rfl rfl rfl (by kernel_rfl) Tryz.func6 (by kernel_rfl)
  (of_decide_eq_true (by kernel_rfl)) (by unfold Func.isWrapper;first|(rw[if_pos (by decide +kernel)];kernel_rfl)|(rw[if_neg (by decide +kernel)];exact ⟨rfl,rfl⟩))
  (fun os started H enc _=>lifted os started H enc)
end Go.Proofs.YtidfllgaeiopjabGreat.HeapImage
namespace Go.Proofs.YtidfllgaeiopjabGreat
theorem heapImage_holds:Rows.HeapImageSaid:=HeapImage.over
end Go.Proofs.YtidfllgaeiopjabGreat
