import Derived.Test.YtnfbaapbpgbgpaaGreatBcL
import Derived.Test.YtnfbaapbpgbgpaaGreatOpenC
namespace Go.Proofs.YtnfbaapbpgbgpaaGreat.BlobCounts
open Go.ChangeShapes Go.WideShapes Go.ChangeAt Go.RowKit Go.Joins Go.Deep
set_option linter.unusedVariables false
set_option maxRecDepth 100000
theorem law (w:World) {a1 a2 a3:Option Addr}{c1 c2 c3 n3:Nat}{A B:List Nat}{at' Nn:Int} (bA:Bytes w a1 A) (sA:Small A) (hcap:A.length≤c1) (hcap2:c1≤9223372036854775807) (hnil:a1=none→c1=0) (bB:Bytes w a2 B) (sB:Small B) (h1:-9223372036854775808≤at') (h2:at'≤9223372036854775807) (hz:IntsB w a3 n3):
  Calls Tryz.prog 4 #[.agg #[.slice a1 A.length c1,.slice a2 B.length c2,.int .i64 at',.int .i64 Nn,.slice a3 n3 c3]] w fun e w'=>e=.returned (.bool true)∧Below w.heap.size w w':=by
 by_cases q:4096<A.length∨4096<B.length
 ·exact counts_no q
 ·exact counts_yes (by omega) (by omega) sA sB bA bB hcap hcap2 hnil h1 h2 hz
theorem lifted (os:Os) (started:os.Started) (H:Type) (enc:TypeId × Value→H):
  ReturnsInHanded {} Tryz.checked os 4 .any (Rows.blobCountsSpec.pre6 enc Tryz.prog Tryz.f4 Rows.blobCountsRow.domain false) (Rows.blobCountsSpec.post enc Tryz.prog Tryz.f4 false true false false):=by
 refine returnsInHanded_of_change_sized (C:=Tryz.checked) own started (by kernel_rfl) Tryz.func4
  (ChangeSpec.witness6 (enc:=enc) (C:=Tryz.checked) false ⟨#[],#[.agg #[.slice none 0 0,.slice none 0 0,.int .i64 0,.int .i64 0,.slice none 0 0]],[]⟩ 8 (by kernel_rfl) (by kernel_rfl) (by kernel_rfl) (by kernel_rfl)) ?_
 intro W base args ds gs before hval0 hW hcnd hsz0 _
 have hval:∀ (j:Nat) t v,Tryz.f4.params[j]?=some t→args[j]?=some v→Value.okWide Tryz.prog W .any base t v:=hval0
 have hsz:(DataW.weightsEach Tryz.prog (Tryz.f4.params.toList++Rows.blobCountsSpec.plain.varTypes Tryz.prog) (ds++gs)).all (·≤reachBytes)=true:=hsz0
 have hW':=hW
 obtain ⟨p,q,hA0,hV,rfl,hfz,hnd⟩:=hW
 have hA:DataW.TrodAll enc Tryz.prog W 0 (fun _=>true) true Tryz.f4.params.toList args.toList ds p:=hA0
 rw[Tryz.params4] at hA hval hsz
 obtain ⟨v0,vs0,d0,ds0,p0,q0,hargs,rfl,rfl,h0,r0⟩:=trodAll_cons hA
 obtain ⟨rfl,rfl,rfl⟩:=trodAll_nil r0
 obtain rfl:args=#[v0]:=by cases args;simp_all
 obtain ⟨rfl,rfl⟩:=trodVars_none hV
 have k0:=h0
 have lt0:∀ x∈p0,x.block<W.heap.size:=by obtain ⟨m,hm⟩:=k0;exact DataW.trod_lt m _ _ _ hm
 obtain ⟨a1,c1,A,a2,c2,B,at',N,a3,n3,c3,rfl,bA,sA,hcp,bB,sB,hat,hI⟩:=open_pair2 (hval 0 25 v0 rfl rfl) h0 (fun m hm=>held_sized hsz hm)
 clear hA0 hval0 hsz0
 refine (law W bA sA hcp.1 hcp.2.1 hcp.2.2 bB sB hat.1 hat.2 hI).mono fun e W' ⟨he,bel⟩=>?_
 subst he
 exact ⟨_,rfl,_,_,_,[],_,[],hW',trodAll_mk1 (shut_bool Tryz.underlying4 _),(trodAll_cons_mk (Below.trod laidOut (by kernel_rfl) (of_decide_eq_true (by kernel_rfl)) k0 bel lt0) trodAll_mk0),rfl,bel.frame _,fun h=>by cases h⟩
theorem over:Rows.blobCountsRow.holds Tryz.pinned (OpenSpec.ofChange Rows.blobCountsSpec):=
 OpenClaim.holds_of_wide 4 Tryz.f4 rfl rfl rfl rfl rfl rfl rfl ⟨rfl,rfl,rfl,rfl,rfl⟩ rfl rfl rfl rfl rfl (by kernel_rfl) Tryz.func4 (by kernel_rfl)
  (of_decide_eq_true (by kernel_rfl)) (by unfold Func.isWrapper;first|(rw[if_pos (by decide +kernel)];kernel_rfl)|(rw[if_neg (by decide +kernel)];exact ⟨rfl,rfl⟩))
  (fun os started H enc _=>lifted os started H enc)
end Go.Proofs.YtnfbaapbpgbgpaaGreat.BlobCounts
namespace Go.Proofs.YtnfbaapbpgbgpaaGreat
theorem blobCounts_holds:Rows.BlobCountsSaid:=BlobCounts.over
end Go.Proofs.YtnfbaapbpgbgpaaGreat
