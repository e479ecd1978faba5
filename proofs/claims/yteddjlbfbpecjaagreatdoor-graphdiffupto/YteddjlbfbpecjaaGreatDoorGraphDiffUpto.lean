/- For all graphs of a bulk of at most 1048576 values and letters together the law GraphDiff returns true and the arguments stay as they were; no other condition (the tables start as the program's text lays them: the card ties them). -/
import Derived.Test.YteddjlbfbpecjaaGreatDoorJoin39
import Derived.Test.YteddjlbfbpecjaaGreatDoorLift
namespace Go.Proofs.YteddjlbfbpecjaaGreatDoor
open Go.ChangeShapes Go.WideShapes Go.ChangeAt Go.RowKit Go.Shelf
set_option linter.all false
theorem Zee (os:Os) {H:Type} (enc:TypeId × Value->H) :
  (Rows.OpenSpec.upto Rows.graphDiffSpec).preRow enc Tryz.prog Tryz.f4 Rows.graphDiffUptoRow.domain false Rows.graphDiffUptoRow.laid ((Zfx os).forCall (fun _ _=>0) ⟨#[],#[Value.agg #[.slice none 0 0,.slice none 0 0,.int .i64 0,.int .i64 0],Value.agg #[.slice none 0 0,.slice none 0 0,.int .i64 0,.int .i64 0]],[]⟩).memory #[Value.agg #[.slice none 0 0,.slice none 0 0,.int .i64 0,.int .i64 0],Value.agg #[.slice none 0 0,.slice none 0 0,.int .i64 0,.int .i64 0]]:=by
 have hw:(DataW.whole enc Tryz.prog ((Zfx os).forCall (fun _ _=>0) ⟨#[],#[Value.agg #[.slice none 0 0,.slice none 0 0,.int .i64 0,.int .i64 0],Value.agg #[.slice none 0 0,.slice none 0 0,.int .i64 0,.int .i64 0]],[]⟩).memory Tryz.f4.params.toList (Rows.OpenSpec.upto Rows.graphDiffSpec).vars false (#[Value.agg #[.slice none 0 0,.slice none 0 0,.int .i64 0,.int .i64 0],Value.agg #[.slice none 0 0,.slice none 0 0,.int .i64 0,.int .i64 0]]:Array Value).toList 8).map (fun x=>(x.1,x.2.1)) =
   some ([.agg [.nil,.nil,.lit (.int .i64 0),.lit (.int .i64 0)],.agg [.nil,.nil,.lit (.int .i64 0),.lit (.int .i64 0)]],[]):=by kernel_rfl
 obtain ⟨⟨x1,x2,x3⟩,A,K⟩:=Option.map_eq_some_iff.1 hw
 simp only [Prod.mk.injEq] at K
 obtain ⟨rfl,rfl⟩:=K
 exact OpenSpec.preRow_of_cond 8 A (by kernel_rfl) (fun k hk=>by cases hk;kernel_rfl) (by kernel_rfl) (Zy9 os _)
set_option maxRecDepth 100000 in
set_option maxHeartbeats 2000000 in
theorem Ze5 (os:Os) (c:os.Started) (H:Type) (enc:TypeId × Value->H) (F:Stop.Interp) :
  ReturnsInHanded {} Tryz.checked os 4 .any ((Rows.OpenSpec.upto Rows.graphDiffSpec).preRow enc Tryz.prog Tryz.f4 Rows.graphDiffUptoRow.domain false Rows.graphDiffUptoRow.laid) (((Rows.OpenSpec.upto Rows.graphDiffSpec).at F).post enc Tryz.prog Tryz.f4 false true false false):=by
 refine returnsInHanded_of_row (C:=Tryz.checked) (s:=Rows.OpenSpec.upto Rows.graphDiffSpec) own c (by kernel_rfl) Tryz.func4
  (witness_row_atRef (enc:=enc) (C:=Tryz.checked) false (Zfx os) #[Value.agg #[.slice none 0 0,.slice none 0 0,.int .i64 0,.int .i64 0],Value.agg #[.slice none 0 0,.slice none 0 0,.int .i64 0,.int .i64 0]] rfl (by kernel_rfl) (by kernel_rfl) (by kernel_rfl) (Zee os enc)) ?_
 intro W base args ds gs L g hW _ y b4 hL a1 _
 have d:∀ (j:Nat) t v,Tryz.f4.params[j]?=some t->args[j]?=some v->Value.okWide Tryz.prog W .any base t v:=g
 have o:=hW
 obtain ⟨p,q,G,hV,rfl,b2,b3⟩:=hW
 have hA:DataW.TrodAll enc Tryz.prog W 0 (fun _=>true) true Tryz.f4.params.toList args.toList ds p:=G
 rw [Tryz.params4] at hA d
 obtain ⟨v0,b7,d0,b6,p0,q0,a7,rfl,rfl,h0,r0⟩:=trodAll_cons hA
 obtain ⟨v1,b1,d1,b5,p1,q1,rfl,rfl,rfl,h1,r1⟩:=trodAll_cons r0
 obtain ⟨rfl,rfl,rfl⟩:=trodAll_nil r1
 obtain rfl:args=#[v0,v1]:=by cases args;simp_all
 obtain ⟨rfl,rfl⟩:=trodVars_none hV
 clear G g
 simp only [List.append_nil] at o
 have a4:=of_decide_eq_true (y _ rfl)
 have D:∀ x ∈ p0++p1,x.block<W.heap.size:=fun x A=>by simpa using o.lt x (by simpa using A)
 have m:∀ (i:World),Below W.heap.size W i->DataW.Trod enc Tryz.prog i 0 (fun b=>decide (b<W.heap.size)) true 25 v0 d0 p0 :=
  fun i hn=>Below.trod Zud (by kernel_rfl) (of_decide_eq_true (by kernel_rfl)) h0 hn (fun x A=>D x (List.mem_append_left _ A))
 have l:∀ (i:World),Below W.heap.size W i->DataW.Trod enc Tryz.prog i 0 (fun b=>decide (b<W.heap.size)) true 25 v1 d1 p1 :=
  fun i hn=>Below.trod Zud (by kernel_rfl) (of_decide_eq_true (by kernel_rfl)) h1 hn (fun x A=>D x (List.mem_append_right _ A))
 have w:Calls Tryz.prog 4 #[v0,v1] W fun e w'=>e=.returned (.bool true)/\Below W.heap.size W w':=by
  simp only [List.append_nil,Rows.uptoBulkAll] at a4
  obtain ⟨S,rfl,a9⟩:=okWide_struct Tryz.underlying25 (d 0 25 v0 rfl rfl)
  obtain ⟨f0,a2⟩:=h0
  obtain ⟨g0,r,⟨N,P⟩,R,X,Y⟩:=Zji a2 (by omega)
  have r:Zr W.heap.size W (.agg S) g0:=by simpa [Value.cells] using r
  obtain ⟨a0,rfl,b0⟩:=okWide_struct Tryz.underlying25 (d 1 25 v1 rfl rfl)
  obtain ⟨f1,a3⟩:=h1
  obtain ⟨g1,z,⟨T,O⟩,V,U,a5⟩:=Zji a3 (by omega)
  have z:Zr W.heap.size W (.agg a0) g1:=by simpa [Value.cells] using z
  exact Ja2 g0 g1 _ _ W (Jd7 hL a1) r z N P R X Y T O V U a5
 refine w.mono ?_
 rintro e i ⟨rfl,Q⟩
 exact ⟨_,rfl,_,_,_,[],_,[],o,(trodAll_cons_mk (shut_bool Tryz.underlying4 _) trodAll_mk0),(trodAll_cons_mk (m i Q) (trodAll_cons_mk (l i Q) trodAll_mk0)),rfl,Q.frame _,fun h=>by cases h⟩
theorem Zf2  : Rows.GraphDiffUptoSaid :=
 OpenClaim.holds_of_cond 4 Tryz.f4 rfl rfl rfl rfl rfl rfl rfl ⟨rfl,rfl,rfl,rfl,rfl⟩ rfl rfl rfl rfl rfl (by kernel_rfl) Tryz.func4 (by kernel_rfl)
  (of_decide_eq_true (by kernel_rfl)) (by unfold Func.isWrapper;first | (rw [if_pos (by decide +kernel)];kernel_rfl) | (rw [if_neg (by decide +kernel)];exact ⟨rfl,rfl⟩))
  (fun os c H enc _ F=>by rw [OpenClaim.pre_eq_preRow];exact Ze5 os c H enc F)
theorem Zfi (f:FuncId) (fn:Func) (hf:Tryz.pinned.checked.prog.funcNamed "lattice/latticelaw05.GraphDiff" = some f) (a6:Tryz.pinned.checked.prog.funcs[f]?=some fn) :
  true=Tryz.pinned.checked.prog.looks []/\∀ (j:Nat) t,fn.params[j]?=some t->Tryz.pinned.checked.prog.wantsStandIn t=false:=by
 obtain rfl:f=4:=Option.some.inj ((show Tryz.prog.funcNamed "lattice/latticelaw05.GraphDiff" = some 4 by kernel_rfl).symm.trans hf) |>.symm
 obtain rfl:fn=Tryz.f4:=(Option.some.inj (Tryz.func4.symm.trans a6)).symm
 refine ⟨by kernel_rfl,fun j t ht=>?_⟩
 rw [Tryz.params4] at ht
 have hm:t ∈ [25,25]:=by have:=Array.mem_of_getElem? ht;simpa using this
 have E:([25,25].all fun u=>!Tryz.prog.wantsStandIn u)=true:=by kernel_rfl
 exact (show Tryz.prog.wantsStandIn t=false by simpa using List.all_eq_true.1 E t hm)
theorem graphDiffUpto_proved  : Rows.GraphDiffUptoCardSaid :=
 Claim7.holds_tied_plain_at .later [] _ _ _ _ Zf2 (fun _ h=>by cases h) (by kernel_rfl) (fun _ h=>by cases h) graphDiffUpto_row_tie rfl ⟨rfl,rfl⟩ (by kernel_rfl) rfl Zfi (by kernel_rfl)
#print axioms graphDiffUpto_proved
end Go.Proofs.YteddjlbfbpecjaaGreatDoor
