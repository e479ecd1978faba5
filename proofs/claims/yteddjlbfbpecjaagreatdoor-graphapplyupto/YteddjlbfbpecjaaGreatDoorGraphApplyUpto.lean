/- For all graphs of a bulk of at most 1048576 values and letters together the law GraphApply returns true and the arguments stay as they were; no other condition (the tables start as the program's text lays them: the card ties them). -/
import Derived.Test.YteddjlbfbpecjaaGreatDoorJoin37
import Derived.Test.YteddjlbfbpecjaaGreatDoorOpenu
import Derived.Test.YteddjlbfbpecjaaGreatDoorLift
namespace Go.Proofs.YteddjlbfbpecjaaGreatDoor
open Go.ChangeShapes Go.WideShapes Go.ChangeAt Go.RowKit Go.Shelf
set_option linter.all false
theorem Zdx (os:Os) {H:Type} (enc:TypeId × Value→H) :
  (Rows.OpenSpec.upto Rows.graphApplySpec).preRow enc Tryz.prog Tryz.f5 Rows.graphApplyUptoRow.domain false Rows.graphApplyUptoRow.laid ((Zfm os).forCall (fun _ _=>0) ⟨#[],#[Value.agg #[.slice none 0 0,.slice none 0 0,.int .i64 0,.int .i64 0],Value.slice none 0 0],[]⟩).memory #[Value.agg #[.slice none 0 0,.slice none 0 0,.int .i64 0,.int .i64 0],Value.slice none 0 0]:=by
 have hw:(DataW.whole enc Tryz.prog ((Zfm os).forCall (fun _ _=>0) ⟨#[],#[Value.agg #[.slice none 0 0,.slice none 0 0,.int .i64 0,.int .i64 0],Value.slice none 0 0],[]⟩).memory Tryz.f5.params.toList (Rows.OpenSpec.upto Rows.graphApplySpec).vars false (#[Value.agg #[.slice none 0 0,.slice none 0 0,.int .i64 0,.int .i64 0],Value.slice none 0 0]:Array Value).toList 8).map (fun x=>(x.1,x.2.1)) =
   some ([.agg [.nil,.nil,.lit (.int .i64 0),.lit (.int .i64 0)],.nil],[]):=by kernel_rfl
 obtain ⟨⟨x1,x2,x3⟩,hx,hx1⟩:=Option.map_eq_some_iff.1 hw
 simp only [Prod.mk.injEq] at hx1
 obtain ⟨rfl,rfl⟩:=hx1
 exact OpenSpec.preRow_of_cond 8 hx (by kernel_rfl) (fun k hk=>by cases hk;kernel_rfl) (by kernel_rfl) (Zv5 os _)
set_option maxRecDepth 100000 in
set_option maxHeartbeats 2000000 in
theorem Zd8 (os:Os) (started:os.Started) (H:Type) (enc:TypeId × Value→H) (F:Stop.Interp) :
  ReturnsInHanded {} Tryz.checked os 5 .any ((Rows.OpenSpec.upto Rows.graphApplySpec).preRow enc Tryz.prog Tryz.f5 Rows.graphApplyUptoRow.domain false Rows.graphApplyUptoRow.laid) (((Rows.OpenSpec.upto Rows.graphApplySpec).at F).post enc Tryz.prog Tryz.f5 false true false false):=by
 refine returnsInHanded_of_row (C:=Tryz.checked) (s:=Rows.OpenSpec.upto Rows.graphApplySpec) own started (by kernel_rfl) Tryz.func5
  (witness_row_atRef (enc:=enc) (C:=Tryz.checked) false (Zfm os) #[Value.agg #[.slice none 0 0,.slice none 0 0,.int .i64 0,.int .i64 0],Value.slice none 0 0] rfl (by kernel_rfl) (by kernel_rfl) (by kernel_rfl) (Zdx os enc)) ?_
 intro W base args ds gs before hval0 hW _ hcond hwt hL hsh _
 have hval:∀ (j:Nat) t v,Tryz.f5.params[j]?=some t→args[j]?=some v→Value.okWide Tryz.prog W .any base t v:=hval0
 have hW':=hW
 obtain ⟨p,q,hA0,hV,rfl,hfz,hnd⟩:=hW
 have hA:DataW.TrodAll enc Tryz.prog W 0 (fun _=>true) true Tryz.f5.params.toList args.toList ds p:=hA0
 rw [Tryz.params5] at hA hval
 obtain ⟨v0,vs0,d0,ds0,p0,q0,hargs,rfl,rfl,h0,r0⟩:=trodAll_cons hA
 obtain ⟨v1,vs1,d1,ds1,p1,q1,rfl,rfl,rfl,h1,r1⟩:=trodAll_cons r0
 obtain ⟨rfl,rfl,rfl⟩:=trodAll_nil r1
 obtain rfl:args=#[v0,v1]:=by cases args;simp_all
 obtain ⟨rfl,rfl⟩:=trodVars_none hV
 clear hA0 hval0
 simp only [List.append_nil] at hW'
 have hbd:=of_decide_eq_true (hcond _ rfl)
 have hlt:∀ x ∈ p0++p1,x.block<W.heap.size:=fun x hx=>by simpa using hW'.lt x (by simpa using hx)
 have hback0:∀ (W':World),Below W.heap.size W W'→DataW.Trod enc Tryz.prog W' 0 (fun b=>decide (b<W.heap.size)) true 25 v0 d0 p0 :=
  fun W' hn=>Below.trod Zrr (by kernel_rfl) (of_decide_eq_true (by kernel_rfl)) h0 hn (fun x hx=>hlt x (List.mem_append_left _ hx))
 have hback1:∀ (W':World),Below W.heap.size W W'→DataW.Trod enc Tryz.prog W' 0 (fun b=>decide (b<W.heap.size)) true 36 v1 d1 p1 :=
  fun W' hn=>Below.trod Zrr (by kernel_rfl) (of_decide_eq_true (by kernel_rfl)) h1 hn (fun x hx=>hlt x (List.mem_append_right _ hx))
 have hwalk:Calls Tryz.prog 5 #[v0,v1] W fun e w'=>e=.returned (.bool true)∧Below W.heap.size W w':=by
  simp only [List.append_nil,Rows.uptoBulkAll] at hbd
  obtain ⟨cs0,rfl,hcs0⟩:=okWide_struct Tryz.underlying25 (hval 0 25 v0 rfl rfl)
  obtain ⟨f0,hf0⟩:=h0
  obtain ⟨g0,hg0,⟨q1,q2⟩,q3,q4,q5⟩:=Zn2 hf0 (by omega)
  have hg0:Zq W.heap.size W (.agg cs0) g0:=by simpa [Value.cells] using hg0
  obtain ⟨a1,len1,cap1,rfl⟩:=okWide_slice Tryz.underlying36 (hval 1 36 v1 rfl rfl)
  obtain ⟨f1,hf1⟩:=h1
  obtain ⟨ca1,cc1,l1,hu1,hl1,hx1,hy1,hz1⟩:=Zj4 hf1 (by omega)
  obtain ⟨rfl,rfl,rfl⟩:a1=ca1∧len1=l1.length∧cap1=cc1:=by simpa [Value.cells] using hu1
  exact Zsr g0 l1 _ _ _ W (Jbd hL hsh) hg0 q1 q2 q3 q4 q5 hl1 hx1 hy1 hz1
 refine hwalk.mono ?_
 rintro e W' ⟨rfl,hg⟩
 exact ⟨_,rfl,_,_,_,[],_,[],hW',(trodAll_cons_mk (shut_bool Tryz.underlying4 _) trodAll_mk0),(trodAll_cons_mk (hback0 W' hg) (trodAll_cons_mk (hback1 W' hg) trodAll_mk0)),rfl,hg.frame _,fun h=>by cases h⟩
theorem Zff  : Rows.GraphApplyUptoSaid :=
 OpenClaim.holds_of_cond 5 Tryz.f5 rfl rfl rfl rfl rfl rfl rfl ⟨rfl,rfl,rfl,rfl,rfl⟩ rfl rfl rfl rfl rfl (by kernel_rfl) Tryz.func5 (by kernel_rfl)
  (of_decide_eq_true (by kernel_rfl)) (by unfold Func.isWrapper;first | (rw [if_pos (by decide +kernel)];kernel_rfl) | (rw [if_neg (by decide +kernel)];exact ⟨rfl,rfl⟩))
  (fun os started H enc _ F=>by rw [OpenClaim.pre_eq_preRow];exact Zd8 os started H enc F)
theorem Zex (f:FuncId) (fn:Func) (hf:Tryz.pinned.checked.prog.funcNamed "lattice/latticelaw05.GraphApply" = some f) (hfn:Tryz.pinned.checked.prog.funcs[f]?=some fn) :
  true=Tryz.pinned.checked.prog.looks []∧∀ (j:Nat) t,fn.params[j]?=some t→Tryz.pinned.checked.prog.wantsStandIn t=false:=by
 obtain rfl:f=5:=Option.some.inj ((show Tryz.prog.funcNamed "lattice/latticelaw05.GraphApply" = some 5 by kernel_rfl).symm.trans hf) |>.symm
 obtain rfl:fn=Tryz.f5:=(Option.some.inj (Tryz.func5.symm.trans hfn)).symm
 refine ⟨by kernel_rfl,fun j t ht=>?_⟩
 rw [Tryz.params5] at ht
 have hm:t ∈ [25,36]:=by have:=Array.mem_of_getElem? ht;simpa using this
 have hall:([25,36].all fun u=>!Tryz.prog.wantsStandIn u)=true:=by kernel_rfl
 exact (show Tryz.prog.wantsStandIn t=false by simpa using List.all_eq_true.1 hall t hm)
theorem graphApplyUpto_proved  : Rows.GraphApplyUptoCardSaid :=
 Claim7.holds_tied_plain_at .later [] _ _ _ _ Zff (fun _ h=>by cases h) (by kernel_rfl) (fun _ h=>by cases h) graphApplyUpto_row_tie rfl ⟨rfl,rfl⟩ (by kernel_rfl) rfl Zex (by kernel_rfl)
#print axioms graphApplyUpto_proved
end Go.Proofs.YteddjlbfbpecjaaGreatDoor
