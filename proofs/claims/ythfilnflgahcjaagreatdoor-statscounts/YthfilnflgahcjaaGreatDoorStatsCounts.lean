/- For all graphs the law StatsCounts returns true and the arguments stay as they were; no condition (the tables start as the program's text lays them: the card ties them). -/
import Derived.Test.YthfilnflgahcjaaGreatDoorCtW
import Derived.Test.YthfilnflgahcjaaGreatDoorJoin39
import Derived.Test.YthfilnflgahcjaaGreatDoorLif2
namespace Go.Proofs.YthfilnflgahcjaaGreatDoor
open Go.ChangeShapes Go.WideShapes Go.ChangeAt Go.RowKit Go.Shelf
set_option linter.all false
theorem Zhh (os:Os) {H:Type} (enc:TypeId × Value->H) :
  (OpenSpec.ofChange Rows.statsCountsSpec).preRow enc Tryz.prog Tryz.f3 Rows.statsCountsRow.domain false Rows.statsCountsRow.laid ((Zia os).forCall (fun _ _=>0) ⟨#[],#[Value.agg #[.slice none 0 0,.slice none 0 0,.int .i64 0,.int .i64 0]],[]⟩).memory #[Value.agg #[.slice none 0 0,.slice none 0 0,.int .i64 0,.int .i64 0]]:=by
 have hw:(DataW.whole enc Tryz.prog ((Zia os).forCall (fun _ _=>0) ⟨#[],#[Value.agg #[.slice none 0 0,.slice none 0 0,.int .i64 0,.int .i64 0]],[]⟩).memory Tryz.f3.params.toList (OpenSpec.ofChange Rows.statsCountsSpec).vars false (#[Value.agg #[.slice none 0 0,.slice none 0 0,.int .i64 0,.int .i64 0]]:Array Value).toList 8).map (fun x=>(x.1,x.2.1)) =
   some ([.agg [.nil,.nil,.lit (.int .i64 0),.lit (.int .i64 0)]],[]):=by kernel_rfl
 obtain ⟨⟨x1,x2,x3⟩,l,E⟩:=Option.map_eq_some_iff.1 hw
 simp only [Prod.mk.injEq] at E
 obtain ⟨rfl,rfl⟩:=E
 exact OpenSpec.preRow_of_cond 8 l (by kernel_rfl) (fun k hk=>by cases hk) (by kernel_rfl) (Jae os _)
set_option maxRecDepth 100000 in
set_option maxHeartbeats 2000000 in
theorem statsCounts_lifted (os:Os) (a:os.Started) (H:Type) (enc:TypeId × Value->H) (F:Stop.Interp) :
  ReturnsInHanded {} Tryz.checked os 3 .any ((OpenSpec.ofChange Rows.statsCountsSpec).preRow enc Tryz.prog Tryz.f3 Rows.statsCountsRow.domain false Rows.statsCountsRow.laid) (((OpenSpec.ofChange Rows.statsCountsSpec).at F).post enc Tryz.prog Tryz.f3 false true false false):=by
 refine returnsInHanded_of_row (C:=Tryz.checked) (s:=OpenSpec.ofChange Rows.statsCountsSpec) own a (by kernel_rfl) Tryz.func3
  (witness_row_atRef (enc:=enc) (C:=Tryz.checked) false (Zia os) #[Value.agg #[.slice none 0 0,.slice none 0 0,.int .i64 0,.int .i64 0]] rfl (by kernel_rfl) (by kernel_rfl) (by kernel_rfl) (Zhh os enc)) ?_
 intro W base args ds gs G c T _ _ D hL L _
 have m:∀ (j:Nat) t v,Tryz.f3.params[j]?=some t->args[j]?=some v->Value.okWide Tryz.prog W .any base t v:=c
 have r:=T
 obtain ⟨p,q,y,hV,rfl,a0,a1⟩:=T
 have R:DataW.TrodAll enc Tryz.prog W 0 (fun _=>true) true Tryz.f3.params.toList args.toList ds p:=y
 rw [Tryz.params3] at R m D
 obtain ⟨K,a2,d0,V,p0,q0,O,rfl,rfl,U,X⟩:=trodAll_cons R
 obtain ⟨rfl,rfl,rfl⟩:=trodAll_nil X
 obtain rfl:args=#[K]:=by cases args;simp_all
 obtain ⟨rfl,rfl⟩:=trodVars_none hV
 clear y c
 simp only [List.append_nil] at r
 have P:∀ x ∈ p0,x.block<W.heap.size:=fun x l=>by simpa using r.lt x (by simpa using l)
 have d:∀ (w:World),Below W.heap.size W w->DataW.Trod enc Tryz.prog w 0 (fun b=>decide (b<W.heap.size)) true 25 K d0 p0 :=
  fun w hn=>Below.trod Jdi (by kernel_rfl) (of_decide_eq_true (by kernel_rfl)) U hn (fun x l=>P x l)
 have B:∀ x,(x ∈ d0.weights Tryz.prog 25)->x<=reachBytes:=by
  intro x l
  have:=List.all_eq_true.1 D x (by
   show x ∈ DataW.weightsEach Tryz.prog (25::_) (d0::_)
   rw [DataW.weightsEach,List.mem_append]
   exact .inl l)
  simpa using this
 have o:Calls Tryz.prog 3 #[K] W fun e w'=>e=.returned (.bool true)/\Below W.heap.size W w':=by
  obtain ⟨a3,rfl,S⟩:=okWide_struct Tryz.underlying25 (m 0 25 K rfl rfl)
  obtain ⟨f0,M⟩:=U
  obtain ⟨g,hg,hz⟩:=Zvs M (fun x l=>B x l)
  exact Zu7 g _ W.heap.size W (Nat.le_refl _) (Jc5 hL L) hg hz
 refine o.mono ?_
 rintro e w ⟨rfl,hg⟩
 exact ⟨_,rfl,_,_,_,[],_,[],r,(trodAll_cons_mk (shut_bool Tryz.underlying4 _) trodAll_mk0),(trodAll_cons_mk (d w hg) trodAll_mk0),rfl,hg.frame _,fun h=>by cases h⟩
theorem Zj1:Rows.StatsCountsSaid :=
 OpenClaim.holds_of_cond 3 Tryz.f3 rfl rfl rfl rfl rfl rfl rfl ⟨rfl,rfl,rfl,rfl,rfl⟩ rfl rfl rfl rfl rfl (by kernel_rfl) Tryz.func3 (by kernel_rfl)
  (of_decide_eq_true (by kernel_rfl)) (by unfold Func.isWrapper;first | (rw [if_pos (by decide +kernel)];kernel_rfl) | (rw [if_neg (by decide +kernel)];exact ⟨rfl,rfl⟩))
  (fun os a H enc _ F=>by rw [OpenClaim.pre_eq_preRow];exact statsCounts_lifted os a H enc F)
theorem Zi0 (f:FuncId) (fn:Func) (hf:Tryz.pinned.checked.prog.funcNamed "lattice/latticelaw11.StatsCounts" = some f) (N:Tryz.pinned.checked.prog.funcs[f]?=some fn) :
  true=Tryz.pinned.checked.prog.looks []/\∀ (j:Nat) t,fn.params[j]?=some t->Tryz.pinned.checked.prog.wantsStandIn t=false:=by
 obtain rfl:f=3:=Option.some.inj ((show Tryz.prog.funcNamed "lattice/latticelaw11.StatsCounts" = some 3 by kernel_rfl).symm.trans hf) |>.symm
 obtain rfl:fn=Tryz.f3:=(Option.some.inj (Tryz.func3.symm.trans N)).symm
 refine ⟨by kernel_rfl,fun j t ht=>?_⟩
 rw [Tryz.params3] at ht
 have hm:t ∈ [25]:=by have:=Array.mem_of_getElem? ht;simpa using this
 have z:([25].all fun u=>!Tryz.prog.wantsStandIn u)=true:=by kernel_rfl
 exact (show Tryz.prog.wantsStandIn t=false by simpa using List.all_eq_true.1 z t hm)
theorem statsCounts_proved:Rows.StatsCountsCardSaid :=
 Claim7.holds_tied_plain_at .later [] _ _ _ _ Zj1 (fun _ h=>by cases h) (by kernel_rfl) (fun _ h=>by cases h) statsCounts_row_tie rfl ⟨rfl,rfl⟩ (by kernel_rfl) rfl Zi0 (by kernel_rfl)
#print axioms statsCounts_proved
end Go.Proofs.YthfilnflgahcjaaGreatDoor
