/- May properties be: the document's test of one property, in whatever order its operations are done. -/
import Derived.Test.YteddjlbfbpecjaaGreatDoorJoin2
import Derived.Test.YteddjlbfbpecjaaGreatDoorJoin21
import Derived.Test.YteddjlbfbpecjaaGreatDoorJoin23
import Derived.Test.YteddjlbfbpecjaaGreatDoorJoin14
import Derived.Test.YteddjlbfbpecjaaGreatDoorJoin22
namespace Go.Proofs.YteddjlbfbpecjaaGreatDoor
section
open Go.RowKit Go.Shelf Go.WideShapes
set_option maxHeartbeats 4000000
set_option maxRecDepth 100000
set_option linter.all false
noncomputable def RPA  : Array Oper:=Jg Tryz.f42 4
def LPA  : List Sig:=[⟨10,.move (.tmp 0),45,none⟩,⟨11,.move (.tmp 3),3,none⟩,⟨12,.indexAddr 45 (.tmp 10) (.tmp 11),0,none⟩,⟨13,.fieldAddr 79 (.tmp 12) 0,0,none⟩,⟨14,.load 9 (.tmp 13),9,none⟩,⟨15,.call { callee:=.value (.func 43),args:=#[.tmp 14],argTypes:=#[9] },4,none⟩,⟨16,.unOp .not 4 (.tmp 15),4,none⟩,⟨17,.move (.tmp 16),4,none⟩,⟨18,.move (.tmp 0),45,some (7,false)⟩,⟨19,.move (.tmp 3),3,some (7,false)⟩,⟨20,.indexAddr 45 (.tmp 18) (.tmp 19),0,some (7,false)⟩,⟨21,.fieldAddr 79 (.tmp 20) 1,0,some (7,false)⟩,⟨22,.load 60 (.tmp 21),60,some (7,false)⟩,⟨23,.call { callee:=.value (.func 103),args:=#[.tmp 22],argTypes:=#[60] },4,some (7,false)⟩,⟨24,.unOp .not 4 (.tmp 23),4,some (7,false)⟩,⟨25,.pick (.tmp 17) (.const (.bool true)) (.tmp 24),4,none⟩,⟨26,.move (.tmp 25),4,none⟩,⟨27,.move (.tmp 3),3,some (16,false)⟩,⟨28,.binOp .gtr 3 (.tmp 27) (.const (.int .i64 0)) 3,4,some (16,false)⟩,⟨29,.move (.tmp 28),4,some (16,false)⟩,⟨30,.move (.tmp 0),45,some (19,true)⟩,⟨31,.move (.tmp 3),3,some (19,true)⟩,⟨32,.binOp .sub 3 (.tmp 31) (.const (.int .i64 1)) 3,3,some (19,true)⟩,⟨33,.indexAddr 45 (.tmp 30) (.tmp 32),0,some (19,true)⟩,⟨34,.fieldAddr 79 (.tmp 33) 0,0,some (19,true)⟩,⟨35,.load 9 (.tmp 34),9,some (19,true)⟩,⟨36,.move (.tmp 0),45,some (19,true)⟩,⟨37,.move (.tmp 3),3,some (19,true)⟩,⟨38,.indexAddr 45 (.tmp 36) (.tmp 37),0,some (19,true)⟩,⟨39,.fieldAddr 79 (.tmp 38) 0,0,some (19,true)⟩,⟨40,.load 9 (.tmp 39),9,some (19,true)⟩,⟨41,.call { callee:=.value (.func 102),args:=#[.tmp 35,.tmp 40],argTypes:=#[9,9] },3,some (19,true)⟩,⟨42,.binOp .geq 3 (.tmp 41) (.const (.int .i64 0)) 3,4,some (19,true)⟩,⟨43,.pick (.tmp 29) (.tmp 42) (.const (.bool false)),4,some (16,false)⟩,⟨44,.pick (.tmp 26) (.const (.bool true)) (.tmp 43),4,none⟩]
theorem Jgw  : Jq RPA=LPA.map some:=by kernel_rfl
def APA  : List (List Nat):=[[],[],[0,1],[2],[3],[4],[5],[6],[7],[7],[7,8,9],[7,10],[7,11],[7,12],[7,13],[7,14],[15],[16],[16,17],[16,18],[19],[19],[19,21],[19,20,22],[19,23],[19,24],[19],[19],[19,26,27],[19,28],[19,29],[19,25,30],[19,31],[16,19,32],[16,33]]
def VPA (bl off kl kc j m:Nat) (x y:ByteArray) (z:Int) (b:Bool) (v0 v1 v2 v3 v4 v5:Value):List Value:=[.slice (some ⟨bl,off,none⟩) kl kc,.int .i64 (j:Int),.pointer (some ⟨bl,off+j*7,none⟩),.pointer (some ⟨bl,off+j*7,none⟩),.string x,.bool false,.bool true,.bool true,undef,undef,undef,undef,undef,undef,undef,.bool true,.bool true,undef,undef,undef,undef,undef,undef,undef,undef,undef,undef,undef,undef,undef,undef,undef,undef,undef,.bool true]
structure Zy1 (bl off kl kc j m:Nat) (x y:ByteArray) (z:Int) (b:Bool) (v0 v1 v2 v3 v4 v5:Value) (c:Act):Prop where
 t0:c.eval (.tmp 0)=.slice (some ⟨bl,off,none⟩) kl kc
 t3:c.eval (.tmp 3)=.int .i64 (j:Int)
structure Zua (bl off kl kc j m:Nat) (x y:ByteArray) (z:Int) (b:Bool) (v0 v1 v2 v3 v4 v5:Value) (w:World):Prop where
 cx:w.cell? ⟨bl,off+j*7,none⟩=some (.string x)
 kn:Calls Tryz.prog 43 #[.string x] w fun e w'=>e=.returned (.bool false)∧Below w.heap.size w w'
 lt:j<kl
 le:kl≤9223372036854775807
theorem Zxe (bl off kl kc j m:Nat) (x y:ByteArray) (z:Int) (b:Bool) (v0 v1 v2 v3 v4 v5:Value) (Q:Exit→Act→World→Prop) (base:Act) (w0:World) (hsz:base.tmps.size=45) (hb:Zy1 bl off kl kc j m x y z b v0 v1 v2 v3 v4 v5 base)
  (hW:∀ w,Below w0.heap.size w0 w→Zua bl off kl kc j m x y z b v0 v1 v2 v3 v4 v5 w) (hQ:∀ c w,Zae RPA base c→Below w0.heap.size w0 w→c.eval (.tmp 44)=.bool true→Q .normal c w):(Code.region 4 RPA true).wp Tryz.prog Q base w0:=by
 refine Zr (B:=Zy1 bl off kl kc j m x y z b v0 v1 v2 v3 v4 v5) (T:=Zua bl off kl kc j m x y z b v0 v1 v2 v3 v4 v5) (n:=35) (k:=34) LPA APA (VPA bl off kl kc j m x y z b v0 v1 v2 v3 v4 v5) Jgw rfl (by kernel_rfl) (by kernel_rfl) (by kernel_rfl) (by rw [hsz];kernel_rfl) (fun c hS=>⟨(Zc hS (by kernel_rfl)).trans hb.t0,(Zc hS (by kernel_rfl)).trans hb.t3⟩) hW ?_ (by decide) rfl rfl hQ
 clear hsz hb hW hQ
 iterate 35 (refine Zd ?_ (by
  intro c w hb hW hEq
  obtain ⟨t0,t3⟩:=hb
  obtain ⟨cx,kn,lt,le⟩:=hW
  have ec:=evc c
  have ef:=evf c
  dsimp only [APA,LPA,VPA,nth,Zcm,Zbd,Jl] at hEq ⊢
  first
  | exact ⟨by first | exact hEq.1 | exact hEq.2.1 | exact hEq.2.2.1 | exact hEq.2.2.2.1,.inr ⟨by first | exact .inl rfl | exact .inr rfl,rfl⟩⟩
  | ((try refine ⟨by first | exact hEq.1 | exact hEq.2.1 | exact hEq.2.2.1 | exact hEq.2.2.2.1,.inl ⟨rfl,?_⟩⟩);first | (refine Zm Tryz.call43 kn ?_;simp only [List.map_toArray,List.map_cons,List.map_nil,hEq];done) | (refine .inl fun pos af=>?_;(clear kn;dsimp only [Sig.oper];generalize c.eval=ρ at *;go_simp;done)))))
 exact Zj
noncomputable def RPB  : Array Oper:=Jg Tryz.f42 4
def LPB  : List Sig:=[⟨10,.move (.tmp 0),45,none⟩,⟨11,.move (.tmp 3),3,none⟩,⟨12,.indexAddr 45 (.tmp 10) (.tmp 11),0,none⟩,⟨13,.fieldAddr 79 (.tmp 12) 0,0,none⟩,⟨14,.load 9 (.tmp 13),9,none⟩,⟨15,.call { callee:=.value (.func 43),args:=#[.tmp 14],argTypes:=#[9] },4,none⟩,⟨16,.unOp .not 4 (.tmp 15),4,none⟩,⟨17,.move (.tmp 16),4,none⟩,⟨18,.move (.tmp 0),45,some (7,false)⟩,⟨19,.move (.tmp 3),3,some (7,false)⟩,⟨20,.indexAddr 45 (.tmp 18) (.tmp 19),0,some (7,false)⟩,⟨21,.fieldAddr 79 (.tmp 20) 1,0,some (7,false)⟩,⟨22,.load 60 (.tmp 21),60,some (7,false)⟩,⟨23,.call { callee:=.value (.func 103),args:=#[.tmp 22],argTypes:=#[60] },4,some (7,false)⟩,⟨24,.unOp .not 4 (.tmp 23),4,some (7,false)⟩,⟨25,.pick (.tmp 17) (.const (.bool true)) (.tmp 24),4,none⟩,⟨26,.move (.tmp 25),4,none⟩,⟨27,.move (.tmp 3),3,some (16,false)⟩,⟨28,.binOp .gtr 3 (.tmp 27) (.const (.int .i64 0)) 3,4,some (16,false)⟩,⟨29,.move (.tmp 28),4,some (16,false)⟩,⟨30,.move (.tmp 0),45,some (19,true)⟩,⟨31,.move (.tmp 3),3,some (19,true)⟩,⟨32,.binOp .sub 3 (.tmp 31) (.const (.int .i64 1)) 3,3,some (19,true)⟩,⟨33,.indexAddr 45 (.tmp 30) (.tmp 32),0,some (19,true)⟩,⟨34,.fieldAddr 79 (.tmp 33) 0,0,some (19,true)⟩,⟨35,.load 9 (.tmp 34),9,some (19,true)⟩,⟨36,.move (.tmp 0),45,some (19,true)⟩,⟨37,.move (.tmp 3),3,some (19,true)⟩,⟨38,.indexAddr 45 (.tmp 36) (.tmp 37),0,some (19,true)⟩,⟨39,.fieldAddr 79 (.tmp 38) 0,0,some (19,true)⟩,⟨40,.load 9 (.tmp 39),9,some (19,true)⟩,⟨41,.call { callee:=.value (.func 102),args:=#[.tmp 35,.tmp 40],argTypes:=#[9,9] },3,some (19,true)⟩,⟨42,.binOp .geq 3 (.tmp 41) (.const (.int .i64 0)) 3,4,some (19,true)⟩,⟨43,.pick (.tmp 29) (.tmp 42) (.const (.bool false)),4,some (16,false)⟩,⟨44,.pick (.tmp 26) (.const (.bool true)) (.tmp 43),4,none⟩]
theorem Jgx  : Jq RPB=LPB.map some:=by kernel_rfl
def APB  : List (List Nat):=[[],[],[0,1],[2],[3],[4],[5],[6],[7],[7],[7,8,9],[7,10],[7,11],[7,12],[7,13],[7,14],[15],[16],[16,17],[16,18],[19],[19],[19,21],[19,20,22],[19,23],[19,24],[19],[19],[19,26,27],[19,28],[19,29],[19,25,30],[19,31],[16,19,32],[16,33]]
def VPB (bl off kl kc j m:Nat) (x y:ByteArray) (z:Int) (b:Bool) (v0 v1 v2 v3 v4 v5:Value):List Value:=[.slice (some ⟨bl,off,none⟩) kl kc,.int .i64 (j:Int),.pointer (some ⟨bl,off+j*7,none⟩),.pointer (some ⟨bl,off+j*7,none⟩),.string x,.bool true,.bool false,.bool false,.slice (some ⟨bl,off,none⟩) kl kc,.int .i64 (j:Int),.pointer (some ⟨bl,off+j*7,none⟩),.pointer (some ⟨bl,off+j*7+1,none⟩),.agg #[v0,v1,v2,v3,v4,v5],.bool false,.bool true,.bool true,.bool true,undef,undef,undef,undef,undef,undef,undef,undef,undef,undef,undef,undef,undef,undef,undef,undef,undef,.bool true]
structure Zy2 (bl off kl kc j m:Nat) (x y:ByteArray) (z:Int) (b:Bool) (v0 v1 v2 v3 v4 v5:Value) (c:Act):Prop where
 t0:c.eval (.tmp 0)=.slice (some ⟨bl,off,none⟩) kl kc
 t3:c.eval (.tmp 3)=.int .i64 (j:Int)
structure Zub (bl off kl kc j m:Nat) (x y:ByteArray) (z:Int) (b:Bool) (v0 v1 v2 v3 v4 v5:Value) (w:World):Prop where
 cx:w.cell? ⟨bl,off+j*7,none⟩=some (.string x)
 kn:Calls Tryz.prog 43 #[.string x] w fun e w'=>e=.returned (.bool true)∧Below w.heap.size w w'
 ks:Calls Tryz.prog 103 #[.agg #[v0,v1,v2,v3,v4,v5]] w fun e w'=>e=.returned (.bool false)∧Below w.heap.size w w'
 c0:w.cell? ⟨bl,off+j*7+1,none⟩=some v0
 c1:w.cell? ⟨bl,off+j*7+2,none⟩=some v1
 c2:w.cell? ⟨bl,off+j*7+3,none⟩=some v2
 c3:w.cell? ⟨bl,off+j*7+4,none⟩=some v3
 c4:w.cell? ⟨bl,off+j*7+5,none⟩=some v4
 c5:w.cell? ⟨bl,off+j*7+6,none⟩=some v5
 lt:j<kl
 le:kl≤9223372036854775807
theorem Zxf (bl off kl kc j m:Nat) (x y:ByteArray) (z:Int) (b:Bool) (v0 v1 v2 v3 v4 v5:Value) (Q:Exit→Act→World→Prop) (base:Act) (w0:World) (hsz:base.tmps.size=45) (hb:Zy2 bl off kl kc j m x y z b v0 v1 v2 v3 v4 v5 base)
  (hW:∀ w,Below w0.heap.size w0 w→Zub bl off kl kc j m x y z b v0 v1 v2 v3 v4 v5 w) (hQ:∀ c w,Zae RPB base c→Below w0.heap.size w0 w→c.eval (.tmp 44)=.bool true→Q .normal c w):(Code.region 4 RPB true).wp Tryz.prog Q base w0:=by
 refine Zr (B:=Zy2 bl off kl kc j m x y z b v0 v1 v2 v3 v4 v5) (T:=Zub bl off kl kc j m x y z b v0 v1 v2 v3 v4 v5) (n:=35) (k:=34) LPB APB (VPB bl off kl kc j m x y z b v0 v1 v2 v3 v4 v5) Jgx rfl (by kernel_rfl) (by kernel_rfl) (by kernel_rfl) (by rw [hsz];kernel_rfl) (fun c hS=>⟨(Zc hS (by kernel_rfl)).trans hb.t0,(Zc hS (by kernel_rfl)).trans hb.t3⟩) hW ?_ (by decide) rfl rfl hQ
 clear hsz hb hW hQ
 iterate 35 (refine Zd ?_ (by
  intro c w hb hW hEq
  obtain ⟨t0,t3⟩:=hb
  obtain ⟨cx,kn,ks,c0,c1,c2,c3,c4,c5,lt,le⟩:=hW
  have ec:=evc c
  have ef:=evf c
  dsimp only [APB,LPB,VPB,nth,Zcm,Zbd,Jl] at hEq ⊢
  first
  | exact ⟨by first | exact hEq.1 | exact hEq.2.1 | exact hEq.2.2.1 | exact hEq.2.2.2.1,.inr ⟨by first | exact .inl rfl | exact .inr rfl,rfl⟩⟩
  | ((try refine ⟨by first | exact hEq.1 | exact hEq.2.1 | exact hEq.2.2.1 | exact hEq.2.2.2.1,.inl ⟨rfl,?_⟩⟩);first | (refine Zm Tryz.call43 kn ?_;simp only [List.map_toArray,List.map_cons,List.map_nil,hEq];done) | (refine Zm Tryz.call103 ks ?_;simp only [List.map_toArray,List.map_cons,List.map_nil,hEq];done) | (refine .inl fun pos af=>?_;(clear kn ks;dsimp only [Sig.oper];generalize c.eval=ρ at *;go_simp;done)))))
 exact Zj
noncomputable def RPC  : Array Oper:=Jg Tryz.f42 4
def LPC  : List Sig:=[⟨10,.move (.tmp 0),45,none⟩,⟨11,.move (.tmp 3),3,none⟩,⟨12,.indexAddr 45 (.tmp 10) (.tmp 11),0,none⟩,⟨13,.fieldAddr 79 (.tmp 12) 0,0,none⟩,⟨14,.load 9 (.tmp 13),9,none⟩,⟨15,.call { callee:=.value (.func 43),args:=#[.tmp 14],argTypes:=#[9] },4,none⟩,⟨16,.unOp .not 4 (.tmp 15),4,none⟩,⟨17,.move (.tmp 16),4,none⟩,⟨18,.move (.tmp 0),45,some (7,false)⟩,⟨19,.move (.tmp 3),3,some (7,false)⟩,⟨20,.indexAddr 45 (.tmp 18) (.tmp 19),0,some (7,false)⟩,⟨21,.fieldAddr 79 (.tmp 20) 1,0,some (7,false)⟩,⟨22,.load 60 (.tmp 21),60,some (7,false)⟩,⟨23,.call { callee:=.value (.func 103),args:=#[.tmp 22],argTypes:=#[60] },4,some (7,false)⟩,⟨24,.unOp .not 4 (.tmp 23),4,some (7,false)⟩,⟨25,.pick (.tmp 17) (.const (.bool true)) (.tmp 24),4,none⟩,⟨26,.move (.tmp 25),4,none⟩,⟨27,.move (.tmp 3),3,some (16,false)⟩,⟨28,.binOp .gtr 3 (.tmp 27) (.const (.int .i64 0)) 3,4,some (16,false)⟩,⟨29,.move (.tmp 28),4,some (16,false)⟩,⟨30,.move (.tmp 0),45,some (19,true)⟩,⟨31,.move (.tmp 3),3,some (19,true)⟩,⟨32,.binOp .sub 3 (.tmp 31) (.const (.int .i64 1)) 3,3,some (19,true)⟩,⟨33,.indexAddr 45 (.tmp 30) (.tmp 32),0,some (19,true)⟩,⟨34,.fieldAddr 79 (.tmp 33) 0,0,some (19,true)⟩,⟨35,.load 9 (.tmp 34),9,some (19,true)⟩,⟨36,.move (.tmp 0),45,some (19,true)⟩,⟨37,.move (.tmp 3),3,some (19,true)⟩,⟨38,.indexAddr 45 (.tmp 36) (.tmp 37),0,some (19,true)⟩,⟨39,.fieldAddr 79 (.tmp 38) 0,0,some (19,true)⟩,⟨40,.load 9 (.tmp 39),9,some (19,true)⟩,⟨41,.call { callee:=.value (.func 102),args:=#[.tmp 35,.tmp 40],argTypes:=#[9,9] },3,some (19,true)⟩,⟨42,.binOp .geq 3 (.tmp 41) (.const (.int .i64 0)) 3,4,some (19,true)⟩,⟨43,.pick (.tmp 29) (.tmp 42) (.const (.bool false)),4,some (16,false)⟩,⟨44,.pick (.tmp 26) (.const (.bool true)) (.tmp 43),4,none⟩]
theorem Jgy  : Jq RPC=LPC.map some:=by kernel_rfl
def APC  : List (List Nat):=[[],[],[0,1],[2],[3],[4],[5],[6],[7],[7],[7,8,9],[7,10],[7,11],[7,12],[7,13],[7,14],[15],[16],[16,17],[16,18],[19],[19],[19,21],[19,20,22],[19,23],[19,24],[19],[19],[19,26,27],[19,28],[19,29],[19,25,30],[19,31],[16,19,32],[16,33]]
def VPC (bl off kl kc j m:Nat) (x y:ByteArray) (z:Int) (b:Bool) (v0 v1 v2 v3 v4 v5:Value):List Value:=[.slice (some ⟨bl,off,none⟩) kl kc,.int .i64 (j:Int),.pointer (some ⟨bl,off+j*7,none⟩),.pointer (some ⟨bl,off+j*7,none⟩),.string x,.bool true,.bool false,.bool false,.slice (some ⟨bl,off,none⟩) kl kc,.int .i64 (j:Int),.pointer (some ⟨bl,off+j*7,none⟩),.pointer (some ⟨bl,off+j*7+1,none⟩),.agg #[v0,v1,v2,v3,v4,v5],.bool true,.bool false,.bool false,.bool false,.int .i64 (j:Int),.bool false,.bool false,undef,undef,undef,undef,undef,undef,undef,undef,undef,undef,undef,undef,undef,.bool false,.bool false]
structure Zy3 (bl off kl kc j m:Nat) (x y:ByteArray) (z:Int) (b:Bool) (v0 v1 v2 v3 v4 v5:Value) (c:Act):Prop where
 t0:c.eval (.tmp 0)=.slice (some ⟨bl,off,none⟩) kl kc
 t3:c.eval (.tmp 3)=.int .i64 (j:Int)
structure Zuc (bl off kl kc j m:Nat) (x y:ByteArray) (z:Int) (b:Bool) (v0 v1 v2 v3 v4 v5:Value) (w:World):Prop where
 cx:w.cell? ⟨bl,off+j*7,none⟩=some (.string x)
 kn:Calls Tryz.prog 43 #[.string x] w fun e w'=>e=.returned (.bool true)∧Below w.heap.size w w'
 ks:Calls Tryz.prog 103 #[.agg #[v0,v1,v2,v3,v4,v5]] w fun e w'=>e=.returned (.bool true)∧Below w.heap.size w w'
 jz:decide ((0:Int)<(j:Int))=false
 c0:w.cell? ⟨bl,off+j*7+1,none⟩=some v0
 c1:w.cell? ⟨bl,off+j*7+2,none⟩=some v1
 c2:w.cell? ⟨bl,off+j*7+3,none⟩=some v2
 c3:w.cell? ⟨bl,off+j*7+4,none⟩=some v3
 c4:w.cell? ⟨bl,off+j*7+5,none⟩=some v4
 c5:w.cell? ⟨bl,off+j*7+6,none⟩=some v5
 lt:j<kl
 le:kl≤9223372036854775807
theorem Zxg (bl off kl kc j m:Nat) (x y:ByteArray) (z:Int) (b:Bool) (v0 v1 v2 v3 v4 v5:Value) (Q:Exit→Act→World→Prop) (base:Act) (w0:World) (hsz:base.tmps.size=45) (hb:Zy3 bl off kl kc j m x y z b v0 v1 v2 v3 v4 v5 base)
  (hW:∀ w,Below w0.heap.size w0 w→Zuc bl off kl kc j m x y z b v0 v1 v2 v3 v4 v5 w) (hQ:∀ c w,Zae RPC base c→Below w0.heap.size w0 w→c.eval (.tmp 44)=.bool false→Q .normal c w):(Code.region 4 RPC true).wp Tryz.prog Q base w0:=by
 refine Zr (B:=Zy3 bl off kl kc j m x y z b v0 v1 v2 v3 v4 v5) (T:=Zuc bl off kl kc j m x y z b v0 v1 v2 v3 v4 v5) (n:=35) (k:=34) LPC APC (VPC bl off kl kc j m x y z b v0 v1 v2 v3 v4 v5) Jgy rfl (by kernel_rfl) (by kernel_rfl) (by kernel_rfl) (by rw [hsz];kernel_rfl) (fun c hS=>⟨(Zc hS (by kernel_rfl)).trans hb.t0,(Zc hS (by kernel_rfl)).trans hb.t3⟩) hW ?_ (by decide) rfl rfl hQ
 clear hsz hb hW hQ
 iterate 35 (refine Zd ?_ (by
  intro c w hb hW hEq
  obtain ⟨t0,t3⟩:=hb
  obtain ⟨cx,kn,ks,jz,c0,c1,c2,c3,c4,c5,lt,le⟩:=hW
  have ec:=evc c
  have ef:=evf c
  dsimp only [APC,LPC,VPC,nth,Zcm,Zbd,Jl] at hEq ⊢
  first
  | exact ⟨by first | exact hEq.1 | exact hEq.2.1 | exact hEq.2.2.1 | exact hEq.2.2.2.1,.inr ⟨by first | exact .inl rfl | exact .inr rfl,rfl⟩⟩
  | ((try refine ⟨by first | exact hEq.1 | exact hEq.2.1 | exact hEq.2.2.1 | exact hEq.2.2.2.1,.inl ⟨rfl,?_⟩⟩);first | (refine Zm Tryz.call43 kn ?_;simp only [List.map_toArray,List.map_cons,List.map_nil,hEq];done) | (refine Zm Tryz.call103 ks ?_;simp only [List.map_toArray,List.map_cons,List.map_nil,hEq];done) | (refine .inl fun pos af=>?_;(clear kn ks;dsimp only [Sig.oper];generalize c.eval=ρ at *;go_simp;done)) | (refine .inl fun pos af=>?_;clear kn ks;dsimp only [Sig.oper];generalize c.eval=ρ at *;go_simp;simp at jz;omega))))
 exact Zj
noncomputable def RPD  : Array Oper:=Jg Tryz.f42 4
def LPD  : List Sig:=[⟨10,.move (.tmp 0),45,none⟩,⟨11,.move (.tmp 3),3,none⟩,⟨12,.indexAddr 45 (.tmp 10) (.tmp 11),0,none⟩,⟨13,.fieldAddr 79 (.tmp 12) 0,0,none⟩,⟨14,.load 9 (.tmp 13),9,none⟩,⟨15,.call { callee:=.value (.func 43),args:=#[.tmp 14],argTypes:=#[9] },4,none⟩,⟨16,.unOp .not 4 (.tmp 15),4,none⟩,⟨17,.move (.tmp 16),4,none⟩,⟨18,.move (.tmp 0),45,some (7,false)⟩,⟨19,.move (.tmp 3),3,some (7,false)⟩,⟨20,.indexAddr 45 (.tmp 18) (.tmp 19),0,some (7,false)⟩,⟨21,.fieldAddr 79 (.tmp 20) 1,0,some (7,false)⟩,⟨22,.load 60 (.tmp 21),60,some (7,false)⟩,⟨23,.call { callee:=.value (.func 103),args:=#[.tmp 22],argTypes:=#[60] },4,some (7,false)⟩,⟨24,.unOp .not 4 (.tmp 23),4,some (7,false)⟩,⟨25,.pick (.tmp 17) (.const (.bool true)) (.tmp 24),4,none⟩,⟨26,.move (.tmp 25),4,none⟩,⟨27,.move (.tmp 3),3,some (16,false)⟩,⟨28,.binOp .gtr 3 (.tmp 27) (.const (.int .i64 0)) 3,4,some (16,false)⟩,⟨29,.move (.tmp 28),4,some (16,false)⟩,⟨30,.move (.tmp 0),45,some (19,true)⟩,⟨31,.move (.tmp 3),3,some (19,true)⟩,⟨32,.binOp .sub 3 (.tmp 31) (.const (.int .i64 1)) 3,3,some (19,true)⟩,⟨33,.indexAddr 45 (.tmp 30) (.tmp 32),0,some (19,true)⟩,⟨34,.fieldAddr 79 (.tmp 33) 0,0,some (19,true)⟩,⟨35,.load 9 (.tmp 34),9,some (19,true)⟩,⟨36,.move (.tmp 0),45,some (19,true)⟩,⟨37,.move (.tmp 3),3,some (19,true)⟩,⟨38,.indexAddr 45 (.tmp 36) (.tmp 37),0,some (19,true)⟩,⟨39,.fieldAddr 79 (.tmp 38) 0,0,some (19,true)⟩,⟨40,.load 9 (.tmp 39),9,some (19,true)⟩,⟨41,.call { callee:=.value (.func 102),args:=#[.tmp 35,.tmp 40],argTypes:=#[9,9] },3,some (19,true)⟩,⟨42,.binOp .geq 3 (.tmp 41) (.const (.int .i64 0)) 3,4,some (19,true)⟩,⟨43,.pick (.tmp 29) (.tmp 42) (.const (.bool false)),4,some (16,false)⟩,⟨44,.pick (.tmp 26) (.const (.bool true)) (.tmp 43),4,none⟩]
theorem Jgz  : Jq RPD=LPD.map some:=by kernel_rfl
def APD  : List (List Nat):=[[],[],[0,1],[2],[3],[4],[5],[6],[7],[7],[7,8,9],[7,10],[7,11],[7,12],[7,13],[7,14],[15],[16],[16,17],[16,18],[19],[19],[19,21],[19,20,22],[19,23],[19,24],[19],[19],[19,26,27],[19,28],[19,29],[19,25,30],[19,31],[16,19,32],[16,33]]
def VPD (bl off kl kc j m:Nat) (x y:ByteArray) (z:Int) (b:Bool) (v0 v1 v2 v3 v4 v5:Value):List Value:=[.slice (some ⟨bl,off,none⟩) kl kc,.int .i64 (j:Int),.pointer (some ⟨bl,off+j*7,none⟩),.pointer (some ⟨bl,off+j*7,none⟩),.string x,.bool true,.bool false,.bool false,.slice (some ⟨bl,off,none⟩) kl kc,.int .i64 (j:Int),.pointer (some ⟨bl,off+j*7,none⟩),.pointer (some ⟨bl,off+j*7+1,none⟩),.agg #[v0,v1,v2,v3,v4,v5],.bool true,.bool false,.bool false,.bool false,.int .i64 (j:Int),.bool true,.bool true,.slice (some ⟨bl,off,none⟩) kl kc,.int .i64 (j:Int),.int .i64 (m:Int),.pointer (some ⟨bl,off+m*7,none⟩),.pointer (some ⟨bl,off+m*7,none⟩),.string y,.slice (some ⟨bl,off,none⟩) kl kc,.int .i64 (j:Int),.pointer (some ⟨bl,off+j*7,none⟩),.pointer (some ⟨bl,off+j*7,none⟩),.string x,.int .i64 z,.bool b,.bool b,.bool b]
structure Zy4 (bl off kl kc j m:Nat) (x y:ByteArray) (z:Int) (b:Bool) (v0 v1 v2 v3 v4 v5:Value) (c:Act):Prop where
 t0:c.eval (.tmp 0)=.slice (some ⟨bl,off,none⟩) kl kc
 t3:c.eval (.tmp 3)=.int .i64 (j:Int)
structure Zud (bl off kl kc j m:Nat) (x y:ByteArray) (z:Int) (b:Bool) (v0 v1 v2 v3 v4 v5:Value) (w:World):Prop where
 cx:w.cell? ⟨bl,off+j*7,none⟩=some (.string x)
 cy:w.cell? ⟨bl,off+m*7,none⟩=some (.string y)
 kn:Calls Tryz.prog 43 #[.string x] w fun e w'=>e=.returned (.bool true)∧Below w.heap.size w w'
 ks:Calls Tryz.prog 103 #[.agg #[v0,v1,v2,v3,v4,v5]] w fun e w'=>e=.returned (.bool true)∧Below w.heap.size w w'
 kt:Calls Tryz.prog 102 #[.string y,.string x] w fun e w'=>e=.returned (.int .i64 z)∧Below w.heap.size w w'
 jp:decide ((0:Int)<(j:Int))=true
 kj:(j:Int) - 1=(m:Int)
 kw:IntKind.i64.wrap (m:Int)=(m:Int)
 mlt:m<kl
 zb:decide (z≥0)=b
 c0:w.cell? ⟨bl,off+j*7+1,none⟩=some v0
 c1:w.cell? ⟨bl,off+j*7+2,none⟩=some v1
 c2:w.cell? ⟨bl,off+j*7+3,none⟩=some v2
 c3:w.cell? ⟨bl,off+j*7+4,none⟩=some v3
 c4:w.cell? ⟨bl,off+j*7+5,none⟩=some v4
 c5:w.cell? ⟨bl,off+j*7+6,none⟩=some v5
 lt:j<kl
 le:kl≤9223372036854775807
theorem Zxh (bl off kl kc j m:Nat) (x y:ByteArray) (z:Int) (b:Bool) (v0 v1 v2 v3 v4 v5:Value) (Q:Exit→Act→World→Prop) (base:Act) (w0:World) (hsz:base.tmps.size=45) (hb:Zy4 bl off kl kc j m x y z b v0 v1 v2 v3 v4 v5 base)
  (hW:∀ w,Below w0.heap.size w0 w→Zud bl off kl kc j m x y z b v0 v1 v2 v3 v4 v5 w) (hQ:∀ c w,Zae RPD base c→Below w0.heap.size w0 w→c.eval (.tmp 44)=.bool b→Q .normal c w):(Code.region 4 RPD true).wp Tryz.prog Q base w0:=by
 refine Zr (B:=Zy4 bl off kl kc j m x y z b v0 v1 v2 v3 v4 v5) (T:=Zud bl off kl kc j m x y z b v0 v1 v2 v3 v4 v5) (n:=35) (k:=34) LPD APD (VPD bl off kl kc j m x y z b v0 v1 v2 v3 v4 v5) Jgz rfl (by kernel_rfl) (by kernel_rfl) (by kernel_rfl) (by rw [hsz];kernel_rfl) (fun c hS=>⟨(Zc hS (by kernel_rfl)).trans hb.t0,(Zc hS (by kernel_rfl)).trans hb.t3⟩) hW ?_ (by decide) rfl rfl hQ
 clear hsz hb hW hQ
 iterate 35 (refine Zd ?_ (by
  intro c w hb hW hEq
  obtain ⟨t0,t3⟩:=hb
  obtain ⟨cx,cy,kn,ks,kt,jp,kj,kw,mlt,zb,c0,c1,c2,c3,c4,c5,lt,le⟩:=hW
  have ec:=evc c
  have ef:=evf c
  dsimp only [APD,LPD,VPD,nth,Zcm,Zbd,Jl] at hEq ⊢
  first
  | exact ⟨by first | exact hEq.1 | exact hEq.2.1 | exact hEq.2.2.1 | exact hEq.2.2.2.1,.inr ⟨by first | exact .inl rfl | exact .inr rfl,rfl⟩⟩
  | ((try refine ⟨by first | exact hEq.1 | exact hEq.2.1 | exact hEq.2.2.1 | exact hEq.2.2.2.1,.inl ⟨rfl,?_⟩⟩);first | (refine Zm Tryz.call43 kn ?_;simp only [List.map_toArray,List.map_cons,List.map_nil,hEq];done) | (refine Zm Tryz.call103 ks ?_;simp only [List.map_toArray,List.map_cons,List.map_nil,hEq];done) | (refine Zm Tryz.call102 kt ?_;simp only [List.map_toArray,List.map_cons,List.map_nil,hEq];done) | (refine .inl fun pos af=>?_;(clear kn ks kt;dsimp only [Sig.oper];generalize c.eval=ρ at *;go_simp;done)) | (refine .inl fun pos af=>?_;clear kn ks kt;dsimp only [Sig.oper];generalize c.eval=ρ at *;go_simp;simp at jp;omega))))
 exact Zj
end
section
open Go.RowKit Go.Shelf
set_option linter.all false
attribute [local go_sem] Oper.semAt_some
def Zbg  : Option ByteArray→List (ByteArray × Zk)→Bool
 | _,[]=>true
 | p,q::r=>Jn q.1.data.toList&&Zcu q.2&&(match p with | none=>true | some y=>decide (Lib.compareBytes y.data.toList q.1.data.toList<0))&&Zbg (some q.1) r
def Zhl (ps:List (ByteArray × Zk)):Nat→Option ByteArray
 | 0=>none
 | j+1=>(ps[j]?).map Prod.fst
theorem Zfq {ps:List (ByteArray × Zk)} {j:Nat} {q:ByteArray × Zk} (h:ps[j]?=some q):Zbg (Zhl ps j) (ps.drop j)=(Jn q.1.data.toList&&Zcu q.2&&(match Zhl ps j with | none=>true | some y=>decide (Lib.compareBytes y.data.toList q.1.data.toList<0))&&Zbg (Zhl ps (j+1)) (ps.drop (j+1))):=by
 obtain ⟨hj,hx⟩:=List.getElem?_eq_some_iff.1 h
 have e:Zhl ps (j+1)=some q.1:=by show (ps[j]?).map Prod.fst=_;rw [h];rfl
 rw [List.drop_eq_getElem_cons hj,hx,e]
 cases Zhl ps j<;>rfl
def Zm4 (q:ByteArray × Zk):Prop:=q.1.size≤140737488355328∧Zj6 q.2∧q.2.total≤2000000
set_option maxRecDepth 100000 in
set_option maxHeartbeats 4000000 in
theorem Zi5 (v:Value) (ps:List (ByteArray × Zk)) (B:Nat) (w:World) (hB:B≤w.heap.size) (hp:Jh B w v ps) (hs:∀ q ∈ ps,Zm4 q) :
  Calls Tryz.prog 42 #[v] w fun e w'=>e=.returned (.bool (Zbg none ps))∧Below w.heap.size w w':=by
 have HS:=Zb hs
 obtain ⟨pa,pc,rfl,h1,h2,hp3⟩:=hp
 have HP:=Zb hp3
 obtain ⟨n,hn⟩:∃ n,ps.length=n:=⟨_,rfl⟩
 have HN:=Zb hn
 rw [hn] at h1 ⊢
 obtain ⟨res,hres⟩:∃ r,Zbg none ps=r:=⟨_,rfl⟩
 have HR:=Zb hres
 rw [hres]
 clear hp3 hs hn hres
 go_enter Tryz.func42,Tryz.ntmps42
 go_wp2_with fail
 go_loopw [3] (fun i wr=>∃ j:Nat,j≤n∧i=.int .i64 j∧Below w.heap.size w wr∧Zbg (Zhl ps j) (ps.drop j)=res) (fun i _=>n - (intOf i).toNat)
 case atStart=>exact ⟨0,Nat.zero_le _,rfl,Below.refl _ _,HR.out⟩
 case round =>
  obtain ⟨j,hj,rfl,hbr,hrs⟩:=hrel
  have HBR:=Zb hbr
  have HRS:=Zb hrs
  clear hbr hrs
  have hwz:w.heap.size≤wr.heap.size:=HBR.out.size
  by_cases hlt:j<n
  ·have hlt':(j:Int)<n:=by omega
   obtain ⟨⟨x,T⟩,hx⟩:∃ q,ps[j]?=some q:=⟨_,List.getElem?_eq_getElem (by have:=HN.out;omega)⟩
   have HX:=Zb hx
   obtain ⟨bl,off,rfl,hbl,hc⟩:=HP.out.resolve_left (by intro e;rw [e] at hx;simp at hx)
   have hbw:bl<wr.heap.size:=by omega
   have hat:∀ i q,ps[i]?=some q→Zdw B wr bl (off+i*7) q:=fun i q hq=>(hc i q hq).below (HBR.out.mono hB) hbl
   have HAT:=Zb hat
   obtain ⟨cx,hs0,v0,v1,v2,v3,v4,v5,⟨c0,c1,c2,c3,c4,c5⟩,hv⟩:=hat j _ hx
   have hxp:=HS.out _ (List.mem_of_getElem? hx)
   have hxs:x.size≤140737488355328:=hxp.1
   simp only at cx hs0 hv
   have HNM:=Zb (fun W=>Zit x W hxs)
   have HST:=Zb (fun W (hb:Below wr.heap.size wr W)=>Zkr T B _ W (by have:=hb.size;omega) (hv.below (hb.mono (by omega))) hxp.2.1 hxp.2.2)
   clear hc hx hat hs0 hv hxp
   obtain ⟨st,hst⟩:∃ s,Zcu T=s:=⟨_,rfl⟩
   rw [hst] at HST
   have HSX:=Zb hst
   clear hst
   cases hnx:Jn x.data.toList with
   | false =>
    rw [hnx] at HNM
    have HF:Hid (res=false):=by
     show _=_
     rw [← HRS.out,Zfq HX.out,hnx];rfl
    clear hnx
    go_upto_region 4 with fail
    show (Code.region 4 RPA true).wp _ _ _ _
    refine Zxe bl off n pc j 0 x ⟨#[]⟩ 0 false v0 v1 v2 v3 v4 v5 _ _ _ rfl ⟨rfl,rfl⟩ ?_ ?_
    ·intro W hW
     exact ⟨(hW.cell (p:=⟨bl,off+j*7,none⟩) hbw).trans cx,(HNM.out W).mono fun e w' ⟨h1,h2⟩=>⟨h1,h2▸Below.refl _ _⟩,by omega,by omega⟩
    intro c W2 hS hB2 e44
    rw [Zs hS [10,11,12,13,14,15,16,17,18,19,20,21,22,23,24,25,26,27,28,29,30,31,32,33,34,35,36,37,38,39,40,41,42,43,44] (by kernel_rfl)]
    simp only [List.foldl_cons,List.foldl_nil,List.setIfInBounds_toArray,List.set_cons_succ,List.set_cons_zero,show Zcs c 44=_ from e44]
    clear e44 hS
    have HB2:=Zb (Za HBR.out hB2)
    clear hB2
    go_wp2_with fail
    go_ret
    exact ⟨by rw [HF.out];rfl,HB2.out⟩
   | true =>
    rw [hnx] at HNM
    cases st with
    | false =>
     have HF:Hid (res=false):=by
      show _=_
      rw [← HRS.out,Zfq HX.out,hnx,HSX.out];rfl
     clear hnx
     go_upto_region 4 with fail
     show (Code.region 4 RPB true).wp _ _ _ _
     refine Zxf bl off n pc j 0 x ⟨#[]⟩ 0 false v0 v1 v2 v3 v4 v5 _ _ _ rfl ⟨rfl,rfl⟩ ?_ ?_
     ·intro W hW
      exact ⟨(hW.cell (p:=⟨bl,off+j*7,none⟩) hbw).trans cx,(HNM.out W).mono fun e w' ⟨h1,h2⟩=>⟨h1,h2▸Below.refl _ _⟩,HST.out W hW,(hW.cell (p:=⟨bl,off+j*7+1,none⟩) hbw).trans c0,(hW.cell (p:=⟨bl,off+j*7+2,none⟩) hbw).trans c1,(hW.cell (p:=⟨bl,off+j*7+3,none⟩) hbw).trans c2,(hW.cell (p:=⟨bl,off+j*7+4,none⟩) hbw).trans c3,(hW.cell (p:=⟨bl,off+j*7+5,none⟩) hbw).trans c4,(hW.cell (p:=⟨bl,off+j*7+6,none⟩) hbw).trans c5,by omega,by omega⟩
     intro c W2 hS hB2 e44
     rw [Zs hS [10,11,12,13,14,15,16,17,18,19,20,21,22,23,24,25,26,27,28,29,30,31,32,33,34,35,36,37,38,39,40,41,42,43,44] (by kernel_rfl)]
     simp only [List.foldl_cons,List.foldl_nil,List.setIfInBounds_toArray,List.set_cons_succ,List.set_cons_zero,show Zcs c 44=_ from e44]
     clear e44 hS
     have HB2:=Zb (Za HBR.out hB2)
     clear hB2
     go_wp2_with fail
     go_ret
     exact ⟨by rw [HF.out];rfl,HB2.out⟩
    | true =>
     by_cases hj0:j=0
     ·have hjz:decide ((0:Int)<(j:Int))=false:=by simp;omega
      have HN2:Hid (Zbg (Zhl ps (j+1)) (ps.drop (j+1))=res):=by
       show _=_
       rw [← HRS.out,Zfq HX.out,hnx,HSX.out,hj0];rfl
      have HJ:=Zb hj0
      clear hnx hj0
      go_upto_region 4 with fail
      show (Code.region 4 RPC true).wp _ _ _ _
      refine Zxg bl off n pc j 0 x ⟨#[]⟩ 0 false v0 v1 v2 v3 v4 v5 _ _ _ rfl ⟨rfl,rfl⟩ ?_ ?_
      ·intro W hW
       exact ⟨(hW.cell (p:=⟨bl,off+j*7,none⟩) hbw).trans cx,(HNM.out W).mono fun e w' ⟨h1,h2⟩=>⟨h1,h2▸Below.refl _ _⟩,HST.out W hW,hjz,(hW.cell (p:=⟨bl,off+j*7+1,none⟩) hbw).trans c0,(hW.cell (p:=⟨bl,off+j*7+2,none⟩) hbw).trans c1,(hW.cell (p:=⟨bl,off+j*7+3,none⟩) hbw).trans c2,(hW.cell (p:=⟨bl,off+j*7+4,none⟩) hbw).trans c3,(hW.cell (p:=⟨bl,off+j*7+5,none⟩) hbw).trans c4,(hW.cell (p:=⟨bl,off+j*7+6,none⟩) hbw).trans c5,by omega,by omega⟩
      intro c W2 hS hB2 e44
      rw [Zs hS [10,11,12,13,14,15,16,17,18,19,20,21,22,23,24,25,26,27,28,29,30,31,32,33,34,35,36,37,38,39,40,41,42,43,44] (by kernel_rfl)]
      simp only [List.foldl_cons,List.foldl_nil,List.setIfInBounds_toArray,List.set_cons_succ,List.set_cons_zero,show Zcs c 44=_ from e44]
      clear e44 hS
      have HB2:=Zb (Za HBR.out hB2)
      clear hB2
      go_wp2_with fail
      go_roundw
      case rel=>exact ⟨j+1,by omega,by go_num,HB2.out,HN2.out⟩
      case measure=>simp [intOf];omega
     ·obtain ⟨m,hm⟩:∃ m,j=m+1:=⟨j - 1,by omega⟩
      obtain ⟨⟨y,U⟩,hy⟩:∃ y,ps[m]?=some y:=⟨_,List.getElem?_eq_getElem (by have:=HN.out;omega)⟩
      have cy:=(HAT.out m _ hy).1
      simp only at cy
      have hys:y.size≤140737488355328:=(HS.out _ (List.mem_of_getElem? hy)).1
      have hjp:decide ((0:Int)<(j:Int))=true:=by simp;omega
      have hjm:(j:Int) - 1=(m:Int):=by omega
      have hmw:IntKind.i64.wrap (m:Int)=(m:Int):=by rw [IntKind.wrap_i64];omega
      have hml:m<n:=by omega
      have HTX:=Zb (fun W=>Zl7 y x W (by omega) (by omega))
      obtain ⟨z,hz⟩:∃ z,Lib.compareBytes y.data.toList x.data.toList=z:=⟨_,rfl⟩
      rw [hz] at HTX
      obtain ⟨b,hb⟩:∃ b,decide (z≥0)=b:=⟨_,rfl⟩
      have HN2:Hid ((!b&&Zbg (Zhl ps (j+1)) (ps.drop (j+1)))=res):=by
       show _=_
       rw [← HRS.out,Zfq HX.out,hnx,HSX.out]
       have e:Zhl ps j=some y:=by rw [hm];show (ps[m]?).map Prod.fst=_;rw [hy];rfl
       rw [e]
       simp only [Bool.true_and]
       have e2:decide (Lib.compareBytes y.data.toList x.data.toList<0)=!b:=by
        rw [hz,← hb]
        by_cases h:z<0
        ·simp [h]
         try omega
        ·simp [h]
         try omega
       rw [e2]
      have HJM:=Zb hjm
      have HMW:=Zb hmw
      clear hnx hj0 hy hz hjm hmw hm
      go_upto_region 4 with fail
      show (Code.region 4 RPD true).wp _ _ _ _
      refine Zxh bl off n pc j m x y z b v0 v1 v2 v3 v4 v5 _ _ _ rfl ⟨rfl,rfl⟩ ?_ ?_
      ·intro W hW
       exact ⟨(hW.cell (p:=⟨bl,off+j*7,none⟩) hbw).trans cx,(hW.cell (p:=⟨bl,off+m*7,none⟩) hbw).trans cy,(HNM.out W).mono fun e w' ⟨h1,h2⟩=>⟨h1,h2▸Below.refl _ _⟩,HST.out W hW,(HTX.out W).mono fun e w' ⟨h1,q,h2⟩=>⟨h1,h2▸⟨rfl,rfl,rfl,Nat.le_refl _,fun _ _=>rfl⟩⟩,hjp,HJM.out,HMW.out,hml,hb,(hW.cell (p:=⟨bl,off+j*7+1,none⟩) hbw).trans c0,(hW.cell (p:=⟨bl,off+j*7+2,none⟩) hbw).trans c1,(hW.cell (p:=⟨bl,off+j*7+3,none⟩) hbw).trans c2,(hW.cell (p:=⟨bl,off+j*7+4,none⟩) hbw).trans c3,(hW.cell (p:=⟨bl,off+j*7+5,none⟩) hbw).trans c4,(hW.cell (p:=⟨bl,off+j*7+6,none⟩) hbw).trans c5,by omega,by omega⟩
      intro c W2 hS hB2 e44
      rw [Zs hS [10,11,12,13,14,15,16,17,18,19,20,21,22,23,24,25,26,27,28,29,30,31,32,33,34,35,36,37,38,39,40,41,42,43,44] (by kernel_rfl)]
      simp only [List.foldl_cons,List.foldl_nil,List.setIfInBounds_toArray,List.set_cons_succ,List.set_cons_zero,show Zcs c 44=_ from e44]
      clear e44 hS
      have HB2:=Zb (Za HBR.out hB2)
      clear hB2 hjp hb
      cases b with
      | true =>
       have HF:Hid (res=false):=HN2.out.symm
       go_wp2_with fail
       go_ret
       exact ⟨by rw [HF.out];rfl,HB2.out⟩
      | false =>
       have HN3:Hid (Zbg (Zhl ps (j+1)) (ps.drop (j+1))=res):=HN2.out
       go_wp2_with fail
       go_roundw
       case rel=>exact ⟨j+1,by omega,by go_num,HB2.out,HN3.out⟩
       case measure=>simp [intOf];omega
  ·have HF:Hid (res=true):=by
    show _=_
    rw [← HRS.out,List.drop_of_length_le (by have:=HN.out;omega)]
    cases Zhl ps j<;>rfl
   have hlt':¬ (j:Int)<n:=by omega
   go_wp2_with fail
   go_ret
   exact ⟨by rw [HF.out];rfl,HBR.out⟩
end
section
open Go.RowKit Go.Shelf
set_option maxHeartbeats 4000000
set_option maxRecDepth 100000
set_option linter.all false
attribute [local go_sem] Oper.semAt_some
def leqB (x s:ByteArray):Bool:=Op.bytesLess x.toList s.toList||x.toList==s.toList
def nrB (l:ByteArray):List ByteArray→Bool
 | []=>true
 | x::r=>Jn x.data.toList&&(!leqB x l&&nrB x r)
theorem Zyu {ks:List ByteArray} {j:Nat} {x l:ByteArray} (h:ks[j]?=some x):nrB l (ks.drop j)=(Jn x.data.toList&&(!leqB x l&&nrB x (ks.drop (j+1)))):=by
 obtain ⟨hj,hx⟩:=List.getElem?_eq_some_iff.1 h
 rw [List.drop_eq_getElem_cons hj,hx,nrB]
theorem Zv9 (x:ByteArray) (w:World):Calls Tryz.prog 145 #[.string x] w fun e w'=>e=.returned (.string x)∧w'=w:=by
 go_enter Tryz.func145,Tryz.ntmps145
 go_wp2_with fail
 go_ret
 exact ⟨rfl,rfl⟩
theorem Zzj (x:ByteArray) (v0 v1 v2 v3 v4 v5:Value) (w:World):Calls Tryz.prog 182 #[.agg #[.string x,v0,v1,v2,v3,v4,v5]] w fun e w'=>e=.returned (.string x)∧Below w.heap.size w w':=by
 go_enter Tryz.func182,Tryz.ntmps182
 go_upto_region 1 with fail
 generalize hW1:World.alloc _ _=W1
 have hr:=Zl w #[.string x,v0,v1,v2,v3,v4,v5] 79
 rw [hW1] at hr
 have HB1:Hid (Below w.heap.size w W1):=by rw [← hW1];exact (Below.refl _ _).alloc (Nat.le_refl _) _
 have q0:=hr.cell 0 rfl
 clear hW1 hr
 go_wp2_with fail
 go_ret
 exact ⟨rfl,HB1.out⟩
theorem Zr9 (ks:List ByteArray) (B:Nat) (ka:Option Addr) (kc:Nat) (w:World) (hB:B≤w.heap.size) (hE:Env w) (hk:Jv B w ka ks) (h1:ks.length≤kc) (h2:kc≤9223372036854775807) (hs:∀ x ∈ ks,x.size≤140737488355328) :
  Calls Tryz.prog 144 #[.slice ka ks.length kc,.func (.func 145) #[] #[]] w fun e w'=>e=.returned (.bool (nrB ⟨#[]⟩ ks))∧Below w.heap.size w w':=by
 have HK:=Zb hk
 have HS:=Zb hs
 have HE:=Zb hE
 obtain ⟨n,hn⟩:∃ n,ks.length=n:=⟨_,rfl⟩
 have HN:=Zb hn
 rw [hn] at h1 ⊢
 obtain ⟨res,hres⟩:∃ r,nrB ⟨#[]⟩ ks=r:=⟨_,rfl⟩
 have HR:=Zb hres
 rw [hres]
 clear hk hs hn hres hE
 go_enter Tryz.func144,Tryz.ntmps144
 go_wp2_with fail
 go_loopw [11,5] (fun i l wr=>∃ (j:Nat) (s:ByteArray),j≤n∧i=.int .i64 j∧l=.string s∧Below w.heap.size w wr∧nrB s (ks.drop j)=res) (fun i _ _=>n - (intOf i).toNat)
 case atStart=>exact ⟨0,_,Nat.zero_le _,rfl,rfl,Below.refl _ _,HR.out⟩
 case round =>
  obtain ⟨j,s,hj,rfl,rfl,hbr,hrs⟩:=hrel
  have HBR:=Zb hbr
  have HRS:=Zb hrs
  have hwz:w.heap.size≤wr.heap.size:=hbr.size
  clear hbr hrs
  by_cases hlt:j<n
  ·have hlt':(j:Int)<n:=by omega
   obtain ⟨x,hx⟩:∃ x,ks[j]?=some x:=⟨_,List.getElem?_eq_getElem (by have:=HN.out;omega)⟩
   have HX:=Zb hx
   obtain ⟨bl,off,rfl,hbl,hc⟩:=HK.out.resolve_left (by intro e;rw [e] at hx;simp at hx)
   have cx:wr.cell? ⟨bl,off+j,none⟩=some (.string x):=by
    have:=(hc j (by have:=HN.out;omega)).1
    rw [List.getD_eq_getElem?_getD,hx] at this
    exact (HBR.out.cell (p:=⟨bl,off+j,none⟩) (by show bl<w.heap.size;omega)).trans this
   have hxs:x.size≤140737488355328:=HS.out x (List.mem_of_getElem? hx)
   have HNM:=Zb (Zel x hxs wr (HE.out.below HBR.out HE.out.room))
   have HBA:=HBR
   clear hc hx
   obtain ⟨nb,hnb⟩:∃ b,Jn x.data.toList=b:=⟨_,rfl⟩
   rw [hnb] at HNM
   obtain ⟨lb,hlb⟩:∃ b,(Op.bytesLess x.toList s.toList||x.toList==s.toList)=b:=⟨_,rfl⟩
   have HE2:Hid (res=(nb&&(!lb&&nrB x (ks.drop (j+1))))):=by
    show _=_
    rw [← HRS.out,Zyu HX.out,hnb]
    unfold leqB
    rw [hlb]
   clear hnb
   go_wp2_with fail
   refine (Zv9 x _).mono ?_
   rintro e w2 ⟨rfl,rfl⟩
   go_wp2_with fail
   refine HNM.out.mono ?_
   rintro e w3 ⟨rfl,hb3⟩
   have HB3:=Zb (Za HBA.out hb3)
   clear hb3
   cases nb with
   | false =>
    have HF:Hid (res=false):=HE2.out
    go_wp2_with fail
    go_ret
    exact ⟨by rw [HF.out];rfl,HB3.out⟩
   | true =>
    cases lb with
    | true =>
     have HF:Hid (res=false):=HE2.out
     go_wp2_with fail
     go_ret
     exact ⟨by rw [HF.out];rfl,HB3.out⟩
    | false =>
     have HN2:Hid (nrB x (ks.drop (j+1))=res):=HE2.out.symm
     go_wp2_with fail
     go_roundw
     case rel=>exact ⟨j+1,x,by omega,by go_num,rfl,HB3.out,HN2.out⟩
     case measure=>simp [intOf];omega
  ·have HF:Hid (res=true):=by
    show _=_
    rw [← HRS.out,List.drop_of_length_le (by have:=HN.out;simp;omega)];rfl
   have hlt':¬ (j:Int)<n:=by omega
   go_wp2_with fail
   go_ret
   exact ⟨by rw [HF.out];rfl,HBR.out⟩
theorem Zwa (ks:List (ByteArray × Zk)) (B:Nat) (ka:Option Addr) (kc:Nat) (w:World) (hB:B≤w.heap.size) (hE:Env w) (hk:ks=[]∨∃ bl off,ka=some ⟨bl,off,none⟩∧bl<B∧∀ i q,ks[i]?=some q→Zdw B w bl (off+i*7) q) (h1:ks.length≤kc) (h2:kc≤9223372036854775807) (hs:∀ q ∈ ks,q.1.size≤140737488355328) :
  Calls Tryz.prog 181 #[.slice ka ks.length kc,.func (.func 182) #[] #[]] w fun e w'=>e=.returned (.bool (nrB ⟨#[]⟩ (ks.map Prod.fst)))∧Below w.heap.size w w':=by
 have HK:=Zb hk
 have HS:=Zb hs
 have HE:=Zb hE
 obtain ⟨n,hn⟩:∃ n,ks.length=n:=⟨_,rfl⟩
 have HN:=Zb hn
 rw [hn] at h1 ⊢
 obtain ⟨res,hres⟩:∃ r,nrB ⟨#[]⟩ (ks.map Prod.fst)=r:=⟨_,rfl⟩
 have HR:=Zb hres
 rw [hres]
 clear hk hs hn hres hE
 go_enter Tryz.func181,Tryz.ntmps181
 go_wp2_with fail
 go_loopw [11,5] (fun i l wr=>∃ (j:Nat) (s:ByteArray),j≤n∧i=.int .i64 j∧l=.string s∧Below w.heap.size w wr∧nrB s ((ks.map Prod.fst).drop j)=res) (fun i _ _=>n - (intOf i).toNat)
 case atStart=>exact ⟨0,_,Nat.zero_le _,rfl,rfl,Below.refl _ _,HR.out⟩
 case round =>
  obtain ⟨j,s,hj,rfl,rfl,hbr,hrs⟩:=hrel
  have HBR:=Zb hbr
  have HRS:=Zb hrs
  have hwz:w.heap.size≤wr.heap.size:=hbr.size
  clear hbr hrs
  by_cases hlt:j<n
  ·have hlt':(j:Int)<n:=by omega
   obtain ⟨⟨x,⟨tk,tb,tn,ts,tks,tts⟩⟩,hx⟩:∃ x,ks[j]?=some x:=⟨_,List.getElem?_eq_getElem (by have:=HN.out;omega)⟩
   have HX:Hid ((ks.map Prod.fst)[j]?=some x):=by
    show _=_
    rw [List.getElem?_map,hx];rfl
   obtain ⟨bl,off,rfl,hbl,hc⟩:=HK.out.resolve_left (by intro e;rw [e] at hx;simp at hx)
   obtain ⟨cx,_,v0,v1,v2,v3,v4,v5,⟨c0,c1,c2,c3,c4,c5⟩,hv⟩:=(hc j _ hx).below (HBR.out.mono hB) hbl
   have hxs:x.size≤140737488355328:=HS.out _ (List.mem_of_getElem? hx)
   simp only at cx hv
   simp only [Zaw] at hv
   obtain ⟨kaa,kcc,laa,lcc,hag,_⟩:=hv
   obtain ⟨rfl,rfl,rfl,rfl,rfl,rfl⟩:v0=.int .i64 tk∧v1=.bool tb∧v2=.int .i64 tn∧v3=.string ts∧v4=.slice kaa tks.length kcc∧v5=.slice laa tts.length lcc:=by
    simpa using hag
   clear hc hx hag
   go_upto_region 5 with fail
   generalize hW2:World.alloc _ _=W2
   have hr2:=Zl wr #[.string x,.int .i64 tk,.bool tb,.int .i64 tn,.string ts,.slice kaa tks.length kcc,.slice laa tts.length lcc] 79
   rw [hW2] at hr2
   have HB2:Hid (Below wr.heap.size wr W2):=by rw [← hW2];exact (Below.refl _ _).alloc (Nat.le_refl _) _
   have k0:=hr2.cell 0 rfl
   have k1:=hr2.cell 1 rfl
   have k2:=hr2.cell 2 rfl
   have k3:=hr2.cell 3 rfl
   have k4:=hr2.cell 4 rfl
   have k5:=hr2.cell 5 rfl
   have k6:=hr2.cell 6 rfl
   clear hW2 hr2 cx c0 c1 c2 c3 c4 c5
   go_wp2_with fail
   refine (Zzj x _ _ _ _ _ _ _).mono ?_
   rintro e w2 ⟨rfl,hb2⟩
   have HBA:=Zb (Za HBR.out (Za HB2.out hb2))
   clear hb2 k0 k1 k2 k3 k4 k5 k6
   have HNM:=Zb (Zel x hxs w2 (HE.out.below HBA.out HE.out.room))
   obtain ⟨nb,hnb⟩:∃ b,Jn x.data.toList=b:=⟨_,rfl⟩
   rw [hnb] at HNM
   obtain ⟨lb,hlb⟩:∃ b,(Op.bytesLess x.toList s.toList||x.toList==s.toList)=b:=⟨_,rfl⟩
   have HE2:Hid (res=(nb&&(!lb&&nrB x ((ks.map Prod.fst).drop (j+1))))):=by
    show _=_
    rw [← HRS.out,Zyu HX.out,hnb]
    unfold leqB
    rw [hlb]
   clear hnb
   go_wp2_with fail
   refine HNM.out.mono ?_
   rintro e w3 ⟨rfl,hb3⟩
   have HB3:=Zb (Za HBA.out hb3)
   clear hb3
   cases nb with
   | false =>
    have HF:Hid (res=false):=HE2.out
    go_wp2_with fail
    go_ret
    exact ⟨by rw [HF.out];rfl,HB3.out⟩
   | true =>
    cases lb with
    | true =>
     have HF:Hid (res=false):=HE2.out
     go_wp2_with fail
     go_ret
     exact ⟨by rw [HF.out];rfl,HB3.out⟩
    | false =>
     have HN2:Hid (nrB x ((ks.map Prod.fst).drop (j+1))=res):=HE2.out.symm
     go_wp2_with fail
     go_roundw
     case rel=>exact ⟨j+1,x,by omega,by go_num,rfl,HB3.out,HN2.out⟩
     case measure=>simp [intOf];omega
  ·have HF:Hid (res=true):=by
    show _=_
    rw [← HRS.out,List.drop_of_length_le (by have:=HN.out;simp;omega)];rfl
   have hlt':¬ (j:Int)<n:=by omega
   go_wp2_with fail
   go_ret
   exact ⟨by rw [HF.out];rfl,HBR.out⟩
end
