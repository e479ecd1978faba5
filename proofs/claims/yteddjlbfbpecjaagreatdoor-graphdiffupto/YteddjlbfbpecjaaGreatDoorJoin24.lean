import Derived.Test.YteddjlbfbpecjaaGreatDoorJoin23
import Derived.Test.YteddjlbfbpecjaaGreatDoorJoin17
namespace Go.Proofs.YteddjlbfbpecjaaGreatDoor
set_option maxHeartbeats 4000000
set_option maxRecDepth 100000
set_option linter.all false
section
open Go.RowKit Go.Shelf Go.WideShapes
noncomputable def RPA  : Array Oper:=Zy Tryz.f42 4
def LPA  : List Sig:=[⟨10,.move (.tmp 0),45,none⟩,⟨11,.move (.tmp 3),3,none⟩,⟨12,.indexAddr 45 (.tmp 10) (.tmp 11),0,none⟩,⟨13,.fieldAddr 79 (.tmp 12) 0,0,none⟩,⟨14,.load 9 (.tmp 13),9,none⟩,⟨15,.call { callee:=.value (.func 43),args:=#[.tmp 14],argTypes:=#[9] },4,none⟩,⟨16,.unOp .not 4 (.tmp 15),4,none⟩,⟨17,.move (.tmp 16),4,none⟩,⟨18,.move (.tmp 0),45,some (7,false)⟩,⟨19,.move (.tmp 3),3,some (7,false)⟩,⟨20,.indexAddr 45 (.tmp 18) (.tmp 19),0,some (7,false)⟩,⟨21,.fieldAddr 79 (.tmp 20) 1,0,some (7,false)⟩,⟨22,.load 60 (.tmp 21),60,some (7,false)⟩,⟨23,.call { callee:=.value (.func 103),args:=#[.tmp 22],argTypes:=#[60] },4,some (7,false)⟩,⟨24,.unOp .not 4 (.tmp 23),4,some (7,false)⟩,⟨25,.pick (.tmp 17) (.const (.bool true)) (.tmp 24),4,none⟩,⟨26,.move (.tmp 25),4,none⟩,⟨27,.move (.tmp 3),3,some (16,false)⟩,⟨28,.binOp .gtr 3 (.tmp 27) (.const (.int .i64 0)) 3,4,some (16,false)⟩,⟨29,.move (.tmp 28),4,some (16,false)⟩,⟨30,.move (.tmp 0),45,some (19,true)⟩,⟨31,.move (.tmp 3),3,some (19,true)⟩,⟨32,.binOp .sub 3 (.tmp 31) (.const (.int .i64 1)) 3,3,some (19,true)⟩,⟨33,.indexAddr 45 (.tmp 30) (.tmp 32),0,some (19,true)⟩,⟨34,.fieldAddr 79 (.tmp 33) 0,0,some (19,true)⟩,⟨35,.load 9 (.tmp 34),9,some (19,true)⟩,⟨36,.move (.tmp 0),45,some (19,true)⟩,⟨37,.move (.tmp 3),3,some (19,true)⟩,⟨38,.indexAddr 45 (.tmp 36) (.tmp 37),0,some (19,true)⟩,⟨39,.fieldAddr 79 (.tmp 38) 0,0,some (19,true)⟩,⟨40,.load 9 (.tmp 39),9,some (19,true)⟩,⟨41,.call { callee:=.value (.func 102),args:=#[.tmp 35,.tmp 40],argTypes:=#[9,9] },3,some (19,true)⟩,⟨42,.binOp .geq 3 (.tmp 41) (.const (.int .i64 0)) 3,4,some (19,true)⟩,⟨43,.pick (.tmp 29) (.tmp 42) (.const (.bool false)),4,some (16,false)⟩,⟨44,.pick (.tmp 26) (.const (.bool true)) (.tmp 43),4,none⟩]
theorem Jk5  : Jh RPA=LPA.map some:=by kernel_rfl
def APA  : List (List Nat):=[[],[],[0,1],[2],[3],[4],[5],[6],[7],[7],[7,8,9],[7,10],[7,11],[7,12],[7,13],[7,14],[15],[16],[16,17],[16,18],[19],[19],[19,21],[19,20,22],[19,23],[19,24],[19],[19],[19,26,27],[19,28],[19,29],[19,25,30],[19,31],[16,19,32],[16,33]]
def VPA (a off kl kc j m:Nat) (x y:ByteArray) (z:Int) (b:Bool) (v0 v1 v2 v3 v4 v5:Value):List Value:=[.slice (some ⟨a,off,none⟩) kl kc,.int .i64 (j:Int),.pointer (some ⟨a,off+j*7,none⟩),.pointer (some ⟨a,off+j*7,none⟩),.string x,.bool false,.bool true,.bool true,undef,undef,undef,undef,undef,undef,undef,.bool true,.bool true,undef,undef,undef,undef,undef,undef,undef,undef,undef,undef,undef,undef,undef,undef,undef,undef,undef,.bool true]
structure Jb2 (a off kl kc j m:Nat) (x y:ByteArray) (z:Int) (b:Bool) (v0 v1 v2 v3 v4 v5:Value) (c:Act):Prop where
 t0:c.eval (.tmp 0)=.slice (some ⟨a,off,none⟩) kl kc
 t3:c.eval (.tmp 3)=.int .i64 (j:Int)
structure Zw4 (a off kl kc j m:Nat) (x y:ByteArray) (z:Int) (b:Bool) (v0 v1 v2 v3 v4 v5:Value) (w:World):Prop where
 cx:w.cell? ⟨a,off+j*7,none⟩=some (.string x)
 kn:Calls Tryz.prog 43 #[.string x] w fun e w'=>e=.returned (.bool false)/\Below w.heap.size w w'
 lt:j<kl
 le:kl<=9223372036854775807
theorem Jab (a off kl kc j m:Nat) (x y:ByteArray) (z:Int) (b:Bool) (v0 v1 v2 v3 v4 v5:Value) (Q:Exit->Act->World->Prop) (base:Act) (f:World) (g:base.tmps.size=45) (d:Jb2 a off kl kc j m x y z b v0 v1 v2 v3 v4 v5 base)
  (h:∀ w,Below f.heap.size f w->Zw4 a off kl kc j m x y z b v0 v1 v2 v3 v4 v5 w) (l:∀ c w,Zaf RPA base c->Below f.heap.size f w->c.eval (.tmp 44)=.bool true->Q .normal c w):(Code.region 4 RPA true).wp Tryz.prog Q base f:=by
 refine Zn (B:=Jb2 a off kl kc j m x y z b v0 v1 v2 v3 v4 v5) (T:=Zw4 a off kl kc j m x y z b v0 v1 v2 v3 v4 v5) (n:=35) (k:=34) LPA APA (VPA a off kl kc j m x y z b v0 v1 v2 v3 v4 v5) Jk5 rfl (by kernel_rfl) (by kernel_rfl) (by kernel_rfl) (by rw [g];kernel_rfl) (fun c i=>⟨(Zc i (by kernel_rfl)).trans d.t0,(Zc i (by kernel_rfl)).trans d.t3⟩) h ?_ (by decide) rfl rfl l
 clear g d h l
 iterate 35 (refine Zd ?_ (by
  intro c w d h hEq
  obtain ⟨t0,t3⟩:=d
  obtain ⟨cx,kn,lt,le⟩:=h
  have p:=evc c
  have q:=evf c
  dsimp only [APA,LPA,VPA,nth,Zbm,Za2,Jc] at hEq |-
  first
  | exact ⟨by simp only [hEq],.inr ⟨by first | exact .inl rfl | exact .inr rfl,rfl⟩⟩
  | ((try refine ⟨by simp only [hEq],.inl ⟨rfl,?_⟩⟩);first | (refine Zk Tryz.call43 kn ?_;simp only [List.map_toArray,List.map_cons,List.map_nil,hEq];done) | (refine .inl fun pos o=>?_;(clear kn;dsimp only [Sig.oper];generalize c.eval=ρ at *;go_simp;done)))))
 exact Zf
noncomputable def RPB  : Array Oper:=Zy Tryz.f42 4
def LPB  : List Sig:=[⟨10,.move (.tmp 0),45,none⟩,⟨11,.move (.tmp 3),3,none⟩,⟨12,.indexAddr 45 (.tmp 10) (.tmp 11),0,none⟩,⟨13,.fieldAddr 79 (.tmp 12) 0,0,none⟩,⟨14,.load 9 (.tmp 13),9,none⟩,⟨15,.call { callee:=.value (.func 43),args:=#[.tmp 14],argTypes:=#[9] },4,none⟩,⟨16,.unOp .not 4 (.tmp 15),4,none⟩,⟨17,.move (.tmp 16),4,none⟩,⟨18,.move (.tmp 0),45,some (7,false)⟩,⟨19,.move (.tmp 3),3,some (7,false)⟩,⟨20,.indexAddr 45 (.tmp 18) (.tmp 19),0,some (7,false)⟩,⟨21,.fieldAddr 79 (.tmp 20) 1,0,some (7,false)⟩,⟨22,.load 60 (.tmp 21),60,some (7,false)⟩,⟨23,.call { callee:=.value (.func 103),args:=#[.tmp 22],argTypes:=#[60] },4,some (7,false)⟩,⟨24,.unOp .not 4 (.tmp 23),4,some (7,false)⟩,⟨25,.pick (.tmp 17) (.const (.bool true)) (.tmp 24),4,none⟩,⟨26,.move (.tmp 25),4,none⟩,⟨27,.move (.tmp 3),3,some (16,false)⟩,⟨28,.binOp .gtr 3 (.tmp 27) (.const (.int .i64 0)) 3,4,some (16,false)⟩,⟨29,.move (.tmp 28),4,some (16,false)⟩,⟨30,.move (.tmp 0),45,some (19,true)⟩,⟨31,.move (.tmp 3),3,some (19,true)⟩,⟨32,.binOp .sub 3 (.tmp 31) (.const (.int .i64 1)) 3,3,some (19,true)⟩,⟨33,.indexAddr 45 (.tmp 30) (.tmp 32),0,some (19,true)⟩,⟨34,.fieldAddr 79 (.tmp 33) 0,0,some (19,true)⟩,⟨35,.load 9 (.tmp 34),9,some (19,true)⟩,⟨36,.move (.tmp 0),45,some (19,true)⟩,⟨37,.move (.tmp 3),3,some (19,true)⟩,⟨38,.indexAddr 45 (.tmp 36) (.tmp 37),0,some (19,true)⟩,⟨39,.fieldAddr 79 (.tmp 38) 0,0,some (19,true)⟩,⟨40,.load 9 (.tmp 39),9,some (19,true)⟩,⟨41,.call { callee:=.value (.func 102),args:=#[.tmp 35,.tmp 40],argTypes:=#[9,9] },3,some (19,true)⟩,⟨42,.binOp .geq 3 (.tmp 41) (.const (.int .i64 0)) 3,4,some (19,true)⟩,⟨43,.pick (.tmp 29) (.tmp 42) (.const (.bool false)),4,some (16,false)⟩,⟨44,.pick (.tmp 26) (.const (.bool true)) (.tmp 43),4,none⟩]
theorem Jk6  : Jh RPB=LPB.map some:=by kernel_rfl
def APB  : List (List Nat):=[[],[],[0,1],[2],[3],[4],[5],[6],[7],[7],[7,8,9],[7,10],[7,11],[7,12],[7,13],[7,14],[15],[16],[16,17],[16,18],[19],[19],[19,21],[19,20,22],[19,23],[19,24],[19],[19],[19,26,27],[19,28],[19,29],[19,25,30],[19,31],[16,19,32],[16,33]]
def VPB (a off kl kc j m:Nat) (x y:ByteArray) (z:Int) (b:Bool) (v0 v1 v2 v3 v4 v5:Value):List Value:=[.slice (some ⟨a,off,none⟩) kl kc,.int .i64 (j:Int),.pointer (some ⟨a,off+j*7,none⟩),.pointer (some ⟨a,off+j*7,none⟩),.string x,.bool true,.bool false,.bool false,.slice (some ⟨a,off,none⟩) kl kc,.int .i64 (j:Int),.pointer (some ⟨a,off+j*7,none⟩),.pointer (some ⟨a,off+j*7+1,none⟩),.agg #[v0,v1,v2,v3,v4,v5],.bool false,.bool true,.bool true,.bool true,undef,undef,undef,undef,undef,undef,undef,undef,undef,undef,undef,undef,undef,undef,undef,undef,undef,.bool true]
structure Jb3 (a off kl kc j m:Nat) (x y:ByteArray) (z:Int) (b:Bool) (v0 v1 v2 v3 v4 v5:Value) (c:Act):Prop where
 t0:c.eval (.tmp 0)=.slice (some ⟨a,off,none⟩) kl kc
 t3:c.eval (.tmp 3)=.int .i64 (j:Int)
structure Zw5 (a off kl kc j m:Nat) (x y:ByteArray) (z:Int) (b:Bool) (v0 v1 v2 v3 v4 v5:Value) (w:World):Prop where
 cx:w.cell? ⟨a,off+j*7,none⟩=some (.string x)
 kn:Calls Tryz.prog 43 #[.string x] w fun e w'=>e=.returned (.bool true)/\Below w.heap.size w w'
 ks:Calls Tryz.prog 103 #[.agg #[v0,v1,v2,v3,v4,v5]] w fun e w'=>e=.returned (.bool false)/\Below w.heap.size w w'
 c0:w.cell? ⟨a,off+j*7+1,none⟩=some v0
 c1:w.cell? ⟨a,off+j*7+2,none⟩=some v1
 c2:w.cell? ⟨a,off+j*7+3,none⟩=some v2
 c3:w.cell? ⟨a,off+j*7+4,none⟩=some v3
 c4:w.cell? ⟨a,off+j*7+5,none⟩=some v4
 c5:w.cell? ⟨a,off+j*7+6,none⟩=some v5
 lt:j<kl
 le:kl<=9223372036854775807
theorem Jac (a off kl kc j m:Nat) (x y:ByteArray) (z:Int) (b:Bool) (v0 v1 v2 v3 v4 v5:Value) (Q:Exit->Act->World->Prop) (base:Act) (f:World) (g:base.tmps.size=45) (d:Jb3 a off kl kc j m x y z b v0 v1 v2 v3 v4 v5 base)
  (h:∀ w,Below f.heap.size f w->Zw5 a off kl kc j m x y z b v0 v1 v2 v3 v4 v5 w) (l:∀ c w,Zaf RPB base c->Below f.heap.size f w->c.eval (.tmp 44)=.bool true->Q .normal c w):(Code.region 4 RPB true).wp Tryz.prog Q base f:=by
 refine Zn (B:=Jb3 a off kl kc j m x y z b v0 v1 v2 v3 v4 v5) (T:=Zw5 a off kl kc j m x y z b v0 v1 v2 v3 v4 v5) (n:=35) (k:=34) LPB APB (VPB a off kl kc j m x y z b v0 v1 v2 v3 v4 v5) Jk6 rfl (by kernel_rfl) (by kernel_rfl) (by kernel_rfl) (by rw [g];kernel_rfl) (fun c i=>⟨(Zc i (by kernel_rfl)).trans d.t0,(Zc i (by kernel_rfl)).trans d.t3⟩) h ?_ (by decide) rfl rfl l
 clear g d h l
 iterate 35 (refine Zd ?_ (by
  intro c w d h hEq
  obtain ⟨t0,t3⟩:=d
  obtain ⟨cx,kn,ks,c0,c1,c2,c3,c4,c5,lt,le⟩:=h
  have p:=evc c
  have q:=evf c
  dsimp only [APB,LPB,VPB,nth,Zbm,Za2,Jc] at hEq |-
  first
  | exact ⟨by simp only [hEq],.inr ⟨by first | exact .inl rfl | exact .inr rfl,rfl⟩⟩
  | ((try refine ⟨by simp only [hEq],.inl ⟨rfl,?_⟩⟩);first | (refine Zk Tryz.call43 kn ?_;simp only [List.map_toArray,List.map_cons,List.map_nil,hEq];done) | (refine Zk Tryz.call103 ks ?_;simp only [List.map_toArray,List.map_cons,List.map_nil,hEq];done) | (refine .inl fun pos o=>?_;(clear kn ks;dsimp only [Sig.oper];generalize c.eval=ρ at *;go_simp;done)))))
 exact Zf
noncomputable def RPC  : Array Oper:=Zy Tryz.f42 4
def LPC  : List Sig:=[⟨10,.move (.tmp 0),45,none⟩,⟨11,.move (.tmp 3),3,none⟩,⟨12,.indexAddr 45 (.tmp 10) (.tmp 11),0,none⟩,⟨13,.fieldAddr 79 (.tmp 12) 0,0,none⟩,⟨14,.load 9 (.tmp 13),9,none⟩,⟨15,.call { callee:=.value (.func 43),args:=#[.tmp 14],argTypes:=#[9] },4,none⟩,⟨16,.unOp .not 4 (.tmp 15),4,none⟩,⟨17,.move (.tmp 16),4,none⟩,⟨18,.move (.tmp 0),45,some (7,false)⟩,⟨19,.move (.tmp 3),3,some (7,false)⟩,⟨20,.indexAddr 45 (.tmp 18) (.tmp 19),0,some (7,false)⟩,⟨21,.fieldAddr 79 (.tmp 20) 1,0,some (7,false)⟩,⟨22,.load 60 (.tmp 21),60,some (7,false)⟩,⟨23,.call { callee:=.value (.func 103),args:=#[.tmp 22],argTypes:=#[60] },4,some (7,false)⟩,⟨24,.unOp .not 4 (.tmp 23),4,some (7,false)⟩,⟨25,.pick (.tmp 17) (.const (.bool true)) (.tmp 24),4,none⟩,⟨26,.move (.tmp 25),4,none⟩,⟨27,.move (.tmp 3),3,some (16,false)⟩,⟨28,.binOp .gtr 3 (.tmp 27) (.const (.int .i64 0)) 3,4,some (16,false)⟩,⟨29,.move (.tmp 28),4,some (16,false)⟩,⟨30,.move (.tmp 0),45,some (19,true)⟩,⟨31,.move (.tmp 3),3,some (19,true)⟩,⟨32,.binOp .sub 3 (.tmp 31) (.const (.int .i64 1)) 3,3,some (19,true)⟩,⟨33,.indexAddr 45 (.tmp 30) (.tmp 32),0,some (19,true)⟩,⟨34,.fieldAddr 79 (.tmp 33) 0,0,some (19,true)⟩,⟨35,.load 9 (.tmp 34),9,some (19,true)⟩,⟨36,.move (.tmp 0),45,some (19,true)⟩,⟨37,.move (.tmp 3),3,some (19,true)⟩,⟨38,.indexAddr 45 (.tmp 36) (.tmp 37),0,some (19,true)⟩,⟨39,.fieldAddr 79 (.tmp 38) 0,0,some (19,true)⟩,⟨40,.load 9 (.tmp 39),9,some (19,true)⟩,⟨41,.call { callee:=.value (.func 102),args:=#[.tmp 35,.tmp 40],argTypes:=#[9,9] },3,some (19,true)⟩,⟨42,.binOp .geq 3 (.tmp 41) (.const (.int .i64 0)) 3,4,some (19,true)⟩,⟨43,.pick (.tmp 29) (.tmp 42) (.const (.bool false)),4,some (16,false)⟩,⟨44,.pick (.tmp 26) (.const (.bool true)) (.tmp 43),4,none⟩]
theorem Jk7  : Jh RPC=LPC.map some:=by kernel_rfl
def APC  : List (List Nat):=[[],[],[0,1],[2],[3],[4],[5],[6],[7],[7],[7,8,9],[7,10],[7,11],[7,12],[7,13],[7,14],[15],[16],[16,17],[16,18],[19],[19],[19,21],[19,20,22],[19,23],[19,24],[19],[19],[19,26,27],[19,28],[19,29],[19,25,30],[19,31],[16,19,32],[16,33]]
def VPC (a off kl kc j m:Nat) (x y:ByteArray) (z:Int) (b:Bool) (v0 v1 v2 v3 v4 v5:Value):List Value:=[.slice (some ⟨a,off,none⟩) kl kc,.int .i64 (j:Int),.pointer (some ⟨a,off+j*7,none⟩),.pointer (some ⟨a,off+j*7,none⟩),.string x,.bool true,.bool false,.bool false,.slice (some ⟨a,off,none⟩) kl kc,.int .i64 (j:Int),.pointer (some ⟨a,off+j*7,none⟩),.pointer (some ⟨a,off+j*7+1,none⟩),.agg #[v0,v1,v2,v3,v4,v5],.bool true,.bool false,.bool false,.bool false,.int .i64 (j:Int),.bool false,.bool false,undef,undef,undef,undef,undef,undef,undef,undef,undef,undef,undef,undef,undef,.bool false,.bool false]
structure Jb4 (a off kl kc j m:Nat) (x y:ByteArray) (z:Int) (b:Bool) (v0 v1 v2 v3 v4 v5:Value) (c:Act):Prop where
 t0:c.eval (.tmp 0)=.slice (some ⟨a,off,none⟩) kl kc
 t3:c.eval (.tmp 3)=.int .i64 (j:Int)
structure Zw6 (a off kl kc j m:Nat) (x y:ByteArray) (z:Int) (b:Bool) (v0 v1 v2 v3 v4 v5:Value) (w:World):Prop where
 cx:w.cell? ⟨a,off+j*7,none⟩=some (.string x)
 kn:Calls Tryz.prog 43 #[.string x] w fun e w'=>e=.returned (.bool true)/\Below w.heap.size w w'
 ks:Calls Tryz.prog 103 #[.agg #[v0,v1,v2,v3,v4,v5]] w fun e w'=>e=.returned (.bool true)/\Below w.heap.size w w'
 jz:decide ((0:Int)<(j:Int))=false
 c0:w.cell? ⟨a,off+j*7+1,none⟩=some v0
 c1:w.cell? ⟨a,off+j*7+2,none⟩=some v1
 c2:w.cell? ⟨a,off+j*7+3,none⟩=some v2
 c3:w.cell? ⟨a,off+j*7+4,none⟩=some v3
 c4:w.cell? ⟨a,off+j*7+5,none⟩=some v4
 c5:w.cell? ⟨a,off+j*7+6,none⟩=some v5
 lt:j<kl
 le:kl<=9223372036854775807
theorem Jad (a off kl kc j m:Nat) (x y:ByteArray) (z:Int) (b:Bool) (v0 v1 v2 v3 v4 v5:Value) (Q:Exit->Act->World->Prop) (base:Act) (f:World) (g:base.tmps.size=45) (d:Jb4 a off kl kc j m x y z b v0 v1 v2 v3 v4 v5 base)
  (h:∀ w,Below f.heap.size f w->Zw6 a off kl kc j m x y z b v0 v1 v2 v3 v4 v5 w) (l:∀ c w,Zaf RPC base c->Below f.heap.size f w->c.eval (.tmp 44)=.bool false->Q .normal c w):(Code.region 4 RPC true).wp Tryz.prog Q base f:=by
 refine Zn (B:=Jb4 a off kl kc j m x y z b v0 v1 v2 v3 v4 v5) (T:=Zw6 a off kl kc j m x y z b v0 v1 v2 v3 v4 v5) (n:=35) (k:=34) LPC APC (VPC a off kl kc j m x y z b v0 v1 v2 v3 v4 v5) Jk7 rfl (by kernel_rfl) (by kernel_rfl) (by kernel_rfl) (by rw [g];kernel_rfl) (fun c i=>⟨(Zc i (by kernel_rfl)).trans d.t0,(Zc i (by kernel_rfl)).trans d.t3⟩) h ?_ (by decide) rfl rfl l
 clear g d h l
 iterate 35 (refine Zd ?_ (by
  intro c w d h hEq
  obtain ⟨t0,t3⟩:=d
  obtain ⟨cx,kn,ks,jz,c0,c1,c2,c3,c4,c5,lt,le⟩:=h
  have p:=evc c
  have q:=evf c
  dsimp only [APC,LPC,VPC,nth,Zbm,Za2,Jc] at hEq |-
  first
  | exact ⟨by simp only [hEq],.inr ⟨by first | exact .inl rfl | exact .inr rfl,rfl⟩⟩
  | ((try refine ⟨by simp only [hEq],.inl ⟨rfl,?_⟩⟩);first | (refine Zk Tryz.call43 kn ?_;simp only [List.map_toArray,List.map_cons,List.map_nil,hEq];done) | (refine Zk Tryz.call103 ks ?_;simp only [List.map_toArray,List.map_cons,List.map_nil,hEq];done) | (refine .inl fun pos o=>?_;(clear kn ks;dsimp only [Sig.oper];generalize c.eval=ρ at *;go_simp;done)) | (refine .inl fun pos o=>?_;clear kn ks;dsimp only [Sig.oper];generalize c.eval=ρ at *;go_simp;simp at jz;omega))))
 exact Zf
noncomputable def RPD  : Array Oper:=Zy Tryz.f42 4
def LPD  : List Sig:=[⟨10,.move (.tmp 0),45,none⟩,⟨11,.move (.tmp 3),3,none⟩,⟨12,.indexAddr 45 (.tmp 10) (.tmp 11),0,none⟩,⟨13,.fieldAddr 79 (.tmp 12) 0,0,none⟩,⟨14,.load 9 (.tmp 13),9,none⟩,⟨15,.call { callee:=.value (.func 43),args:=#[.tmp 14],argTypes:=#[9] },4,none⟩,⟨16,.unOp .not 4 (.tmp 15),4,none⟩,⟨17,.move (.tmp 16),4,none⟩,⟨18,.move (.tmp 0),45,some (7,false)⟩,⟨19,.move (.tmp 3),3,some (7,false)⟩,⟨20,.indexAddr 45 (.tmp 18) (.tmp 19),0,some (7,false)⟩,⟨21,.fieldAddr 79 (.tmp 20) 1,0,some (7,false)⟩,⟨22,.load 60 (.tmp 21),60,some (7,false)⟩,⟨23,.call { callee:=.value (.func 103),args:=#[.tmp 22],argTypes:=#[60] },4,some (7,false)⟩,⟨24,.unOp .not 4 (.tmp 23),4,some (7,false)⟩,⟨25,.pick (.tmp 17) (.const (.bool true)) (.tmp 24),4,none⟩,⟨26,.move (.tmp 25),4,none⟩,⟨27,.move (.tmp 3),3,some (16,false)⟩,⟨28,.binOp .gtr 3 (.tmp 27) (.const (.int .i64 0)) 3,4,some (16,false)⟩,⟨29,.move (.tmp 28),4,some (16,false)⟩,⟨30,.move (.tmp 0),45,some (19,true)⟩,⟨31,.move (.tmp 3),3,some (19,true)⟩,⟨32,.binOp .sub 3 (.tmp 31) (.const (.int .i64 1)) 3,3,some (19,true)⟩,⟨33,.indexAddr 45 (.tmp 30) (.tmp 32),0,some (19,true)⟩,⟨34,.fieldAddr 79 (.tmp 33) 0,0,some (19,true)⟩,⟨35,.load 9 (.tmp 34),9,some (19,true)⟩,⟨36,.move (.tmp 0),45,some (19,true)⟩,⟨37,.move (.tmp 3),3,some (19,true)⟩,⟨38,.indexAddr 45 (.tmp 36) (.tmp 37),0,some (19,true)⟩,⟨39,.fieldAddr 79 (.tmp 38) 0,0,some (19,true)⟩,⟨40,.load 9 (.tmp 39),9,some (19,true)⟩,⟨41,.call { callee:=.value (.func 102),args:=#[.tmp 35,.tmp 40],argTypes:=#[9,9] },3,some (19,true)⟩,⟨42,.binOp .geq 3 (.tmp 41) (.const (.int .i64 0)) 3,4,some (19,true)⟩,⟨43,.pick (.tmp 29) (.tmp 42) (.const (.bool false)),4,some (16,false)⟩,⟨44,.pick (.tmp 26) (.const (.bool true)) (.tmp 43),4,none⟩]
theorem Jk8  : Jh RPD=LPD.map some:=by kernel_rfl
def APD  : List (List Nat):=[[],[],[0,1],[2],[3],[4],[5],[6],[7],[7],[7,8,9],[7,10],[7,11],[7,12],[7,13],[7,14],[15],[16],[16,17],[16,18],[19],[19],[19,21],[19,20,22],[19,23],[19,24],[19],[19],[19,26,27],[19,28],[19,29],[19,25,30],[19,31],[16,19,32],[16,33]]
def VPD (a off kl kc j m:Nat) (x y:ByteArray) (z:Int) (b:Bool) (v0 v1 v2 v3 v4 v5:Value):List Value:=[.slice (some ⟨a,off,none⟩) kl kc,.int .i64 (j:Int),.pointer (some ⟨a,off+j*7,none⟩),.pointer (some ⟨a,off+j*7,none⟩),.string x,.bool true,.bool false,.bool false,.slice (some ⟨a,off,none⟩) kl kc,.int .i64 (j:Int),.pointer (some ⟨a,off+j*7,none⟩),.pointer (some ⟨a,off+j*7+1,none⟩),.agg #[v0,v1,v2,v3,v4,v5],.bool true,.bool false,.bool false,.bool false,.int .i64 (j:Int),.bool true,.bool true,.slice (some ⟨a,off,none⟩) kl kc,.int .i64 (j:Int),.int .i64 (m:Int),.pointer (some ⟨a,off+m*7,none⟩),.pointer (some ⟨a,off+m*7,none⟩),.string y,.slice (some ⟨a,off,none⟩) kl kc,.int .i64 (j:Int),.pointer (some ⟨a,off+j*7,none⟩),.pointer (some ⟨a,off+j*7,none⟩),.string x,.int .i64 z,.bool b,.bool b,.bool b]
structure Jb5 (a off kl kc j m:Nat) (x y:ByteArray) (z:Int) (b:Bool) (v0 v1 v2 v3 v4 v5:Value) (c:Act):Prop where
 t0:c.eval (.tmp 0)=.slice (some ⟨a,off,none⟩) kl kc
 t3:c.eval (.tmp 3)=.int .i64 (j:Int)
structure Zw7 (a off kl kc j m:Nat) (x y:ByteArray) (z:Int) (b:Bool) (v0 v1 v2 v3 v4 v5:Value) (w:World):Prop where
 cx:w.cell? ⟨a,off+j*7,none⟩=some (.string x)
 cy:w.cell? ⟨a,off+m*7,none⟩=some (.string y)
 kn:Calls Tryz.prog 43 #[.string x] w fun e w'=>e=.returned (.bool true)/\Below w.heap.size w w'
 ks:Calls Tryz.prog 103 #[.agg #[v0,v1,v2,v3,v4,v5]] w fun e w'=>e=.returned (.bool true)/\Below w.heap.size w w'
 kt:Calls Tryz.prog 102 #[.string y,.string x] w fun e w'=>e=.returned (.int .i64 z)/\Below w.heap.size w w'
 jp:decide ((0:Int)<(j:Int))=true
 kj:(j:Int) - 1=(m:Int)
 kw:IntKind.i64.wrap (m:Int)=(m:Int)
 mlt:m<kl
 zb:decide (z>=0)=b
 c0:w.cell? ⟨a,off+j*7+1,none⟩=some v0
 c1:w.cell? ⟨a,off+j*7+2,none⟩=some v1
 c2:w.cell? ⟨a,off+j*7+3,none⟩=some v2
 c3:w.cell? ⟨a,off+j*7+4,none⟩=some v3
 c4:w.cell? ⟨a,off+j*7+5,none⟩=some v4
 c5:w.cell? ⟨a,off+j*7+6,none⟩=some v5
 lt:j<kl
 le:kl<=9223372036854775807
theorem Jae (a off kl kc j m:Nat) (x y:ByteArray) (z:Int) (b:Bool) (v0 v1 v2 v3 v4 v5:Value) (Q:Exit->Act->World->Prop) (base:Act) (f:World) (g:base.tmps.size=45) (d:Jb5 a off kl kc j m x y z b v0 v1 v2 v3 v4 v5 base)
  (h:∀ w,Below f.heap.size f w->Zw7 a off kl kc j m x y z b v0 v1 v2 v3 v4 v5 w) (l:∀ c w,Zaf RPD base c->Below f.heap.size f w->c.eval (.tmp 44)=.bool b->Q .normal c w):(Code.region 4 RPD true).wp Tryz.prog Q base f:=by
 refine Zn (B:=Jb5 a off kl kc j m x y z b v0 v1 v2 v3 v4 v5) (T:=Zw7 a off kl kc j m x y z b v0 v1 v2 v3 v4 v5) (n:=35) (k:=34) LPD APD (VPD a off kl kc j m x y z b v0 v1 v2 v3 v4 v5) Jk8 rfl (by kernel_rfl) (by kernel_rfl) (by kernel_rfl) (by rw [g];kernel_rfl) (fun c i=>⟨(Zc i (by kernel_rfl)).trans d.t0,(Zc i (by kernel_rfl)).trans d.t3⟩) h ?_ (by decide) rfl rfl l
 clear g d h l
 iterate 35 (refine Zd ?_ (by
  intro c w d h hEq
  obtain ⟨t0,t3⟩:=d
  obtain ⟨cx,cy,kn,ks,kt,jp,kj,kw,mlt,zb,c0,c1,c2,c3,c4,c5,lt,le⟩:=h
  have p:=evc c
  have q:=evf c
  dsimp only [APD,LPD,VPD,nth,Zbm,Za2,Jc] at hEq |-
  first
  | exact ⟨by simp only [hEq],.inr ⟨by first | exact .inl rfl | exact .inr rfl,rfl⟩⟩
  | ((try refine ⟨by simp only [hEq],.inl ⟨rfl,?_⟩⟩);first | (refine Zk Tryz.call43 kn ?_;simp only [List.map_toArray,List.map_cons,List.map_nil,hEq];done) | (refine Zk Tryz.call103 ks ?_;simp only [List.map_toArray,List.map_cons,List.map_nil,hEq];done) | (refine Zk Tryz.call102 kt ?_;simp only [List.map_toArray,List.map_cons,List.map_nil,hEq];done) | (refine .inl fun pos o=>?_;(clear kn ks kt;dsimp only [Sig.oper];generalize c.eval=ρ at *;go_simp;done)) | (refine .inl fun pos o=>?_;clear kn ks kt;dsimp only [Sig.oper];generalize c.eval=ρ at *;go_simp;simp at jp;omega))))
 exact Zf
end
section
open Go.RowKit Go.Shelf
attribute [local go_sem] Oper.semAt_some
def Zbj  : Option ByteArray->List (ByteArray × Zi)->Bool
 | _,[]=>true
 | p,q::r=>Ju q.1.data.toList&&Zcy q.2&&(match p with | none=>true | some y=>decide (Lib.compareBytes y.data.toList q.1.data.toList<0))&&Zbj (some q.1) r
def Zic (ps:List (ByteArray × Zi)):Nat->Option ByteArray
 | 0=>none
 | j+1=>(ps[j]?).map Prod.fst
theorem Zf0 {ps:List (ByteArray × Zi)} {j:Nat} {q:ByteArray × Zi} (h:ps[j]?=some q):Zbj (Zic ps j) (ps.drop j)=(Ju q.1.data.toList&&Zcy q.2&&(match Zic ps j with | none=>true | some y=>decide (Lib.compareBytes y.data.toList q.1.data.toList<0))&&Zbj (Zic ps (j+1)) (ps.drop (j+1))):=by
 obtain ⟨hj,G⟩:=List.getElem?_eq_some_iff.1 h
 have e:Zic ps (j+1)=some q.1:=by show (ps[j]?).map Prod.fst=_;rw [h];rfl
 rw [List.drop_eq_getElem_cons hj,G,e]
 cases Zic ps j<;>rfl
def Zo6 (q:ByteArray × Zi):Prop:=q.1.size<=140737488355328/\Zln q.2/\q.2.total<=2000000
set_option maxRecDepth 100000 in
set_option maxHeartbeats 4000000 in
theorem Zj9 (v:Value) (ps:List (ByteArray × Zi)) (B:Nat) (w:World) (hB:B<=w.heap.size) (hp:Jd B w v ps) (hs:∀ q ∈ ps,Zo6 q) :
  Calls Tryz.prog 42 #[v] w fun e w'=>e=.returned (.bool (Zbj none ps))/\Below w.heap.size w w':=by
 have HS:=Zb hs
 obtain ⟨pa,pc,rfl,h1,h2,P⟩:=hp
 have HP:=Zb P
 obtain ⟨n,hn⟩:∃ n,ps.length=n:=⟨_,rfl⟩
 have HN:=Zb hn
 rw [hn] at h1 |-
 obtain ⟨res,u⟩:∃ r,Zbj none ps=r:=⟨_,rfl⟩
 have HR:=Zb u
 rw [u]
 clear P hs hn u
 go_enter Tryz.func42,Tryz.ntmps42
 go_wp2_with fail
 go_loopw [3] (fun i wr=>∃ j:Nat,j<=n/\i=.int .i64 j/\Below w.heap.size w wr/\Zbj (Zic ps j) (ps.drop j)=res) (fun i _=>n - (intOf i).toNat)
 case atStart=>exact ⟨0,Nat.zero_le _,rfl,Below.refl _ _,HR.out⟩
 case round =>
  obtain ⟨j,hj,rfl,O,Q⟩:=hrel
  have o:=Zb O
  have C:=Zb Q
  clear O Q
  have a8:w.heap.size<=wr.heap.size:=o.out.size
  by_cases hlt:j<n
  ·have Y:(j:Int)<n:=by omega
   obtain ⟨⟨x,T⟩,G⟩:∃ q,ps[j]?=some q:=⟨_,List.getElem?_eq_getElem (by have:=HN.out;omega)⟩
   have HX:=Zb G
   obtain ⟨f,off,rfl,a5,hc⟩:=HP.out.resolve_left (by intro e;rw [e] at G;simp at G)
   have a:f<wr.heap.size:=by omega
   have L:∀ i q,ps[i]?=some q->Zda B wr f (off+i*7) q:=fun i q hq=>(hc i q hq).below (o.out.mono hB) a5
   have a1:=Zb L
   obtain ⟨cx,S,v0,v1,v2,v3,v4,v5,⟨c0,c1,c2,c3,c4,c5⟩,hv⟩:=L j _ G
   have E:=HS.out _ (List.mem_of_getElem? G)
   have a0:x.size<=140737488355328:=E.1
   simp only at cx S hv
   have t:=Zb (fun W=>Zjs x W a0)
   have D:=Zb (fun W (M:Below wr.heap.size wr W)=>Zl8 T B _ W (by have:=M.size;omega) (hv.below (M.mono (by omega))) E.2.1 E.2.2)
   clear hc G L S hv E
   obtain ⟨st,I⟩:∃ s,Zcy T=s:=⟨_,rfl⟩
   rw [I] at D
   have H:=Zb I
   clear I
   cases hnx:Ju x.data.toList with
   | false =>
    rw [hnx] at t
    have K:Hid (res=false):=by
     show _=_
     rw [<- C.out,Zf0 HX.out,hnx];rfl
    clear hnx
    go_upto_region 4 with fail
    show (Code.region 4 RPA true).wp _ _ _ _
    refine Jab f off n pc j 0 x ⟨#[]⟩ 0 false v0 v1 v2 v3 v4 v5 _ _ _ rfl ⟨rfl,rfl⟩ ?_ ?_
    ·intro W d
     exact ⟨(d.cell (p:=⟨f,off+j*7,none⟩) a).trans cx,(t.out W).mono fun e w' ⟨h1,h2⟩=>⟨h1,h2▸Below.refl _ _⟩,by omega,by omega⟩
    intro c W2 A g k
    rw [Zj A [10,11,12,13,14,15,16,17,18,19,20,21,22,23,24,25,26,27,28,29,30,31,32,33,34,35,36,37,38,39,40,41,42,43,44] (by kernel_rfl)]
    simp only [List.foldl_cons,List.foldl_nil,List.setIfInBounds_toArray,List.set_cons_succ,List.set_cons_zero,show Zbd c 44=_ from k]
    clear k A
    have l:=Zb (Za o.out g)
    clear g
    go_wp2_with fail
    go_ret
    exact ⟨by rw [K.out];rfl,l.out⟩
   | true =>
    rw [hnx] at t
    cases st with
    | false =>
     have K:Hid (res=false):=by
      show _=_
      rw [<- C.out,Zf0 HX.out,hnx,H.out];rfl
     clear hnx
     go_upto_region 4 with fail
     show (Code.region 4 RPB true).wp _ _ _ _
     refine Jac f off n pc j 0 x ⟨#[]⟩ 0 false v0 v1 v2 v3 v4 v5 _ _ _ rfl ⟨rfl,rfl⟩ ?_ ?_
     ·intro W d
      exact ⟨(d.cell (p:=⟨f,off+j*7,none⟩) a).trans cx,(t.out W).mono fun e w' ⟨h1,h2⟩=>⟨h1,h2▸Below.refl _ _⟩,D.out W d,(d.cell (p:=⟨f,off+j*7+1,none⟩) a).trans c0,(d.cell (p:=⟨f,off+j*7+2,none⟩) a).trans c1,(d.cell (p:=⟨f,off+j*7+3,none⟩) a).trans c2,(d.cell (p:=⟨f,off+j*7+4,none⟩) a).trans c3,(d.cell (p:=⟨f,off+j*7+5,none⟩) a).trans c4,(d.cell (p:=⟨f,off+j*7+6,none⟩) a).trans c5,by omega,by omega⟩
     intro c W2 A g k
     rw [Zj A [10,11,12,13,14,15,16,17,18,19,20,21,22,23,24,25,26,27,28,29,30,31,32,33,34,35,36,37,38,39,40,41,42,43,44] (by kernel_rfl)]
     simp only [List.foldl_cons,List.foldl_nil,List.setIfInBounds_toArray,List.set_cons_succ,List.set_cons_zero,show Zbd c 44=_ from k]
     clear k A
     have l:=Zb (Za o.out g)
     clear g
     go_wp2_with fail
     go_ret
     exact ⟨by rw [K.out];rfl,l.out⟩
    | true =>
     by_cases hj0:j=0
     ·have a3:decide ((0:Int)<(j:Int))=false:=by simp;omega
      have F:Hid (Zbj (Zic ps (j+1)) (ps.drop (j+1))=res):=by
       show _=_
       rw [<- C.out,Zf0 HX.out,hnx,H.out,hj0];rfl
      have HJ:=Zb hj0
      clear hnx hj0
      go_upto_region 4 with fail
      show (Code.region 4 RPC true).wp _ _ _ _
      refine Jad f off n pc j 0 x ⟨#[]⟩ 0 false v0 v1 v2 v3 v4 v5 _ _ _ rfl ⟨rfl,rfl⟩ ?_ ?_
      ·intro W d
       exact ⟨(d.cell (p:=⟨f,off+j*7,none⟩) a).trans cx,(t.out W).mono fun e w' ⟨h1,h2⟩=>⟨h1,h2▸Below.refl _ _⟩,D.out W d,a3,(d.cell (p:=⟨f,off+j*7+1,none⟩) a).trans c0,(d.cell (p:=⟨f,off+j*7+2,none⟩) a).trans c1,(d.cell (p:=⟨f,off+j*7+3,none⟩) a).trans c2,(d.cell (p:=⟨f,off+j*7+4,none⟩) a).trans c3,(d.cell (p:=⟨f,off+j*7+5,none⟩) a).trans c4,(d.cell (p:=⟨f,off+j*7+6,none⟩) a).trans c5,by omega,by omega⟩
      intro c W2 A g k
      rw [Zj A [10,11,12,13,14,15,16,17,18,19,20,21,22,23,24,25,26,27,28,29,30,31,32,33,34,35,36,37,38,39,40,41,42,43,44] (by kernel_rfl)]
      simp only [List.foldl_cons,List.foldl_nil,List.setIfInBounds_toArray,List.set_cons_succ,List.set_cons_zero,show Zbd c 44=_ from k]
      clear k A
      have l:=Zb (Za o.out g)
      clear g
      go_wp2_with fail
      go_roundw
      case rel=>exact ⟨j+1,by omega,by go_num,l.out,F.out⟩
      case measure=>simp [intOf];omega
     ·obtain ⟨m,hm⟩:∃ m,j=m+1:=⟨j - 1,by omega⟩
      obtain ⟨⟨y,U⟩,hy⟩:∃ y,ps[m]?=some y:=⟨_,List.getElem?_eq_getElem (by have:=HN.out;omega)⟩
      have cy:=(a1.out m _ hy).1
      simp only at cy
      have a9:y.size<=140737488355328:=(HS.out _ (List.mem_of_getElem? hy)).1
      have R:decide ((0:Int)<(j:Int))=true:=by simp;omega
      have N:(j:Int) - 1=(m:Int):=by omega
      have V:IntKind.i64.wrap (m:Int)=(m:Int):=by rw [IntKind.wrap_i64];omega
      have a4:m<n:=by omega
      have X:=Zb (fun W=>Zn4 y x W (by omega) (by omega))
      obtain ⟨z,hz⟩:∃ z,Lib.compareBytes y.data.toList x.data.toList=z:=⟨_,rfl⟩
      rw [hz] at X
      obtain ⟨b,M⟩:∃ b,decide (z>=0)=b:=⟨_,rfl⟩
      have F:Hid ((!b&&Zbj (Zic ps (j+1)) (ps.drop (j+1)))=res):=by
       show _=_
       rw [<- C.out,Zf0 HX.out,hnx,H.out]
       have e:Zic ps j=some y:=by rw [hm];show (ps[m]?).map Prod.fst=_;rw [hy];rfl
       rw [e]
       simp only [Bool.true_and]
       have e2:decide (Lib.compareBytes y.data.toList x.data.toList<0)=!b:=by
        rw [hz,<- M]
        by_cases h:z<0
        ·simp [h]
         try omega
        ·simp [h]
         try omega
       rw [e2]
      have a2:=Zb N
      have a6:=Zb V
      clear hnx hj0 hy hz N V hm
      go_upto_region 4 with fail
      show (Code.region 4 RPD true).wp _ _ _ _
      refine Jae f off n pc j m x y z b v0 v1 v2 v3 v4 v5 _ _ _ rfl ⟨rfl,rfl⟩ ?_ ?_
      ·intro W d
       exact ⟨(d.cell (p:=⟨f,off+j*7,none⟩) a).trans cx,(d.cell (p:=⟨f,off+m*7,none⟩) a).trans cy,(t.out W).mono fun e w' ⟨h1,h2⟩=>⟨h1,h2▸Below.refl _ _⟩,D.out W d,(X.out W).mono fun e w' ⟨h1,q,h2⟩=>⟨h1,h2▸⟨rfl,rfl,rfl,Nat.le_refl _,fun _ _=>rfl⟩⟩,R,a2.out,a6.out,a4,M,(d.cell (p:=⟨f,off+j*7+1,none⟩) a).trans c0,(d.cell (p:=⟨f,off+j*7+2,none⟩) a).trans c1,(d.cell (p:=⟨f,off+j*7+3,none⟩) a).trans c2,(d.cell (p:=⟨f,off+j*7+4,none⟩) a).trans c3,(d.cell (p:=⟨f,off+j*7+5,none⟩) a).trans c4,(d.cell (p:=⟨f,off+j*7+6,none⟩) a).trans c5,by omega,by omega⟩
      intro c W2 A g k
      rw [Zj A [10,11,12,13,14,15,16,17,18,19,20,21,22,23,24,25,26,27,28,29,30,31,32,33,34,35,36,37,38,39,40,41,42,43,44] (by kernel_rfl)]
      simp only [List.foldl_cons,List.foldl_nil,List.setIfInBounds_toArray,List.set_cons_succ,List.set_cons_zero,show Zbd c 44=_ from k]
      clear k A
      have l:=Zb (Za o.out g)
      clear g R M
      cases b with
      | true =>
       have K:Hid (res=false):=F.out.symm
       go_wp2_with fail
       go_ret
       exact ⟨by rw [K.out];rfl,l.out⟩
      | false =>
       have a7:Hid (Zbj (Zic ps (j+1)) (ps.drop (j+1))=res):=F.out
       go_wp2_with fail
       go_roundw
       case rel=>exact ⟨j+1,by omega,by go_num,l.out,a7.out⟩
       case measure=>simp [intOf];omega
  ·have K:Hid (res=true):=by
    show _=_
    rw [<- C.out,List.drop_of_length_le (by have:=HN.out;omega)]
    cases Zic ps j<;>rfl
   have Y:¬ (j:Int)<n:=by omega
   go_wp2_with fail
   go_ret
   exact ⟨by rw [K.out];rfl,o.out⟩
end
section
open Go.RowKit Go.Shelf
attribute [local go_sem] Oper.semAt_some
def leqB (x s:ByteArray):Bool:=Op.bytesLess x.toList s.toList||x.toList==s.toList
def nrB (l:ByteArray):List ByteArray->Bool
 | []=>true
 | x::r=>Ju x.data.toList&&(!leqB x l&&nrB x r)
theorem Jbu {ks:List ByteArray} {j:Nat} {x l:ByteArray} (h:ks[j]?=some x):nrB l (ks.drop j)=(Ju x.data.toList&&(!leqB x l&&nrB x (ks.drop (j+1)))):=by
 obtain ⟨hj,g⟩:=List.getElem?_eq_some_iff.1 h
 rw [List.drop_eq_getElem_cons hj,g,nrB]
theorem Zzd (x:ByteArray) (w:World):Calls Tryz.prog 145 #[.string x] w fun e w'=>e=.returned (.string x)/\w'=w:=by
 go_enter Tryz.func145,Tryz.ntmps145
 go_wp2_with fail
 go_ret
 exact ⟨rfl,rfl⟩
theorem Jck (x:ByteArray) (v0 v1 v2 v3 v4 v5:Value) (w:World):Calls Tryz.prog 182 #[.agg #[.string x,v0,v1,v2,v3,v4,v5]] w fun e w'=>e=.returned (.string x)/\Below w.heap.size w w':=by
 go_enter Tryz.func182,Tryz.ntmps182
 go_upto_region 1 with fail
 generalize K:World.alloc _ _=W1
 have hr:=Zl w #[.string x,v0,v1,v2,v3,v4,v5] 79
 rw [K] at hr
 have a1:Hid (Below w.heap.size w W1):=by rw [<- K];exact (Below.refl _ _).alloc (Nat.le_refl _) _
 have q0:=hr.cell 0 rfl
 clear K hr
 go_wp2_with fail
 go_ret
 exact ⟨rfl,a1.out⟩
theorem Zu1 (ks:List ByteArray) (B:Nat) (ka:Option Addr) (kc:Nat) (w:World) (hB:B<=w.heap.size) (Y:Env w) (Q:Zab B w ka ks) (h1:ks.length<=kc) (h2:kc<=9223372036854775807) (M:∀ x ∈ ks,x.size<=140737488355328) :
  Calls Tryz.prog 144 #[.slice ka ks.length kc,.func (.func 145) #[] #[]] w fun e w'=>e=.returned (.bool (nrB ⟨#[]⟩ ks))/\Below w.heap.size w w':=by
 have HK:=Zb Q
 have HS:=Zb M
 have O:=Zb Y
 obtain ⟨n,I⟩:∃ n,ks.length=n:=⟨_,rfl⟩
 have L:=Zb I
 rw [I] at h1 |-
 obtain ⟨res,a⟩:∃ r,nrB ⟨#[]⟩ ks=r:=⟨_,rfl⟩
 have HR:=Zb a
 rw [a]
 clear Q M I a Y
 go_enter Tryz.func144,Tryz.ntmps144
 go_wp2_with fail
 go_loopw [11,5] (fun i l wr=>∃ (j:Nat) (s:ByteArray),j<=n/\i=.int .i64 j/\l=.string s/\Below w.heap.size w wr/\nrB s (ks.drop j)=res) (fun i _ _=>n - (intOf i).toNat)
 case atStart=>exact ⟨0,_,Nat.zero_le _,rfl,rfl,Below.refl _ _,HR.out⟩
 case round =>
  obtain ⟨j,s,hj,rfl,rfl,f,v⟩:=hrel
  have d:=Zb f
  have z:=Zb v
  have a3:w.heap.size<=wr.heap.size:=f.size
  clear f v
  by_cases hlt:j<n
  ·have A:(j:Int)<n:=by omega
   obtain ⟨x,g⟩:∃ x,ks[j]?=some x:=⟨_,List.getElem?_eq_getElem (by have:=L.out;omega)⟩
   have HX:=Zb g
   obtain ⟨D,off,rfl,W,P⟩:=HK.out.resolve_left (by intro e;rw [e] at g;simp at g)
   have cx:wr.cell? ⟨D,off+j,none⟩=some (.string x):=by
    have:=(P j (by have:=L.out;omega)).1
    rw [List.getD_eq_getElem?_getD,g] at this
    exact (d.out.cell (p:=⟨D,off+j,none⟩) (by show D<w.heap.size;omega)).trans this
   have E:x.size<=140737488355328:=HS.out x (List.mem_of_getElem? g)
   have u:=Zb (Zev x E wr (O.out.below d.out O.out.room))
   have C:=d
   clear P g
   obtain ⟨nb,o⟩:∃ b,Ju x.data.toList=b:=⟨_,rfl⟩
   rw [o] at u
   obtain ⟨lb,G⟩:∃ b,(Op.bytesLess x.toList s.toList||x.toList==s.toList)=b:=⟨_,rfl⟩
   have k:Hid (res=(nb&&(!lb&&nrB x (ks.drop (j+1))))):=by
    show _=_
    rw [<- z.out,Jbu HX.out,o]
    unfold leqB
    rw [G]
   clear o
   go_wp2_with fail
   refine (Zzd x _).mono ?_
   rintro e w2 ⟨rfl,rfl⟩
   go_wp2_with fail
   refine u.out.mono ?_
   rintro e w3 ⟨rfl,y⟩
   have m:=Zb (Za C.out y)
   clear y
   cases nb with
   | false =>
    have t:Hid (res=false):=k.out
    go_wp2_with fail
    go_ret
    exact ⟨by rw [t.out];rfl,m.out⟩
   | true =>
    cases lb with
    | true =>
     have t:Hid (res=false):=k.out
     go_wp2_with fail
     go_ret
     exact ⟨by rw [t.out];rfl,m.out⟩
    | false =>
     have H:Hid (nrB x (ks.drop (j+1))=res):=k.out.symm
     go_wp2_with fail
     go_roundw
     case rel=>exact ⟨j+1,x,by omega,by go_num,rfl,m.out,H.out⟩
     case measure=>simp [intOf];omega
  ·have t:Hid (res=true):=by
    show _=_
    rw [<- z.out,List.drop_of_length_le (by have:=L.out;simp;omega)];rfl
   have A:¬ (j:Int)<n:=by omega
   go_wp2_with fail
   go_ret
   exact ⟨by rw [t.out];rfl,d.out⟩
theorem Zze (ks:List (ByteArray × Zi)) (B:Nat) (ka:Option Addr) (kc:Nat) (w:World) (hB:B<=w.heap.size) (Y:Env w) (Q:ks=[]\/∃ D off,ka=some ⟨D,off,none⟩/\D<B/\∀ i q,ks[i]?=some q->Zda B w D (off+i*7) q) (h1:ks.length<=kc) (h2:kc<=9223372036854775807) (M:∀ q ∈ ks,q.1.size<=140737488355328) :
  Calls Tryz.prog 181 #[.slice ka ks.length kc,.func (.func 182) #[] #[]] w fun e w'=>e=.returned (.bool (nrB ⟨#[]⟩ (ks.map Prod.fst)))/\Below w.heap.size w w':=by
 have HK:=Zb Q
 have HS:=Zb M
 have O:=Zb Y
 obtain ⟨n,I⟩:∃ n,ks.length=n:=⟨_,rfl⟩
 have L:=Zb I
 rw [I] at h1 |-
 obtain ⟨res,a⟩:∃ r,nrB ⟨#[]⟩ (ks.map Prod.fst)=r:=⟨_,rfl⟩
 have HR:=Zb a
 rw [a]
 clear Q M I a Y
 go_enter Tryz.func181,Tryz.ntmps181
 go_wp2_with fail
 go_loopw [11,5] (fun i l wr=>∃ (j:Nat) (s:ByteArray),j<=n/\i=.int .i64 j/\l=.string s/\Below w.heap.size w wr/\nrB s ((ks.map Prod.fst).drop j)=res) (fun i _ _=>n - (intOf i).toNat)
 case atStart=>exact ⟨0,_,Nat.zero_le _,rfl,rfl,Below.refl _ _,HR.out⟩
 case round =>
  obtain ⟨j,s,hj,rfl,rfl,f,v⟩:=hrel
  have d:=Zb f
  have z:=Zb v
  have a3:w.heap.size<=wr.heap.size:=f.size
  clear f v
  by_cases hlt:j<n
  ·have A:(j:Int)<n:=by omega
   obtain ⟨⟨x,⟨tk,tb,tn,ts,R,N⟩⟩,g⟩:∃ x,ks[j]?=some x:=⟨_,List.getElem?_eq_getElem (by have:=L.out;omega)⟩
   have HX:Hid ((ks.map Prod.fst)[j]?=some x):=by
    show _=_
    rw [List.getElem?_map,g];rfl
   obtain ⟨D,off,rfl,W,P⟩:=HK.out.resolve_left (by intro e;rw [e] at g;simp at g)
   obtain ⟨cx,_,v0,v1,v2,v3,v4,v5,⟨c0,c1,c2,c3,c4,c5⟩,hv⟩:=(P j _ g).below (d.out.mono hB) W
   have E:x.size<=140737488355328:=HS.out _ (List.mem_of_getElem? g)
   simp only at cx hv
   simp only [Zaw] at hv
   obtain ⟨a0,U,X,T,V,_⟩:=hv
   obtain ⟨rfl,rfl,rfl,rfl,rfl,rfl⟩:v0=.int .i64 tk/\v1=.bool tb/\v2=.int .i64 tn/\v3=.string ts/\v4=.slice a0 R.length U/\v5=.slice X N.length T:=by
    simpa using V
   clear P g V
   go_upto_region 5 with fail
   generalize F:World.alloc _ _=W2
   have c:=Zl wr #[.string x,.int .i64 tk,.bool tb,.int .i64 tn,.string ts,.slice a0 R.length U,.slice X N.length T] 79
   rw [F] at c
   have a2:Hid (Below wr.heap.size wr W2):=by rw [<- F];exact (Below.refl _ _).alloc (Nat.le_refl _) _
   have k0:=c.cell 0 rfl
   have k1:=c.cell 1 rfl
   have k2:=c.cell 2 rfl
   have k3:=c.cell 3 rfl
   have k4:=c.cell 4 rfl
   have k5:=c.cell 5 rfl
   have k6:=c.cell 6 rfl
   clear F c cx c0 c1 c2 c3 c4 c5
   go_wp2_with fail
   refine (Jck x _ _ _ _ _ _ _).mono ?_
   rintro e w2 ⟨rfl,S⟩
   have C:=Zb (Za d.out (Za a2.out S))
   clear S k0 k1 k2 k3 k4 k5 k6
   have u:=Zb (Zev x E w2 (O.out.below C.out O.out.room))
   obtain ⟨nb,o⟩:∃ b,Ju x.data.toList=b:=⟨_,rfl⟩
   rw [o] at u
   obtain ⟨lb,G⟩:∃ b,(Op.bytesLess x.toList s.toList||x.toList==s.toList)=b:=⟨_,rfl⟩
   have k:Hid (res=(nb&&(!lb&&nrB x ((ks.map Prod.fst).drop (j+1))))):=by
    show _=_
    rw [<- z.out,Jbu HX.out,o]
    unfold leqB
    rw [G]
   clear o
   go_wp2_with fail
   refine u.out.mono ?_
   rintro e w3 ⟨rfl,y⟩
   have m:=Zb (Za C.out y)
   clear y
   cases nb with
   | false =>
    have t:Hid (res=false):=k.out
    go_wp2_with fail
    go_ret
    exact ⟨by rw [t.out];rfl,m.out⟩
   | true =>
    cases lb with
    | true =>
     have t:Hid (res=false):=k.out
     go_wp2_with fail
     go_ret
     exact ⟨by rw [t.out];rfl,m.out⟩
    | false =>
     have H:Hid (nrB x ((ks.map Prod.fst).drop (j+1))=res):=k.out.symm
     go_wp2_with fail
     go_roundw
     case rel=>exact ⟨j+1,x,by omega,by go_num,rfl,m.out,H.out⟩
     case measure=>simp [intOf];omega
  ·have t:Hid (res=true):=by
    show _=_
    rw [<- z.out,List.drop_of_length_le (by have:=L.out;simp;omega)];rfl
   have A:¬ (j:Int)<n:=by omega
   go_wp2_with fail
   go_ret
   exact ⟨by rw [t.out];rfl,d.out⟩
end
section
open Go.RowKit Go.Shelf
attribute [local go_sem] Oper.semAt_some
def Zcq  : List (ByteArray × Zi)->Bool
 | []=>true
 | q::r=>(decide (checkN q.2=0)&&Zg3 q.2)&&Zcq r
theorem Zu5 {ps:List (ByteArray × Zi)} {j:Nat} {q:ByteArray × Zi} (h:ps[j]?=some q):Zcq (ps.drop j)=((decide (checkN q.2=0)&&Zg3 q.2)&&Zcq (ps.drop (j+1))):=by
 obtain ⟨hj,k⟩:=List.getElem?_eq_some_iff.1 h
 rw [List.drop_eq_getElem_cons hj,k,Zcq]
def Zgt (ps:List (ByteArray × Zi)):Bool:=Zcq ps&&nrB ⟨#[]⟩ (ps.map Prod.fst)
theorem Zqo (v:Value) (ps:List (ByteArray × Zi)) (B:Nat) (w:World) (hB:B<=w.heap.size) (hE:Env w) (hp:Jd B w v ps) (hs:∀ q ∈ ps,q.1.size<=140737488355328/\Zas q.2) :
  Calls Tryz.prog 146 #[v] w fun e w'=>e=.returned (.bool (Zgt ps))/\Below w.heap.size w w':=by
 have HS:=Zb hs
 have HE:=Zb hE
 obtain ⟨pa,pc,rfl,h1,h2,A⟩:=hp
 have HP:=Zb A
 have b1:Hid (∀ W,Below w.heap.size w W->Calls Tryz.prog 181 #[.slice pa ps.length pc,.func (.func 182) #[] #[]] W fun e w'=>e=.returned (.bool (nrB ⟨#[]⟩ (ps.map Prod.fst)))/\Below W.heap.size W w'):=fun W T =>
  Zze ps B pa pc W (by have:=T.size;omega) (HE.out.below T HE.out.room) (A.imp id fun ⟨bl,off,e,hl,hc⟩=>⟨bl,off,e,hl,fun i q hi=>(hc i q hi).below (T.mono hB) hl⟩) h1 h2 (fun q hq=>(hs q hq).1)
 obtain ⟨res,c⟩:∃ r,Zgt ps=r:=⟨_,rfl⟩
 rw [c]
 unfold Zgt at c
 obtain ⟨kb,b7⟩:∃ r,nrB ⟨#[]⟩ (ps.map Prod.fst)=r:=⟨_,rfl⟩
 rw [b7] at b1 c
 have HR:=Zb c
 obtain ⟨n,s⟩:∃ n,ps.length=n:=⟨_,rfl⟩
 have HN:=Zb s
 rw [s] at h1 b1 |-
 clear A hs s c hE b7
 go_enter Tryz.func146,Tryz.ntmps146
 go_wp2_with fail
 go_loopw [7] (fun i wr=>∃ j:Nat,j<=n/\i=.int .i64 j/\Below w.heap.size w wr/\(Zcq (ps.drop j)&&kb)=res) (fun i _=>n - (intOf i).toNat)
 case atStart=>exact ⟨0,Nat.zero_le _,rfl,Below.refl _ _,HR.out⟩
 case round =>
  obtain ⟨j,hj,rfl,f,K⟩:=hrel
  have u:=Zb f
  have H:=Zb K
  have a6:w.heap.size<=wr.heap.size:=f.size
  clear f K
  by_cases hlt:j<n
  ·have y:(j:Int)<n:=by omega
   obtain ⟨⟨x,⟨tk,tb,tn,ts,a8,a7⟩⟩,k⟩:∃ x,ps[j]?=some x:=⟨_,List.getElem?_eq_getElem (by have:=HN.out;omega)⟩
   have HX:=Zb k
   obtain ⟨bl,off,rfl,a1,hc⟩:=HP.out.resolve_left (by intro e;rw [e] at k;simp at k)
   obtain ⟨cx,_,v0,v1,v2,v3,v4,v5,⟨c0,c1,c2,c3,c4,c5⟩,hv⟩:=(hc j _ k).below (u.out.mono hB) a1
   have b3:=(HS.out _ (List.mem_of_getElem? k)).2
   simp only at cx hv b3
   have b8:=hv
   simp only [Zaw] at hv
   obtain ⟨c8,b5,b6,b4,c7,_⟩:=hv
   obtain ⟨rfl,rfl,rfl,rfl,rfl,rfl⟩:v0=.int .i64 tk/\v1=.bool tb/\v2=.int .i64 tn/\v3=.string ts/\v4=.slice c8 a8.length b5/\v5=.slice b6 a7.length b4:=by
    simpa using c7
   have c6:=Zb (fun W (T:Below wr.heap.size wr W)=>Zg8 _ B _ W (by have:=T.size;omega) (b8.below (T.mono (by omega))) (HE.out.below (Za u.out T) HE.out.room).tabs b3)
   obtain ⟨sb,b0⟩:∃ r,(decide (checkN (.mk tk tb tn ts a8 a7)=0)&&Zg3 (.mk tk tb tn ts a8 a7))=r:=⟨_,rfl⟩
   rw [b0] at c6
   have I:Hid (res=((sb&&Zcq (ps.drop (j+1)))&&kb)):=by
    show _=_
    rw [<- H.out,Zu5 HX.out]
    simp only
    rw [b0]
   clear hc k c7 b8 b3 b0
   go_upto_region 4 with fail
   generalize o:World.alloc _ _=W2
   have d:=Zl wr #[.string x,.int .i64 tk,.bool tb,.int .i64 tn,.string ts,.slice c8 a8.length b5,.slice b6 a7.length b4] 79
   rw [o] at d
   have L:Hid (Below wr.heap.size wr W2):=by rw [<- o];exact (Below.refl _ _).alloc (Nat.le_refl _) _
   have k1:=d.cell 1 rfl
   have k2:=d.cell 2 rfl
   have k3:=d.cell 3 rfl
   have k4:=d.cell 4 rfl
   have k5:=d.cell 5 rfl
   have k6:=d.cell 6 rfl
   clear o d cx c0 c1 c2 c3 c4 c5
   go_wp2_with fail
   refine (c6.out W2 L.out).mono ?_
   rintro e w3 ⟨rfl,p⟩
   have t:=Zb (Za u.out (Za L.out p))
   clear p k1 k2 k3 k4 k5 k6
   cases sb with
   | false =>
    have HF:Hid (res=false):=I.out
    go_wp2_with fail
    go_ret
    exact ⟨by rw [HF.out];rfl,t.out⟩
   | true =>
    have a0:Hid ((Zcq (ps.drop (j+1))&&kb)=res):=I.out.symm
    go_wp2_with fail
    go_roundw
    case rel=>exact ⟨j+1,by omega,by go_num,t.out,a0.out⟩
    case measure=>simp [intOf];omega
  ·have HF:Hid (res=kb):=by
    show _=_
    rw [<- H.out,List.drop_of_length_le (by have:=HN.out;omega)];rfl
   have y:¬ (j:Int)<n:=by omega
   go_wp2_with fail
   refine (b1.out wr u.out).mono ?_
   rintro e w3 ⟨rfl,p⟩
   have t:=Zb (Za u.out p)
   clear p
   go_wp2_with fail
   go_ret
   exact ⟨by rw [HF.out];rfl,t.out⟩
structure Jd2 (g:Zt):Prop where
 nodes:g.nodes.length<=2000000
 rels:g.rels.length<=2000000
 ofNode:∀ n ∈ g.nodes,(∀ x ∈ n.labels,x.size<=140737488355328)/\∀ q ∈ n.props,q.1.size<=140737488355328/\Zas q.2
 ofRel:∀ r ∈ g.rels,r.type.size<=140737488355328/\∀ q ∈ r.props,q.1.size<=140737488355328/\Zas q.2
theorem Jcl (g:Zt) (B:Nat) (v:Value) (w:World) (hB:B<=w.heap.size) (hE:Env w) (hg:Zr B w v g) (hz:Jd2 g):Calls Tryz.prog 93 #[v] w fun e w'=>e=.returned (.bool (decide ((g.nodes.length:Int)+(g.rels.length:Int)<=65536)))/\Below w.heap.size w w':=by
 obtain ⟨na,nc,ra,rc,rfl,s,hr⟩:=hg
 obtain ⟨Q,P,G,C⟩:=hz
 have HE:=Zb hE
 obtain ⟨res,c⟩:∃ r,decide ((g.nodes.length:Int)+(g.rels.length:Int)<=65536)=r:=⟨_,rfl⟩
 have HR:=Zb c
 rw [c]
 clear c hE
 obtain ⟨D,V,nn,nr⟩:=g
 simp only at s hr Q P G C HR |-
 obtain ⟨a',c',e1,h1,h2,A⟩:=s
 obtain ⟨rfl,rfl⟩:na=a'/\nc=c':=by injection e1 with e1 _ e2;exact ⟨e1,e2⟩
 obtain ⟨a',c',e2,r1,r2,R⟩:=hr
 obtain ⟨rfl,rfl⟩:ra=a'/\rc=c':=by injection e2 with e1 _ e2;exact ⟨e1,e2⟩
 have HP:=Zb A
 have HQ:=Zb R
 have a4:=Zb G
 have a5:=Zb C
 obtain ⟨n,s⟩:∃ n,D.length=n:=⟨_,rfl⟩
 have HN:=Zb s
 obtain ⟨m,X⟩:∃ m,V.length=m:=⟨_,rfl⟩
 have HM:=Zb X
 rw [s] at h1 Q
 rw [X] at r1 P
 rw [s,X]
 clear A R G C s X e1 e2
 have b2:n<=9223372036854775807:=by omega
 have a9:m<=9223372036854775807:=by omega
 go_enter Tryz.func93,Tryz.ntmps93
 go_upto_region 1 with fail
 generalize E:World.alloc _ _=W1
 have l:=Zl w #[.slice na n nc,.slice ra m rc,.int .i64 nn,.int .i64 nr] 25
 rw [E] at l
 have O:Hid (Below w.heap.size w W1):=by rw [<- E];exact (Below.refl _ _).alloc (Nat.le_refl _) _
 have Y:=Zb l
 have q0:=l.cell 0 rfl
 have q1:=l.cell 1 rfl
 clear E l
 have d0:IntKind.i64.wrap ((n:Int)+(m:Int))=(n:Int)+(m:Int):=by rw [IntKind.wrap_i64];omega
 have U:Hid (decide ((n:Int)+(m:Int)<=65536)=res):=by
  show _=_
  rw [<- HR.out,HN.out,HM.out]
 go_wp2_with fail
 go_ret
 exact ⟨by rw [<- U.out];rfl,O.out⟩
def Zbc  : List Zo->Bool
 | []=>true
 | n::r=>nrB ⟨#[]⟩ n.labels&&Zbc r
def Zcr  : List Jg->Bool
 | []=>true
 | n::r=>Ju n.type.data.toList&&Zcr r
def Js  : List Zo->Bool
 | []=>true
 | n::r=>Zgt n.props&&Js r
def Jq  : List Jg->Bool
 | []=>true
 | n::r=>Zgt n.props&&Jq r
theorem Zsz {D:List Zo} {j:Nat} {n:Zo} (h:D[j]?=some n):Zbc (D.drop j)=(nrB ⟨#[]⟩ n.labels&&Zbc (D.drop (j+1))):=by
 obtain ⟨hj,k⟩:=List.getElem?_eq_some_iff.1 h
 rw [List.drop_eq_getElem_cons hj,k,Zbc]
theorem Zu6 {D:List Jg} {j:Nat} {n:Jg} (h:D[j]?=some n):Zcr (D.drop j)=(Ju n.type.data.toList&&Zcr (D.drop (j+1))):=by
 obtain ⟨hj,k⟩:=List.getElem?_eq_some_iff.1 h
 rw [List.drop_eq_getElem_cons hj,k,Zcr]
theorem Zll {D:List Zo} {j:Nat} {n:Zo} (h:D[j]?=some n):Js (D.drop j)=(Zgt n.props&&Js (D.drop (j+1))):=by
 obtain ⟨hj,k⟩:=List.getElem?_eq_some_iff.1 h
 rw [List.drop_eq_getElem_cons hj,k,Js]
theorem Znd {D:List Jg} {j:Nat} {n:Jg} (h:D[j]?=some n):Jq (D.drop j)=(Zgt n.props&&Jq (D.drop (j+1))):=by
 obtain ⟨hj,k⟩:=List.getElem?_eq_some_iff.1 h
 rw [List.drop_eq_getElem_cons hj,k,Jq]
theorem Zs0 (g:Zt) (B:Nat) (v:Value) (w:World) (hB:B<=w.heap.size) (hE:Env w) (hg:Zr B w v g) (hz:Jd2 g):Calls Tryz.prog 95 #[v] w fun e w'=>e=.returned (.bool (Zbc g.nodes))/\Below w.heap.size w w':=by
 obtain ⟨na,nc,ra,rc,rfl,s,hr⟩:=hg
 obtain ⟨Q,P,G,C⟩:=hz
 have HE:=Zb hE
 obtain ⟨res,c⟩:∃ r,Zbc g.nodes=r:=⟨_,rfl⟩
 have HR:=Zb c
 rw [c]
 clear c hE
 obtain ⟨D,V,nn,nr⟩:=g
 simp only at s hr Q P G C HR |-
 obtain ⟨a',c',e1,h1,h2,A⟩:=s
 obtain ⟨rfl,rfl⟩:na=a'/\nc=c':=by injection e1 with e1 _ e2;exact ⟨e1,e2⟩
 obtain ⟨a',c',e2,r1,r2,R⟩:=hr
 obtain ⟨rfl,rfl⟩:ra=a'/\rc=c':=by injection e2 with e1 _ e2;exact ⟨e1,e2⟩
 have HP:=Zb A
 have HQ:=Zb R
 have a4:=Zb G
 have a5:=Zb C
 obtain ⟨n,s⟩:∃ n,D.length=n:=⟨_,rfl⟩
 have HN:=Zb s
 obtain ⟨m,X⟩:∃ m,V.length=m:=⟨_,rfl⟩
 have HM:=Zb X
 rw [s] at h1 Q
 rw [X] at r1 P
 rw [s,X]
 clear A R G C s X e1 e2
 have b2:n<=9223372036854775807:=by omega
 have a9:m<=9223372036854775807:=by omega
 go_enter Tryz.func95,Tryz.ntmps95
 go_upto_region 1 with fail
 generalize E:World.alloc _ _=W1
 have l:=Zl w #[.slice na n nc,.slice ra m rc,.int .i64 nn,.int .i64 nr] 25
 rw [E] at l
 have O:Hid (Below w.heap.size w W1):=by rw [<- E];exact (Below.refl _ _).alloc (Nat.le_refl _) _
 have Y:=Zb l
 have q0:=l.cell 0 rfl
 clear E l
 have U:=HR
 go_wp2_with fail
 clear q0
 go_loopw [8] (fun i wr=>∃ j:Nat,j<=n/\i=.int .i64 j/\Below W1.heap.size W1 wr/\Zbc (D.drop j)=res) (fun i _=>n - (intOf i).toNat)
 case atStart=>exact ⟨0,Nat.zero_le _,rfl,Below.refl _ _,U.out⟩
 case round =>
  obtain ⟨j,hj,rfl,f,K⟩:=hrel
  have u:=Zb f
  have H:=Zb K
  have a6:w.heap.size<wr.heap.size:=by
   have:=Y.out.lt
   have:=f.size
   omega
  have z:=Zb (Za O.out f)
  clear f K
  by_cases hlt:j<n
  ·have y:(j:Int)<n:=by omega
   obtain ⟨⟨xi,xl,xp⟩,k⟩:∃ q,D[j]?=some q:=⟨_,List.getElem?_eq_getElem (by have:=HN.out;omega)⟩
   have HX:=Zb k
   obtain ⟨bl,off,rfl,a1,hc⟩:=HP.out.resolve_left (by intro e;rw [e] at k;simp at k)
   obtain ⟨la,lc,pv,⟨c0,c1,c2⟩,⟨a3,a2⟩,hk,hp⟩:=(hc j _ k).below (z.out.mono hB) a1
   obtain ⟨M,N⟩:=a4.out _ (List.mem_of_getElem? k)
   simp only at c0 c1 c2 a3 a2 hk hp M N
   have S:=Zb (fun W (T:Below wr.heap.size wr W)=>Zu1 xl B la lc W (by have:=T.size;omega) (HE.out.below (Za z.out T) HE.out.room) (hk.below (T.mono (by omega))) a3 a2 M)
   obtain ⟨pa,pc,rfl,_,_,_⟩:=hp
   obtain ⟨bn,F⟩:∃ b,nrB ⟨#[]⟩ xl=b:=⟨_,rfl⟩
   rw [F] at S
   have I:Hid (res=(bn&&Zbc (D.drop (j+1)))):=by
    show _=_
    rw [<- H.out,Zsz HX.out]
    simp only
    rw [F]
   clear hc k F
   go_upto_region 4 with fail
   generalize o:World.alloc _ _=W2
   have d:=Zl wr #[.int .i64 xi,.slice la xl.length lc,.slice pa xp.length pc] 47
   rw [o] at d
   have L:Hid (Below wr.heap.size wr W2):=by rw [<- o];exact (Below.refl _ _).alloc (Nat.le_refl _) _
   have k0:=d.cell 1 rfl
   clear o d c0 c1 c2 hk M N a3 a2
   go_wp2_with fail
   refine (S.out W2 L.out).mono ?_
   rintro e w3 ⟨rfl,p⟩
   have t:=Zb (Za u.out (Za L.out p))
   clear p k0
   cases bn with
   | false =>
    have HF:Hid (res=false):=I.out
    go_wp2_with fail
    go_ret
    exact ⟨by rw [HF.out];rfl,Za O.out t.out⟩
   | true =>
    have a0:Hid (Zbc (D.drop (j+1))=res):=I.out.symm
    go_wp2_with fail
    go_roundw
    case rel=>exact ⟨j+1,by omega,by go_num,t.out,a0.out⟩
    case measure=>simp [intOf];omega
  ·have HF:Hid (res=true):=by
    show _=_
    rw [<- H.out,List.drop_of_length_le (by have:=HN.out;omega)];rfl
   have y:¬ (j:Int)<n:=by omega
   go_wp2_with fail
   go_ret
   exact ⟨by rw [HF.out];rfl,z.out⟩
theorem Zu7 (g:Zt) (B:Nat) (v:Value) (w:World) (hB:B<=w.heap.size) (hE:Env w) (hg:Zr B w v g) (hz:Jd2 g):Calls Tryz.prog 97 #[v] w fun e w'=>e=.returned (.bool (Zcr g.rels))/\Below w.heap.size w w':=by
 obtain ⟨na,nc,ra,rc,rfl,s,hr⟩:=hg
 obtain ⟨Q,P,G,C⟩:=hz
 have HE:=Zb hE
 obtain ⟨res,c⟩:∃ r,Zcr g.rels=r:=⟨_,rfl⟩
 have HR:=Zb c
 rw [c]
 clear c hE
 obtain ⟨D,V,nn,nr⟩:=g
 simp only at s hr Q P G C HR |-
 obtain ⟨a',c',e1,h1,h2,A⟩:=s
 obtain ⟨rfl,rfl⟩:na=a'/\nc=c':=by injection e1 with e1 _ e2;exact ⟨e1,e2⟩
 obtain ⟨a',c',e2,r1,r2,R⟩:=hr
 obtain ⟨rfl,rfl⟩:ra=a'/\rc=c':=by injection e2 with e1 _ e2;exact ⟨e1,e2⟩
 have HP:=Zb A
 have HQ:=Zb R
 have a4:=Zb G
 have a5:=Zb C
 obtain ⟨n,s⟩:∃ n,D.length=n:=⟨_,rfl⟩
 have HN:=Zb s
 obtain ⟨m,X⟩:∃ m,V.length=m:=⟨_,rfl⟩
 have HM:=Zb X
 rw [s] at h1 Q
 rw [X] at r1 P
 rw [s,X]
 clear A R G C s X e1 e2
 have b2:n<=9223372036854775807:=by omega
 have a9:m<=9223372036854775807:=by omega
 go_enter Tryz.func97,Tryz.ntmps97
 go_upto_region 1 with fail
 generalize E:World.alloc _ _=W1
 have l:=Zl w #[.slice na n nc,.slice ra m rc,.int .i64 nn,.int .i64 nr] 25
 rw [E] at l
 have O:Hid (Below w.heap.size w W1):=by rw [<- E];exact (Below.refl _ _).alloc (Nat.le_refl _) _
 have Y:=Zb l
 have q1:=l.cell 1 rfl
 clear E l
 have U:=HR
 go_wp2_with fail
 clear q1
 go_loopw [8] (fun i wr=>∃ j:Nat,j<=m/\i=.int .i64 j/\Below W1.heap.size W1 wr/\Zcr (V.drop j)=res) (fun i _=>m - (intOf i).toNat)
 case atStart=>exact ⟨0,Nat.zero_le _,rfl,Below.refl _ _,U.out⟩
 case round =>
  obtain ⟨j,hj,rfl,f,K⟩:=hrel
  have u:=Zb f
  have H:=Zb K
  have a6:w.heap.size<wr.heap.size:=by
   have:=Y.out.lt
   have:=f.size
   omega
  have z:=Zb (Za O.out f)
  clear f K
  by_cases hlt:j<m
  ·have y:(j:Int)<m:=by omega
   obtain ⟨⟨xi,fr,tt,ty,xp⟩,k⟩:∃ q,V[j]?=some q:=⟨_,List.getElem?_eq_getElem (by have:=HM.out;omega)⟩
   have HX:=Zb k
   obtain ⟨bl,off,rfl,a1,hc⟩:=HQ.out.resolve_left (by intro e;rw [e] at k;simp at k)
   obtain ⟨pv,⟨c0,c1,c2,c3,c4⟩,_,hp⟩:=(hc j _ k).below (z.out.mono hB) a1
   obtain ⟨M,N⟩:=a5.out _ (List.mem_of_getElem? k)
   simp only at c0 c1 c2 c3 c4 hp M N
   have S:=Zb (fun W (T:Below wr.heap.size wr W)=>Zev ty M W (HE.out.below (Za z.out T) HE.out.room))
   obtain ⟨pa,pc,rfl,_,_,_⟩:=hp
   obtain ⟨bn,F⟩:∃ b,Ju ty.data.toList=b:=⟨_,rfl⟩
   rw [F] at S
   have I:Hid (res=(bn&&Zcr (V.drop (j+1)))):=by
    show _=_
    rw [<- H.out,Zu6 HX.out]
    simp only
    rw [F]
   clear hc k F
   go_upto_region 4 with fail
   generalize o:World.alloc _ _=W2
   have d:=Zl wr #[.int .i64 xi,.int .i64 fr,.int .i64 tt,.string ty,.slice pa xp.length pc] 49
   rw [o] at d
   have L:Hid (Below wr.heap.size wr W2):=by rw [<- o];exact (Below.refl _ _).alloc (Nat.le_refl _) _
   have k0:=d.cell 3 rfl
   clear o d c0 c1 c2 c3 c4 M N
   go_wp2_with fail
   refine (S.out W2 L.out).mono ?_
   rintro e w3 ⟨rfl,p⟩
   have t:=Zb (Za u.out (Za L.out p))
   clear p k0
   cases bn with
   | false =>
    have HF:Hid (res=false):=I.out
    go_wp2_with fail
    go_ret
    exact ⟨by rw [HF.out];rfl,Za O.out t.out⟩
   | true =>
    have a0:Hid (Zcr (V.drop (j+1))=res):=I.out.symm
    go_wp2_with fail
    go_roundw
    case rel=>exact ⟨j+1,by omega,by go_num,t.out,a0.out⟩
    case measure=>simp [intOf];omega
  ·have HF:Hid (res=true):=by
    show _=_
    rw [<- H.out,List.drop_of_length_le (by have:=HM.out;omega)];rfl
   have y:¬ (j:Int)<m:=by omega
   go_wp2_with fail
   go_ret
   exact ⟨by rw [HF.out];rfl,z.out⟩
theorem Zu8 (g:Zt) (B:Nat) (v:Value) (w:World) (hB:B<=w.heap.size) (hE:Env w) (hg:Zr B w v g) (hz:Jd2 g):Calls Tryz.prog 96 #[v] w fun e w'=>e=.returned (.bool ((Js g.nodes&&Jq g.rels)))/\Below w.heap.size w w':=by
 obtain ⟨na,nc,ra,rc,rfl,s,hr⟩:=hg
 obtain ⟨Q,P,G,C⟩:=hz
 have HE:=Zb hE
 obtain ⟨res,c⟩:∃ r,(Js g.nodes&&Jq g.rels)=r:=⟨_,rfl⟩
 have HR:=Zb c
 rw [c]
 clear c hE
 obtain ⟨D,V,nn,nr⟩:=g
 simp only at s hr Q P G C HR |-
 obtain ⟨a',c',e1,h1,h2,A⟩:=s
 obtain ⟨rfl,rfl⟩:na=a'/\nc=c':=by injection e1 with e1 _ e2;exact ⟨e1,e2⟩
 obtain ⟨a',c',e2,r1,r2,R⟩:=hr
 obtain ⟨rfl,rfl⟩:ra=a'/\rc=c':=by injection e2 with e1 _ e2;exact ⟨e1,e2⟩
 have HP:=Zb A
 have HQ:=Zb R
 have a4:=Zb G
 have a5:=Zb C
 obtain ⟨n,s⟩:∃ n,D.length=n:=⟨_,rfl⟩
 have HN:=Zb s
 obtain ⟨m,X⟩:∃ m,V.length=m:=⟨_,rfl⟩
 have HM:=Zb X
 rw [s] at h1 Q
 rw [X] at r1 P
 rw [s,X]
 clear A R G C s X e1 e2
 have b2:n<=9223372036854775807:=by omega
 have a9:m<=9223372036854775807:=by omega
 go_enter Tryz.func96,Tryz.ntmps96
 go_upto_region 1 with fail
 generalize E:World.alloc _ _=W1
 have l:=Zl w #[.slice na n nc,.slice ra m rc,.int .i64 nn,.int .i64 nr] 25
 rw [E] at l
 have O:Hid (Below w.heap.size w W1):=by rw [<- E];exact (Below.refl _ _).alloc (Nat.le_refl _) _
 have Y:=Zb l
 have q0:=l.cell 0 rfl
 clear E l
 have U:=HR
 go_wp2_with fail
 clear q0
 go_loopw [10] (fun i wr=>∃ j:Nat,j<=n/\i=.int .i64 j/\Below W1.heap.size W1 wr/\(Js (D.drop j)&&Jq V)=res) (fun i _=>n - (intOf i).toNat)
 case atStart=>exact ⟨0,Nat.zero_le _,rfl,Below.refl _ _,U.out⟩
 case round =>
  obtain ⟨j,hj,rfl,f,K⟩:=hrel
  have u:=Zb f
  have H:=Zb K
  have a6:w.heap.size<wr.heap.size:=by
   have:=Y.out.lt
   have:=f.size
   omega
  have z:=Zb (Za O.out f)
  clear f K
  by_cases hlt:j<n
  ·have y:(j:Int)<n:=by omega
   obtain ⟨⟨xi,xl,xp⟩,k⟩:∃ q,D[j]?=some q:=⟨_,List.getElem?_eq_getElem (by have:=HN.out;omega)⟩
   have HX:=Zb k
   obtain ⟨bl,off,rfl,a1,hc⟩:=HP.out.resolve_left (by intro e;rw [e] at k;simp at k)
   obtain ⟨la,lc,pv,⟨c0,c1,c2⟩,⟨a3,a2⟩,hk,hp⟩:=(hc j _ k).below (z.out.mono hB) a1
   obtain ⟨M,N⟩:=a4.out _ (List.mem_of_getElem? k)
   simp only at c0 c1 c2 a3 a2 hk hp M N
   have S:=Zb (fun W (T:Below wr.heap.size wr W)=>Zqo pv xp B W (by have:=T.size;omega) (HE.out.below (Za z.out T) HE.out.room) (hp.below (T.mono (by omega))) N)
   obtain ⟨pa,pc,rfl,_,_,_⟩:=hp
   obtain ⟨bn,F⟩:∃ b,Zgt xp=b:=⟨_,rfl⟩
   rw [F] at S
   have I:Hid (res=((bn&&Js (D.drop (j+1)))&&Jq V)):=by
    show _=_
    rw [<- H.out,Zll HX.out]
    simp only
    rw [F]
   clear hc k F
   go_upto_region 4 with fail
   generalize o:World.alloc _ _=W2
   have d:=Zl wr #[.int .i64 xi,.slice la xl.length lc,.slice pa xp.length pc] 47
   rw [o] at d
   have L:Hid (Below wr.heap.size wr W2):=by rw [<- o];exact (Below.refl _ _).alloc (Nat.le_refl _) _
   have k0:=d.cell 2 rfl
   clear o d c0 c1 c2 hk M N a3 a2
   go_wp2_with fail
   refine (S.out W2 L.out).mono ?_
   rintro e w3 ⟨rfl,p⟩
   have t:=Zb (Za u.out (Za L.out p))
   clear p k0
   cases bn with
   | false =>
    have HF:Hid (res=false):=I.out
    go_wp2_with fail
    go_ret
    exact ⟨by rw [HF.out];rfl,Za O.out t.out⟩
   | true =>
    have a0:Hid ((Js (D.drop (j+1))&&Jq V)=res):=I.out.symm
    go_wp2_with fail
    go_roundw
    case rel=>exact ⟨j+1,by omega,by go_num,t.out,a0.out⟩
    case measure=>simp [intOf];omega
  ·have b9:Hid (Jq V=res):=by
    show _=_
    rw [<- H.out,List.drop_of_length_le (by have:=HN.out;omega)];rfl
   have y:¬ (j:Int)<n:=by omega
   have c9:=u
   have q1:=(Y.out.below u.out Y.out.lt).cell 1 rfl
   go_wp2_with fail
   clear hlt y H hj u a6 z q1 U
   have U:=b9
   clear b9
   go_loopw [22] (fun i wr=>∃ j:Nat,j<=m/\i=.int .i64 j/\Below W1.heap.size W1 wr/\Jq (V.drop j)=res) (fun i _=>m - (intOf i).toNat)
   case atStart=>exact ⟨0,Nat.zero_le _,rfl,c9.out,U.out⟩
   case round =>
    obtain ⟨j,hj,rfl,f,K⟩:=hrel
    have u:=Zb f
    have H:=Zb K
    have a6:w.heap.size<wr.heap.size:=by
     have:=Y.out.lt
     have:=f.size
     omega
    have z:=Zb (Za O.out f)
    clear f K
    by_cases hlt:j<m
    ·have y:(j:Int)<m:=by omega
     obtain ⟨⟨xi,fr,tt,ty,xp⟩,k⟩:∃ q,V[j]?=some q:=⟨_,List.getElem?_eq_getElem (by have:=HM.out;omega)⟩
     have HX:=Zb k
     obtain ⟨bl,off,rfl,a1,hc⟩:=HQ.out.resolve_left (by intro e;rw [e] at k;simp at k)
     obtain ⟨pv,⟨c0,c1,c2,c3,c4⟩,_,hp⟩:=(hc j _ k).below (z.out.mono hB) a1
     obtain ⟨M,N⟩:=a5.out _ (List.mem_of_getElem? k)
     simp only at c0 c1 c2 c3 c4 hp M N
     have S:=Zb (fun W (T:Below wr.heap.size wr W)=>Zqo pv xp B W (by have:=T.size;omega) (HE.out.below (Za z.out T) HE.out.room) (hp.below (T.mono (by omega))) N)
     obtain ⟨pa,pc,rfl,_,_,_⟩:=hp
     obtain ⟨bn,F⟩:∃ b,Zgt xp=b:=⟨_,rfl⟩
     rw [F] at S
     have I:Hid (res=(bn&&Jq (V.drop (j+1)))):=by
      show _=_
      rw [<- H.out,Znd HX.out]
      simp only
      rw [F]
     clear hc k F
     go_upto_region 10 with fail
     generalize o:World.alloc _ _=W2
     have d:=Zl wr #[.int .i64 xi,.int .i64 fr,.int .i64 tt,.string ty,.slice pa xp.length pc] 49
     rw [o] at d
     have L:Hid (Below wr.heap.size wr W2):=by rw [<- o];exact (Below.refl _ _).alloc (Nat.le_refl _) _
     have k0:=d.cell 4 rfl
     clear o d c0 c1 c2 c3 c4 M N
     go_wp2_with fail
     refine (S.out W2 L.out).mono ?_
     rintro e w3 ⟨rfl,p⟩
     have t:=Zb (Za u.out (Za L.out p))
     clear p k0
     cases bn with
     | false =>
      have HF:Hid (res=false):=I.out
      go_wp2_with fail
      go_ret
      exact ⟨by rw [HF.out];rfl,Za O.out t.out⟩
     | true =>
      have a0:Hid (Jq (V.drop (j+1))=res):=I.out.symm
      go_wp2_with fail
      go_roundw
      case rel=>exact ⟨j+1,by omega,by go_num,t.out,a0.out⟩
      case measure=>simp [intOf];omega
    ·have HF:Hid (res=true):=by
      show _=_
      rw [<- H.out,List.drop_of_length_le (by have:=HM.out;omega)];rfl
     have y:¬ (j:Int)<m:=by omega
     go_wp2_with fail
     go_ret
     exact ⟨by rw [HF.out];rfl,z.out⟩
end
