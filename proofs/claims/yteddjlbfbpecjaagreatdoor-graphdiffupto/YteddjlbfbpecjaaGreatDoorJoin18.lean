import Derived.Test.YteddjlbfbpecjaaGreatDoorJoin17
namespace Go.Proofs.YteddjlbfbpecjaaGreatDoor
set_option maxHeartbeats 8000000
set_option maxRecDepth 100000
set_option linter.all false
section
open Go.RowKit Go.Shelf Go.WideShapes
noncomputable def RST  : Array Oper:=Zy Tryz.f105 6
def LST  : List Sig:=[⟨17,.move (.tmp 0),44,none⟩,⟨18,.move (.tmp 5),3,none⟩,⟨19,.indexAddr 44 (.tmp 17) (.tmp 18),0,none⟩,⟨20,.load 9 (.tmp 19),9,none⟩,⟨21,.move (.tmp 1),44,none⟩,⟨22,.move (.tmp 5),3,none⟩,⟨23,.indexAddr 44 (.tmp 21) (.tmp 22),0,none⟩,⟨24,.load 9 (.tmp 23),9,none⟩,⟨25,.binOp .neq 9 (.tmp 20) (.tmp 24) 9,4,none⟩]
theorem Jkq  : Jh RST=LST.map some:=by kernel_rfl
def AST  : List (List Nat):=[[],[],[0,1],[2],[],[],[4,5],[6],[3,7]]
structure Zrs (m off kl kc f d l g j:Nat) (x y:ByteArray) (c:Act):Prop where
 t0:c.eval (.tmp 0)=.slice (some ⟨m,off,none⟩) kl kc
 t1:c.eval (.tmp 1)=.slice (some ⟨f,d,none⟩) l g
 t5:c.eval (.tmp 5)=.int .i64 (j:Int)
def Jkr (m off kl kc f d l g j:Nat) (x y:ByteArray):List Value:=[.slice (some ⟨m,off,none⟩) kl kc,.int .i64 (j:Int),.pointer (some ⟨m,off+j,none⟩),.string x,.slice (some ⟨f,d,none⟩) l g,.int .i64 (j:Int),.pointer (some ⟨f,d+j,none⟩),.string y,.bool true]
structure Zrt (m off kl kc f d l g j:Nat) (x y:ByteArray) (w:World):Prop where
 lt:j<kl
 le:kl<=9223372036854775807
 cx:w.cell? ⟨m,off+j,none⟩=some (.string x)
 lt2:j<l
 le2:l<=9223372036854775807
 cy:w.cell? ⟨f,d+j,none⟩=some (.string y)
 a1:(!(x.toList==y.toList))=true
theorem Zxo (m off kl kc f d l g j:Nat) (x y:ByteArray) (Q:Exit->Act->World->Prop) (base:Act) (L:World) (I:base.tmps.size=26) (u:Zrs m off kl kc f d l g j x y base)
  (o:∀ w,Below L.heap.size L w->Zrt m off kl kc f d l g j x y w) (hQ:∀ c w,Zaf RST base c->Below L.heap.size L w->c.eval (.tmp 25)=.bool true->Q .normal c w):(Code.region 6 RST true).wp Tryz.prog Q base L:=by
 refine Zn (B:=Zrs m off kl kc f d l g j x y) (T:=Zrt m off kl kc f d l g j x y) (n:=9) (k:=8) LST AST (Jkr m off kl kc f d l g j x y) Jkq rfl (by kernel_rfl) (by kernel_rfl) (by kernel_rfl) (by rw [I];kernel_rfl) (fun c D=>⟨(Zc D (by kernel_rfl)).trans u.t0,(Zc D (by kernel_rfl)).trans u.t1,(Zc D (by kernel_rfl)).trans u.t5⟩) o ?_ (by decide) rfl rfl hQ
 clear I u o hQ
 iterate 9 (refine Zd ?_ (by
  intro c w u o hEq
  obtain ⟨t0,t1,t5⟩:=u
  obtain ⟨lt,le,cx,lt2,le2,cy,a1⟩:=o
  have ec:=evc c
  have ef:=evf c
  dsimp only [AST,LST,Jkr,nth,Zbm,Za2,Jc] at hEq |-
  first
  | exact ⟨by simp only [hEq],.inr ⟨by first | exact .inl rfl | exact .inr rfl,rfl⟩⟩
  | ((try refine ⟨by simp only [hEq],.inl ⟨rfl,?_⟩⟩);first | (refine .inl fun P af=>?_;(dsimp only [Sig.oper];generalize c.eval=ρ at *;go_simp;done)) | (refine .inl fun P af=>?_;dsimp only [Sig.oper];generalize c.eval=ρ at *;go_simp;simp only [decide_eq_true_eq,decide_eq_false_iff_not] at *;omega))))
 exact Zf
def Jks (m off kl kc f d l g j:Nat) (x y:ByteArray):List Value:=[.slice (some ⟨m,off,none⟩) kl kc,.int .i64 (j:Int),.pointer (some ⟨m,off+j,none⟩),.string x,.slice (some ⟨f,d,none⟩) l g,.int .i64 (j:Int),.pointer (some ⟨f,d+j,none⟩),.string y,.bool false]
structure Zru (m off kl kc f d l g j:Nat) (x y:ByteArray) (w:World):Prop where
 lt:j<kl
 le:kl<=9223372036854775807
 cx:w.cell? ⟨m,off+j,none⟩=some (.string x)
 lt2:j<l
 le2:l<=9223372036854775807
 cy:w.cell? ⟨f,d+j,none⟩=some (.string y)
 a1:(!(x.toList==y.toList))=false
theorem Zxp (m off kl kc f d l g j:Nat) (x y:ByteArray) (Q:Exit->Act->World->Prop) (base:Act) (L:World) (I:base.tmps.size=26) (u:Zrs m off kl kc f d l g j x y base)
  (o:∀ w,Below L.heap.size L w->Zru m off kl kc f d l g j x y w) (hQ:∀ c w,Zaf RST base c->Below L.heap.size L w->c.eval (.tmp 25)=.bool false->Q .normal c w):(Code.region 6 RST true).wp Tryz.prog Q base L:=by
 refine Zn (B:=Zrs m off kl kc f d l g j x y) (T:=Zru m off kl kc f d l g j x y) (n:=9) (k:=8) LST AST (Jks m off kl kc f d l g j x y) Jkq rfl (by kernel_rfl) (by kernel_rfl) (by kernel_rfl) (by rw [I];kernel_rfl) (fun c D=>⟨(Zc D (by kernel_rfl)).trans u.t0,(Zc D (by kernel_rfl)).trans u.t1,(Zc D (by kernel_rfl)).trans u.t5⟩) o ?_ (by decide) rfl rfl hQ
 clear I u o hQ
 iterate 9 (refine Zd ?_ (by
  intro c w u o hEq
  obtain ⟨t0,t1,t5⟩:=u
  obtain ⟨lt,le,cx,lt2,le2,cy,a1⟩:=o
  have ec:=evc c
  have ef:=evf c
  dsimp only [AST,LST,Jks,nth,Zbm,Za2,Jc] at hEq |-
  first
  | exact ⟨by simp only [hEq],.inr ⟨by first | exact .inl rfl | exact .inr rfl,rfl⟩⟩
  | ((try refine ⟨by simp only [hEq],.inl ⟨rfl,?_⟩⟩);first | (refine .inl fun P af=>?_;(dsimp only [Sig.oper];generalize c.eval=ρ at *;go_simp;done)) | (refine .inl fun P af=>?_;dsimp only [Sig.oper];generalize c.eval=ρ at *;go_simp;simp only [decide_eq_true_eq,decide_eq_false_iff_not] at *;omega))))
 exact Zf
noncomputable def RSP  : Array Oper:=Zy Tryz.f106 6
def LSP  : List Sig:=[⟨17,.move (.tmp 0),45,none⟩,⟨18,.move (.tmp 5),3,none⟩,⟨19,.indexAddr 45 (.tmp 17) (.tmp 18),0,none⟩,⟨20,.fieldAddr 79 (.tmp 19) 0,0,none⟩,⟨21,.load 9 (.tmp 20),9,none⟩,⟨22,.move (.tmp 1),45,none⟩,⟨23,.move (.tmp 5),3,none⟩,⟨24,.indexAddr 45 (.tmp 22) (.tmp 23),0,none⟩,⟨25,.fieldAddr 79 (.tmp 24) 0,0,none⟩,⟨26,.load 9 (.tmp 25),9,none⟩,⟨27,.binOp .neq 9 (.tmp 21) (.tmp 26) 9,4,none⟩,⟨28,.move (.tmp 27),4,none⟩,⟨29,.move (.tmp 0),45,some (11,false)⟩,⟨30,.move (.tmp 5),3,some (11,false)⟩,⟨31,.indexAddr 45 (.tmp 29) (.tmp 30),0,some (11,false)⟩,⟨32,.fieldAddr 79 (.tmp 31) 1,0,some (11,false)⟩,⟨33,.load 60 (.tmp 32),60,some (11,false)⟩,⟨34,.move (.tmp 1),45,some (11,false)⟩,⟨35,.move (.tmp 5),3,some (11,false)⟩,⟨36,.indexAddr 45 (.tmp 34) (.tmp 35),0,some (11,false)⟩,⟨37,.fieldAddr 79 (.tmp 36) 1,0,some (11,false)⟩,⟨38,.load 60 (.tmp 37),60,some (11,false)⟩,⟨39,.call { callee:=.value (.func 151),args:=#[.tmp 33,.tmp 38],argTypes:=#[60,60] },4,some (11,false)⟩,⟨40,.unOp .not 4 (.tmp 39),4,some (11,false)⟩,⟨41,.pick (.tmp 28) (.const (.bool true)) (.tmp 40),4,none⟩]
theorem Jjf  : Jh RSP=LSP.map some:=by kernel_rfl
def ASP  : List (List Nat):=[[],[],[0,1],[2],[3],[],[],[5,6],[7],[8],[4,9],[10],[11],[11],[11,12,13],[11,14],[11,15],[11],[11],[11,17,18],[11,19],[11,20],[11,16,21],[11,22],[11,23]]
structure Zk1 (m off kl kc f d l g j:Nat) (x y:ByteArray) (v0 v1 v2 v3 v4 v5 z G E F A C:Value) (c:Act):Prop where
 t0:c.eval (.tmp 0)=.slice (some ⟨m,off,none⟩) kl kc
 t1:c.eval (.tmp 1)=.slice (some ⟨f,d,none⟩) l g
 t5:c.eval (.tmp 5)=.int .i64 (j:Int)
def Jkt (m off kl kc f d l g j:Nat) (x y:ByteArray) (v0 v1 v2 v3 v4 v5 z G E F A C:Value):List Value:=[.slice (some ⟨m,off,none⟩) kl kc,.int .i64 (j:Int),.pointer (some ⟨m,off+j*7,none⟩),.pointer (some ⟨m,off+j*7,none⟩),.string x,.slice (some ⟨f,d,none⟩) l g,.int .i64 (j:Int),.pointer (some ⟨f,d+j*7,none⟩),.pointer (some ⟨f,d+j*7,none⟩),.string y,.bool true,.bool true,undef,undef,undef,undef,undef,undef,undef,undef,undef,undef,undef,undef,.bool true]
structure Zrv (m off kl kc f d l g j:Nat) (x y:ByteArray) (v0 v1 v2 v3 v4 v5 z G E F A C:Value) (w:World):Prop where
 lt:j<kl
 le:kl<=9223372036854775807
 cx:w.cell? ⟨m,off+j*7,none⟩=some (.string x)
 lt2:j<l
 le2:l<=9223372036854775807
 cy:w.cell? ⟨f,d+j*7,none⟩=some (.string y)
 a1:(!(x.toList==y.toList))=true
theorem Zxq (m off kl kc f d l g j:Nat) (x y:ByteArray) (v0 v1 v2 v3 v4 v5 z G E F A C:Value) (Q:Exit->Act->World->Prop) (base:Act) (L:World) (I:base.tmps.size=42) (u:Zk1 m off kl kc f d l g j x y v0 v1 v2 v3 v4 v5 z G E F A C base)
  (o:∀ w,Below L.heap.size L w->Zrv m off kl kc f d l g j x y v0 v1 v2 v3 v4 v5 z G E F A C w) (hQ:∀ c w,Zaf RSP base c->Below L.heap.size L w->c.eval (.tmp 41)=.bool true->Q .normal c w):(Code.region 6 RSP true).wp Tryz.prog Q base L:=by
 refine Zn (B:=Zk1 m off kl kc f d l g j x y v0 v1 v2 v3 v4 v5 z G E F A C) (T:=Zrv m off kl kc f d l g j x y v0 v1 v2 v3 v4 v5 z G E F A C) (n:=25) (k:=24) LSP ASP (Jkt m off kl kc f d l g j x y v0 v1 v2 v3 v4 v5 z G E F A C) Jjf rfl (by kernel_rfl) (by kernel_rfl) (by kernel_rfl) (by rw [I];kernel_rfl) (fun c D=>⟨(Zc D (by kernel_rfl)).trans u.t0,(Zc D (by kernel_rfl)).trans u.t1,(Zc D (by kernel_rfl)).trans u.t5⟩) o ?_ (by decide) rfl rfl hQ
 clear I u o hQ
 iterate 25 (refine Zd ?_ (by
  intro c w u o hEq
  obtain ⟨t0,t1,t5⟩:=u
  obtain ⟨lt,le,cx,lt2,le2,cy,a1⟩:=o
  have ec:=evc c
  have ef:=evf c
  dsimp only [ASP,LSP,Jkt,nth,Zbm,Za2,Jc] at hEq |-
  first
  | exact ⟨by simp only [hEq],.inr ⟨by first | exact .inl rfl | exact .inr rfl,rfl⟩⟩
  | ((try refine ⟨by simp only [hEq],.inl ⟨rfl,?_⟩⟩);first | (refine .inl fun P af=>?_;(dsimp only [Sig.oper];generalize c.eval=ρ at *;go_simp;done)) | (refine .inl fun P af=>?_;dsimp only [Sig.oper];generalize c.eval=ρ at *;go_simp;simp only [decide_eq_true_eq,decide_eq_false_iff_not] at *;omega))))
 exact Zf
def Jku (m off kl kc f d l g j:Nat) (x y:ByteArray) (v0 v1 v2 v3 v4 v5 z G E F A C:Value):List Value:=[.slice (some ⟨m,off,none⟩) kl kc,.int .i64 (j:Int),.pointer (some ⟨m,off+j*7,none⟩),.pointer (some ⟨m,off+j*7,none⟩),.string x,.slice (some ⟨f,d,none⟩) l g,.int .i64 (j:Int),.pointer (some ⟨f,d+j*7,none⟩),.pointer (some ⟨f,d+j*7,none⟩),.string y,.bool false,.bool false,.slice (some ⟨m,off,none⟩) kl kc,.int .i64 (j:Int),.pointer (some ⟨m,off+j*7,none⟩),.pointer (some ⟨m,off+j*7+1,none⟩),.agg #[v0,v1,v2,v3,v4,v5],.slice (some ⟨f,d,none⟩) l g,.int .i64 (j:Int),.pointer (some ⟨f,d+j*7,none⟩),.pointer (some ⟨f,d+j*7+1,none⟩),.agg #[z,G,E,F,A,C],.bool false,.bool true,.bool true]
structure Zrw (m off kl kc f d l g j:Nat) (x y:ByteArray) (v0 v1 v2 v3 v4 v5 z G E F A C:Value) (w:World):Prop where
 lt:j<kl
 le:kl<=9223372036854775807
 cx:w.cell? ⟨m,off+j*7,none⟩=some (.string x)
 lt2:j<l
 le2:l<=9223372036854775807
 cy:w.cell? ⟨f,d+j*7,none⟩=some (.string y)
 a1:(!(x.toList==y.toList))=false
 c0:w.cell? ⟨m,off+j*7+1,none⟩=some (v0)
 c1:w.cell? ⟨m,off+j*7+2,none⟩=some (v1)
 c2:w.cell? ⟨m,off+j*7+3,none⟩=some (v2)
 c3:w.cell? ⟨m,off+j*7+4,none⟩=some (v3)
 c4:w.cell? ⟨m,off+j*7+5,none⟩=some (v4)
 c5:w.cell? ⟨m,off+j*7+6,none⟩=some (v5)
 d0:w.cell? ⟨f,d+j*7+1,none⟩=some (z)
 d1:w.cell? ⟨f,d+j*7+2,none⟩=some (G)
 d2:w.cell? ⟨f,d+j*7+3,none⟩=some (E)
 d3:w.cell? ⟨f,d+j*7+4,none⟩=some (F)
 d4:w.cell? ⟨f,d+j*7+5,none⟩=some (A)
 d5:w.cell? ⟨f,d+j*7+6,none⟩=some (C)
 k1:Calls Tryz.prog 151 #[.agg #[v0,v1,v2,v3,v4,v5],.agg #[z,G,E,F,A,C]] w fun e w'=>e=.returned (.bool false)/\Below w.heap.size w w'
theorem Zxr (m off kl kc f d l g j:Nat) (x y:ByteArray) (v0 v1 v2 v3 v4 v5 z G E F A C:Value) (Q:Exit->Act->World->Prop) (base:Act) (L:World) (I:base.tmps.size=42) (u:Zk1 m off kl kc f d l g j x y v0 v1 v2 v3 v4 v5 z G E F A C base)
  (o:∀ w,Below L.heap.size L w->Zrw m off kl kc f d l g j x y v0 v1 v2 v3 v4 v5 z G E F A C w) (hQ:∀ c w,Zaf RSP base c->Below L.heap.size L w->c.eval (.tmp 41)=.bool true->Q .normal c w):(Code.region 6 RSP true).wp Tryz.prog Q base L:=by
 refine Zn (B:=Zk1 m off kl kc f d l g j x y v0 v1 v2 v3 v4 v5 z G E F A C) (T:=Zrw m off kl kc f d l g j x y v0 v1 v2 v3 v4 v5 z G E F A C) (n:=25) (k:=24) LSP ASP (Jku m off kl kc f d l g j x y v0 v1 v2 v3 v4 v5 z G E F A C) Jjf rfl (by kernel_rfl) (by kernel_rfl) (by kernel_rfl) (by rw [I];kernel_rfl) (fun c D=>⟨(Zc D (by kernel_rfl)).trans u.t0,(Zc D (by kernel_rfl)).trans u.t1,(Zc D (by kernel_rfl)).trans u.t5⟩) o ?_ (by decide) rfl rfl hQ
 clear I u o hQ
 iterate 25 (refine Zd ?_ (by
  intro c w u o hEq
  obtain ⟨t0,t1,t5⟩:=u
  obtain ⟨lt,le,cx,lt2,le2,cy,a1,c0,c1,c2,c3,c4,c5,d0,d1,d2,d3,d4,d5,k1⟩:=o
  have ec:=evc c
  have ef:=evf c
  dsimp only [ASP,LSP,Jku,nth,Zbm,Za2,Jc] at hEq |-
  first
  | exact ⟨by simp only [hEq],.inr ⟨by first | exact .inl rfl | exact .inr rfl,rfl⟩⟩
  | ((try refine ⟨by simp only [hEq],.inl ⟨rfl,?_⟩⟩);first | (refine Zk Tryz.call151 k1 ?_;simp only [List.map_toArray,List.map_cons,List.map_nil,hEq];done) | (refine .inl fun P af=>?_;(clear k1;dsimp only [Sig.oper];generalize c.eval=ρ at *;go_simp;done)) | (refine .inl fun P af=>?_;clear k1;dsimp only [Sig.oper];generalize c.eval=ρ at *;go_simp;simp only [decide_eq_true_eq,decide_eq_false_iff_not] at *;omega))))
 exact Zf
def Jkv (m off kl kc f d l g j:Nat) (x y:ByteArray) (v0 v1 v2 v3 v4 v5 z G E F A C:Value):List Value:=[.slice (some ⟨m,off,none⟩) kl kc,.int .i64 (j:Int),.pointer (some ⟨m,off+j*7,none⟩),.pointer (some ⟨m,off+j*7,none⟩),.string x,.slice (some ⟨f,d,none⟩) l g,.int .i64 (j:Int),.pointer (some ⟨f,d+j*7,none⟩),.pointer (some ⟨f,d+j*7,none⟩),.string y,.bool false,.bool false,.slice (some ⟨m,off,none⟩) kl kc,.int .i64 (j:Int),.pointer (some ⟨m,off+j*7,none⟩),.pointer (some ⟨m,off+j*7+1,none⟩),.agg #[v0,v1,v2,v3,v4,v5],.slice (some ⟨f,d,none⟩) l g,.int .i64 (j:Int),.pointer (some ⟨f,d+j*7,none⟩),.pointer (some ⟨f,d+j*7+1,none⟩),.agg #[z,G,E,F,A,C],.bool true,.bool false,.bool false]
structure Zrx (m off kl kc f d l g j:Nat) (x y:ByteArray) (v0 v1 v2 v3 v4 v5 z G E F A C:Value) (w:World):Prop where
 lt:j<kl
 le:kl<=9223372036854775807
 cx:w.cell? ⟨m,off+j*7,none⟩=some (.string x)
 lt2:j<l
 le2:l<=9223372036854775807
 cy:w.cell? ⟨f,d+j*7,none⟩=some (.string y)
 a1:(!(x.toList==y.toList))=false
 c0:w.cell? ⟨m,off+j*7+1,none⟩=some (v0)
 c1:w.cell? ⟨m,off+j*7+2,none⟩=some (v1)
 c2:w.cell? ⟨m,off+j*7+3,none⟩=some (v2)
 c3:w.cell? ⟨m,off+j*7+4,none⟩=some (v3)
 c4:w.cell? ⟨m,off+j*7+5,none⟩=some (v4)
 c5:w.cell? ⟨m,off+j*7+6,none⟩=some (v5)
 d0:w.cell? ⟨f,d+j*7+1,none⟩=some (z)
 d1:w.cell? ⟨f,d+j*7+2,none⟩=some (G)
 d2:w.cell? ⟨f,d+j*7+3,none⟩=some (E)
 d3:w.cell? ⟨f,d+j*7+4,none⟩=some (F)
 d4:w.cell? ⟨f,d+j*7+5,none⟩=some (A)
 d5:w.cell? ⟨f,d+j*7+6,none⟩=some (C)
 k1:Calls Tryz.prog 151 #[.agg #[v0,v1,v2,v3,v4,v5],.agg #[z,G,E,F,A,C]] w fun e w'=>e=.returned (.bool true)/\Below w.heap.size w w'
theorem Zxs (m off kl kc f d l g j:Nat) (x y:ByteArray) (v0 v1 v2 v3 v4 v5 z G E F A C:Value) (Q:Exit->Act->World->Prop) (base:Act) (L:World) (I:base.tmps.size=42) (u:Zk1 m off kl kc f d l g j x y v0 v1 v2 v3 v4 v5 z G E F A C base)
  (o:∀ w,Below L.heap.size L w->Zrx m off kl kc f d l g j x y v0 v1 v2 v3 v4 v5 z G E F A C w) (hQ:∀ c w,Zaf RSP base c->Below L.heap.size L w->c.eval (.tmp 41)=.bool false->Q .normal c w):(Code.region 6 RSP true).wp Tryz.prog Q base L:=by
 refine Zn (B:=Zk1 m off kl kc f d l g j x y v0 v1 v2 v3 v4 v5 z G E F A C) (T:=Zrx m off kl kc f d l g j x y v0 v1 v2 v3 v4 v5 z G E F A C) (n:=25) (k:=24) LSP ASP (Jkv m off kl kc f d l g j x y v0 v1 v2 v3 v4 v5 z G E F A C) Jjf rfl (by kernel_rfl) (by kernel_rfl) (by kernel_rfl) (by rw [I];kernel_rfl) (fun c D=>⟨(Zc D (by kernel_rfl)).trans u.t0,(Zc D (by kernel_rfl)).trans u.t1,(Zc D (by kernel_rfl)).trans u.t5⟩) o ?_ (by decide) rfl rfl hQ
 clear I u o hQ
 iterate 25 (refine Zd ?_ (by
  intro c w u o hEq
  obtain ⟨t0,t1,t5⟩:=u
  obtain ⟨lt,le,cx,lt2,le2,cy,a1,c0,c1,c2,c3,c4,c5,d0,d1,d2,d3,d4,d5,k1⟩:=o
  have ec:=evc c
  have ef:=evf c
  dsimp only [ASP,LSP,Jkv,nth,Zbm,Za2,Jc] at hEq |-
  first
  | exact ⟨by simp only [hEq],.inr ⟨by first | exact .inl rfl | exact .inr rfl,rfl⟩⟩
  | ((try refine ⟨by simp only [hEq],.inl ⟨rfl,?_⟩⟩);first | (refine Zk Tryz.call151 k1 ?_;simp only [List.map_toArray,List.map_cons,List.map_nil,hEq];done) | (refine .inl fun P af=>?_;(clear k1;dsimp only [Sig.oper];generalize c.eval=ρ at *;go_simp;done)) | (refine .inl fun P af=>?_;clear k1;dsimp only [Sig.oper];generalize c.eval=ρ at *;go_simp;simp only [decide_eq_true_eq,decide_eq_false_iff_not] at *;omega))))
 exact Zf
attribute [local go_sem] Oper.semAt_some
def Zac (a b:List ByteArray):Bool:=!((a.length:Int) != (b.length:Int))&&Za9 a b
def Zaa  : List (ByteArray × Zi)->List (ByteArray × Zi)->Bool
 | [],_=>true
 | _::_,[]=>true
 | p::r,q::r'=>(p.1.toList==q.1.toList)&&(Zb3 p.2 q.2&&Zaa r r')
def Zad (a b:List (ByteArray × Zi)):Bool:=!((a.length:Int) != (b.length:Int))&&Zaa a b
theorem Zme {ks t:List (ByteArray × Zi)} {j:Nat} {x y:ByteArray × Zi} (h:ks[j]?=some x) (h':t[j]?=some y):Zaa (ks.drop j) (t.drop j)=((x.1.toList==y.1.toList)&&(Zb3 x.2 y.2&&Zaa (ks.drop (j+1)) (t.drop (j+1)))):=by
 obtain ⟨hj,hx⟩:=List.getElem?_eq_some_iff.1 h
 obtain ⟨c7,c6⟩:=List.getElem?_eq_some_iff.1 h'
 rw [List.drop_eq_getElem_cons hj,hx,List.drop_eq_getElem_cons c7,c6,Zaa]
theorem Zmf (ks t:List ByteArray) (B:Nat) (ka a2:Option Addr) (kc g:Nat) (w:World) (hB:B<=w.heap.size) (hk:Zab B w ka ks) (a3:Zab B w a2 t) (h1:ks.length<=kc) (h2:kc<=9223372036854775807) (g1:t.length<=g) (g2:g<=9223372036854775807) :
  Calls Tryz.prog 105 #[.slice ka ks.length kc,.slice a2 t.length g] w fun e w'=>e=.returned (.bool (Zac ks t))/\Below w.heap.size w w':=by
 have a8:=Zb (And.intro hk a3)
 obtain ⟨res,K⟩:∃ r,Zac ks t=r:=⟨_,rfl⟩
 rw [K]
 unfold Zac at K
 have HR:=Zb K
 obtain ⟨n,hn⟩:∃ n,ks.length=n:=⟨_,rfl⟩
 obtain ⟨n2,N⟩:∃ n,t.length=n:=⟨_,rfl⟩
 have a0:=Zb hn
 have R:=Zb N
 rw [hn] at h1
 rw [N] at g1
 rw [hn,N] at HR
 rw [hn,N]
 clear hk a3 K hn N
 go_enter Tryz.func105,Tryz.ntmps105
 by_cases b5:((n:Int) != (n2:Int))=true
 ·have HF:Hid (res=false):=by
   show _=_
   rw [<- HR.out,b5];rfl
  go_wp2_with fail
  go_ret
  exact ⟨by rw [HF.out];rfl,Below.refl _ _⟩
 ·have z5:((n:Int) != (n2:Int))=false:=by simpa using b5
  clear b5
  have b4:Hid (Za9 ks t=res):=by
   show _=_
   rw [<- HR.out,z5];rfl
  have a4:Hid (n=n2):=by
   have a:=z5
   simp at a
   show _=_
   omega
  go_wp2_with fail
  clear HR z5
  obtain rfl:=a4.out
  clear a4
  go_loopw [5] (fun i wr=>∃ j:Nat,j<=n/\i=.int .i64 j/\Below w.heap.size w wr/\Za9 (ks.drop j) (t.drop j)=res) (fun i _=>n - (intOf i).toNat)
  case atStart=>exact ⟨0,Nat.zero_le _,rfl,Below.refl _ _,b4.out⟩
  case round =>
   obtain ⟨j,hj,rfl,X,b0⟩:=hrel
   have M:=Zb X
   have a6:=Zb b0
   have b9:w.heap.size<=wr.heap.size:=X.size
   clear X b0
   by_cases hlt:j<n
   ·have a9:(j:Int)<n:=by omega
    obtain ⟨xk,hx⟩:∃ q,ks[j]?=some q:=⟨_,List.getElem?_eq_getElem (by have:=a0.out;omega)⟩
    obtain ⟨Y,hy⟩:∃ q,t[j]?=some q:=⟨_,List.getElem?_eq_getElem (by have:=R.out;omega)⟩
    obtain ⟨m,off,rfl,b6,hc⟩:=(a8.out.1.below (M.out.mono hB)).resolve_left (by intro e;rw [e] at hx;simp at hx)
    obtain ⟨f,d,rfl,b1,a7⟩:=(a8.out.2.below (M.out.mono hB)).resolve_left (by intro e;rw [e] at hy;simp at hy)
    have cx:=(hc j (by have:=a0.out;omega)).1
    have cy:=(a7 j (by have:=R.out;omega)).1
    rw [List.getD_eq_getElem?_getD,hx] at cx
    rw [List.getD_eq_getElem?_getD,hy] at cy
    simp only [Option.getD_some] at cx cy
    have v:m<wr.heap.size:=by omega
    have s:f<wr.heap.size:=by omega
    have HE:Hid (res=((xk.toList==Y.toList)&&Za9 (ks.drop (j+1)) (t.drop (j+1)))):=by
     show _=_
     rw [<- a6.out,Zje hx hy]
    clear hx hy hc a7
    go_upto_region 6 with fail
    show (Code.region 6 RST true).wp _ _ _ _
    obtain ⟨b,u⟩:∃ b,(xk.toList==Y.toList)=b:=⟨_,rfl⟩
    cases b with
    | false =>
     have V:Hid ((!(xk.toList==Y.toList))=true):=by
      show _=_
      rw [u];rfl
     have U:=Zb u
     clear u
     refine Zxo m off n kc f d n g j xk Y _ _ _ rfl ⟨rfl,rfl,rfl⟩ ?_ ?_
     ·intro W o
      exact ⟨hlt,by omega,(o.cell (p:=⟨m,off+j,none⟩) v).trans cx,hlt,by omega,(o.cell (p:=⟨f,d+j,none⟩) s).trans cy,V.out⟩
     intro c W3 D H a5
     rw [Zj D [17,18,19,20,21,22,23,24,25] (by kernel_rfl)]
     simp only [List.foldl_cons,List.foldl_nil,List.setIfInBounds_toArray,List.set_cons_succ,List.set_cons_zero,show Zbd c 25=_ from a5]
     clear a5 D
     have O:=Zb (Za M.out H)
     clear H
     have HF:Hid (res=false):=by
      show _=_
      rw [HE.out,U.out];rfl
     go_wp2_with fail
     go_ret
     exact ⟨by rw [HF.out];rfl,O.out⟩
    | true =>
     have V:Hid ((!(xk.toList==Y.toList))=false):=by
      show _=_
      rw [u];rfl
     have U:=Zb u
     clear u
     refine Zxp m off n kc f d n g j xk Y _ _ _ rfl ⟨rfl,rfl,rfl⟩ ?_ ?_
     ·intro W o
      exact ⟨hlt,by omega,(o.cell (p:=⟨m,off+j,none⟩) v).trans cx,hlt,by omega,(o.cell (p:=⟨f,d+j,none⟩) s).trans cy,V.out⟩
     intro c W3 D H a5
     rw [Zj D [17,18,19,20,21,22,23,24,25] (by kernel_rfl)]
     simp only [List.foldl_cons,List.foldl_nil,List.setIfInBounds_toArray,List.set_cons_succ,List.set_cons_zero,show Zbd c 25=_ from a5]
     clear a5 D
     have O:=Zb (Za M.out H)
     clear H
     have R:Hid (Za9 (ks.drop (j+1)) (t.drop (j+1))=res):=by
      show _=_
      rw [HE.out,U.out];rfl
     go_wp2_with fail
     go_roundw
     case rel=>exact ⟨j+1,by omega,by go_num,O.out,R.out⟩
     case measure=>simp [intOf];omega
   ·have HF:Hid (res=true):=by
     show _=_
     rw [<- a6.out,List.drop_of_length_le (by have:=a0.out;omega)];rfl
    have a9:¬ (j:Int)<n:=by omega
    go_wp2_with fail
    go_ret
    exact ⟨by rw [HF.out];rfl,M.out⟩
theorem Zgf (ks t:List (ByteArray × Zi)) (B:Nat) (ka a2:Option Addr) (kc g:Nat) (w:World) (hB:B<=w.heap.size) (hk:Jd B w (.slice ka ks.length kc) ks) (a3:Jd B w (.slice a2 t.length g) t) :
  Calls Tryz.prog 106 #[.slice ka ks.length kc,.slice a2 t.length g] w fun e w'=>e=.returned (.bool (Zad ks t))/\Below w.heap.size w w':=by
 obtain ⟨a',c',e1,h1,h2,b8⟩:=hk
 obtain ⟨rfl,rfl⟩:ka=a'/\kc=c':=by injection e1 with e1 _ e2;exact ⟨e1,e2⟩
 obtain ⟨a',c',e2,g1,g2,b7⟩:=a3
 obtain ⟨rfl,rfl⟩:a2=a'/\g=c':=by injection e2 with e1 _ e2;exact ⟨e1,e2⟩
 have a8:=Zb (And.intro b8 b7)
 have hk:=trivial
 have a3:=trivial
 clear b8 b7 e1 e2
 obtain ⟨res,K⟩:∃ r,Zad ks t=r:=⟨_,rfl⟩
 rw [K]
 unfold Zad at K
 have HR:=Zb K
 obtain ⟨n,hn⟩:∃ n,ks.length=n:=⟨_,rfl⟩
 obtain ⟨n2,N⟩:∃ n,t.length=n:=⟨_,rfl⟩
 have a0:=Zb hn
 have R:=Zb N
 rw [hn] at h1
 rw [N] at g1
 rw [hn,N] at HR
 rw [hn,N]
 clear hk a3 K hn N
 go_enter Tryz.func106,Tryz.ntmps106
 by_cases b5:((n:Int) != (n2:Int))=true
 ·have HF:Hid (res=false):=by
   show _=_
   rw [<- HR.out,b5];rfl
  go_wp2_with fail
  go_ret
  exact ⟨by rw [HF.out];rfl,Below.refl _ _⟩
 ·have z5:((n:Int) != (n2:Int))=false:=by simpa using b5
  clear b5
  have b4:Hid (Zaa ks t=res):=by
   show _=_
   rw [<- HR.out,z5];rfl
  have a4:Hid (n=n2):=by
   have a:=z5
   simp at a
   show _=_
   omega
  go_wp2_with fail
  clear HR z5
  obtain rfl:=a4.out
  clear a4
  go_loopw [5] (fun i wr=>∃ j:Nat,j<=n/\i=.int .i64 j/\Below w.heap.size w wr/\Zaa (ks.drop j) (t.drop j)=res) (fun i _=>n - (intOf i).toNat)
  case atStart=>exact ⟨0,Nat.zero_le _,rfl,Below.refl _ _,b4.out⟩
  case round =>
   obtain ⟨j,hj,rfl,X,b0⟩:=hrel
   have M:=Zb X
   have a6:=Zb b0
   have b9:w.heap.size<=wr.heap.size:=X.size
   clear X b0
   by_cases hlt:j<n
   ·have a9:(j:Int)<n:=by omega
    obtain ⟨⟨xk,T⟩,hx⟩:∃ q,ks[j]?=some q:=⟨_,List.getElem?_eq_getElem (by have:=a0.out;omega)⟩
    obtain ⟨⟨Y,T'⟩,hy⟩:∃ q,t[j]?=some q:=⟨_,List.getElem?_eq_getElem (by have:=R.out;omega)⟩
    obtain ⟨m,off,rfl,b6,hc⟩:=a8.out.1.resolve_left (by intro e;rw [e] at hx;simp at hx)
    obtain ⟨f,d,rfl,b1,a7⟩:=a8.out.2.resolve_left (by intro e;rw [e] at hy;simp at hy)
    obtain ⟨cx,_,v0,v1,v2,v3,v4,v5,⟨c0,c1,c2,c3,c4,c5⟩,hv⟩:=(hc j _ hx).below (M.out.mono hB) b6
    obtain ⟨cy,_,z,G,E,F,A,C,⟨d0,d1,d2,d3,d4,d5⟩,hu⟩:=(a7 j _ hy).below (M.out.mono hB) b1
    simp only at cx cy hv hu
    have v:m<wr.heap.size:=by omega
    have s:f<wr.heap.size:=by omega
    have b3:=Zb (fun W (u:Below wr.heap.size wr W)=>Zxj T B _ _ T' W (by have:=u.size;omega) (hv.below (u.mono (by omega))) (hu.below (u.mono (by omega))))
    obtain ⟨ba,b2⟩:∃ b,Zb3 T T'=b:=⟨_,rfl⟩
    rw [b2] at b3
    have HE:Hid (res=((xk.toList==Y.toList)&&(ba&&Zaa (ks.drop (j+1)) (t.drop (j+1))))):=by
     show _=_
     rw [<- a6.out,Zme hx hy,b2]
    clear hx hy hc a7 hv hu b2
    go_upto_region 6 with fail
    show (Code.region 6 RSP true).wp _ _ _ _
    obtain ⟨b,u⟩:∃ b,(xk.toList==Y.toList)=b:=⟨_,rfl⟩
    cases b with
    | false =>
     have V:Hid ((!(xk.toList==Y.toList))=true):=by
      show _=_
      rw [u];rfl
     have U:=Zb u
     clear u
     refine Zxq m off n kc f d n g j xk Y v0 v1 v2 v3 v4 v5 z G E F A C _ _ _ rfl ⟨rfl,rfl,rfl⟩ ?_ ?_
     ·intro W o
      exact ⟨hlt,by omega,(o.cell (p:=⟨m,off+j*7,none⟩) v).trans cx,hlt,by omega,(o.cell (p:=⟨f,d+j*7,none⟩) s).trans cy,V.out⟩
     intro c W3 D H S
     rw [Zj D [17,18,19,20,21,22,23,24,25,26,27,28,29,30,31,32,33,34,35,36,37,38,39,40,41] (by kernel_rfl)]
     simp only [List.foldl_cons,List.foldl_nil,List.setIfInBounds_toArray,List.set_cons_succ,List.set_cons_zero,show Zbd c 41=_ from S]
     clear S D
     have O:=Zb (Za M.out H)
     clear H
     have HF:Hid (res=false):=by
      show _=_
      rw [HE.out,U.out];rfl
     go_wp2_with fail
     go_ret
     exact ⟨by rw [HF.out];rfl,O.out⟩
    | true =>
     have V:Hid ((!(xk.toList==Y.toList))=false):=by
      show _=_
      rw [u];rfl
     have U:=Zb u
     clear u
     cases ba with
     | false =>
      refine Zxr m off n kc f d n g j xk Y v0 v1 v2 v3 v4 v5 z G E F A C _ _ _ rfl ⟨rfl,rfl,rfl⟩ ?_ ?_
      ·intro W o
       exact ⟨hlt,by omega,(o.cell (p:=⟨m,off+j*7,none⟩) v).trans cx,hlt,by omega,(o.cell (p:=⟨f,d+j*7,none⟩) s).trans cy,V.out,(o.cell (p:=⟨m,off+j*7+1,none⟩) v).trans c0,(o.cell (p:=⟨m,off+j*7+2,none⟩) v).trans c1,(o.cell (p:=⟨m,off+j*7+3,none⟩) v).trans c2,(o.cell (p:=⟨m,off+j*7+4,none⟩) v).trans c3,(o.cell (p:=⟨m,off+j*7+5,none⟩) v).trans c4,(o.cell (p:=⟨m,off+j*7+6,none⟩) v).trans c5,(o.cell (p:=⟨f,d+j*7+1,none⟩) s).trans d0,(o.cell (p:=⟨f,d+j*7+2,none⟩) s).trans d1,(o.cell (p:=⟨f,d+j*7+3,none⟩) s).trans d2,(o.cell (p:=⟨f,d+j*7+4,none⟩) s).trans d3,(o.cell (p:=⟨f,d+j*7+5,none⟩) s).trans d4,(o.cell (p:=⟨f,d+j*7+6,none⟩) s).trans d5,b3.out W o⟩
      intro c W3 D H S
      rw [Zj D [17,18,19,20,21,22,23,24,25,26,27,28,29,30,31,32,33,34,35,36,37,38,39,40,41] (by kernel_rfl)]
      simp only [List.foldl_cons,List.foldl_nil,List.setIfInBounds_toArray,List.set_cons_succ,List.set_cons_zero,show Zbd c 41=_ from S]
      clear S D
      have O:=Zb (Za M.out H)
      clear H
      have HF:Hid (res=false):=by
       show _=_
       rw [HE.out,U.out];rfl
      go_wp2_with fail
      go_ret
      exact ⟨by rw [HF.out];rfl,O.out⟩
     | true =>
      refine Zxs m off n kc f d n g j xk Y v0 v1 v2 v3 v4 v5 z G E F A C _ _ _ rfl ⟨rfl,rfl,rfl⟩ ?_ ?_
      ·intro W o
       exact ⟨hlt,by omega,(o.cell (p:=⟨m,off+j*7,none⟩) v).trans cx,hlt,by omega,(o.cell (p:=⟨f,d+j*7,none⟩) s).trans cy,V.out,(o.cell (p:=⟨m,off+j*7+1,none⟩) v).trans c0,(o.cell (p:=⟨m,off+j*7+2,none⟩) v).trans c1,(o.cell (p:=⟨m,off+j*7+3,none⟩) v).trans c2,(o.cell (p:=⟨m,off+j*7+4,none⟩) v).trans c3,(o.cell (p:=⟨m,off+j*7+5,none⟩) v).trans c4,(o.cell (p:=⟨m,off+j*7+6,none⟩) v).trans c5,(o.cell (p:=⟨f,d+j*7+1,none⟩) s).trans d0,(o.cell (p:=⟨f,d+j*7+2,none⟩) s).trans d1,(o.cell (p:=⟨f,d+j*7+3,none⟩) s).trans d2,(o.cell (p:=⟨f,d+j*7+4,none⟩) s).trans d3,(o.cell (p:=⟨f,d+j*7+5,none⟩) s).trans d4,(o.cell (p:=⟨f,d+j*7+6,none⟩) s).trans d5,b3.out W o⟩
      intro c W3 D H S
      rw [Zj D [17,18,19,20,21,22,23,24,25,26,27,28,29,30,31,32,33,34,35,36,37,38,39,40,41] (by kernel_rfl)]
      simp only [List.foldl_cons,List.foldl_nil,List.setIfInBounds_toArray,List.set_cons_succ,List.set_cons_zero,show Zbd c 41=_ from S]
      clear S D
      have O:=Zb (Za M.out H)
      clear H
      have R:Hid (Zaa (ks.drop (j+1)) (t.drop (j+1))=res):=by
       show _=_
       rw [HE.out,U.out];rfl
      go_wp2_with fail
      go_roundw
      case rel=>exact ⟨j+1,by omega,by go_num,O.out,R.out⟩
      case measure=>simp [intOf];omega
   ·have HF:Hid (res=true):=by
     show _=_
     rw [<- a6.out,List.drop_of_length_le (by have:=a0.out;omega)];rfl
    have a9:¬ (j:Int)<n:=by omega
    go_wp2_with fail
    go_ret
    exact ⟨by rw [HF.out];rfl,M.out⟩
end
section
open Go.RowKit Go.Shelf
attribute [local go_sem] Oper.semAt_some
theorem Zie {w w1:World} {A A':Array Value} {ty:TypeId} (k:Below ((w.alloc (.cells A ty)).alloc (.cells A' ty)).heap.size ((w.alloc (.cells A ty)).alloc (.cells A' ty)) w1) :
  Below w.heap.size w w1/\(∀ i v,A[i]?=some v->w1.cell? ⟨w.heap.size,i,none⟩=some v)/\(∀ i v,A'[i]?=some v->w1.cell? ⟨w.heap.size+1,i,none⟩=some v):=by
 simp only [World.size_alloc] at k
 refine ⟨(((Below.refl _ w).alloc (Nat.le_refl _) _).alloc (by simp) _).trans (k.mono (by omega)),fun i v hi=>?_,fun i v hi=>?_⟩
 ·rw [k.cell (p:=⟨w.heap.size,i,none⟩) (by show w.heap.size<_;omega),World.cell?_of_block (Below.heap_alloc _ _ _ (by simp))]
  exact Zaj _ _ _ _ _ hi
 ·rw [k.cell (p:=⟨w.heap.size+1,i,none⟩) (by show w.heap.size+1<_;omega)]
  have:=Zaj (w.alloc (.cells A ty)) A' ty i v hi
  rwa [World.size_alloc] at this
def Ja (B:Nat) (w:World) (v:Value) (n:Zo):Prop:=∃ la lc d f,v=.agg #[.int .i64 n.id,.slice la n.labels.length lc,.slice d n.props.length f]/\(n.labels.length<=lc/\lc<=9223372036854775807)/\Zab B w la n.labels/\Jd B w (.slice d n.props.length f) n.props
def Ji (B:Nat) (w:World) (v:Value) (n:Jg):Prop:=∃ d f,v=.agg #[.int .i64 n.id,.int .i64 n.fr,.int .i64 n.tt,.string n.type,.slice d n.props.length f]/\Jd B w (.slice d n.props.length f) n.props
theorem Ja.below {B:Nat} {w w':World} (h:Below B w w') {v:Value} {n:Zo} (hn:Ja B w v n):Ja B w' v n:=by
 obtain ⟨la,lc,d,f,e,hs,S,m⟩:=hn
 exact ⟨la,lc,d,f,e,hs,S.below h,m.below h⟩
theorem Ji.below {B:Nat} {w w':World} (h:Below B w w') {v:Value} {n:Jg} (hn:Ji B w v n):Ji B w' v n:=by
 obtain ⟨d,f,e,m⟩:=hn
 exact ⟨d,f,e,m.below h⟩
theorem Ze9.lies {B:Nat} {w:World} {E off:Nat} {n:Zo} (h:Ze9 B w E off n):∃ v0 v1 v2,(w.cell? ⟨E,off,none⟩=some v0/\w.cell? ⟨E,off+1,none⟩=some v1/\w.cell? ⟨E,off+2,none⟩=some v2)/\Ja B w (.agg #[v0,v1,v2]) n:=by
 obtain ⟨la,lc,pv,hc,hs,S,m⟩:=h
 have j:=m
 obtain ⟨d,f,rfl,_⟩:=m
 exact ⟨_,_,_,hc,la,lc,d,f,rfl,hs,S,j⟩
theorem Zj3.lies {B:Nat} {w:World} {E off:Nat} {n:Jg} (h:Zj3 B w E off n):∃ v0 v1 v2 v3 v4,(w.cell? ⟨E,off,none⟩=some v0/\w.cell? ⟨E,off+1,none⟩=some v1/\w.cell? ⟨E,off+2,none⟩=some v2/\w.cell? ⟨E,off+3,none⟩=some v3/\w.cell? ⟨E,off+4,none⟩=some v4)/\Ji B w (.agg #[v0,v1,v2,v3,v4]) n:=by
 obtain ⟨pv,hc,hs,m⟩:=h
 have j:=m
 obtain ⟨d,f,rfl,_⟩:=m
 exact ⟨_,_,_,_,_,hc,d,f,rfl,j⟩
def Zu (a b:Zo):Bool:=(a.id==b.id)&&(Zac a.labels b.labels&&Zad a.props b.props)
def Je (a b:Jg):Bool:=(a.id==b.id)&&((a.fr==b.fr)&&((a.tt==b.tt)&&((a.type.toList==b.type.toList)&&Zad a.props b.props)))
theorem Zd9 (a b:Zo) (B:Nat) (v T:Value) (w:World) (R:B<=w.heap.size) (hv:Ja B w v a) (M:Ja B w T b):Calls Tryz.prog 45 #[v,T] w fun e w'=>e=.returned (.bool (Zu a b))/\Below w.heap.size w w':=by
 obtain ⟨res,c⟩:∃ r,Zu a b=r:=⟨_,rfl⟩
 rw [c]
 unfold Zu at c
 obtain ⟨la,lc,d,f,rfl,⟨h1,h2⟩,S,m⟩:=hv
 obtain ⟨N,L,o,q,rfl,⟨g1,g2⟩,Y,j⟩:=M
 have P:=Zb (fun W (k:Below w.heap.size w W)=>Zmf a.labels b.labels B la N lc L W (by have:=k.size;omega) (S.below (k.mono R)) (Y.below (k.mono R)) h1 h2 g1 g2)
 have y:=Zb (fun W (k:Below w.heap.size w W)=>Zgf a.props b.props B d o f q W (by have:=k.size;omega) (m.below (k.mono R)) (j.below (k.mono R)))
 obtain ⟨bt,Q⟩:∃ x,Zac a.labels b.labels=x:=⟨_,rfl⟩
 obtain ⟨bp,t⟩:∃ x,Zad a.props b.props=x:=⟨_,rfl⟩
 rw [Q] at P
 rw [t] at y
 rw [Q,t] at c
 obtain ⟨xi,xl,xp⟩:=a
 obtain ⟨H,yl,yp⟩:=b
 simp only at P y c |-
 have I:=Zb c
 generalize xl.length=ll at *
 generalize yl.length=ll2 at *
 generalize xp.length=pl at *
 generalize yp.length=pl2 at *
 clear S Y m j Q t c h1 h2 g1 g2
 obtain ⟨z,s⟩:∃ z,((w.alloc (.cells #[.int .i64 xi,.slice la ll lc,.slice d pl f] 47)).alloc (.cells #[.int .i64 H,.slice N ll2 L,.slice o pl2 q] 47))=z:=⟨_,rfl⟩
 have HX:Hid (∀ W,Below z.heap.size z W->Below w.heap.size w W/\(∀ i v,(#[.int .i64 xi,.slice la ll lc,.slice d pl f]:Array Value)[i]?=some v->W.cell? ⟨w.heap.size,i,none⟩=some v)/\(∀ i v,(#[.int .i64 H,.slice N ll2 L,.slice o pl2 q]:Array Value)[i]?=some v->W.cell? ⟨w.heap.size+1,i,none⟩=some v)):=fun W k=>by
  rw [<- s] at k
  exact Zie k
 have C:=Zb s
 obtain ⟨G,g,h⟩:=HX.out z (Below.refl _ _)
 have q0:=g 0 _ rfl
 have q1:=g 1 _ rfl
 have w0:=h 0 _ rfl
 have w1:=h 1 _ rfl
 have l:=Zb G
 clear s g h G
 go_enter Tryz.func45,Tryz.ntmps45
 go_upto_region 1 with fail
 rw [C.out]
 clear C
 by_cases a1:xi=H
 ·have D:(xi==H)=true:=by simp [a1]
  clear a1
  go_wp2_with fail
  refine (P.out z l.out).mono ?_
  rintro e w2 ⟨rfl,U⟩
  obtain ⟨X,g,h⟩:=HX.out w2 U
  have q2:=g 2 _ rfl
  have a0:=h 2 _ rfl
  have O:=Zb X
  clear g h X U q0 q1 w0 w1
  cases bt with
  | false =>
   have u:Hid (res=false):=by
    show _=_
    rw [<- I.out,D];rfl
   go_wp2_with fail
   go_ret
   exact ⟨by rw [u.out];rfl,O.out⟩
  | true =>
   have u:Hid (res=bp):=by
    show _=_
    rw [<- I.out,D];rfl
   go_wp2_with fail
   refine (y.out w2 O.out).mono ?_
   rintro e w3 ⟨rfl,F⟩
   have K:=Zb (Za O.out F)
   clear F
   go_wp2_with fail
   go_ret
   exact ⟨by rw [u.out];rfl,K.out⟩
 ·have D:(xi==H)=false:=by simp [a1]
  clear a1
  have u:Hid (res=false):=by
   show _=_
   rw [<- I.out,D];rfl
  go_wp2_with fail
  go_ret
  exact ⟨by rw [u.out];rfl,l.out⟩
theorem Zfd (a b:Jg) (B:Nat) (v T:Value) (w:World) (R:B<=w.heap.size) (hv:Ji B w v a) (M:Ji B w T b):Calls Tryz.prog 46 #[v,T] w fun e w'=>e=.returned (.bool (Je a b))/\Below w.heap.size w w':=by
 obtain ⟨res,c⟩:∃ r,Je a b=r:=⟨_,rfl⟩
 rw [c]
 unfold Je at c
 obtain ⟨d,f,rfl,m⟩:=hv
 obtain ⟨o,q,rfl,j⟩:=M
 have y:=Zb (fun W (k:Below w.heap.size w W)=>Zgf a.props b.props B d o f q W (by have:=k.size;omega) (m.below (k.mono R)) (j.below (k.mono R)))
 obtain ⟨bp,t⟩:∃ x,Zad a.props b.props=x:=⟨_,rfl⟩
 rw [t] at y
 rw [t] at c
 obtain ⟨xi,xf,xt,xs,xp⟩:=a
 obtain ⟨H,yf,yt,ys,yp⟩:=b
 simp only at y c |-
 have I:=Zb c
 generalize xp.length=pl at *
 generalize yp.length=pl2 at *
 clear m j t c
 obtain ⟨z,s⟩:∃ z,((w.alloc (.cells #[.int .i64 xi,.int .i64 xf,.int .i64 xt,.string xs,.slice d pl f] 49)).alloc (.cells #[.int .i64 H,.int .i64 yf,.int .i64 yt,.string ys,.slice o pl2 q] 49))=z:=⟨_,rfl⟩
 have C:=Zb s
 obtain ⟨G,g,h⟩:Below w.heap.size w z/\(∀ i v,(#[.int .i64 xi,.int .i64 xf,.int .i64 xt,.string xs,.slice d pl f]:Array Value)[i]?=some v->z.cell? ⟨w.heap.size,i,none⟩=some v)/\(∀ i v,(#[.int .i64 H,.int .i64 yf,.int .i64 yt,.string ys,.slice o pl2 q]:Array Value)[i]?=some v->z.cell? ⟨w.heap.size+1,i,none⟩=some v):=by
  rw [<- s]
  exact Zie (Below.refl _ _)
 have q0:=g 0 _ rfl
 have w0:=h 0 _ rfl
 have q1:=g 1 _ rfl
 have w1:=h 1 _ rfl
 have q2:=g 2 _ rfl
 have w2:=h 2 _ rfl
 have q3:=g 3 _ rfl
 have w3:=h 3 _ rfl
 have q4:=g 4 _ rfl
 have w4:=h 4 _ rfl
 have l:=Zb G
 clear s g h G
 go_enter Tryz.func46,Tryz.ntmps46
 go_upto_region 1 with fail
 rw [C.out]
 clear C
 by_cases az1:(xi==H)=false
 ·have D:=az1
  have u:Hid (res=false):=by
   show _=_
   rw [<- I.out,D];rfl
  go_wp2_with fail
  go_ret
  exact ⟨by rw [u.out];rfl,l.out⟩
 ·have D:(xi==H)=true:=by simpa using az1
  clear az1
  by_cases az2:(xf==yf)=false
  ·have V:=az2
   have u:Hid (res=false):=by
    show _=_
    rw [<- I.out,D,V];rfl
   go_wp2_with fail
   go_ret
   exact ⟨by rw [u.out];rfl,l.out⟩
  ·have V:(xf==yf)=true:=by simpa using az2
   clear az2
   by_cases az3:(xt==yt)=false
   ·have z3:=az3
    have u:Hid (res=false):=by
     show _=_
     rw [<- I.out,D,V,z3];rfl
    go_wp2_with fail
    go_ret
    exact ⟨by rw [u.out];rfl,l.out⟩
   ·have z3:(xt==yt)=true:=by simpa using az3
    clear az3
    by_cases az4:(xs.toList==ys.toList)=false
    ·have z4:=az4
     have u:Hid (res=false):=by
      show _=_
      rw [<- I.out,D,V,z3,z4];rfl
     go_wp2_with fail
     go_ret
     exact ⟨by rw [u.out];rfl,l.out⟩
    ·have z4:(xs.toList==ys.toList)=true:=by simpa using az4
     clear az4
     have u:Hid (res=bp):=by
      show _=_
      rw [<- I.out,D,V,z3,z4];rfl
     go_wp2_with fail
     refine (y.out z l.out).mono ?_
     rintro e w3 ⟨rfl,F⟩
     have K:=Zb (Za l.out F)
     clear F
     go_wp2_with fail
     go_ret
     exact ⟨by rw [u.out];rfl,K.out⟩
end
section
open Go.RowKit Go.Shelf
attribute [local go_sem] Oper.semAt_some
def Zgn (m B:Nat) (w:World) (cs:List Value) (r:Jg):Prop:=∃ i,cs=[.int .i64 r.id,.int .i64 r.fr,.int .i64 r.tt,.string r.type,i]/\Zb6 m B w i r.props
theorem Zgo (m:Nat):Jd3 m (Zgn m) where
 keep:=fun K ⟨i,e,s⟩=>⟨i,e,s.keep K⟩
 mono:=fun G ⟨i,e,s⟩=>⟨i,e,s.mono (Nat.le_refl _) G⟩
def Zdf (m B:Nat) (w:World) (cs:List Value) (n:Zo):Prop:=∃ la lc i,cs=[.int .i64 n.id,.slice la n.labels.length lc,i]/\(n.labels.length<=lc/\lc<=maxLen)/\Zfs m B w la n.labels/\Zb6 m B w i n.props
theorem Zep (m:Nat):Jd3 m (Zdf m) where
 keep:=fun K ⟨la,lc,i,e,M,h1,s⟩=>⟨la,lc,i,e,M,h1.keep K,s.keep K⟩
 mono:=fun G ⟨la,lc,i,e,M,h1,s⟩=>⟨la,lc,i,e,M,h1.mono (Nat.le_refl _) G,s.mono (Nat.le_refl _) G⟩
set_option maxRecDepth 100000 in
set_option maxHeartbeats 4000000 in
theorem Zjo (r:Jg) (v:Value) (B:Nat) (w:World) (G:B<=w.heap.size) (hv:Ji B w v r) (hn:r.props.length<=2000000) (Y:∀ q ∈ r.props,q.2.total<=2000000) :
  Calls Tryz.prog 38 #[v] w fun e w'=>∃ cs,e=.returned (.agg cs.toArray)/\Zgn w.heap.size w'.heap.size w' cs r/\Below w.heap.size w w':=by
 obtain ⟨pa,pc,rfl,s⟩:=hv
 have E:=Zb (fun W (X:Below w.heap.size w W)=>Zju _ r.props B W (by have:=X.size;omega) (s.below (X.mono G)) hn Y)
 obtain ⟨xi,fr,tt,ty,x⟩:=r
 simp only at E |-
 obtain ⟨pl,C⟩:∃ n,x.length=n:=⟨_,rfl⟩
 rw [C] at E |-
 have a1:=Zb C
 clear s hn Y C
 go_enter Tryz.func38,Tryz.ntmps38
 go_upto_region 1 with fail
 generalize t:World.alloc _ _=W1
 have I:Hid (Below w.heap.size w W1):=by rw [<- t];exact ((Below.refl _ _).alloc (Nat.le_refl _) _).alloc (by simp) _
 have u:Hid (Rec W1 w.heap.size #[.int .i64 xi,.int .i64 fr,.int .i64 tt,.string ty,.slice pa pl pc] 49):=by rw [<- t];exact (Zl _ _ _).alloc _
 have A:Hid (Rec W1 (w.heap.size+1) #[.int .i64 0,.int .i64 0,.int .i64 0,.string ⟨#[]⟩,.slice none 0 0] 49):=by
  have h:=Zl (w.alloc (.cells #[.int .i64 xi,.int .i64 fr,.int .i64 tt,.string ty,.slice pa pl pc] 49)) #[.int .i64 0,.int .i64 0,.int .i64 0,.string ⟨#[]⟩,.slice none 0 0] 49
  rw [World.size_alloc,t] at h
  exact h
 clear t
 have H:=u.out.cell 4 rfl
 go_wp2_with fail
 refine (E.out W1 I.out).mono ?_
 rintro e w2 ⟨v2,rfl,V,y⟩
 have HL:=Zb V
 obtain ⟨f,d,rfl,_⟩:=V
 have N:=Zb (Za I.out y)
 have F:=Zb (u.out.below y u.out.lt)
 have U:=Zb (A.out.below y A.out.lt)
 have a0:w.heap.size+2<=W1.heap.size:=by have:=A.out.lt;omega
 clear y H u A
 have H:=F.out.cell 4 rfl
 have T:=F.out.z 4
 go_upto_region 2 with fail
 generalize g:World.setCell _ _ _=W3
 have l:Hid (Rec W3 w.heap.size #[.int .i64 xi,.int .i64 fr,.int .i64 tt,.string ty,.slice f x.length d] 49):=by
  rw [<- g];exact F.out.set 4 _
 have c:Hid (Rec W3 (w.heap.size+1) #[.int .i64 0,.int .i64 0,.int .i64 0,.string ⟨#[]⟩,.slice none 0 0] 49):=by
  rw [<- g];exact U.out.other (by omega)
 have L:Hid (Below w.heap.size w W3):=by rw [<- g];exact N.out.setCell (p:=⟨w.heap.size,4,none⟩) (Nat.le_refl _) _
 have R:W3.heap.size=w2.heap.size:=by rw [<- g];simp
 have S:Hid (Zb6 W1.heap.size W3.heap.size W3 (.slice f x.length d) x):=by
  show Zb6 _ _ _ _ _
  rw [R]
  refine HL.out.keep fun b o h1 h2=>?_
  have D:w.heap.size≠b:=by omega
  have e:W3.heap[b]?=w2.heap[b]?:=by rw [<- g,Below.heap_setCell _ _ _ _ (Ne.symm D)]
  exact ⟨World.cell?_of_block e,by unfold World.frozen?;rw [e]⟩
 clear g H T
 have r0:=l.out.cell 0 rfl
 have r1:=l.out.cell 1 rfl
 have r2:=l.out.cell 2 rfl
 have r3:=l.out.cell 3 rfl
 have H:=l.out.cell 4 rfl
 have q0:=c.out.cell 0 rfl
 have z0:=c.out.z 0
 have q1:=c.out.cell 1 rfl
 have z1:=c.out.z 1
 have q2:=c.out.cell 2 rfl
 have z2:=c.out.z 2
 have q3:=c.out.cell 3 rfl
 have z3:=c.out.z 3
 have q4:=c.out.cell 4 rfl
 have T:=c.out.z 4
 go_wp2_with fail
 generalize j:World.setCell _ _ _=W4
 have k:Hid (Rec W4 (w.heap.size+1) #[.int .i64 xi,.int .i64 fr,.int .i64 tt,.string ty,.slice f x.length d] 49):=by
  rw [<- j]
  exact (((((c.out.set 0 _).set 1 _).set 2 _).set 3 _).set 4 _)
 have Q:Hid (Below w.heap.size w W4):=by
  rw [<- j]
  exact (((((L.out.setCell (p:=⟨w.heap.size+1,0,none⟩) (Nat.le_succ _) _).setCell (p:=⟨w.heap.size+1,1,none⟩) (Nat.le_succ _) _).setCell (p:=⟨w.heap.size+1,2,none⟩) (Nat.le_succ _) _).setCell (p:=⟨w.heap.size+1,3,none⟩) (Nat.le_succ _) _).setCell (p:=⟨w.heap.size+1,4,none⟩) (Nat.le_succ _) _)
 have P:W4.heap.size=W3.heap.size:=by rw [<- j];simp
 have O:Hid (Zb6 w.heap.size W4.heap.size W4 (.slice f x.length d) x):=by
  show Zb6 _ _ _ _ _
  rw [P]
  refine Zb6.mono (by omega) (Nat.le_refl _) (S.out.keep fun b o h1 h2=>?_)
  have D:w.heap.size+1≠b:=by omega
  have e:W4.heap[b]?=W3.heap[b]?:=by
   rw [<- j]
   repeat rw [Below.heap_setCell _ _ _ _ (Ne.symm D)]
  exact ⟨World.cell?_of_block e,by unfold World.frozen?;rw [e]⟩
 clear j r0 r1 r2 r3 H q0 q1 q2 q3 q4 z0 z1 z2 z3 T
 have p0:=k.out.cell 0 rfl
 have p1:=k.out.cell 1 rfl
 have p2:=k.out.cell 2 rfl
 have p3:=k.out.cell 3 rfl
 have p4:=k.out.cell 4 rfl
 refine bodyPost_ret (v:=.agg #[.int .i64 xi,.int .i64 fr,.int .i64 tt,.string ty,.slice f x.length d]) ?_ rfl ⟨[.int .i64 xi,.int .i64 fr,.int .i64 tt,.string ty,.slice f x.length d],rfl,⟨_,rfl,O.out⟩,Q.out⟩
 simp [results,Tryz.results38,go_sem,p0,p1,p2,p3,p4]
end
section
open Go.RowKit Go.Shelf
attribute [local go_sem] Oper.semAt_some
set_option maxRecDepth 100000 in
set_option maxHeartbeats 4000000 in
theorem Zg9 (r:Zo) (v:Value) (B:Nat) (w:World) (hB:B<=w.heap.size) (hv:Ja B w v r) (hm:r.labels.length<=2000000) (hn:r.props.length<=2000000) (ht:∀ q ∈ r.props,q.2.total<=2000000) :
  Calls Tryz.prog 36 #[v] w fun e w'=>∃ cs,e=.returned (.agg cs.toArray)/\Zdf w.heap.size w'.heap.size w' cs r/\Below w.heap.size w w':=by
 obtain ⟨la,lc,pa,pc,rfl,_,hk,hp⟩:=hv
 have M:=Zb (fun W (F:Below w.heap.size w W)=>Zk5 B la lc r.labels W (hk.below (F.mono hB)) hm)
 have G:=Zb (fun W (F:Below w.heap.size w W)=>Zju _ r.props B W (by have:=F.size;omega) (hp.below (F.mono hB)) hn ht)
 obtain ⟨xi,U,K⟩:=r
 simp only at M G |-
 generalize E:U.length=ll at M |-
 generalize a5:K.length=pl at G |-
 have a7:=Zb E
 clear hk hp hm hn ht E a5
 go_enter Tryz.func36,Tryz.ntmps36
 go_upto_region 1 with fail
 generalize y:World.alloc _ _=W1
 have k:Hid (Below w.heap.size w W1):=by rw [<- y];exact ((Below.refl _ _).alloc (Nat.le_refl _) _).alloc (by simp) _
 have C:Hid (Rec W1 w.heap.size #[.int .i64 xi,.slice la ll lc,.slice pa pl pc] 47):=by rw [<- y];exact (Zl _ _ _).alloc _
 have x:Hid (Rec W1 (w.heap.size+1) #[.int .i64 0,.slice none 0 0,.slice none 0 0] 47):=by
  have h:=Zl (w.alloc (.cells #[.int .i64 xi,.slice la ll lc,.slice pa pl pc] 47)) #[.int .i64 0,.slice none 0 0,.slice none 0 0] 47
  rw [World.size_alloc,y] at h
  exact h
 clear y
 have a1:=C.out.cell 1 rfl
 have a2:=C.out.cell 2 rfl
 go_region_with (first | (refine (M.out _ (by first | exact k.out | exact k.out.drew | exact k.out.drew.drew)).mono ?_;rintro e R ⟨t,D,rfl,hs,O,j⟩;have b0:=Zb hs;have b5:=Zb O;have c:Hid (Below W1.heap.size W1 R):=⟨j.1,j.2,j.3,j.4,j.5⟩;have L:=Zb (C.out.below c.out C.out.lt);have b2:=L.out.cell 2 rfl;clear hs O j) | (refine (G.out _ (by first | exact Za k.out c.out | exact (Za k.out c.out).drew)).mono ?_;rintro e n ⟨v3,rfl,P,g⟩;have b3:=Zb P;obtain ⟨l,m,rfl,Y,X,a4⟩:=P;clear Y X a4;have d:Hid (Below R.heap.size R n):=⟨g.1,g.2,g.3,g.4,g.5⟩;have u:=Zb (L.out.below d.out L.out.lt);have y1:=u.out.cell 1 rfl;have y2:=u.out.cell 2 rfl;have z1:=u.out.z 1;have z2:=u.out.z 2;clear g))
 all_goals
  clear a1 a2 b2 y1 y2 z1 z2
  have b6:w.heap.size+2<=W1.heap.size:=by have:=x.out.lt;omega
  have b1:=Zb ((x.out.below c.out x.out.lt).below d.out (x.out.below c.out x.out.lt).lt)
  have V:=Zb (Za (Za k.out c.out) d.out)
  have a0:Hid (Zfs W1.heap.size n.heap.size n t U):=(Zfs.keep (Zde d.out (Nat.le_refl _)) b5.out).mono (Nat.le_refl _) d.out.size
  have Q:Hid (Zb6 R.heap.size n.heap.size n (.slice l K.length m) K):=b3.out
  have b7:W1.heap.size<=R.heap.size:=c.out.size
  generalize i:World.setCell _ _ _=W4
  have H:Hid (Rec W4 w.heap.size #[.int .i64 xi,.slice t ll D,.slice l K.length m] 47):=by
   rw [<- i];exact (u.out.set 1 _).set 2 _
  have f:Hid (Rec W4 (w.heap.size+1) #[.int .i64 0,.slice none 0 0,.slice none 0 0] 47):=by
   rw [<- i];exact (b1.out.other (by omega)).other (by omega)
  have a9:Hid (Below w.heap.size w W4):=by rw [<- i];exact (V.out.setCell (p:=⟨w.heap.size,1,none⟩) (Nat.le_refl _) _).setCell (p:=⟨w.heap.size,2,none⟩) (Nat.le_refl _) _
  have a8:W4.heap.size=n.heap.size:=by rw [<- i];simp
  have b4:Hid (∀ b,w.heap.size≠b->W4.heap[b]?=n.heap[b]?):=fun b F=>by
   rw [<- i]
   repeat rw [Below.heap_setCell _ _ _ _ (Ne.symm F)]
  clear i
  have r0:=H.out.cell 0 rfl
  have r1:=H.out.cell 1 rfl
  have r2:=H.out.cell 2 rfl
  have q0:=f.out.cell 0 rfl
  have q1:=f.out.cell 1 rfl
  have q2:=f.out.cell 2 rfl
  have f0:=f.out.z 0
  have f1:=f.out.z 1
  have f2:=f.out.z 2
  go_wp2_with fail
  generalize s:World.setCell _ _ _=W5
  have I:Hid (Rec W5 (w.heap.size+1) #[.int .i64 xi,.slice t ll D,.slice l K.length m] 47):=by
   rw [<- s];exact ((f.out.set 0 _).set 1 _).set 2 _
  have a3:Hid (Below w.heap.size w W5):=by
   rw [<- s]
   exact ((a9.out.setCell (p:=⟨w.heap.size+1,0,none⟩) (Nat.le_succ _) _).setCell (p:=⟨w.heap.size+1,1,none⟩) (Nat.le_succ _) _).setCell (p:=⟨w.heap.size+1,2,none⟩) (Nat.le_succ _) _
  have T:W5.heap.size=n.heap.size:=by rw [<- s];simp [a8]
  have S:Hid (∀ b,W1.heap.size<=b->W5.heap[b]?=n.heap[b]?):=fun b F=>by
   have a6:w.heap.size+1≠b:=by omega
   rw [<- s]
   repeat rw [Below.heap_setCell _ _ _ _ (Ne.symm a6)]
   exact b4.out b (by omega)
  have N:Hid (Zb9 W1.heap.size n.heap.size n W5):=fun b o h1 h2=>⟨World.cell?_of_block (S.out b h1),by unfold World.frozen?;rw [S.out b h1]⟩
  clear s r0 r1 r2 q0 q1 q2 f0 f1 f2
  have p0:=I.out.cell 0 rfl
  have p1:=I.out.cell 1 rfl
  have p2:=I.out.cell 2 rfl
  have E:=a7.out
  subst E
  refine bodyPost_ret (v:=.agg #[.int .i64 xi,.slice t U.length D,.slice l K.length m]) ?_ rfl ⟨[.int .i64 xi,.slice t U.length D,.slice l K.length m],rfl,⟨_,_,_,rfl,b0.out,?_,?_⟩,a3.out⟩
  ·simp [results,Tryz.results36,go_sem,p0,p1,p2]
  ·rw [T]
   exact (a0.out.keep N.out).mono (by omega) (Nat.le_refl _)
  ·rw [T]
   exact Zb6.mono (by omega) (Nat.le_refl _) (Q.out.keep fun b o h1 h2=>N.out b o (by omega) h2)
end
