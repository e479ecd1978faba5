import Derived.Test.YteddjlbfbpecjaaGreatDoorJoin18
import Derived.Test.YteddjlbfbpecjaaGreatDoorJoin23
namespace Go.Proofs.YteddjlbfbpecjaaGreatDoor
set_option maxHeartbeats 8000000
set_option maxRecDepth 100000
set_option linter.all false
section
open Go.RowKit Go.Shelf Go.WideShapes
noncomputable def RGN  : Array Oper:=Zy Tryz.f15 6
def LGN  : List Sig:=[⟨44,.fieldAddr 25 (.tmp 2) 0,0,none⟩,⟨45,.load 22 (.tmp 44),22,none⟩,⟨46,.move (.tmp 5),3,none⟩,⟨47,.indexAddr 22 (.tmp 45) (.tmp 46),0,none⟩,⟨48,.load 47 (.tmp 47),47,none⟩,⟨49,.fieldAddr 25 (.tmp 3) 0,0,none⟩,⟨50,.load 22 (.tmp 49),22,none⟩,⟨51,.move (.tmp 5),3,none⟩,⟨52,.indexAddr 22 (.tmp 50) (.tmp 51),0,none⟩,⟨53,.load 47 (.tmp 52),47,none⟩,⟨54,.call { callee:=.value (.func 45),args:=#[.tmp 48,.tmp 53],argTypes:=#[47,47] },4,none⟩,⟨55,.unOp .not 4 (.tmp 54),4,none⟩]
theorem Jkw  : Jh RGN=LGN.map some:=by kernel_rfl
def AGN  : List (List Nat):=[[],[0],[],[1,2],[3],[],[5],[],[6,7],[8],[4,9],[10]]
structure Zry (G H m off kl kc f d l o j:Nat) (v0 v1 v2 A z C:Value) (c:Act):Prop where
 t2:c.eval (.tmp 2)=.pointer (some ⟨G,0,none⟩)
 t3:c.eval (.tmp 3)=.pointer (some ⟨H,0,none⟩)
 t5:c.eval (.tmp 5)=.int .i64 (j:Int)
def Jkx (G H m off kl kc f d l o j:Nat) (v0 v1 v2 A z C:Value):List Value:=[.pointer (some ⟨G,0,none⟩),.slice (some ⟨m,off,none⟩) kl kc,.int .i64 (j:Int),.pointer (some ⟨m,off+j*3,none⟩),.agg #[v0,v1,v2],.pointer (some ⟨H,0,none⟩),.slice (some ⟨f,d,none⟩) l o,.int .i64 (j:Int),.pointer (some ⟨f,d+j*3,none⟩),.agg #[A,z,C],.bool false,.bool true]
structure Zrz (G H m off kl kc f d l o j:Nat) (v0 v1 v2 A z C:Value) (w:World):Prop where
 g:w.cell? ⟨G,0,none⟩=some (.slice (some ⟨m,off,none⟩) kl kc)
 lt:j<kl
 le:kl<=9223372036854775807
 c0:w.cell? ⟨m,off+j*3,none⟩=some (v0)
 c1:w.cell? ⟨m,off+j*3+1,none⟩=some (v1)
 c2:w.cell? ⟨m,off+j*3+2,none⟩=some (v2)
 h:w.cell? ⟨H,0,none⟩=some (.slice (some ⟨f,d,none⟩) l o)
 lt2:j<l
 le2:l<=9223372036854775807
 d0:w.cell? ⟨f,d+j*3,none⟩=some (A)
 d1:w.cell? ⟨f,d+j*3+1,none⟩=some (z)
 d2:w.cell? ⟨f,d+j*3+2,none⟩=some (C)
 k1:Calls Tryz.prog 45 #[.agg #[v0,v1,v2],.agg #[A,z,C]] w fun e w'=>e=.returned (.bool false)/\Below w.heap.size w w'
theorem Zxt (G H m off kl kc f d l o j:Nat) (v0 v1 v2 A z C:Value) (Q:Exit->Act->World->Prop) (base:Act) (E:World) (L:base.tmps.size=75) (u:Zry G H m off kl kc f d l o j v0 v1 v2 A z C base)
  (s:∀ w,Below E.heap.size E w->Zrz G H m off kl kc f d l o j v0 v1 v2 A z C w) (hQ:∀ c w,Zaf RGN base c->Below E.heap.size E w->c.eval (.tmp 55)=.bool true->Q .normal c w):(Code.region 6 RGN true).wp Tryz.prog Q base E:=by
 refine Zn (B:=Zry G H m off kl kc f d l o j v0 v1 v2 A z C) (T:=Zrz G H m off kl kc f d l o j v0 v1 v2 A z C) (n:=12) (k:=11) LGN AGN (Jkx G H m off kl kc f d l o j v0 v1 v2 A z C) Jkw rfl (by kernel_rfl) (by kernel_rfl) (by kernel_rfl) (by rw [L];kernel_rfl) (fun c F=>⟨(Zc F (by kernel_rfl)).trans u.t2,(Zc F (by kernel_rfl)).trans u.t3,(Zc F (by kernel_rfl)).trans u.t5⟩) s ?_ (by decide) rfl rfl hQ
 clear L u s hQ
 iterate 12 (refine Zd ?_ (by
  intro c w u s hEq
  obtain ⟨t2,t3,t5⟩:=u
  obtain ⟨g,lt,le,c0,c1,c2,h,lt2,le2,d0,d1,d2,k1⟩:=s
  have ec:=evc c
  have ef:=evf c
  dsimp only [AGN,LGN,Jkx,nth,Zbm,Za2,Jc] at hEq |-
  first
  | exact ⟨by simp only [hEq],.inr ⟨by first | exact .inl rfl | exact .inr rfl,rfl⟩⟩
  | ((try refine ⟨by simp only [hEq],.inl ⟨rfl,?_⟩⟩);first | (refine Zk Tryz.call45 k1 ?_;simp only [List.map_toArray,List.map_cons,List.map_nil,hEq];done) | (refine .inl fun pos af=>?_;(clear k1;dsimp only [Sig.oper];generalize c.eval=ρ at *;go_simp;done)))))
 exact Zf
def Jky (G H m off kl kc f d l o j:Nat) (v0 v1 v2 A z C:Value):List Value:=[.pointer (some ⟨G,0,none⟩),.slice (some ⟨m,off,none⟩) kl kc,.int .i64 (j:Int),.pointer (some ⟨m,off+j*3,none⟩),.agg #[v0,v1,v2],.pointer (some ⟨H,0,none⟩),.slice (some ⟨f,d,none⟩) l o,.int .i64 (j:Int),.pointer (some ⟨f,d+j*3,none⟩),.agg #[A,z,C],.bool true,.bool false]
structure Zr0 (G H m off kl kc f d l o j:Nat) (v0 v1 v2 A z C:Value) (w:World):Prop where
 g:w.cell? ⟨G,0,none⟩=some (.slice (some ⟨m,off,none⟩) kl kc)
 lt:j<kl
 le:kl<=9223372036854775807
 c0:w.cell? ⟨m,off+j*3,none⟩=some (v0)
 c1:w.cell? ⟨m,off+j*3+1,none⟩=some (v1)
 c2:w.cell? ⟨m,off+j*3+2,none⟩=some (v2)
 h:w.cell? ⟨H,0,none⟩=some (.slice (some ⟨f,d,none⟩) l o)
 lt2:j<l
 le2:l<=9223372036854775807
 d0:w.cell? ⟨f,d+j*3,none⟩=some (A)
 d1:w.cell? ⟨f,d+j*3+1,none⟩=some (z)
 d2:w.cell? ⟨f,d+j*3+2,none⟩=some (C)
 k1:Calls Tryz.prog 45 #[.agg #[v0,v1,v2],.agg #[A,z,C]] w fun e w'=>e=.returned (.bool true)/\Below w.heap.size w w'
theorem Zxu (G H m off kl kc f d l o j:Nat) (v0 v1 v2 A z C:Value) (Q:Exit->Act->World->Prop) (base:Act) (E:World) (L:base.tmps.size=75) (u:Zry G H m off kl kc f d l o j v0 v1 v2 A z C base)
  (s:∀ w,Below E.heap.size E w->Zr0 G H m off kl kc f d l o j v0 v1 v2 A z C w) (hQ:∀ c w,Zaf RGN base c->Below E.heap.size E w->c.eval (.tmp 55)=.bool false->Q .normal c w):(Code.region 6 RGN true).wp Tryz.prog Q base E:=by
 refine Zn (B:=Zry G H m off kl kc f d l o j v0 v1 v2 A z C) (T:=Zr0 G H m off kl kc f d l o j v0 v1 v2 A z C) (n:=12) (k:=11) LGN AGN (Jky G H m off kl kc f d l o j v0 v1 v2 A z C) Jkw rfl (by kernel_rfl) (by kernel_rfl) (by kernel_rfl) (by rw [L];kernel_rfl) (fun c F=>⟨(Zc F (by kernel_rfl)).trans u.t2,(Zc F (by kernel_rfl)).trans u.t3,(Zc F (by kernel_rfl)).trans u.t5⟩) s ?_ (by decide) rfl rfl hQ
 clear L u s hQ
 iterate 12 (refine Zd ?_ (by
  intro c w u s hEq
  obtain ⟨t2,t3,t5⟩:=u
  obtain ⟨g,lt,le,c0,c1,c2,h,lt2,le2,d0,d1,d2,k1⟩:=s
  have ec:=evc c
  have ef:=evf c
  dsimp only [AGN,LGN,Jky,nth,Zbm,Za2,Jc] at hEq |-
  first
  | exact ⟨by simp only [hEq],.inr ⟨by first | exact .inl rfl | exact .inr rfl,rfl⟩⟩
  | ((try refine ⟨by simp only [hEq],.inl ⟨rfl,?_⟩⟩);first | (refine Zk Tryz.call45 k1 ?_;simp only [List.map_toArray,List.map_cons,List.map_nil,hEq];done) | (refine .inl fun pos af=>?_;(clear k1;dsimp only [Sig.oper];generalize c.eval=ρ at *;go_simp;done)))))
 exact Zf
noncomputable def RGR  : Array Oper:=Zy Tryz.f15 11
def LGR  : List Sig:=[⟨63,.fieldAddr 25 (.tmp 2) 1,0,none⟩,⟨64,.load 23 (.tmp 63),23,none⟩,⟨65,.move (.tmp 6),3,none⟩,⟨66,.indexAddr 23 (.tmp 64) (.tmp 65),0,none⟩,⟨67,.load 49 (.tmp 66),49,none⟩,⟨68,.fieldAddr 25 (.tmp 3) 1,0,none⟩,⟨69,.load 23 (.tmp 68),23,none⟩,⟨70,.move (.tmp 6),3,none⟩,⟨71,.indexAddr 23 (.tmp 69) (.tmp 70),0,none⟩,⟨72,.load 49 (.tmp 71),49,none⟩,⟨73,.call { callee:=.value (.func 46),args:=#[.tmp 67,.tmp 72],argTypes:=#[49,49] },4,none⟩,⟨74,.unOp .not 4 (.tmp 73),4,none⟩]
theorem Jkz  : Jh RGR=LGR.map some:=by kernel_rfl
def AGR  : List (List Nat):=[[],[0],[],[1,2],[3],[],[5],[],[6,7],[8],[4,9],[10]]
structure Zr1 (G H m off kl kc f d l o j:Nat) (v0 v1 v2 v3 v4 A z C K I:Value) (c:Act):Prop where
 t2:c.eval (.tmp 2)=.pointer (some ⟨G,0,none⟩)
 t3:c.eval (.tmp 3)=.pointer (some ⟨H,0,none⟩)
 t6:c.eval (.tmp 6)=.int .i64 (j:Int)
def Jk0 (G H m off kl kc f d l o j:Nat) (v0 v1 v2 v3 v4 A z C K I:Value):List Value:=[.pointer (some ⟨G,1,none⟩),.slice (some ⟨m,off,none⟩) kl kc,.int .i64 (j:Int),.pointer (some ⟨m,off+j*5,none⟩),.agg #[v0,v1,v2,v3,v4],.pointer (some ⟨H,1,none⟩),.slice (some ⟨f,d,none⟩) l o,.int .i64 (j:Int),.pointer (some ⟨f,d+j*5,none⟩),.agg #[A,z,C,K,I],.bool false,.bool true]
structure Zr2 (G H m off kl kc f d l o j:Nat) (v0 v1 v2 v3 v4 A z C K I:Value) (w:World):Prop where
 g:w.cell? ⟨G,1,none⟩=some (.slice (some ⟨m,off,none⟩) kl kc)
 lt:j<kl
 le:kl<=9223372036854775807
 c0:w.cell? ⟨m,off+j*5,none⟩=some (v0)
 c1:w.cell? ⟨m,off+j*5+1,none⟩=some (v1)
 c2:w.cell? ⟨m,off+j*5+2,none⟩=some (v2)
 c3:w.cell? ⟨m,off+j*5+3,none⟩=some (v3)
 c4:w.cell? ⟨m,off+j*5+4,none⟩=some (v4)
 h:w.cell? ⟨H,1,none⟩=some (.slice (some ⟨f,d,none⟩) l o)
 lt2:j<l
 le2:l<=9223372036854775807
 d0:w.cell? ⟨f,d+j*5,none⟩=some (A)
 d1:w.cell? ⟨f,d+j*5+1,none⟩=some (z)
 d2:w.cell? ⟨f,d+j*5+2,none⟩=some (C)
 d3:w.cell? ⟨f,d+j*5+3,none⟩=some (K)
 d4:w.cell? ⟨f,d+j*5+4,none⟩=some (I)
 k1:Calls Tryz.prog 46 #[.agg #[v0,v1,v2,v3,v4],.agg #[A,z,C,K,I]] w fun e w'=>e=.returned (.bool false)/\Below w.heap.size w w'
theorem Zxv (G H m off kl kc f d l o j:Nat) (v0 v1 v2 v3 v4 A z C K I:Value) (Q:Exit->Act->World->Prop) (base:Act) (E:World) (L:base.tmps.size=75) (u:Zr1 G H m off kl kc f d l o j v0 v1 v2 v3 v4 A z C K I base)
  (s:∀ w,Below E.heap.size E w->Zr2 G H m off kl kc f d l o j v0 v1 v2 v3 v4 A z C K I w) (hQ:∀ c w,Zaf RGR base c->Below E.heap.size E w->c.eval (.tmp 74)=.bool true->Q .normal c w):(Code.region 11 RGR true).wp Tryz.prog Q base E:=by
 refine Zn (B:=Zr1 G H m off kl kc f d l o j v0 v1 v2 v3 v4 A z C K I) (T:=Zr2 G H m off kl kc f d l o j v0 v1 v2 v3 v4 A z C K I) (n:=12) (k:=11) LGR AGR (Jk0 G H m off kl kc f d l o j v0 v1 v2 v3 v4 A z C K I) Jkz rfl (by kernel_rfl) (by kernel_rfl) (by kernel_rfl) (by rw [L];kernel_rfl) (fun c F=>⟨(Zc F (by kernel_rfl)).trans u.t2,(Zc F (by kernel_rfl)).trans u.t3,(Zc F (by kernel_rfl)).trans u.t6⟩) s ?_ (by decide) rfl rfl hQ
 clear L u s hQ
 iterate 12 (refine Zd ?_ (by
  intro c w u s hEq
  obtain ⟨t2,t3,t6⟩:=u
  obtain ⟨g,lt,le,c0,c1,c2,c3,c4,h,lt2,le2,d0,d1,d2,d3,d4,k1⟩:=s
  have ec:=evc c
  have ef:=evf c
  dsimp only [AGR,LGR,Jk0,nth,Zbm,Za2,Jc] at hEq |-
  first
  | exact ⟨by simp only [hEq],.inr ⟨by first | exact .inl rfl | exact .inr rfl,rfl⟩⟩
  | ((try refine ⟨by simp only [hEq],.inl ⟨rfl,?_⟩⟩);first | (refine Zk Tryz.call46 k1 ?_;simp only [List.map_toArray,List.map_cons,List.map_nil,hEq];done) | (refine .inl fun pos af=>?_;(clear k1;dsimp only [Sig.oper];generalize c.eval=ρ at *;go_simp;done)))))
 exact Zf
def Jk1 (G H m off kl kc f d l o j:Nat) (v0 v1 v2 v3 v4 A z C K I:Value):List Value:=[.pointer (some ⟨G,1,none⟩),.slice (some ⟨m,off,none⟩) kl kc,.int .i64 (j:Int),.pointer (some ⟨m,off+j*5,none⟩),.agg #[v0,v1,v2,v3,v4],.pointer (some ⟨H,1,none⟩),.slice (some ⟨f,d,none⟩) l o,.int .i64 (j:Int),.pointer (some ⟨f,d+j*5,none⟩),.agg #[A,z,C,K,I],.bool true,.bool false]
structure Zr3 (G H m off kl kc f d l o j:Nat) (v0 v1 v2 v3 v4 A z C K I:Value) (w:World):Prop where
 g:w.cell? ⟨G,1,none⟩=some (.slice (some ⟨m,off,none⟩) kl kc)
 lt:j<kl
 le:kl<=9223372036854775807
 c0:w.cell? ⟨m,off+j*5,none⟩=some (v0)
 c1:w.cell? ⟨m,off+j*5+1,none⟩=some (v1)
 c2:w.cell? ⟨m,off+j*5+2,none⟩=some (v2)
 c3:w.cell? ⟨m,off+j*5+3,none⟩=some (v3)
 c4:w.cell? ⟨m,off+j*5+4,none⟩=some (v4)
 h:w.cell? ⟨H,1,none⟩=some (.slice (some ⟨f,d,none⟩) l o)
 lt2:j<l
 le2:l<=9223372036854775807
 d0:w.cell? ⟨f,d+j*5,none⟩=some (A)
 d1:w.cell? ⟨f,d+j*5+1,none⟩=some (z)
 d2:w.cell? ⟨f,d+j*5+2,none⟩=some (C)
 d3:w.cell? ⟨f,d+j*5+3,none⟩=some (K)
 d4:w.cell? ⟨f,d+j*5+4,none⟩=some (I)
 k1:Calls Tryz.prog 46 #[.agg #[v0,v1,v2,v3,v4],.agg #[A,z,C,K,I]] w fun e w'=>e=.returned (.bool true)/\Below w.heap.size w w'
theorem Zxw (G H m off kl kc f d l o j:Nat) (v0 v1 v2 v3 v4 A z C K I:Value) (Q:Exit->Act->World->Prop) (base:Act) (E:World) (L:base.tmps.size=75) (u:Zr1 G H m off kl kc f d l o j v0 v1 v2 v3 v4 A z C K I base)
  (s:∀ w,Below E.heap.size E w->Zr3 G H m off kl kc f d l o j v0 v1 v2 v3 v4 A z C K I w) (hQ:∀ c w,Zaf RGR base c->Below E.heap.size E w->c.eval (.tmp 74)=.bool false->Q .normal c w):(Code.region 11 RGR true).wp Tryz.prog Q base E:=by
 refine Zn (B:=Zr1 G H m off kl kc f d l o j v0 v1 v2 v3 v4 A z C K I) (T:=Zr3 G H m off kl kc f d l o j v0 v1 v2 v3 v4 A z C K I) (n:=12) (k:=11) LGR AGR (Jk1 G H m off kl kc f d l o j v0 v1 v2 v3 v4 A z C K I) Jkz rfl (by kernel_rfl) (by kernel_rfl) (by kernel_rfl) (by rw [L];kernel_rfl) (fun c F=>⟨(Zc F (by kernel_rfl)).trans u.t2,(Zc F (by kernel_rfl)).trans u.t3,(Zc F (by kernel_rfl)).trans u.t6⟩) s ?_ (by decide) rfl rfl hQ
 clear L u s hQ
 iterate 12 (refine Zd ?_ (by
  intro c w u s hEq
  obtain ⟨t2,t3,t6⟩:=u
  obtain ⟨g,lt,le,c0,c1,c2,c3,c4,h,lt2,le2,d0,d1,d2,d3,d4,k1⟩:=s
  have ec:=evc c
  have ef:=evf c
  dsimp only [AGR,LGR,Jk1,nth,Zbm,Za2,Jc] at hEq |-
  first
  | exact ⟨by simp only [hEq],.inr ⟨by first | exact .inl rfl | exact .inr rfl,rfl⟩⟩
  | ((try refine ⟨by simp only [hEq],.inl ⟨rfl,?_⟩⟩);first | (refine Zk Tryz.call46 k1 ?_;simp only [List.map_toArray,List.map_cons,List.map_nil,hEq];done) | (refine .inl fun pos af=>?_;(clear k1;dsimp only [Sig.oper];generalize c.eval=ρ at *;go_simp;done)))))
 exact Zf
attribute [local go_sem] Oper.semAt_some
def Za0  : List Zo->List Zo->Bool
 | [],_=>true
 | _::_,[]=>true
 | p::r,q::r'=>Zu p q&&Za0 r r'
def Zan  : List Jg->List Jg->Bool
 | [],_=>true
 | _::_,[]=>true
 | p::r,q::r'=>Je p q&&Zan r r'
def Zds (a b:Zt):Bool:=!(a.nn != b.nn)&&(!(a.nr != b.nr)&&(!((a.nodes.length:Int) != (b.nodes.length:Int))&&(!((a.rels.length:Int) != (b.rels.length:Int))&&(Za0 a.nodes b.nodes&&Zan a.rels b.rels))))
theorem Zmg {ks X:List Zo} {j:Nat} {x y:Zo} (h:ks[j]?=some x) (h':X[j]?=some y):Za0 (ks.drop j) (X.drop j)=(Zu x y&&Za0 (ks.drop (j+1)) (X.drop (j+1))):=by
 obtain ⟨hj,V⟩:=List.getElem?_eq_some_iff.1 h
 obtain ⟨e0,e3⟩:=List.getElem?_eq_some_iff.1 h'
 rw [List.drop_eq_getElem_cons hj,V,List.drop_eq_getElem_cons e0,e3,Za0]
theorem Zof {ks X:List Jg} {j:Nat} {x y:Jg} (h:ks[j]?=some x) (h':X[j]?=some y):Zan (ks.drop j) (X.drop j)=(Je x y&&Zan (ks.drop (j+1)) (X.drop (j+1))):=by
 obtain ⟨hj,V⟩:=List.getElem?_eq_some_iff.1 h
 obtain ⟨e0,e3⟩:=List.getElem?_eq_some_iff.1 h'
 rw [List.drop_eq_getElem_cons hj,V,List.drop_eq_getElem_cons e0,e3,Zan]
theorem Zxx (a b:Zt) (B:Nat) (v v':Value) (w:World) (hB:B<=w.heap.size) (hv:Zr B w v a) (g3:Zr B w v' b):Calls Tryz.prog 15 #[v,v'] w fun e w'=>e=.returned (.bool (Zds a b))/\Below w.heap.size w w':=by
 obtain ⟨res,O⟩:∃ r,Zds a b=r:=⟨_,rfl⟩
 rw [O]
 unfold Zds at O
 obtain ⟨na,nc,ra,rc,rfl,hn,hr⟩:=hv
 obtain ⟨d8,a7,d9,a4,rfl,e8,f7⟩:=g3
 obtain ⟨ns,rs,nn,nr⟩:=a
 obtain ⟨a5,N,d6,c9⟩:=b
 simp only at hn hr e8 f7 O |-
 obtain ⟨a',c',e1,h1,h2,e9⟩:=hn
 obtain ⟨rfl,rfl⟩:na=a'/\nc=c':=by injection e1 with e1 _ e2;exact ⟨e1,e2⟩
 clear e1
 obtain ⟨a',c',e1,r1,r2,f1⟩:=hr
 obtain ⟨rfl,rfl⟩:ra=a'/\rc=c':=by injection e1 with e1 _ e2;exact ⟨e1,e2⟩
 clear e1
 obtain ⟨a',c',e1,g1,g2,e6⟩:=e8
 obtain ⟨rfl,rfl⟩:d8=a'/\a7=c':=by injection e1 with e1 _ e2;exact ⟨e1,e2⟩
 clear e1
 obtain ⟨a',c',e1,s1,s2,f2⟩:=f7
 obtain ⟨rfl,rfl⟩:d9=a'/\a4=c':=by injection e1 with e1 _ e2;exact ⟨e1,e2⟩
 clear e1
 have e7:=Zb (And.intro e9 e6)
 have f0:=Zb (And.intro f1 f2)
 obtain ⟨S,a8⟩:∃ n,ns.length=n:=⟨_,rfl⟩
 obtain ⟨n2,b5⟩:∃ n,a5.length=n:=⟨_,rfl⟩
 obtain ⟨R,c6⟩:∃ n,rs.length=n:=⟨_,rfl⟩
 obtain ⟨m2,b4⟩:∃ n,N.length=n:=⟨_,rfl⟩
 have f3:=Zb a8
 have b8:=Zb b5
 have e5:=Zb c6
 have f8:=Zb b4
 rw [a8,b5,c6,b4] at O
 have HR:=Zb O
 rw [a8] at h1
 rw [b5] at g1
 rw [c6] at r1
 rw [b4] at s1
 rw [a8,b5,c6,b4]
 clear e9 e6 f1 f2 O a8 b5 c6 b4
 obtain ⟨W1,d5⟩:∃ W1,((w.alloc (.cells #[.slice na S nc,.slice ra R rc,.int .i64 nn,.int .i64 nr] 25)).alloc (.cells #[.slice d8 n2 a7,.slice d9 m2 a4,.int .i64 d6,.int .i64 c9] 25))=W1:=⟨_,rfl⟩
 have HX:Hid (∀ W,Below W1.heap.size W1 W->Below w.heap.size w W/\(∀ i v,(#[.slice na S nc,.slice ra R rc,.int .i64 nn,.int .i64 nr]:Array Value)[i]?=some v->W.cell? ⟨w.heap.size,i,none⟩=some v)/\(∀ i v,(#[.slice d8 n2 a7,.slice d9 m2 a4,.int .i64 d6,.int .i64 c9]:Array Value)[i]?=some v->W.cell? ⟨w.heap.size+1,i,none⟩=some v)):=fun W u=>by
  rw [<- d5] at u
  exact Zie u
 have HZ:Hid (w.heap.size+1<W1.heap.size):=by
  show _<_
  rw [<- d5];simp
 have a3:=Zb (HX.out W1 (Below.refl _ _)).1
 have f6:=Zb d5
 obtain ⟨_,g,h⟩:=HX.out W1 (Below.refl _ _)
 have q0:=g 0 _ rfl
 have E:=h 0 _ rfl
 have q1:=g 1 _ rfl
 have w1:=h 1 _ rfl
 have q2:=g 2 _ rfl
 have w2:=h 2 _ rfl
 have q3:=g 3 _ rfl
 have w3:=h 3 _ rfl
 clear d5 g h
 go_enter Tryz.func15,Tryz.ntmps15
 go_upto_region 1 with fail
 rw [f6.out]
 clear f6
 by_cases b0:(nn != d6)=true
 ·have z1:=b0
  have HF:Hid (res=false):=by
   show _=_
   rw [<- HR.out,z1];rfl
  go_wp2_with fail
  go_ret
  exact ⟨by rw [HF.out];rfl,a3.out⟩
 ·have z1:(nn != d6)=false:=by simpa using b0
  clear b0
  by_cases b1:(nr != c9)=true
  ·have z2:=b1
   have HF:Hid (res=false):=by
    show _=_
    rw [<- HR.out,z1,z2];rfl
   go_wp2_with fail
   go_ret
   exact ⟨by rw [HF.out];rfl,a3.out⟩
  ·have z2:(nr != c9)=false:=by simpa using b1
   clear b1
   by_cases b2:((S:Int) != (n2:Int))=true
   ·have z3:=b2
    have HF:Hid (res=false):=by
     show _=_
     rw [<- HR.out,z1,z2,z3];rfl
    go_wp2_with fail
    go_ret
    exact ⟨by rw [HF.out];rfl,a3.out⟩
   ·have z3:((S:Int) != (n2:Int))=false:=by simpa using b2
    clear b2
    by_cases b3:((R:Int) != (m2:Int))=true
    ·have z4:=b3
     have HF:Hid (res=false):=by
      show _=_
      rw [<- HR.out,z1,z2,z3,z4];rfl
     go_wp2_with fail
     go_ret
     exact ⟨by rw [HF.out];rfl,a3.out⟩
    ·have z4:((R:Int) != (m2:Int))=false:=by simpa using b3
     clear b3
     have f9:Hid ((Za0 ns a5&&Zan rs N)=res):=by
      show _=_
      rw [<- HR.out,z1,z2,z3,z4];rfl
     have f5:Hid (S=n2/\R=m2):=by
      have a:=z3
      have b:=z4
      simp at a b
      exact ⟨by omega,by omega⟩
     go_wp2_with fail
     clear HR z1 z2 z3 z4
     obtain ⟨rfl,rfl⟩:=f5.out
     clear f5 q0 q1 q2 q3 E w1 w2 w3
     go_loopw [5] (fun i wr=>∃ j:Nat,j<=S/\i=.int .i64 j/\Below W1.heap.size W1 wr/\(Za0 (ns.drop j) (a5.drop j)&&Zan rs N)=res) (fun i _=>S - (intOf i).toNat)
     case atStart=>exact ⟨0,Nat.zero_le _,rfl,Below.refl _ _,f9.out⟩
     case round =>
      obtain ⟨j,hj,rfl,P,b9⟩:=hrel
      have a0:=Zb P
      have a6:=Zb b9
      have d7:w.heap.size+1<wr.heap.size:=by
       have:=HZ.out
       have:=P.size
       omega
      obtain ⟨D,g,h⟩:=HX.out wr P
      have q0:=g 0 _ rfl
      have E:=h 0 _ rfl
      have q1:=g 1 _ rfl
      have U:=Zb D
      clear P b9 g h D
      by_cases hlt:j<S
      ·have a2:(j:Int)<S:=by omega
       obtain ⟨x,V⟩:∃ q,ns[j]?=some q:=⟨_,List.getElem?_eq_getElem (by have:=f3.out;omega)⟩
       obtain ⟨y,hy⟩:∃ q,a5[j]?=some q:=⟨_,List.getElem?_eq_getElem (by have:=b8.out;omega)⟩
       obtain ⟨m,off,rfl,e4,hc⟩:=e7.out.1.resolve_left (by intro e;rw [e] at V;simp at V)
       obtain ⟨f,d,rfl,a9,c7⟩:=e7.out.2.resolve_left (by intro e;rw [e] at hy;simp at hy)
       obtain ⟨v0,v1,v2,⟨c0,c1,c2⟩,c8⟩:=((hc j _ V).below (U.out.mono hB) e4).lies
       obtain ⟨A,z,C,⟨d0,d1,d2⟩,b6⟩:=((c7 j _ hy).below (U.out.mono hB) a9).lies
       have D:m<wr.heap.size:=by omega
       have t:f<wr.heap.size:=by omega
       have a1:=Zb (fun W (u:Below wr.heap.size wr W)=>Zd9 x y B _ _ W (by have:=u.size;omega) (c8.below (u.mono (by omega))) (b6.below (u.mono (by omega))))
       obtain ⟨b,u⟩:∃ b,Zu x y=b:=⟨_,rfl⟩
       rw [u] at a1
       have HE:Hid (res=((b&&Za0 (ns.drop (j+1)) (a5.drop (j+1)))&&Zan rs N)):=by
        show _=_
        rw [<- a6.out,Zmg V hy,u]
       have HC:Hid (∀ W,Below wr.heap.size wr W->W.cell? ⟨w.heap.size,0,none⟩=some (.slice (some ⟨m,off,none⟩) S nc)/\W.cell? ⟨w.heap.size+1,0,none⟩=some (.slice (some ⟨f,d,none⟩) S a7)):=fun W u =>
        ⟨(u.cell (p:=⟨w.heap.size,0,none⟩) (by show w.heap.size<_;omega)).trans q0,(u.cell (p:=⟨w.heap.size+1,0,none⟩) d7).trans E⟩
       clear V hy hc c7 c8 b6 u
       go_upto_region 6 with fail
       clear q0 E
       show (Code.region 6 RGN true).wp _ _ _ _
       cases b with
       | false =>
        refine Zxt w.heap.size (w.heap.size+1) m off S nc f d S a7 j v0 v1 v2 A z C _ _ _ rfl ⟨rfl,rfl,rfl⟩ ?_ ?_
        ·intro W s
         exact ⟨(HC.out W s).1,hlt,by omega,(s.cell (p:=⟨m,off+j*3,none⟩) D).trans c0,(s.cell (p:=⟨m,off+j*3+1,none⟩) D).trans c1,(s.cell (p:=⟨m,off+j*3+2,none⟩) D).trans c2,(HC.out W s).2,hlt,by omega,(s.cell (p:=⟨f,d+j*3,none⟩) t).trans d0,(s.cell (p:=⟨f,d+j*3+1,none⟩) t).trans d1,(s.cell (p:=⟨f,d+j*3+2,none⟩) t).trans d2,a1.out W s⟩
        intro c W3 F M b7
        rw [Zj F [44,45,46,47,48,49,50,51,52,53,54,55] (by kernel_rfl)]
        simp only [List.foldl_cons,List.foldl_nil,List.setIfInBounds_toArray,List.set_cons_succ,List.set_cons_zero,show Zbd c 55=_ from b7]
        clear b7 F
        have Y:=Zb (Za a0.out M)
        clear M
        have HF:Hid (res=false):=by
         show _=_
         rw [HE.out];rfl
        go_wp2_with fail
        go_ret
        exact ⟨by rw [HF.out];rfl,Za a3.out Y.out⟩
       | true =>
        refine Zxu w.heap.size (w.heap.size+1) m off S nc f d S a7 j v0 v1 v2 A z C _ _ _ rfl ⟨rfl,rfl,rfl⟩ ?_ ?_
        ·intro W s
         exact ⟨(HC.out W s).1,hlt,by omega,(s.cell (p:=⟨m,off+j*3,none⟩) D).trans c0,(s.cell (p:=⟨m,off+j*3+1,none⟩) D).trans c1,(s.cell (p:=⟨m,off+j*3+2,none⟩) D).trans c2,(HC.out W s).2,hlt,by omega,(s.cell (p:=⟨f,d+j*3,none⟩) t).trans d0,(s.cell (p:=⟨f,d+j*3+1,none⟩) t).trans d1,(s.cell (p:=⟨f,d+j*3+2,none⟩) t).trans d2,a1.out W s⟩
        intro c W3 F M b7
        rw [Zj F [44,45,46,47,48,49,50,51,52,53,54,55] (by kernel_rfl)]
        simp only [List.foldl_cons,List.foldl_nil,List.setIfInBounds_toArray,List.set_cons_succ,List.set_cons_zero,show Zbd c 55=_ from b7]
        clear b7 F
        have Y:=Zb (Za a0.out M)
        clear M
        have b8:Hid ((Za0 (ns.drop (j+1)) (a5.drop (j+1))&&Zan rs N)=res):=by
         show _=_
         rw [HE.out];rfl
        go_wp2_with fail
        go_roundw
        case rel=>exact ⟨j+1,by omega,by go_num,Y.out,b8.out⟩
        case measure=>simp [intOf];omega
      ·have g0:Hid (Zan rs N=res):=by
        show _=_
        rw [<- a6.out,List.drop_of_length_le (by have:=f3.out;omega)];rfl
       have a2:¬ (j:Int)<S:=by omega
       have f4:=a0
       go_wp2_with fail
       clear hlt a2 a6 hj a0 q0 E q1 d7 U
       go_loopw [6] (fun i wr=>∃ j:Nat,j<=R/\i=.int .i64 j/\Below W1.heap.size W1 wr/\Zan (rs.drop j) (N.drop j)=res) (fun i _=>R - (intOf i).toNat)
       case atStart=>exact ⟨0,Nat.zero_le _,rfl,f4.out,g0.out⟩
       case round =>
        clear f4
        obtain ⟨j,hj,rfl,P,b9⟩:=hrel
        have a0:=Zb P
        have a6:=Zb b9
        have d7:w.heap.size+1<wr.heap.size:=by
         have:=HZ.out
         have:=P.size
         omega
        obtain ⟨D,g,h⟩:=HX.out wr P
        have q1:=g 1 _ rfl
        have w1:=h 1 _ rfl
        have U:=Zb D
        clear P b9 g h D
        by_cases hlt:j<R
        ·have a2:(j:Int)<R:=by omega
         obtain ⟨x,V⟩:∃ q,rs[j]?=some q:=⟨_,List.getElem?_eq_getElem (by have:=e5.out;omega)⟩
         obtain ⟨y,hy⟩:∃ q,N[j]?=some q:=⟨_,List.getElem?_eq_getElem (by have:=f8.out;omega)⟩
         obtain ⟨m,off,rfl,e4,hc⟩:=f0.out.1.resolve_left (by intro e;rw [e] at V;simp at V)
         obtain ⟨f,d,rfl,a9,c7⟩:=f0.out.2.resolve_left (by intro e;rw [e] at hy;simp at hy)
         obtain ⟨v0,v1,v2,v3,v4,⟨c0,c1,c2,c3,c4⟩,c8⟩:=((hc j _ V).below (U.out.mono hB) e4).lies
         obtain ⟨A,z,C,K,I,⟨d0,d1,d2,d3,d4⟩,b6⟩:=((c7 j _ hy).below (U.out.mono hB) a9).lies
         have D:m<wr.heap.size:=by omega
         have t:f<wr.heap.size:=by omega
         have a1:=Zb (fun W (u:Below wr.heap.size wr W)=>Zfd x y B _ _ W (by have:=u.size;omega) (c8.below (u.mono (by omega))) (b6.below (u.mono (by omega))))
         obtain ⟨b,u⟩:∃ b,Je x y=b:=⟨_,rfl⟩
         rw [u] at a1
         have HE:Hid (res=((b&&Zan (rs.drop (j+1)) (N.drop (j+1))))):=by
          show _=_
          rw [<- a6.out,Zof V hy,u]
         have HC:Hid (∀ W,Below wr.heap.size wr W->W.cell? ⟨w.heap.size,1,none⟩=some (.slice (some ⟨m,off,none⟩) R rc)/\W.cell? ⟨w.heap.size+1,1,none⟩=some (.slice (some ⟨f,d,none⟩) R a4)):=fun W u =>
          ⟨(u.cell (p:=⟨w.heap.size,1,none⟩) (by show w.heap.size<_;omega)).trans q1,(u.cell (p:=⟨w.heap.size+1,1,none⟩) d7).trans w1⟩
         clear V hy hc c7 c8 b6 u
         go_upto_region 11 with fail
         clear q1 w1
         show (Code.region 11 RGR true).wp _ _ _ _
         cases b with
         | false =>
          refine Zxv w.heap.size (w.heap.size+1) m off R rc f d R a4 j v0 v1 v2 v3 v4 A z C K I _ _ _ rfl ⟨rfl,rfl,rfl⟩ ?_ ?_
          ·intro W s
           exact ⟨(HC.out W s).1,hlt,by omega,(s.cell (p:=⟨m,off+j*5,none⟩) D).trans c0,(s.cell (p:=⟨m,off+j*5+1,none⟩) D).trans c1,(s.cell (p:=⟨m,off+j*5+2,none⟩) D).trans c2,(s.cell (p:=⟨m,off+j*5+3,none⟩) D).trans c3,(s.cell (p:=⟨m,off+j*5+4,none⟩) D).trans c4,(HC.out W s).2,hlt,by omega,(s.cell (p:=⟨f,d+j*5,none⟩) t).trans d0,(s.cell (p:=⟨f,d+j*5+1,none⟩) t).trans d1,(s.cell (p:=⟨f,d+j*5+2,none⟩) t).trans d2,(s.cell (p:=⟨f,d+j*5+3,none⟩) t).trans d3,(s.cell (p:=⟨f,d+j*5+4,none⟩) t).trans d4,a1.out W s⟩
          intro c W3 F M c5
          rw [Zj F [63,64,65,66,67,68,69,70,71,72,73,74] (by kernel_rfl)]
          simp only [List.foldl_cons,List.foldl_nil,List.setIfInBounds_toArray,List.set_cons_succ,List.set_cons_zero,show Zbd c 74=_ from c5]
          clear c5 F
          have Y:=Zb (Za a0.out M)
          clear M
          have HF:Hid (res=false):=by
           show _=_
           rw [HE.out];rfl
          go_wp2_with fail
          go_ret
          exact ⟨by rw [HF.out];rfl,Za a3.out Y.out⟩
         | true =>
          refine Zxw w.heap.size (w.heap.size+1) m off R rc f d R a4 j v0 v1 v2 v3 v4 A z C K I _ _ _ rfl ⟨rfl,rfl,rfl⟩ ?_ ?_
          ·intro W s
           exact ⟨(HC.out W s).1,hlt,by omega,(s.cell (p:=⟨m,off+j*5,none⟩) D).trans c0,(s.cell (p:=⟨m,off+j*5+1,none⟩) D).trans c1,(s.cell (p:=⟨m,off+j*5+2,none⟩) D).trans c2,(s.cell (p:=⟨m,off+j*5+3,none⟩) D).trans c3,(s.cell (p:=⟨m,off+j*5+4,none⟩) D).trans c4,(HC.out W s).2,hlt,by omega,(s.cell (p:=⟨f,d+j*5,none⟩) t).trans d0,(s.cell (p:=⟨f,d+j*5+1,none⟩) t).trans d1,(s.cell (p:=⟨f,d+j*5+2,none⟩) t).trans d2,(s.cell (p:=⟨f,d+j*5+3,none⟩) t).trans d3,(s.cell (p:=⟨f,d+j*5+4,none⟩) t).trans d4,a1.out W s⟩
          intro c W3 F M c5
          rw [Zj F [63,64,65,66,67,68,69,70,71,72,73,74] (by kernel_rfl)]
          simp only [List.foldl_cons,List.foldl_nil,List.setIfInBounds_toArray,List.set_cons_succ,List.set_cons_zero,show Zbd c 74=_ from c5]
          clear c5 F
          have Y:=Zb (Za a0.out M)
          clear M
          have b8:Hid (Zan (rs.drop (j+1)) (N.drop (j+1))=res):=by
           show _=_
           rw [HE.out];rfl
          go_wp2_with fail
          go_roundw
          case rel=>exact ⟨j+1,by omega,by go_num,Y.out,b8.out⟩
          case measure=>simp [intOf];omega
        ·have HF:Hid (res=true):=by
          show _=_
          rw [<- a6.out,List.drop_of_length_le (by have:=e5.out;omega)];rfl
         have a2:¬ (j:Int)<R:=by omega
         go_wp2_with fail
         go_ret
         exact ⟨by rw [HF.out];rfl,U.out⟩
end
section
open Go.RowKit Go.Shelf
theorem Zgj (a b:Int):Zcs b a=-Zcs a b:=by unfold Zcs;split<;>split<;>(try split)<;>(try split)<;>omega
theorem Zyf (a b:UInt8) (r t:List UInt8):Lib.compareBytes (a::r) (b::t)=if Zcs a.toNat b.toNat=0 then Lib.compareBytes r t else Zcs a.toNat b.toNat:=by
 rw [Lib.compareBytes]
 by_cases h1:a<b
 ·have h:a.toNat<b.toNat:=h1
  have:Zcs a.toNat b.toNat=-1:=by unfold Zcs;rw [if_pos (by omega)]
  rw [if_pos h1,this];rfl
 ·have h:¬ a.toNat<b.toNat:=h1
  by_cases h2:b<a
  ·have g:b.toNat<a.toNat:=h2
   have:Zcs a.toNat b.toNat=1:=by unfold Zcs;rw [if_neg (by omega),if_pos (by omega)]
   rw [if_neg h1,if_pos h2,this];rfl
  ·have g:¬ b.toNat<a.toNat:=h2
   have:Zcs a.toNat b.toNat=0:=by unfold Zcs;rw [if_neg (by omega),if_neg (by omega)]
   rw [if_neg h1,if_neg h2,this];rfl
theorem Zjl  : ∀ (a b:List UInt8),Lib.compareBytes b a=-Lib.compareBytes a b
 | [],[]=>rfl
 | [],_::_=>rfl
 | _::_,[]=>rfl
 | a::r,b::t=>by
  rw [Zyf,Zyf,Zgj,Zjl r t]
  by_cases h:Zcs (a.toNat:Int) b.toNat=0
  ·rw [if_pos (by omega),if_pos h]
  ·rw [if_neg (by omega),if_neg h]
theorem Zsa  : ∀ (a b:List ByteArray),agS b a=-agS a b
 | [],[]=>rfl
 | [],_::_=>rfl
 | _::_,[]=>rfl
 | a::r,b::t=>by
  rw [agS,agS,Zjl,Zsa r t]
  by_cases h:Lib.compareBytes a.data.toList b.data.toList=0
  ·rw [if_pos (by omega),if_pos h]
  ·rw [if_neg (by omega),if_neg h]
mutual
def Zoq  : Zi->Prop
 | .mk k _ _ _ _ ts=>(0<=k/\k<=7)/\KnownL ts
def KnownL  : List Zi->Prop
 | []=>True
 | t::r=>Zoq t/\KnownL r
end
theorem Jbe {k c:Int} (h:0<=k/\k<=7) (j:0<=c/\c<=7) (e:Zcs (Zb7 k) (Zb7 c)=0):k=c:=by
 have v:Zb7 k=Zb7 c:=by unfold Zcs at e;split at e<;>(try split at e)<;>omega
 unfold Zb7 at v
 obtain ⟨h1,h2⟩:=h
 obtain ⟨g1,g2⟩:=j
 have w:k=0\/k=1\/k=2\/k=3\/k=4\/k=5\/k=6\/k=7:=by omega
 have z:c=0\/c=1\/c=2\/c=3\/c=4\/c=5\/c=6\/c=7:=by omega
 rcases w with rfl | rfl | rfl | rfl | rfl | rfl | rfl | rfl<;>rcases z with rfl | rfl | rfl | rfl | rfl | rfl | rfl | rfl<;>first | rfl | (exfalso;revert v;decide)
def inK (k:Int) (b p:Bool) (n o:Int) (s m:ByteArray) (ks i:List ByteArray) (ts f:List Zi):Int :=
 if k=5 then (if agS ks i=0 then ordL ts f else agS ks i) else if k=4 then ordL ts f else if k=3 then Lib.compareBytes s.data.toList m.data.toList else if k=1 then Zcs (Ziy b) (Ziy p) else Zcs n o
theorem Zyg (k:Int) (b:Bool) (n:Int) (s:ByteArray) (ks:List ByteArray) (ts:List Zi) (c:Int) (p:Bool) (o:Int) (m:ByteArray) (i:List ByteArray) (f:List Zi) :
  Zho (.mk k b n s ks ts) (.mk c p o m i f)=if Zcs (Zb7 k) (Zb7 c)=0 then inK k b p n o s m ks i ts f else Zcs (Zb7 k) (Zb7 c):=by rw [Zho];rfl
theorem Zmk {x q y u:Int} (h:q=-x) (g:x=0->u=-y):(if q=0 then u else q)=-(if x=0 then y else x):=by
 by_cases e:x=0
 ·rw [if_pos (by omega),if_pos e];exact g e
 ·rw [if_neg (by omega),if_neg e];exact h
mutual
theorem Zor  : ∀ (a b:Zi),Zoq a->Zoq b->Zho b a=-Zho a b
 | .mk k b n s ks ts,.mk c p o m i f,h,j=>by
  simp only [Zoq] at h j
  rw [Zyg,Zyg]
  refine Zmk (Zgj _ _) fun e=>?_
  have:=Jbe h.1 j.1 e
  subst this
  unfold inK
  by_cases h5:k=5
  ·rw [if_pos h5,if_pos h5];exact Zmk (Zsa _ _) fun _=>ordL_turn ts f h.2 j.2
  rw [if_neg h5,if_neg h5]
  by_cases h4:k=4
  ·rw [if_pos h4,if_pos h4];exact ordL_turn ts f h.2 j.2
  rw [if_neg h4,if_neg h4]
  by_cases h3:k=3
  ·rw [if_pos h3,if_pos h3];exact Zjl _ _
  rw [if_neg h3,if_neg h3]
  by_cases h1:k=1
  ·rw [if_pos h1,if_pos h1];exact Zgj _ _
  rw [if_neg h1,if_neg h1];exact Zgj _ _
theorem ordL_turn  : ∀ (a b:List Zi),KnownL a->KnownL b->ordL b a=-ordL a b
 | [],[],_,_=>rfl
 | [],_::_,_,_=>rfl
 | _::_,[],_,_=>rfl
 | a::r,b::t,h,j=>by
  simp only [KnownL] at h j
  rw [ordL,ordL]
  exact Zmk (Zor a b h.1 j.1) fun _=>ordL_turn r t h.2 j.2
end
theorem Zyh (a:Zi) (h:Zoq a):Zho a a=0:=by have:=Zor a a h h;omega
mutual
theorem Zos  : ∀ (T:Zi) (d:Int),(T.pre d).all (fun x=>Zw x.2)=true->Zoq T
 | .mk k b n s ks ts,d,h=>by
  rw [Zi.pre,List.all_cons,Bool.and_eq_true] at h
  rw [Zoq]
  refine ⟨?_,knownL_pre ts (d+1) h.2⟩
  have:=h.1
  unfold Zw at this
  rw [Bool.and_eq_true] at this
  have h1:=this.1
  by_cases g:0<=k/\k<=7
  ·exact g
  ·rw [if_neg (by omega),if_neg (by omega),if_neg (by omega),if_neg (by omega),if_neg (by omega),if_neg (by omega),if_neg (by omega)] at h1
   cases h1
theorem knownL_pre  : ∀ (l:List Zi) (d:Int),(Zi.preL d l).all (fun x=>Zw x.2)=true->KnownL l
 | [],_,_=>by simp only [KnownL]
 | t::ts,d,h=>by
  rw [Zi.preL,List.all_append,Bool.and_eq_true] at h
  rw [KnownL]
  exact ⟨Zos t d h.1,knownL_pre ts d h.2⟩
end
theorem Zp2 {T:Zi} (h:checkN T=0):Zoq T:=by
 unfold checkN at h
 by_cases g:(T.pre 1).all (fun x=>Zw x.2)=true
 ·exact Zos T 1 g
 ·rw [if_neg g] at h;omega
end
section
open Go.RowKit Go.Shelf Go.Lib
theorem Zdp {s m:ByteArray} (h:s.data.toList=m.data.toList):s=m:=by
 apply ByteArray.ext
 exact Array.toList_inj.1 h
theorem Zkx {k:Int} {b:Bool} {n:Int} {s:ByteArray} {ks:List ByteArray} {ts:List Zi} (h:Ziq (.mk k b n s ks ts)=true) :
  (k=1\/b=false)/\(k=2\/k=6\/k=7\/n=0)/\(k=3\/s=⟨#[]⟩)/\(k=5\/ks=[])/\(k=4\/k=5\/ts=[])/\(k=5->ks.length=ts.length)/\(0<=k/\k<=7)/\∀ t ∈ ts,Ziq t=true:=by
 simp only [Ziq,Bool.and_eq_true] at h
 obtain ⟨h1,_,h3⟩:=h
 rw [Zhr] at h3
 simp only [badB,Bool.not_eq_true',Bool.or_eq_false_iff,Bool.not_eq_false',Bool.and_eq_false_iff] at h1
 obtain ⟨⟨⟨⟨⟨a1,a2⟩,a3⟩,_⟩,_⟩,a5⟩:=h1
 simp only [rbareB,Bool.and_eq_true,Bool.or_eq_true,beq_iff_eq,Bool.not_eq_true',decide_eq_true_eq] at a3
 obtain ⟨b1,M,b3,Y,Q⟩:=a3
 refine ⟨b1,M,?_,?_,?_,?_,?_,List.all_eq_true.1 h3⟩
 ·rcases b3 with e | e
  ·exact .inl e
  ·refine .inr (Zdp ?_)
   rw [ByteArray.toList_eq] at e
   simpa using e
 ·exact Y.imp id fun e=>List.eq_nil_of_length_eq_zero e
 ·exact Q.imp id fun e=>e.imp id fun e=>List.eq_nil_of_length_eq_zero e
 ·intro e
  rcases a5 with a | a
  ·simp [e] at a
  ·simp at a;omega
 ·simp at a1 a2
  omega
theorem Zpo {a b:Int} (h:Zcs a b=0):a=b:=by
 unfold Zcs at h
 split at h
 ·omega
 ·split at h<;>omega
theorem Zl5  : ∀ {a b:List UInt8},compareBytes a b=0->a=b
 | [],[],_=>rfl
 | [],_::_,h=>by simp [compareBytes] at h
 | _::_,[],h=>by simp [compareBytes] at h
 | a::r,b::t,h=>by
  rw [compareBytes] at h
  split at h
  ·omega
  ·split at h
   ·omega
   ·rename_i h1 h2
    have e:a=b:=UInt8.toNat_inj.1 (by
     have h3:¬ a.toNat<b.toNat:=fun e=>h1 (UInt8.lt_iff_toNat_lt.2 e)
     have w:¬ b.toNat<a.toNat:=fun e=>h2 (UInt8.lt_iff_toNat_lt.2 e)
     omega)
    rw [e,Zl5 h]
theorem Zxa  : ∀ {a b:List ByteArray},agS a b=0->a=b
 | [],[],_=>rfl
 | [],_::_,h=>by simp [agS] at h
 | _::_,[],h=>by simp [agS] at h
 | a::r,b::t,h=>by
  rw [agS] at h
  by_cases h1:compareBytes a.data.toList b.data.toList=0
  ·rw [if_pos h1] at h
   rw [Zdp (Zl5 h1),Zxa h]
  ·rw [if_neg h1] at h;exact absurd h h1
theorem Zrj  : ∀ {a b:List Zi},(∀ t ∈ a,∀ u ∈ b,Zho t u=0->t=u)->ordL a b=0->a=b
 | [],[],_,_=>rfl
 | [],_::_,_,h=>by simp [ordL] at h
 | _::_,[],_,h=>by simp [ordL] at h
 | a::r,b::t,hh,h=>by
  rw [ordL] at h
  by_cases h1:Zho a b=0
  ·rw [if_pos h1] at h
   rw [hh a (by simp) b (by simp) h1,Zrj (fun x K y U=>hh x (by simp [K]) y (by simp [U])) h]
  ·rw [if_neg h1] at h;exact absurd h h1
theorem Jag {k c:Int} (h:0<=k/\k<=7) (v:0<=c/\c<=7) (e:Zb7 k=Zb7 c):k=c:=by
 have a:k=0\/k=1\/k=2\/k=3\/k=4\/k=5\/k=6\/k=7:=by omega
 have b:c=0\/c=1\/c=2\/c=3\/c=4\/c=5\/c=6\/c=7:=by omega
 rcases a with rfl | rfl | rfl | rfl | rfl | rfl | rfl | rfl<;>rcases b with rfl | rfl | rfl | rfl | rfl | rfl | rfl | rfl<;>first | rfl | (exact absurd e (by decide))
theorem Jc9  : ∀ A,Ziq A=true->∀ B,Ziq B=true->Zho A B=0->A=B:=by
 refine Zi.ind ?_
 intro k b n s ks ts S I B G h
 obtain ⟨c,q,D,m,i,d⟩:=B
 obtain ⟨F,f2,V,f4,H,f6,P,L⟩:=Zkx I
 obtain ⟨g1,g2,g3,W,R,g6,N,X⟩:=Zkx G
 rw [Zho] at h
 by_cases hk:Zcs (Zb7 k) (Zb7 c)=0
 ·rw [if_pos hk] at h
  obtain rfl:=Jag P N (Zpo hk)
  have z:ordL ts d=0->ts=d:=Zrj fun t C u O=>S t C (L t C) u (X u O)
  have o:k≠1->b=q:=fun h=>(F.resolve_left h).trans (g1.resolve_left h).symm
  have f:k≠3->s=m:=fun h=>(V.resolve_left h).trans (g3.resolve_left h).symm
  have g:k≠5->ks=i:=fun h=>(f4.resolve_left h).trans (W.resolve_left h).symm
  have j:k≠4->k≠5->ts=d:=fun h v=>((H.resolve_left h).resolve_left v).trans ((R.resolve_left h).resolve_left v).symm
  have p:k=1\/k=3\/k=4\/k=5->n=D:=fun h=>by omega
  by_cases k5:k=5
  ·rw [if_pos k5] at h
   by_cases ha:agS ks i=0
   ·rw [if_pos ha] at h
    rw [z h,Zxa ha,o (by omega),f (by omega),p (by omega)]
   ·rw [if_neg ha] at h;exact absurd h ha
  ·rw [if_neg k5] at h
   by_cases k4:k=4
   ·rw [if_pos k4] at h
    rw [z h,g k5,o (by omega),f (by omega),p (by omega)]
   ·rw [if_neg k4] at h
    by_cases k3:k=3
    ·rw [if_pos k3] at h
     rw [Zdp (Zl5 h),g k5,o (by omega),j k4 k5,p (by omega)]
    ·rw [if_neg k3] at h
     by_cases k1:k=1
     ·rw [if_pos k1] at h
      have:b=q:=by
       have:=Zpo h
       cases b<;>cases q<;>first | rfl | (exact absurd this (by decide))
      rw [this,g k5,f k3,j k4 k5,p (by omega)]
     ·rw [if_neg k1] at h
      rw [Zpo h,g k5,f k3,j k4 k5,o k1]
 ·rw [if_neg hk] at h;exact absurd h hk
theorem Zky  : ∀ {a b:List ByteArray},a.length=b.length->Za9 a b=true->a=b
 | [],[],_,_=>rfl
 | [],_::_,h,_=>by simp at h
 | _::_,[],h,_=>by simp at h
 | a::r,b::t,h,h2=>by
  rw [Za9,Bool.and_eq_true,beq_iff_eq,ByteArray.toList_eq,ByteArray.toList_eq] at h2
  rw [Zdp h2.1,Zky (by simpa using h) h2.2]
theorem Zfn  : ∀ (a:List ByteArray),Za9 a a=true
 | []=>rfl
 | a::r=>by rw [Za9,Zfn r];simp
mutual
theorem Zkz  : ∀ (A B:Zi),Zb3 A B=true->A=B
 | .mk k x n s ks ts,.mk c x' D m i d,h=>by
  simp only [Zb3,Bool.and_eq_true,Bool.not_eq_true',bne_eq_false_iff_eq,beq_iff_eq,ByteArray.toList_eq] at h
  obtain ⟨h1,h2,h3,w,h5,h6,E,h8⟩:=h
  rw [h1,h2,h3,Zdp w,Zky (by omega) E,alikeL_one ts d (by omega) h8]
theorem alikeL_one  : ∀ (a b:List Zi),a.length=b.length->alikeL a b=true->a=b
 | [],[],_,_=>rfl
 | [],_::_,h,_=>by simp at h
 | _::_,[],h,_=>by simp at h
 | a::r,b::t,h,h2=>by
  rw [alikeL,Bool.and_eq_true] at h2
  rw [Zkz a b h2.1,alikeL_one r t (by simpa using h) h2.2]
end
mutual
theorem Zfo  : ∀ (A:Zi),Zb3 A A=true
 | .mk k x n s ks ts=>by
  simp only [Zb3,Zfn,alikeL_self ts,bne_self_eq_false,beq_self_eq_true,Bool.not_false,Bool.and_true]
theorem alikeL_self  : ∀ (a:List Zi),alikeL a a=true
 | []=>rfl
 | a::r=>by rw [alikeL,Zfo a,alikeL_self r];rfl
end
theorem Zrk {T:Zi} (l:checkN T=0):Ziq T=true:=by
 rw [Zq8] at l
 by_cases h:Ziq T=true
 ·exact h
 ·rw [if_neg h] at l;omega
theorem Zto (A B:Zi):Zcu A B=(Zb3 A B&&(checkN A==0)):=by
 by_cases h:Zb3 A B=true
 ·obtain rfl:=Zkz A B h
  rw [h]
  unfold Zcu
  by_cases l:checkN A=0
  ·rw [Zyh A (Zp2 l)];simp [l]
  ·simp [l]
 ·rw [Bool.not_eq_true] at h
  rw [h,Bool.false_and,Bool.eq_false_iff]
  intro f
  unfold Zcu at f
  rw [Bool.and_eq_true,decide_eq_true_eq,beq_iff_eq] at f
  have:=Jc9 A (Zrk f.1.1) B (Zrk f.1.2) f.2
  subst this
  rw [Zfo] at h;cases h
end
