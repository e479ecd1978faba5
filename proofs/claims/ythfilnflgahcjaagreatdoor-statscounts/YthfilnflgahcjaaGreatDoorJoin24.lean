/- The chapter's graph, counted. The region of works, operation by operation (tools/gwk.py prints it). The example that every law of the stage runs (works 10). -/
import Derived.Test.YthfilnflgahcjaaGreatDoorJoin23
import Derived.Test.YthfilnflgahcjaaGreatDoorJoin13
import Derived.Test.YthfilnflgahcjaaGreatDoorJoin14
import Derived.Test.YthfilnflgahcjaaGreatDoorJoin11
import Derived.Test.YthfilnflgahcjaaGreatDoorJoin10
namespace Go.Proofs.YthfilnflgahcjaaGreatDoor
open Go.RowKit Go.Shelf Go.Maps Cm
set_option linter.all false
theorem Zdu {α:Type} {cf:α->α->Int}:∀ {C L:List α},L.Perm C->L.Pairwise (fun a b=>¬ cf b a<0)->C.Pairwise (fun a b=>cf a b<0)->L=C
 | [],L,h,_,_=>List.Perm.eq_nil h
 | c::C,[],h,_,_=>absurd h.length_eq (by simp)
 | c::C,l::L,h,j,f=>by
  simp only [List.pairwise_cons] at j f
  have hl:l ∈ c::C:=h.mem_iff.1 List.mem_cons_self
  have E:c ∈ l::L:=h.mem_iff.2 List.mem_cons_self
  have e:l=c:=by
   rcases List.mem_cons.1 hl with g | g
   ·exact g
   ·rcases List.mem_cons.1 E with k | k
    ·exact k.symm
    ·exact absurd (f.1 l g) (j.1 c k)
  subst e
  rw [Zdu (List.Perm.cons_inv h) j.2 f.2]
def Jy:Zak:=⟨3,3,[(⟨#[65]⟩,2),(⟨#[66]⟩,1)],[(⟨#[84]⟩,2),(⟨#[85]⟩,1)],[(⟨#[84]⟩,⟨#[65]⟩,false,1),(⟨#[84]⟩,⟨#[65]⟩,true,2),(⟨#[84]⟩,⟨#[66]⟩,true,2),(⟨#[85]⟩,⟨#[65]⟩,false,1),(⟨#[85]⟩,⟨#[65]⟩,true,1)],[(⟨#[65]⟩,⟨#[107]⟩,2,1),(⟨#[66]⟩,⟨#[107]⟩,1,1)]⟩
def Jhf:Zd->ByteArray:=fun _=>⟨#[49]⟩
theorem Jee:(Zaf (Zi Jz.nodes)).map (fun p:(ByteArray × Int) × Int=>(p.1.1,p.2))=Jy.labels:=by kernel_rfl
theorem Jef:(Zaf (Jz.rels.map fun r=>r.type)).map (fun p:(ByteArray × Int) × Int=>(p.1.1,p.2))=Jy.types:=by kernel_rfl
theorem Jbt:(Jc (Jn Jz.nodes (cnt (Zl Jz.rels)))).map (fun p:Zae × Int=>(p.1.1,p.1.2.1,p.1.2.2.1,p.2))=[(⟨#[84]⟩,⟨#[65]⟩,true,2),(⟨#[84]⟩,⟨#[66]⟩,true,2),(⟨#[84]⟩,⟨#[65]⟩,false,1),(⟨#[85]⟩,⟨#[65]⟩,true,1),(⟨#[85]⟩,⟨#[65]⟩,false,1)]:=by kernel_rfl
theorem Jgd:Zom (Zci (Zq Jhf Jz.nodes)).2=Jy.keys:=by kernel_rfl
theorem Zlp {x:Int} (h:x=-1):x<0:=by rw [h];decide
theorem Zyp {s:Zak} (h:Zk7 Jhf Jz (fun a b=>¬ cfL b a<0) (fun a b=>¬ cfL b a<0) (fun a b=>¬ cfE b a<0) (fun a b=>¬ cfK b a<0) s):s=Jy:=by
 obtain ⟨n,r,ls,ts,es,ks⟩:=s
 obtain ⟨j,f,g,k,y,D,t,B,z,h10⟩:=h
 simp only at j f g k y D t B z h10
 rw [Jee] at g
 rw [Jef] at y
 rw [Jbt] at t
 rw [Jgd] at z
 have e1:ls=Jy.labels:=Zdu (cf:=cfL) g k (List.Pairwise.cons (fun x d=>by simp only [List.mem_singleton] at d;subst d;exact Zlp (by kernel_rfl)) (List.pairwise_singleton _ _))
 have e2:ts=Jy.types:=Zdu (cf:=cfL) y D (List.Pairwise.cons (fun x d=>by simp only [List.mem_singleton] at d;subst d;exact Zlp (by kernel_rfl)) (List.pairwise_singleton _ _))
 have H:ks=Jy.keys:=Zdu (cf:=cfK) z h10 (List.Pairwise.cons (fun x d=>by simp only [List.mem_singleton] at d;subst d;exact Zlp (by kernel_rfl)) (List.pairwise_singleton _ _))
 have m:es.Perm Jy.ends:=t.trans ((List.Perm.cons _ (List.Perm.cons _ (List.Perm.cons _ (List.Perm.swap _ _ [])))).trans ((List.Perm.cons _ (List.Perm.swap _ _ _)).trans (List.Perm.swap _ _ _)))
 have I:es=Jy.ends:=Zdu (cf:=cfE) m B (by
  refine List.Pairwise.cons (fun x d=>?_) (List.Pairwise.cons (fun x d=>?_) (List.Pairwise.cons (fun x d=>?_) (List.Pairwise.cons (fun x d=>?_) (List.pairwise_singleton _ _))))
  all_goals
   simp only [List.mem_cons,List.not_mem_nil,or_false] at d
  ·rcases d with rfl | rfl | rfl | rfl<;>exact Zlp (by kernel_rfl)
  ·rcases d with rfl | rfl | rfl<;>exact Zlp (by kernel_rfl)
  ·rcases d with rfl | rfl<;>exact Zlp (by kernel_rfl)
  ·subst d;exact Zlp (by kernel_rfl))
 have F:n=3:=j
 have G:r=3:=f
 rw [e1,e2,I,H,F,G]
 rfl
theorem Zyq:Zaz Jz=true:=by kernel_rfl
theorem Zff {a b c:Nat} (h:a=b) (f:b<=c):a<=c:=h▸f
theorem Zvx:Zpt Jhf Jz 12 2:=by
 refine ⟨by decide,by decide,?_,?_,?_,by decide,?_,by decide,Zff (b:=10) (by kernel_rfl) (by decide),Zff (b:=2) (by kernel_rfl) (by decide),Zff (b:=3) (by kernel_rfl) (by decide),Zff (b:=2) (by kernel_rfl) (by decide),Zff (b:=2) (by kernel_rfl) (by decide),Zff (b:=5) (by kernel_rfl) (by decide),Zff (b:=2) (by kernel_rfl) (by decide)⟩
 ·intro r hr
  simp only [Jz,List.mem_cons,List.not_mem_nil,or_false] at hr
  rcases hr with rfl | rfl | rfl<;>exact ⟨w64 (by decide) (by decide),w64 (by decide) (by decide)⟩
 ·decide
 ·intro r hr
  simp only [Jz,List.mem_cons,List.not_mem_nil,or_false] at hr
  rcases hr with rfl | rfl | rfl<;>exact w64 (by decide) (by decide)
 ·intro r hr
  simp only [Jz,List.mem_cons,List.not_mem_nil,or_false] at hr
  rcases hr with rfl | rfl | rfl<;>decide
theorem Zsj:Jbj Jz:=by
 refine ⟨by decide,by decide,?_,?_⟩
 ·intro n hn
  simp only [Jz,List.mem_cons,List.not_mem_nil,or_false] at hn
  rcases hn with rfl | rfl | rfl
  ·refine ⟨fun x d=>?_,fun q i=>?_⟩
   ·simp only [List.mem_cons,List.not_mem_nil,or_false] at d
    rcases d with rfl | rfl<;>decide
   ·simp only [Jb3,List.mem_cons,List.not_mem_nil,or_false] at i
    subst i
    exact ⟨by decide,by constructor<;>decide⟩
  ·refine ⟨fun x d=>?_,fun q i=>?_⟩
   ·simp only [List.mem_cons,List.not_mem_nil,or_false] at d
    subst d;decide
   ·simp only [Jb3,List.mem_cons,List.not_mem_nil,or_false] at i
    subst i
    exact ⟨by decide,by constructor<;>decide⟩
  ·exact ⟨fun x d=>by simp at d,fun q i=>by simp at i⟩
 ·intro r hr
  simp only [Jz,List.mem_cons,List.not_mem_nil,or_false] at hr
  rcases hr with rfl | rfl | rfl<;>exact ⟨by decide,fun q i=>by simp at i⟩
theorem Zqp (v:Value) (w:World) (o:Env w) (h:Zp w.heap.size w v Jz) :
  Calls Tryz.prog 11 #[v] w fun e w'=>∃ vl vt ve vk,e=.returned (.tuple #[Za4 Jy vl vt ve vk,.int .i64 0])/\Zzl w.heap.size w' vl vt ve vk Jy/\Below w.heap.size w w':=by
 refine (Zmt Zu5 Zvd Zvv Zu0 (by decide) Jhf 2 Jz v w.heap.size w (Nat.le_refl _) o h Zsj (by decide) (by decide) Zvx Zyq ?_).mono ?_
 ·intro n hn p m
  have A:p=(⟨#[107]⟩,.mk 2 false 1 ⟨#[]⟩ [] []):=by
   simp only [Jz,List.mem_cons,List.not_mem_nil,or_false] at hn
   rcases hn with rfl | rfl | rfl
   ·simpa [Jb3] using m
   ·simpa [Jb3] using m
   ·simp at m
  subst A
  refine ⟨(by decide:(1:Nat)<=_),fun W u hb hl=>?_⟩
  exact Ja3 u W (hl.mono hb.size) (o.below hb o.room).tabs
 ·rintro e w' ⟨s,vl,vt,ve,vk,rfl,j,f,g⟩
  rw [Zyp j] at f |-
  exact ⟨vl,vt,ve,vk,rfl,f,g⟩
end Go.Proofs.YthfilnflgahcjaaGreatDoor

namespace Go.Proofs.YthfilnflgahcjaaGreatDoor
open Go.RowKit Go.Shelf Go.Maps
set_option linter.all false
attribute [local go_sem] Oper.semAt_some
noncomputable def R10:Array Oper:=Ze0 Tryz.f10 2
def S10:List Sig:=[⟨8,Op.move (Operand.tmp 2),34,none⟩,⟨9,Op.call { callee:=Callee.value (Operand.func 12),args:=#[Operand.tmp 8],argTypes:=#[34] },3,none⟩,⟨10,Op.binOp BinOp.eql 3 (Operand.tmp 9) (Operand.const (Value.int IntKind.i64 0)) 3,4,none⟩,⟨11,Op.move (Operand.tmp 10),4,none⟩,⟨12,Op.fieldAddr 33 (Operand.tmp 1) 2,0,some (3,true)⟩,⟨13,Op.load 28 (Operand.tmp 12),28,some (3,true)⟩,⟨14,Op.call { callee:=Callee.builtin Builtin.len,args:=#[Operand.tmp 13],argTypes:=#[28] },3,some (3,true)⟩,⟨15,Op.binOp BinOp.eql 3 (Operand.tmp 14) (Operand.const (Value.int IntKind.i64 2)) 3,4,some (3,true)⟩,⟨16,Op.pick (Operand.tmp 11) (Operand.tmp 15) (Operand.const (Value.bool false)),4,none⟩,⟨17,Op.move (Operand.tmp 16),4,none⟩,⟨18,Op.fieldAddr 33 (Operand.tmp 1) 4,0,some (9,true)⟩,⟨19,Op.load 30 (Operand.tmp 18),30,some (9,true)⟩,⟨20,Op.call { callee:=Callee.builtin Builtin.len,args:=#[Operand.tmp 19],argTypes:=#[30] },3,some (9,true)⟩,⟨21,Op.binOp BinOp.eql 3 (Operand.tmp 20) (Operand.const (Value.int IntKind.i64 5)) 3,4,some (9,true)⟩,⟨22,Op.pick (Operand.tmp 17) (Operand.tmp 21) (Operand.const (Value.bool false)),4,none⟩,⟨23,Op.move (Operand.tmp 22),4,none⟩,⟨24,Op.fieldAddr 33 (Operand.tmp 1) 4,0,some (15,true)⟩,⟨25,Op.load 30 (Operand.tmp 24),30,some (15,true)⟩,⟨26,Op.indexAddr 30 (Operand.tmp 25) (Operand.const (Value.int IntKind.i64 1)),0,some (15,true)⟩,⟨27,Op.load 64 (Operand.tmp 26),64,some (15,true)⟩,⟨28,Op.build 64 #[(0,Operand.const (Value.string { data:=#[84] })),(1,Operand.const (Value.string { data:=#[65] })),(2,Operand.const (Value.bool true)),(3,Operand.const (Value.int IntKind.i64 2))],64,some (15,true)⟩,⟨29,Op.binOp BinOp.eql 64 (Operand.tmp 27) (Operand.tmp 28) 64,4,some (15,true)⟩,⟨30,Op.pick (Operand.tmp 23) (Operand.tmp 29) (Operand.const (Value.bool false)),4,none⟩,⟨31,Op.move (Operand.tmp 30),4,none⟩,⟨32,Op.load 33 (Operand.tmp 1),33,some (23,true)⟩,⟨33,Op.buildSlice 43 2 #[(0,Operand.const (Value.string { data:=#[65] })),(1,Operand.const (Value.string { data:=#[66] }))],43,some (23,true)⟩,⟨34,Op.call { callee:=Callee.value (Operand.func 19),args:=#[Operand.tmp 32,Operand.tmp 33],argTypes:=#[33,43] },2,some (23,true)⟩,⟨35,Op.binOp BinOp.eql 2 (Operand.tmp 34) (Operand.const (Value.int IntKind.i64 1)) 2,4,some (23,true)⟩,⟨36,Op.pick (Operand.tmp 31) (Operand.tmp 35) (Operand.const (Value.bool false)),4,none⟩,⟨37,Op.move (Operand.tmp 36),4,none⟩,⟨38,Op.load 33 (Operand.tmp 1),33,some (29,true)⟩,⟨39,Op.call { callee:=Callee.value (Operand.func 24),args:=#[Operand.tmp 38,Operand.const (Value.string { data:=#[65] }),Operand.const (Value.string { data:=#[107] })],argTypes:=#[33,9,9] },2,some (29,true)⟩,⟨40,Op.binOp BinOp.eql 2 (Operand.tmp 39) (Operand.const (Value.int IntKind.i64 2)) 2,4,some (29,true)⟩,⟨41,Op.pick (Operand.tmp 37) (Operand.tmp 40) (Operand.const (Value.bool false)),4,none⟩,⟨42,Op.move (Operand.tmp 41),4,none⟩,⟨43,Op.load 33 (Operand.tmp 1),33,some (34,true)⟩,⟨44,Op.call { callee:=Callee.value (Operand.func 26),args:=#[Operand.tmp 43,Operand.const (Value.int IntKind.i64 0),Operand.const (Value.slice none 0 0)],argTypes:=#[33,3,43] },2,some (34,true)⟩,⟨45,Op.binOp BinOp.eql 2 (Operand.tmp 44) (Operand.const (Value.int IntKind.i64 2)) 2,4,some (34,true)⟩,⟨46,Op.pick (Operand.tmp 42) (Operand.tmp 45) (Operand.const (Value.bool false)),4,none⟩,⟨47,Op.move (Operand.tmp 46),4,none⟩,⟨48,Op.load 33 (Operand.tmp 1),33,some (39,true)⟩,⟨49,Op.buildSlice 43 1 #[(0,Operand.const (Value.string { data:=#[84] }))],43,some (39,true)⟩,⟨50,Op.call { callee:=Callee.value (Operand.func 28),args:=#[Operand.tmp 48,Operand.const (Value.string { data:=#[65] }),Operand.const (Value.int IntKind.i64 1),Operand.tmp 49],argTypes:=#[33,9,3,43] },2,some (39,true)⟩,⟨51,Op.binOp BinOp.eql 2 (Operand.tmp 50) (Operand.const (Value.int IntKind.i64 1)) 2,4,some (39,true)⟩,⟨52,Op.pick (Operand.tmp 47) (Operand.tmp 51) (Operand.const (Value.bool false)),4,none⟩,⟨53,Op.move (Operand.tmp 52),4,none⟩,⟨54,Op.call { callee:=Callee.value (Operand.func 32),args:=#[Operand.const (Value.int IntKind.i64 7),Operand.const (Value.int IntKind.i64 2)],argTypes:=#[2,2] },2,some (45,true)⟩,⟨55,Op.binOp BinOp.eql 2 (Operand.tmp 54) (Operand.const (Value.int IntKind.i64 4)) 2,4,some (45,true)⟩,⟨56,Op.pick (Operand.tmp 53) (Operand.tmp 55) (Operand.const (Value.bool false)),4,none⟩,⟨0,Op.assign (Operand.tmp 56),4,none⟩]
theorem Jg:Zo4 R10=S10.map some:=by kernel_rfl
def Jgm (i:Nat):List Nat:=[[],[0],[1],[2],[3],[3,4],[3,5],[3,6],[3,7],[8],[9],[9,10],[9,11],[9,12],[9,13],[14],[15],[15,16],[15,17],[15,18],[15],[15,19,20],[15,21],[22],[23],[23],[23,24,25],[23,26],[23,27],[28],[29],[29,30],[29,31],[29,32],[33],[34],[34,35],[34,36],[34,37],[38],[39],[39],[39,40,41],[39,42],[39,43],[44],[45],[45,46],[45,47],[48]].getD i []
section
variable (bx:Nat) (la:Option Addr) (lc:Nat) (ta:Option Addr) (tc:Nat) (eb eo ec:Nat) (ka:Option Addr) (kc:Nat)
abbrev Zkp:Value:=.agg #[.int .i64 3,.int .i64 3,.slice la 2 lc,.slice ta 2 tc,.slice (some ⟨eb,eo,none⟩) 5 ec,.slice ka 2 kc]
def Zly:List (Value->World->Prop):=[eqv (.int .i64 0),eqv (.int .i64 0),eqv (.bool true),eqv (.bool true),eqv (.pointer (some ⟨bx,2,none⟩)),eqv (.slice la 2 lc),eqv (.int .i64 2),eqv (.bool true),eqv (.bool true),eqv (.bool true),eqv (.pointer (some ⟨bx,4,none⟩)),eqv (.slice (some ⟨eb,eo,none⟩) 5 ec),eqv (.int .i64 5),eqv (.bool true),eqv (.bool true),eqv (.bool true),eqv (.pointer (some ⟨bx,4,none⟩)),eqv (.slice (some ⟨eb,eo,none⟩) 5 ec),eqv (.pointer (some ⟨eb,eo+4,none⟩)),eqv (.agg #[.string ⟨#[84]⟩,.string ⟨#[65]⟩,.bool true,.int .i64 2]),eqv (.agg #[.string ⟨#[84]⟩,.string ⟨#[65]⟩,.bool true,.int .i64 2]),eqv (.bool true),eqv (.bool true),eqv (.bool true),eqv (Zkp la lc ta tc eb eo ec ka kc),(fun v W=>Zal 1 Zap W.heap.size W v [⟨#[65]⟩,⟨#[66]⟩]),eqv (.int .i64 1),eqv (.bool true),eqv (.bool true),eqv (.bool true),eqv (Zkp la lc ta tc eb eo ec ka kc),eqv (.int .i64 2),eqv (.bool true),eqv (.bool true),eqv (.bool true),eqv (Zkp la lc ta tc eb eo ec ka kc),eqv (.int .i64 2),eqv (.bool true),eqv (.bool true),eqv (.bool true),eqv (Zkp la lc ta tc eb eo ec ka kc),(fun v W=>Zal 1 Zap W.heap.size W v [⟨#[84]⟩]),eqv (.int .i64 1),eqv (.bool true),eqv (.bool true),eqv (.bool true),eqv (.int .i64 4),eqv (.bool true),eqv (.bool true),eqv (.bool true)]
structure Ji8 (w:World):Prop where
 c0:w.cell? ⟨bx,0,none⟩=some (.int .i64 3)
 c1:w.cell? ⟨bx,1,none⟩=some (.int .i64 3)
 c2:w.cell? ⟨bx,2,none⟩=some (.slice la 2 lc)
 c3:w.cell? ⟨bx,3,none⟩=some (.slice ta 2 tc)
 c4:w.cell? ⟨bx,4,none⟩=some (.slice (some ⟨eb,eo,none⟩) 5 ec)
 c5:w.cell? ⟨bx,5,none⟩=some (.slice ka 2 kc)
 d0:w.cell? ⟨eb,eo+4,none⟩=some (.string ⟨#[84]⟩)
 d1:w.cell? ⟨eb,eo+4+1,none⟩=some (.string ⟨#[65]⟩)
 d2:w.cell? ⟨eb,eo+4+2,none⟩=some (.bool true)
 d3:w.cell? ⟨eb,eo+4+3,none⟩=some (.int .i64 2)
 k12:Calls Tryz.prog 12 #[.int .i64 0] w fun e w'=>e=.returned (.int .i64 0)/\Below w.heap.size w w'
 k19:∀ y,Zal 1 Zap w.heap.size w y [⟨#[65]⟩,⟨#[66]⟩]->Calls Tryz.prog 19 #[Zkp la lc ta tc eb eo ec ka kc,y] w fun e w'=>e=.returned (.int .i64 1)/\Below w.heap.size w w'
 k24:Calls Tryz.prog 24 #[Zkp la lc ta tc eb eo ec ka kc,.string ⟨#[65]⟩,.string ⟨#[107]⟩] w fun e w'=>e=.returned (.int .i64 2)/\Below w.heap.size w w'
 k26:Calls Tryz.prog 26 #[Zkp la lc ta tc eb eo ec ka kc,.int .i64 0,.slice none 0 0] w fun e w'=>e=.returned (.int .i64 2)/\Below w.heap.size w w'
 k28:∀ y,Zal 1 Zap w.heap.size w y [⟨#[84]⟩]->Calls Tryz.prog 28 #[Zkp la lc ta tc eb eo ec ka kc,.string ⟨#[65]⟩,.int .i64 1,y] w fun e w'=>e=.returned (.int .i64 1)/\Below w.heap.size w w'
 k32:Calls Tryz.prog 32 #[.int .i64 7,.int .i64 2] w fun e w'=>e=.returned (.int .i64 4)/\Below w.heap.size w w'
set_option maxRecDepth 100000 in
set_option maxHeartbeats 4000000 in
theorem Jil (Q:Exit->Act->World->Prop) (c:Act) (w:World) (q1:c.eval (.tmp 1)=.pointer (some ⟨bx,0,none⟩)) (q2:c.eval (.tmp 2)=.int .i64 0) (g:Ji8 bx la lc ta tc eb eo ec ka kc w) (i:Nat) (R:i<50) (a:∀ j ∈ Jgm i,Ze1 (Zly bx la lc ta tc eb eo ec ka kc) j (val R10 c j) w) :
  Zwm Tryz.prog R10 Q (Ze1 (Zly bx la lc ta tc eb eo ec ka kc)) i c w:=by
 have b1:∀ v,c.eval (.const v)=v:=fun _=>rfl
 have ef:∀ f,c.eval (.func f)=.func (.func f) #[] #[]:=fun _=>rfl
 match i,R,a with
 | 0,_,a =>
  obtain ⟨pos,l,b⟩:=Zz Jg (i:=0) rfl
  refine Ze b (Zf rfl) (v:=.int .i64 0) ?_ rfl (Below.refl _ _)
  dsimp only [Sig.oper]
  generalize c.eval=ρ at *
  clear a g b
  go_simp
 | 1,_,a =>
  obtain ⟨pos,l,b⟩:=Zz Jg (i:=1) rfl
  have e8:c.eval (.tmp 8)=.int .i64 0:=Zg (p:=eqv (.int .i64 0)) (by kernel_rfl) rfl (a 0 (by decide))
  refine Zby b (Zf rfl) (f:=12) (args:=#[.int .i64 0]) ?_ (Calls.mono g.k12 fun e w' ⟨q,o⟩=>⟨_,q,rfl,o⟩)
  dsimp only [Sig.oper]
  generalize c.eval=ρ at *
  clear a g b
  go_simp
 | 2,_,a =>
  obtain ⟨pos,l,b⟩:=Zz Jg (i:=2) rfl
  have e9:c.eval (.tmp 9)=.int .i64 0:=Zg (p:=eqv (.int .i64 0)) (by kernel_rfl) rfl (a 1 (by decide))
  refine Ze b (Zf rfl) (v:=.bool true) ?_ rfl (Below.refl _ _)
  dsimp only [Sig.oper]
  generalize c.eval=ρ at *
  clear a g b
  go_simp
 | 3,_,a =>
  obtain ⟨pos,l,b⟩:=Zz Jg (i:=3) rfl
  have a4:c.eval (.tmp 10)=.bool true:=Zg (p:=eqv (.bool true)) (by kernel_rfl) rfl (a 2 (by decide))
  refine Ze b (Zf rfl) (v:=.bool true) ?_ rfl (Below.refl _ _)
  dsimp only [Sig.oper]
  generalize c.eval=ρ at *
  clear a g b
  go_simp
 | 4,_,a =>
  obtain ⟨pos,l,b⟩:=Zz Jg (i:=4) rfl
  have u:c.eval (.tmp 11)=.bool true:=Zg (p:=eqv (.bool true)) (by kernel_rfl) rfl (a 3 (by decide))
  refine Ze b (Jr rfl (a 3 (by decide))) (v:=.pointer (some ⟨bx,2,none⟩)) ?_ rfl (Below.refl _ _)
  dsimp only [Sig.oper]
  generalize c.eval=ρ at *
  clear a g b
  go_simp
 | 5,_,a =>
  obtain ⟨pos,l,b⟩:=Zz Jg (i:=5) rfl
  have u:c.eval (.tmp 11)=.bool true:=Zg (p:=eqv (.bool true)) (by kernel_rfl) rfl (a 3 (by decide))
  have O:c.eval (.tmp 12)=.pointer (some ⟨bx,2,none⟩):=Zg (p:=eqv (.pointer (some ⟨bx,2,none⟩))) (by kernel_rfl) rfl (a 4 (by decide))
  have z2:=g.c2
  refine Ze b (Jr rfl (a 3 (by decide))) (v:=.slice la 2 lc) ?_ rfl (Below.refl _ _)
  dsimp only [Sig.oper]
  generalize c.eval=ρ at *
  clear a g b
  go_simp
 | 6,_,a =>
  obtain ⟨pos,l,b⟩:=Zz Jg (i:=6) rfl
  have u:c.eval (.tmp 11)=.bool true:=Zg (p:=eqv (.bool true)) (by kernel_rfl) rfl (a 3 (by decide))
  have b5:c.eval (.tmp 13)=.slice la 2 lc:=Zg (p:=eqv (.slice la 2 lc)) (by kernel_rfl) rfl (a 5 (by decide))
  refine Ze b (Jr rfl (a 3 (by decide))) (v:=.int .i64 2) ?_ rfl (Below.refl _ _)
  dsimp only [Sig.oper]
  generalize c.eval=ρ at *
  clear a g b
  go_simp
 | 7,_,a =>
  obtain ⟨pos,l,b⟩:=Zz Jg (i:=7) rfl
  have u:c.eval (.tmp 11)=.bool true:=Zg (p:=eqv (.bool true)) (by kernel_rfl) rfl (a 3 (by decide))
  have X:c.eval (.tmp 14)=.int .i64 2:=Zg (p:=eqv (.int .i64 2)) (by kernel_rfl) rfl (a 6 (by decide))
  refine Ze b (Jr rfl (a 3 (by decide))) (v:=.bool true) ?_ rfl (Below.refl _ _)
  dsimp only [Sig.oper]
  generalize c.eval=ρ at *
  clear a g b
  go_simp
 | 8,_,a =>
  obtain ⟨pos,l,b⟩:=Zz Jg (i:=8) rfl
  have u:c.eval (.tmp 11)=.bool true:=Zg (p:=eqv (.bool true)) (by kernel_rfl) rfl (a 3 (by decide))
  have a1:c.eval (.tmp 15)=.bool true:=Zg (p:=eqv (.bool true)) (by kernel_rfl) rfl (a 7 (by decide))
  refine Ze b (Zf rfl) (v:=.bool true) ?_ rfl (Below.refl _ _)
  dsimp only [Sig.oper]
  generalize c.eval=ρ at *
  clear a g b
  go_simp
 | 9,_,a =>
  obtain ⟨pos,l,b⟩:=Zz Jg (i:=9) rfl
  have d5:c.eval (.tmp 16)=.bool true:=Zg (p:=eqv (.bool true)) (by kernel_rfl) rfl (a 8 (by decide))
  refine Ze b (Zf rfl) (v:=.bool true) ?_ rfl (Below.refl _ _)
  dsimp only [Sig.oper]
  generalize c.eval=ρ at *
  clear a g b
  go_simp
 | 10,_,a =>
  obtain ⟨pos,l,b⟩:=Zz Jg (i:=10) rfl
  have t:c.eval (.tmp 17)=.bool true:=Zg (p:=eqv (.bool true)) (by kernel_rfl) rfl (a 9 (by decide))
  refine Ze b (Jr rfl (a 9 (by decide))) (v:=.pointer (some ⟨bx,4,none⟩)) ?_ rfl (Below.refl _ _)
  dsimp only [Sig.oper]
  generalize c.eval=ρ at *
  clear a g b
  go_simp
 | 11,_,a =>
  obtain ⟨pos,l,b⟩:=Zz Jg (i:=11) rfl
  have t:c.eval (.tmp 17)=.bool true:=Zg (p:=eqv (.bool true)) (by kernel_rfl) rfl (a 9 (by decide))
  have b8:c.eval (.tmp 18)=.pointer (some ⟨bx,4,none⟩):=Zg (p:=eqv (.pointer (some ⟨bx,4,none⟩))) (by kernel_rfl) rfl (a 10 (by decide))
  have E:=g.c4
  refine Ze b (Jr rfl (a 9 (by decide))) (v:=.slice (some ⟨eb,eo,none⟩) 5 ec) ?_ rfl (Below.refl _ _)
  dsimp only [Sig.oper]
  generalize c.eval=ρ at *
  clear a g b
  go_simp
 | 12,_,a =>
  obtain ⟨pos,l,b⟩:=Zz Jg (i:=12) rfl
  have t:c.eval (.tmp 17)=.bool true:=Zg (p:=eqv (.bool true)) (by kernel_rfl) rfl (a 9 (by decide))
  have a3:c.eval (.tmp 19)=.slice (some ⟨eb,eo,none⟩) 5 ec:=Zg (p:=eqv (.slice (some ⟨eb,eo,none⟩) 5 ec)) (by kernel_rfl) rfl (a 11 (by decide))
  refine Ze b (Jr rfl (a 9 (by decide))) (v:=.int .i64 5) ?_ rfl (Below.refl _ _)
  dsimp only [Sig.oper]
  generalize c.eval=ρ at *
  clear a g b
  go_simp
 | 13,_,a =>
  obtain ⟨pos,l,b⟩:=Zz Jg (i:=13) rfl
  have t:c.eval (.tmp 17)=.bool true:=Zg (p:=eqv (.bool true)) (by kernel_rfl) rfl (a 9 (by decide))
  have V:c.eval (.tmp 20)=.int .i64 5:=Zg (p:=eqv (.int .i64 5)) (by kernel_rfl) rfl (a 12 (by decide))
  refine Ze b (Jr rfl (a 9 (by decide))) (v:=.bool true) ?_ rfl (Below.refl _ _)
  dsimp only [Sig.oper]
  generalize c.eval=ρ at *
  clear a g b
  go_simp
 | 14,_,a =>
  obtain ⟨pos,l,b⟩:=Zz Jg (i:=14) rfl
  have t:c.eval (.tmp 17)=.bool true:=Zg (p:=eqv (.bool true)) (by kernel_rfl) rfl (a 9 (by decide))
  have b7:c.eval (.tmp 21)=.bool true:=Zg (p:=eqv (.bool true)) (by kernel_rfl) rfl (a 13 (by decide))
  refine Ze b (Zf rfl) (v:=.bool true) ?_ rfl (Below.refl _ _)
  dsimp only [Sig.oper]
  generalize c.eval=ρ at *
  clear a g b
  go_simp
 | 15,_,a =>
  obtain ⟨pos,l,b⟩:=Zz Jg (i:=15) rfl
  have a6:c.eval (.tmp 22)=.bool true:=Zg (p:=eqv (.bool true)) (by kernel_rfl) rfl (a 14 (by decide))
  refine Ze b (Zf rfl) (v:=.bool true) ?_ rfl (Below.refl _ _)
  dsimp only [Sig.oper]
  generalize c.eval=ρ at *
  clear a g b
  go_simp
 | 16,_,a =>
  obtain ⟨pos,l,b⟩:=Zz Jg (i:=16) rfl
  have m:c.eval (.tmp 23)=.bool true:=Zg (p:=eqv (.bool true)) (by kernel_rfl) rfl (a 15 (by decide))
  refine Ze b (Jr rfl (a 15 (by decide))) (v:=.pointer (some ⟨bx,4,none⟩)) ?_ rfl (Below.refl _ _)
  dsimp only [Sig.oper]
  generalize c.eval=ρ at *
  clear a g b
  go_simp
 | 17,_,a =>
  obtain ⟨pos,l,b⟩:=Zz Jg (i:=17) rfl
  have m:c.eval (.tmp 23)=.bool true:=Zg (p:=eqv (.bool true)) (by kernel_rfl) rfl (a 15 (by decide))
  have c6:c.eval (.tmp 24)=.pointer (some ⟨bx,4,none⟩):=Zg (p:=eqv (.pointer (some ⟨bx,4,none⟩))) (by kernel_rfl) rfl (a 16 (by decide))
  have E:=g.c4
  refine Ze b (Jr rfl (a 15 (by decide))) (v:=.slice (some ⟨eb,eo,none⟩) 5 ec) ?_ rfl (Below.refl _ _)
  dsimp only [Sig.oper]
  generalize c.eval=ρ at *
  clear a g b
  go_simp
 | 18,_,a =>
  obtain ⟨pos,l,b⟩:=Zz Jg (i:=18) rfl
  have m:c.eval (.tmp 23)=.bool true:=Zg (p:=eqv (.bool true)) (by kernel_rfl) rfl (a 15 (by decide))
  have N:c.eval (.tmp 25)=.slice (some ⟨eb,eo,none⟩) 5 ec:=Zg (p:=eqv (.slice (some ⟨eb,eo,none⟩) 5 ec)) (by kernel_rfl) rfl (a 17 (by decide))
  refine Ze b (Jr rfl (a 15 (by decide))) (v:=.pointer (some ⟨eb,eo+4,none⟩)) ?_ rfl (Below.refl _ _)
  dsimp only [Sig.oper]
  generalize c.eval=ρ at *
  clear a g b
  go_simp
 | 19,_,a =>
  obtain ⟨pos,l,b⟩:=Zz Jg (i:=19) rfl
  have m:c.eval (.tmp 23)=.bool true:=Zg (p:=eqv (.bool true)) (by kernel_rfl) rfl (a 15 (by decide))
  have a8:c.eval (.tmp 26)=.pointer (some ⟨eb,eo+4,none⟩):=Zg (p:=eqv (.pointer (some ⟨eb,eo+4,none⟩))) (by kernel_rfl) rfl (a 18 (by decide))
  have G:=g.d0
  have z1:=g.d1
  have z2:=g.d2
  have H:=g.d3
  refine Ze b (Jr rfl (a 15 (by decide))) (v:=.agg #[.string ⟨#[84]⟩,.string ⟨#[65]⟩,.bool true,.int .i64 2]) ?_ rfl (Below.refl _ _)
  dsimp only [Sig.oper]
  generalize c.eval=ρ at *
  clear a g b
  go_simp
 | 20,_,a =>
  obtain ⟨pos,l,b⟩:=Zz Jg (i:=20) rfl
  have m:c.eval (.tmp 23)=.bool true:=Zg (p:=eqv (.bool true)) (by kernel_rfl) rfl (a 15 (by decide))
  refine Ze b (Jr rfl (a 15 (by decide))) (v:=.agg #[.string ⟨#[84]⟩,.string ⟨#[65]⟩,.bool true,.int .i64 2]) ?_ rfl (Below.refl _ _)
  dsimp only [Sig.oper]
  generalize c.eval=ρ at *
  clear a g b
  go_simp
 | 21,_,a =>
  obtain ⟨pos,l,b⟩:=Zz Jg (i:=21) rfl
  have m:c.eval (.tmp 23)=.bool true:=Zg (p:=eqv (.bool true)) (by kernel_rfl) rfl (a 15 (by decide))
  have b4:c.eval (.tmp 27)=.agg #[.string ⟨#[84]⟩,.string ⟨#[65]⟩,.bool true,.int .i64 2]:=Zg (p:=eqv (.agg #[.string ⟨#[84]⟩,.string ⟨#[65]⟩,.bool true,.int .i64 2])) (by kernel_rfl) rfl (a 19 (by decide))
  have a9:c.eval (.tmp 28)=.agg #[.string ⟨#[84]⟩,.string ⟨#[65]⟩,.bool true,.int .i64 2]:=Zg (p:=eqv (.agg #[.string ⟨#[84]⟩,.string ⟨#[65]⟩,.bool true,.int .i64 2])) (by kernel_rfl) rfl (a 20 (by decide))
  refine Ze b (Jr rfl (a 15 (by decide))) (v:=.bool true) ?_ rfl (Below.refl _ _)
  dsimp only [Sig.oper]
  generalize c.eval=ρ at *
  clear a g b
  go_simp
 | 22,_,a =>
  obtain ⟨pos,l,b⟩:=Zz Jg (i:=22) rfl
  have m:c.eval (.tmp 23)=.bool true:=Zg (p:=eqv (.bool true)) (by kernel_rfl) rfl (a 15 (by decide))
  have a2:c.eval (.tmp 29)=.bool true:=Zg (p:=eqv (.bool true)) (by kernel_rfl) rfl (a 21 (by decide))
  refine Ze b (Zf rfl) (v:=.bool true) ?_ rfl (Below.refl _ _)
  dsimp only [Sig.oper]
  generalize c.eval=ρ at *
  clear a g b
  go_simp
 | 23,_,a =>
  obtain ⟨pos,l,b⟩:=Zz Jg (i:=23) rfl
  have Y:c.eval (.tmp 30)=.bool true:=Zg (p:=eqv (.bool true)) (by kernel_rfl) rfl (a 22 (by decide))
  refine Ze b (Zf rfl) (v:=.bool true) ?_ rfl (Below.refl _ _)
  dsimp only [Sig.oper]
  generalize c.eval=ρ at *
  clear a g b
  go_simp
 | 24,_,a =>
  obtain ⟨pos,l,b⟩:=Zz Jg (i:=24) rfl
  have s:c.eval (.tmp 31)=.bool true:=Zg (p:=eqv (.bool true)) (by kernel_rfl) rfl (a 23 (by decide))
  have G:=g.c0
  have z1:=g.c1
  have z2:=g.c2
  have H:=g.c3
  have E:=g.c4
  have L:=g.c5
  refine Ze b (Jr rfl (a 23 (by decide))) (v:=Zkp la lc ta tc eb eo ec ka kc) ?_ rfl (Below.refl _ _)
  dsimp only [Sig.oper]
  generalize c.eval=ρ at *
  clear a g b
  go_simp
 | 25,_,a =>
  obtain ⟨pos,l,b⟩:=Zz Jg (i:=25) rfl
  have s:c.eval (.tmp 31)=.bool true:=Zg (p:=eqv (.bool true)) (by kernel_rfl) rfl (a 23 (by decide))
  refine Ze b (Jr rfl (a 23 (by decide))) (v:=.slice (some ⟨w.heap.size,0,none⟩) 2 2) (w':=w.alloc (.cells #[.string ⟨#[65]⟩,.string ⟨#[66]⟩] 9)) ?_ (Zbb (k:=1) (enc:=Zap) (fun _=>rfl) w [⟨#[65]⟩,⟨#[66]⟩] #[.string ⟨#[65]⟩,.string ⟨#[66]⟩] 9 rfl (by decide)) ((Below.refl _ _).alloc (Nat.le_refl _) _)
  dsimp only [Sig.oper]
  generalize c.eval=ρ at *
  clear a g b
  go_simp
 | 26,_,a =>
  obtain ⟨pos,l,b⟩:=Zz Jg (i:=26) rfl
  have s:c.eval (.tmp 31)=.bool true:=Zg (p:=eqv (.bool true)) (by kernel_rfl) rfl (a 23 (by decide))
  have T:c.eval (.tmp 32)=Zkp la lc ta tc eb eo ec ka kc:=Zg (p:=eqv (Zkp la lc ta tc eb eo ec ka kc)) (by kernel_rfl) rfl (a 24 (by decide))
  have B:=Zg (d:=33) (p:=(fun v W=>Zal 1 Zap W.heap.size W v [⟨#[65]⟩,⟨#[66]⟩])) (by kernel_rfl) rfl (a 25 (by decide))
  obtain ⟨A,I⟩:∃ y,c.eval (.tmp 33)=y:=⟨_,rfl⟩
  simp only [I] at B
  refine Zby b (Jr rfl (a 23 (by decide))) (f:=19) (args:=#[Zkp la lc ta tc eb eo ec ka kc,A]) ?_ (Calls.mono (g.k19 A B) fun e w' ⟨q,o⟩=>⟨_,q,rfl,o⟩)
  dsimp only [Sig.oper]
  generalize c.eval=ρ at *
  clear a g b
  go_simp
 | 27,_,a =>
  obtain ⟨pos,l,b⟩:=Zz Jg (i:=27) rfl
  have s:c.eval (.tmp 31)=.bool true:=Zg (p:=eqv (.bool true)) (by kernel_rfl) rfl (a 23 (by decide))
  have a7:c.eval (.tmp 34)=.int .i64 1:=Zg (p:=eqv (.int .i64 1)) (by kernel_rfl) rfl (a 26 (by decide))
  refine Ze b (Jr rfl (a 23 (by decide))) (v:=.bool true) ?_ rfl (Below.refl _ _)
  dsimp only [Sig.oper]
  generalize c.eval=ρ at *
  clear a g b
  go_simp
 | 28,_,a =>
  obtain ⟨pos,l,b⟩:=Zz Jg (i:=28) rfl
  have s:c.eval (.tmp 31)=.bool true:=Zg (p:=eqv (.bool true)) (by kernel_rfl) rfl (a 23 (by decide))
  have U:c.eval (.tmp 35)=.bool true:=Zg (p:=eqv (.bool true)) (by kernel_rfl) rfl (a 27 (by decide))
  refine Ze b (Zf rfl) (v:=.bool true) ?_ rfl (Below.refl _ _)
  dsimp only [Sig.oper]
  generalize c.eval=ρ at *
  clear a g b
  go_simp
 | 29,_,a =>
  obtain ⟨pos,l,b⟩:=Zz Jg (i:=29) rfl
  have b2:c.eval (.tmp 36)=.bool true:=Zg (p:=eqv (.bool true)) (by kernel_rfl) rfl (a 28 (by decide))
  refine Ze b (Zf rfl) (v:=.bool true) ?_ rfl (Below.refl _ _)
  dsimp only [Sig.oper]
  generalize c.eval=ρ at *
  clear a g b
  go_simp
 | 30,_,a =>
  obtain ⟨pos,l,b⟩:=Zz Jg (i:=30) rfl
  have x:c.eval (.tmp 37)=.bool true:=Zg (p:=eqv (.bool true)) (by kernel_rfl) rfl (a 29 (by decide))
  have G:=g.c0
  have z1:=g.c1
  have z2:=g.c2
  have H:=g.c3
  have E:=g.c4
  have L:=g.c5
  refine Ze b (Jr rfl (a 29 (by decide))) (v:=Zkp la lc ta tc eb eo ec ka kc) ?_ rfl (Below.refl _ _)
  dsimp only [Sig.oper]
  generalize c.eval=ρ at *
  clear a g b
  go_simp
 | 31,_,a =>
  obtain ⟨pos,l,b⟩:=Zz Jg (i:=31) rfl
  have x:c.eval (.tmp 37)=.bool true:=Zg (p:=eqv (.bool true)) (by kernel_rfl) rfl (a 29 (by decide))
  have M:c.eval (.tmp 38)=Zkp la lc ta tc eb eo ec ka kc:=Zg (p:=eqv (Zkp la lc ta tc eb eo ec ka kc)) (by kernel_rfl) rfl (a 30 (by decide))
  refine Zby b (Jr rfl (a 29 (by decide))) (f:=24) (args:=#[Zkp la lc ta tc eb eo ec ka kc,.string ⟨#[65]⟩,.string ⟨#[107]⟩]) ?_ (Calls.mono g.k24 fun e w' ⟨q,o⟩=>⟨_,q,rfl,o⟩)
  dsimp only [Sig.oper]
  generalize c.eval=ρ at *
  clear a g b
  go_simp
 | 32,_,a =>
  obtain ⟨pos,l,b⟩:=Zz Jg (i:=32) rfl
  have x:c.eval (.tmp 37)=.bool true:=Zg (p:=eqv (.bool true)) (by kernel_rfl) rfl (a 29 (by decide))
  have c9:c.eval (.tmp 39)=.int .i64 2:=Zg (p:=eqv (.int .i64 2)) (by kernel_rfl) rfl (a 31 (by decide))
  refine Ze b (Jr rfl (a 29 (by decide))) (v:=.bool true) ?_ rfl (Below.refl _ _)
  dsimp only [Sig.oper]
  generalize c.eval=ρ at *
  clear a g b
  go_simp
 | 33,_,a =>
  obtain ⟨pos,l,b⟩:=Zz Jg (i:=33) rfl
  have x:c.eval (.tmp 37)=.bool true:=Zg (p:=eqv (.bool true)) (by kernel_rfl) rfl (a 29 (by decide))
  have c8:c.eval (.tmp 40)=.bool true:=Zg (p:=eqv (.bool true)) (by kernel_rfl) rfl (a 32 (by decide))
  refine Ze b (Zf rfl) (v:=.bool true) ?_ rfl (Below.refl _ _)
  dsimp only [Sig.oper]
  generalize c.eval=ρ at *
  clear a g b
  go_simp
 | 34,_,a =>
  obtain ⟨pos,l,b⟩:=Zz Jg (i:=34) rfl
  have b3:c.eval (.tmp 41)=.bool true:=Zg (p:=eqv (.bool true)) (by kernel_rfl) rfl (a 33 (by decide))
  refine Ze b (Zf rfl) (v:=.bool true) ?_ rfl (Below.refl _ _)
  dsimp only [Sig.oper]
  generalize c.eval=ρ at *
  clear a g b
  go_simp
 | 35,_,a =>
  obtain ⟨pos,l,b⟩:=Zz Jg (i:=35) rfl
  have z:c.eval (.tmp 42)=.bool true:=Zg (p:=eqv (.bool true)) (by kernel_rfl) rfl (a 34 (by decide))
  have G:=g.c0
  have z1:=g.c1
  have z2:=g.c2
  have H:=g.c3
  have E:=g.c4
  have L:=g.c5
  refine Ze b (Jr rfl (a 34 (by decide))) (v:=Zkp la lc ta tc eb eo ec ka kc) ?_ rfl (Below.refl _ _)
  dsimp only [Sig.oper]
  generalize c.eval=ρ at *
  clear a g b
  go_simp
 | 36,_,a =>
  obtain ⟨pos,l,b⟩:=Zz Jg (i:=36) rfl
  have z:c.eval (.tmp 42)=.bool true:=Zg (p:=eqv (.bool true)) (by kernel_rfl) rfl (a 34 (by decide))
  have b9:c.eval (.tmp 43)=Zkp la lc ta tc eb eo ec ka kc:=Zg (p:=eqv (Zkp la lc ta tc eb eo ec ka kc)) (by kernel_rfl) rfl (a 35 (by decide))
  refine Zby b (Jr rfl (a 34 (by decide))) (f:=26) (args:=#[Zkp la lc ta tc eb eo ec ka kc,.int .i64 0,.slice none 0 0]) ?_ (Calls.mono g.k26 fun e w' ⟨q,o⟩=>⟨_,q,rfl,o⟩)
  dsimp only [Sig.oper]
  generalize c.eval=ρ at *
  clear a g b
  go_simp
 | 37,_,a =>
  obtain ⟨pos,l,b⟩:=Zz Jg (i:=37) rfl
  have z:c.eval (.tmp 42)=.bool true:=Zg (p:=eqv (.bool true)) (by kernel_rfl) rfl (a 34 (by decide))
  have a0:c.eval (.tmp 44)=.int .i64 2:=Zg (p:=eqv (.int .i64 2)) (by kernel_rfl) rfl (a 36 (by decide))
  refine Ze b (Jr rfl (a 34 (by decide))) (v:=.bool true) ?_ rfl (Below.refl _ _)
  dsimp only [Sig.oper]
  generalize c.eval=ρ at *
  clear a g b
  go_simp
 | 38,_,a =>
  obtain ⟨pos,l,b⟩:=Zz Jg (i:=38) rfl
  have z:c.eval (.tmp 42)=.bool true:=Zg (p:=eqv (.bool true)) (by kernel_rfl) rfl (a 34 (by decide))
  have d7:c.eval (.tmp 45)=.bool true:=Zg (p:=eqv (.bool true)) (by kernel_rfl) rfl (a 37 (by decide))
  refine Ze b (Zf rfl) (v:=.bool true) ?_ rfl (Below.refl _ _)
  dsimp only [Sig.oper]
  generalize c.eval=ρ at *
  clear a g b
  go_simp
 | 39,_,a =>
  obtain ⟨pos,l,b⟩:=Zz Jg (i:=39) rfl
  have d6:c.eval (.tmp 46)=.bool true:=Zg (p:=eqv (.bool true)) (by kernel_rfl) rfl (a 38 (by decide))
  refine Ze b (Zf rfl) (v:=.bool true) ?_ rfl (Below.refl _ _)
  dsimp only [Sig.oper]
  generalize c.eval=ρ at *
  clear a g b
  go_simp
 | 40,_,a =>
  obtain ⟨pos,l,b⟩:=Zz Jg (i:=40) rfl
  have r:c.eval (.tmp 47)=.bool true:=Zg (p:=eqv (.bool true)) (by kernel_rfl) rfl (a 39 (by decide))
  have G:=g.c0
  have z1:=g.c1
  have z2:=g.c2
  have H:=g.c3
  have E:=g.c4
  have L:=g.c5
  refine Ze b (Jr rfl (a 39 (by decide))) (v:=Zkp la lc ta tc eb eo ec ka kc) ?_ rfl (Below.refl _ _)
  dsimp only [Sig.oper]
  generalize c.eval=ρ at *
  clear a g b
  go_simp
 | 41,_,a =>
  obtain ⟨pos,l,b⟩:=Zz Jg (i:=41) rfl
  have r:c.eval (.tmp 47)=.bool true:=Zg (p:=eqv (.bool true)) (by kernel_rfl) rfl (a 39 (by decide))
  refine Ze b (Jr rfl (a 39 (by decide))) (v:=.slice (some ⟨w.heap.size,0,none⟩) 1 1) (w':=w.alloc (.cells #[.string ⟨#[84]⟩] 9)) ?_ (Zbb (k:=1) (enc:=Zap) (fun _=>rfl) w [⟨#[84]⟩] #[.string ⟨#[84]⟩] 9 rfl (by decide)) ((Below.refl _ _).alloc (Nat.le_refl _) _)
  dsimp only [Sig.oper]
  generalize c.eval=ρ at *
  clear a g b
  go_simp
 | 42,_,a =>
  obtain ⟨pos,l,b⟩:=Zz Jg (i:=42) rfl
  have r:c.eval (.tmp 47)=.bool true:=Zg (p:=eqv (.bool true)) (by kernel_rfl) rfl (a 39 (by decide))
  have b6:c.eval (.tmp 48)=Zkp la lc ta tc eb eo ec ka kc:=Zg (p:=eqv (Zkp la lc ta tc eb eo ec ka kc)) (by kernel_rfl) rfl (a 40 (by decide))
  have D:=Zg (d:=49) (p:=(fun v W=>Zal 1 Zap W.heap.size W v [⟨#[84]⟩])) (by kernel_rfl) rfl (a 41 (by decide))
  obtain ⟨C,K⟩:∃ y,c.eval (.tmp 49)=y:=⟨_,rfl⟩
  simp only [K] at D
  refine Zby b (Jr rfl (a 39 (by decide))) (f:=28) (args:=#[Zkp la lc ta tc eb eo ec ka kc,.string ⟨#[65]⟩,.int .i64 1,C]) ?_ (Calls.mono (g.k28 C D) fun e w' ⟨q,o⟩=>⟨_,q,rfl,o⟩)
  dsimp only [Sig.oper]
  generalize c.eval=ρ at *
  clear a g b
  go_simp
 | 43,_,a =>
  obtain ⟨pos,l,b⟩:=Zz Jg (i:=43) rfl
  have r:c.eval (.tmp 47)=.bool true:=Zg (p:=eqv (.bool true)) (by kernel_rfl) rfl (a 39 (by decide))
  have S:c.eval (.tmp 50)=.int .i64 1:=Zg (p:=eqv (.int .i64 1)) (by kernel_rfl) rfl (a 42 (by decide))
  refine Ze b (Jr rfl (a 39 (by decide))) (v:=.bool true) ?_ rfl (Below.refl _ _)
  dsimp only [Sig.oper]
  generalize c.eval=ρ at *
  clear a g b
  go_simp
 | 44,_,a =>
  obtain ⟨pos,l,b⟩:=Zz Jg (i:=44) rfl
  have r:c.eval (.tmp 47)=.bool true:=Zg (p:=eqv (.bool true)) (by kernel_rfl) rfl (a 39 (by decide))
  have d4:c.eval (.tmp 51)=.bool true:=Zg (p:=eqv (.bool true)) (by kernel_rfl) rfl (a 43 (by decide))
  refine Ze b (Zf rfl) (v:=.bool true) ?_ rfl (Below.refl _ _)
  dsimp only [Sig.oper]
  generalize c.eval=ρ at *
  clear a g b
  go_simp
 | 45,_,a =>
  obtain ⟨pos,l,b⟩:=Zz Jg (i:=45) rfl
  have P:c.eval (.tmp 52)=.bool true:=Zg (p:=eqv (.bool true)) (by kernel_rfl) rfl (a 44 (by decide))
  refine Ze b (Zf rfl) (v:=.bool true) ?_ rfl (Below.refl _ _)
  dsimp only [Sig.oper]
  generalize c.eval=ρ at *
  clear a g b
  go_simp
 | 46,_,a =>
  obtain ⟨pos,l,b⟩:=Zz Jg (i:=46) rfl
  have F:c.eval (.tmp 53)=.bool true:=Zg (p:=eqv (.bool true)) (by kernel_rfl) rfl (a 45 (by decide))
  refine Zby b (Jr rfl (a 45 (by decide))) (f:=32) (args:=#[.int .i64 7,.int .i64 2]) ?_ (Calls.mono g.k32 fun e w' ⟨q,o⟩=>⟨_,q,rfl,o⟩)
  dsimp only [Sig.oper]
  generalize c.eval=ρ at *
  clear a g b
  go_simp
 | 47,_,a =>
  obtain ⟨pos,l,b⟩:=Zz Jg (i:=47) rfl
  have F:c.eval (.tmp 53)=.bool true:=Zg (p:=eqv (.bool true)) (by kernel_rfl) rfl (a 45 (by decide))
  have c7:c.eval (.tmp 54)=.int .i64 4:=Zg (p:=eqv (.int .i64 4)) (by kernel_rfl) rfl (a 46 (by decide))
  refine Ze b (Jr rfl (a 45 (by decide))) (v:=.bool true) ?_ rfl (Below.refl _ _)
  dsimp only [Sig.oper]
  generalize c.eval=ρ at *
  clear a g b
  go_simp
 | 48,_,a =>
  obtain ⟨pos,l,b⟩:=Zz Jg (i:=48) rfl
  have F:c.eval (.tmp 53)=.bool true:=Zg (p:=eqv (.bool true)) (by kernel_rfl) rfl (a 45 (by decide))
  have a5:c.eval (.tmp 55)=.bool true:=Zg (p:=eqv (.bool true)) (by kernel_rfl) rfl (a 47 (by decide))
  refine Ze b (Zf rfl) (v:=.bool true) ?_ rfl (Below.refl _ _)
  dsimp only [Sig.oper]
  generalize c.eval=ρ at *
  clear a g b
  go_simp
 | 49,_,a =>
  obtain ⟨pos,l,b⟩:=Zz Jg (i:=49) rfl
  have b0:c.eval (.tmp 56)=.bool true:=Zg (p:=eqv (.bool true)) (by kernel_rfl) rfl (a 48 (by decide))
  refine Ze b (Zf rfl) (v:=.bool true) ?_ rfl (Below.refl _ _)
  dsimp only [Sig.oper]
  generalize c.eval=ρ at *
  clear a g b
  go_simp
 | n+50,h,_=>exact absurd h (by omega)
end
end Go.Proofs.YthfilnflgahcjaaGreatDoor

namespace Go.Proofs.YthfilnflgahcjaaGreatDoor
open Go.RowKit Go.Shelf Go.Maps
set_option linter.all false
attribute [local go_sem] Oper.semAt_some
theorem Zgc {x:ByteArray} (h:x.size<=1):okS x:=Nat.le_trans h (by decide)
theorem Jhx:Zau Jy [⟨#[65]⟩,⟨#[66]⟩]=1:=by kernel_rfl
theorem Jhy:Zr0 Jy ⟨#[65]⟩ ⟨#[107]⟩=2:=by kernel_rfl
theorem Jhz:Jh3 Jy 0 []=2:=by kernel_rfl
theorem Jh0:Zzu Jy ⟨#[65]⟩ 1 [⟨#[84]⟩]=1:=by kernel_rfl
theorem Jh1:Zbl 7 2=4:=by kernel_rfl
theorem Zqd {base:Nat} {w:World} {vl vt ve vk:Value} (h:Zzl base w vl vt ve vk Jy):Zc0 w.heap.size w vl vt ve vk Jy:=by
 refine ⟨h.l.srow fun _=>rfl,h.t.srow fun _=>rfl,h.e.srow fun _=>rfl,h.k.srow fun _=>rfl,?_,?_,?_,?_,by decide,by decide,by decide,by decide⟩
 ·intro x a
  simp only [Jy,List.mem_cons,List.not_mem_nil,or_false] at a
  rcases a with rfl | rfl<;>exact Zgc (by decide)
 ·intro x a
  simp only [Jy,List.mem_cons,List.not_mem_nil,or_false] at a
  rcases a with rfl | rfl<;>exact Zgc (by decide)
 ·intro x a
  simp only [Jy,List.mem_cons,List.not_mem_nil,or_false] at a
  rcases a with rfl | rfl | rfl | rfl | rfl<;>exact ⟨Zgc (by decide),Zgc (by decide),w64 (by decide) (by decide)⟩
 ·intro x a
  simp only [Jy,List.mem_cons,List.not_mem_nil,or_false] at a
  rcases a with rfl | rfl<;>exact ⟨Zgc (by decide),Zgc (by decide),w64 (by decide) (by decide),w64 (by decide) (by decide)⟩
theorem Jbi (bx:Nat) (la:Option Addr) (lc:Nat) (ta:Option Addr) (tc:Nat) (eb eo ec:Nat) (ka:Option Addr) (kc:Nat):∀ p ∈ Zly bx la lc ta tc eb eo ec ka kc,Zh2 p:=by
 intro p C
 have M:∀ l:List ByteArray,Zh2 (fun v W=>Zal 1 Zap W.heap.size W v l):=fun l v W V h hb=>h.up hb hb.size
 simp only [Zly,List.mem_cons,List.not_mem_nil,or_false] at C
 repeat (first | (rcases C with rfl | C;· first | exact Zi1 _ | exact M _) | (subst C;first | exact Zi1 _ | exact M _))
theorem Jct:R10.size=50:=by kernel_rfl
set_option maxRecDepth 100000 in
set_option maxHeartbeats 8000000 in
theorem Zqe (w:World) (L:Env w):Calls Tryz.prog 10 #[] w fun e w'=>e=.returned (.bool true)/\Below w.heap.size w w':=by
 have P:=Za L
 have O:=Za (Zvz w)
 clear L
 go_enter Tryz.func10,Tryz.ntmps10
 go_wp2_with fail
 refine O.out.mono ?_
 rintro e w1 ⟨v,rfl,hg,q⟩
 have G:=Za q
 have R:=Za (Zqp v w1 (P.out.below q P.out.room) hg)
 clear hg q O
 go_wp2_with fail
 refine R.out.mono ?_
 rintro e w2 ⟨vl,vt,ve,vk,rfl,hl,B⟩
 have I:=Za (Below.on G.out B)
 have r:=Za (Zqd hl)
 obtain ⟨la,lc,rfl⟩:=hl.l.slice
 obtain ⟨ta,tc,rfl⟩:=hl.t.slice
 obtain ⟨ka,kc,rfl⟩:=hl.k.slice
 obtain ⟨ea,ec,rfl,_,_,n⟩:=r.out.he
 obtain ⟨eb,eo,rfl,b,o⟩:=n.resolve_left (by simp [Jy])
 have z:∀ (j:Nat) (u:Value),(Zc7 (⟨#[84]⟩,⟨#[65]⟩,true,2))[j]?=some u->w2.cell? ⟨eb,eo+1*4+j,none⟩=some u:=o 1 _ rfl
 have U:Hid (eb<w2.heap.size/\w2.cell? ⟨eb,eo+4,none⟩=some (.string ⟨#[84]⟩)/\w2.cell? ⟨eb,eo+4+1,none⟩=some (.string ⟨#[65]⟩)/\w2.cell? ⟨eb,eo+4+2,none⟩=some (.bool true)/\w2.cell? ⟨eb,eo+4+3,none⟩=some (.int .i64 2)) :=
  ⟨b,z 0 _ rfl,z 1 _ rfl,z 2 _ rfl,z 3 _ rfl⟩
 simp only [Za4,Jy,List.length_cons,List.length_nil] at r |-
 clear hl B R n o z b
 go_upto_region 2 with fail
 obtain ⟨Q,m⟩:∃ W,w2.alloc (.cells #[.int .i64 3,.int .i64 3,.slice la 2 lc,.slice ta 2 tc,.slice (some ⟨eb,eo,none⟩) 5 ec,.slice ka 2 kc] 33)=W:=⟨_,rfl⟩
 have N:Hid (Rec Q w2.heap.size #[.int .i64 3,.int .i64 3,.slice la 2 lc,.slice ta 2 tc,.slice (some ⟨eb,eo,none⟩) 5 ec,.slice ka 2 kc] 33):=by
  show Rec _ _ _ _
  rw [<- m];exact Zk _ _ _
 have s:Hid (Below w2.heap.size w2 Q):=by
  show Below _ _ _
  rw [<- m];exact (Below.refl _ _).alloc (Nat.le_refl _) _
 rw [m]
 clear m
 show (Code.region 2 R10 false).wp _ _ _ _
 refine Zrd (A:=Jgm) (F:=Ze1 (Zly w2.heap.size la lc ta tc eb eo ec ka kc)) (by kernel_rfl) (fun i v w w'=>Zg9 (Jbi w2.heap.size la lc ta tc eb eo ec ka kc) i v w w') ?_ ?_
 ·intro i S c W E hB D
  have d:Below w2.heap.size w2 W:=Below.on s.out hB
  have hr:=N.out.below hB N.out.lt
  obtain ⟨b,d0,d1,d2,d3⟩:=U.out
  have g:Zc0 W.heap.size W (.slice la 2 lc) (.slice ta 2 tc) (.slice (some ⟨eb,eo,none⟩) 5 ec) (.slice ka 2 kc) Jy:=Zc0.up r.out d d.size
  have f:∀ (j:Nat) (u:Value),w2.cell? ⟨eb,j,none⟩=some u->W.cell? ⟨eb,j,none⟩=some u:=fun j u h=>(d.cell (p:=⟨eb,j,none⟩) b).trans h
  refine Jil w2.heap.size la lc ta tc eb eo ec ka kc _ c W ((Za2 E (by kernel_rfl)).trans rfl) ((Za2 E (by kernel_rfl)).trans rfl) ⟨hr.cell 0 rfl,hr.cell 1 rfl,hr.cell 2 rfl,hr.cell 3 rfl,hr.cell 4 rfl,hr.cell 5 rfl,f _ _ d0,f _ _ d1,f _ _ d2,f _ _ d3,?_,?_,?_,?_,?_,?_⟩ i (by rwa [Jct] at S) D
  ·refine (Zjg 0 W).mono ?_
   rintro e w' ⟨rfl,rfl⟩
   exact ⟨rfl,Below.refl _ _⟩
  ·intro y K
   have h:=Zjq Jy (.slice la 2 lc) (.slice ta 2 tc) (.slice (some ⟨eb,eo,none⟩) 5 ec) (.slice ka 2 kc) y [⟨#[65]⟩,⟨#[66]⟩] W.heap.size W (Nat.le_refl _) g K (fun x a=>by
    simp only [List.mem_cons,List.not_mem_nil,or_false] at a
    rcases a with rfl | rfl<;>exact Zgc (by decide)) (by decide)
   rw [Jhx] at h
   exact h
  ·have h:=Ja1 Jy (.slice la 2 lc) (.slice ta 2 tc) (.slice (some ⟨eb,eo,none⟩) 5 ec) (.slice ka 2 kc) ⟨#[65]⟩ ⟨#[107]⟩ W.heap.size W (Nat.le_refl _) g (Zgc (by decide)) (Zgc (by decide))
   rw [Jhy] at h
   exact h
  ·have h:=Jed Jy (.slice la 2 lc) (.slice ta 2 tc) (.slice (some ⟨eb,eo,none⟩) 5 ec) (.slice ka 2 kc) (.slice none 0 0) 0 [] W.heap.size W (Nat.le_refl _) g (Zb4 1 Zap _ _) (fun x a=>by simp at a) (by decide)
   rw [Jhz] at h
   exact h
  ·intro y K
   have h:=Zzv Jy (.slice la 2 lc) (.slice ta 2 tc) (.slice (some ⟨eb,eo,none⟩) 5 ec) (.slice ka 2 kc) y ⟨#[65]⟩ 1 [⟨#[84]⟩] W.heap.size W (Nat.le_refl _) g K (Zgc (by decide)) (fun x a=>by
    simp only [List.mem_cons,List.not_mem_nil,or_false] at a
    subst a;exact Zgc (by decide)) (by decide)
   rw [Jh0] at h
   exact h
  ·refine (Zio 7 2 W).mono ?_
   rintro e w' ⟨rfl,rfl⟩
   exact ⟨by rw [Jh1],Below.refl _ _⟩
 ·intro c W E hB D
  have T:c.eval (.tmp 0)=.bool true:=Zg (p:=eqv (.bool true)) (by kernel_rfl) rfl (D 49 (by rw [Jct];omega))
  have H:=Za (Below.on I.out (Below.on s.out hB))
  clear hB D
  go_wp2_with fail
  refine bodyPost_ret (results_tmp rfl c.tmps Tryz.prog W) E.1 ?_
  exact ⟨congrArg Ending.returned T,H.out⟩
end Go.Proofs.YthfilnflgahcjaaGreatDoor

