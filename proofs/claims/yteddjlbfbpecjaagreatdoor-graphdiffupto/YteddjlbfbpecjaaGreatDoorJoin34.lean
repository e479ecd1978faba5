import Derived.Test.YteddjlbfbpecjaaGreatDoorJoin24
import Derived.Test.YteddjlbfbpecjaaGreatDoorJoin33
namespace Go.Proofs.YteddjlbfbpecjaaGreatDoor
set_option maxHeartbeats 4000000
set_option maxRecDepth 100000
set_option linter.all false
section
open Go.RowKit Go.Shelf Go.WideShapes
noncomputable def RN7  : Array Oper:=Zy Tryz.f14 7
def LN7  : List Sig:=[⟨47,.fieldAddr 47 (.tmp 4) 0,0,none⟩,⟨48,.load 2 (.tmp 47),2,none⟩,⟨49,.binOp .lss 2 (.tmp 48) (.const (.int .i64 0)) 2,4,none⟩,⟨50,.move (.tmp 49),4,none⟩,⟨51,.fieldAddr 47 (.tmp 4) 0,0,some (3,false)⟩,⟨52,.load 2 (.tmp 51),2,some (3,false)⟩,⟨53,.fieldAddr 25 (.tmp 1) 2,0,some (3,false)⟩,⟨54,.load 2 (.tmp 53),2,some (3,false)⟩,⟨55,.binOp .geq 2 (.tmp 52) (.tmp 54) 2,4,some (3,false)⟩,⟨56,.pick (.tmp 50) (.const (.bool true)) (.tmp 55),4,none⟩,⟨57,.move (.tmp 56),4,none⟩,⟨58,.move (.tmp 3),3,some (10,false)⟩,⟨59,.binOp .gtr 3 (.tmp 58) (.const (.int .i64 0)) 3,4,some (10,false)⟩,⟨60,.move (.tmp 59),4,some (10,false)⟩,⟨61,.fieldAddr 25 (.tmp 1) 0,0,some (13,true)⟩,⟨62,.load 22 (.tmp 61),22,some (13,true)⟩,⟨63,.move (.tmp 3),3,some (13,true)⟩,⟨64,.binOp .sub 3 (.tmp 63) (.const (.int .i64 1)) 3,3,some (13,true)⟩,⟨65,.indexAddr 22 (.tmp 62) (.tmp 64),0,some (13,true)⟩,⟨66,.fieldAddr 47 (.tmp 65) 0,0,some (13,true)⟩,⟨67,.load 2 (.tmp 66),2,some (13,true)⟩,⟨68,.fieldAddr 47 (.tmp 4) 0,0,some (13,true)⟩,⟨69,.load 2 (.tmp 68),2,some (13,true)⟩,⟨70,.binOp .geq 2 (.tmp 67) (.tmp 69) 2,4,some (13,true)⟩,⟨71,.pick (.tmp 60) (.tmp 70) (.const (.bool false)),4,some (10,false)⟩,⟨72,.pick (.tmp 57) (.const (.bool true)) (.tmp 71),4,none⟩,⟨73,.move (.tmp 72),4,none⟩,⟨74,.fieldAddr 47 (.tmp 4) 1,0,some (26,false)⟩,⟨75,.load 44 (.tmp 74),44,some (26,false)⟩,⟨76,.call { callee:=.value (.func 41),args:=#[.tmp 75],argTypes:=#[44] },4,some (26,false)⟩,⟨77,.unOp .not 4 (.tmp 76),4,some (26,false)⟩,⟨78,.pick (.tmp 73) (.const (.bool true)) (.tmp 77),4,none⟩,⟨79,.move (.tmp 78),4,none⟩,⟨80,.fieldAddr 47 (.tmp 4) 2,0,some (32,false)⟩,⟨81,.load 45 (.tmp 80),45,some (32,false)⟩,⟨82,.call { callee:=.value (.func 42),args:=#[.tmp 81],argTypes:=#[45] },4,some (32,false)⟩,⟨83,.unOp .not 4 (.tmp 82),4,some (32,false)⟩,⟨84,.pick (.tmp 79) (.const (.bool true)) (.tmp 83),4,none⟩]
theorem Ja4  : Jh RN7=LN7.map some:=by kernel_rfl
def AN7  : List (List Nat):=[[],[0],[1],[2],[3],[3,4],[3],[3,6],[3,5,7],[3,8],[9],[10],[10,11],[10,12],[13],[13,14],[13],[13,16],[13,15,17],[13,18],[13,19],[13],[13,21],[13,20,22],[10,13,23],[10,24],[25],[26],[26,27],[26,28],[26,29],[26,30],[31],[32],[32,33],[32,34],[32,35],[32,36]]
structure Zb8 (G X b off kl kc j m:Nat) (xi f nn:Int) (la:Option Addr) (ll lc:Nat) (d:Value) (c:Act):Prop where
 t1:c.eval (.tmp 1)=.pointer (some ⟨G,0,none⟩)
 t3:c.eval (.tmp 3)=.int .i64 (j:Int)
 t4:c.eval (.tmp 4)=.pointer (some ⟨X,0,none⟩)
def VNA (G X b off kl kc j m:Nat) (xi f nn:Int) (la:Option Addr) (ll lc:Nat) (d:Value):List Value:=[.pointer (some ⟨X,0,none⟩),.int .i64 xi,.bool true,.bool true,undef,undef,undef,undef,undef,.bool true,.bool true,undef,undef,undef,undef,undef,undef,undef,undef,undef,undef,undef,undef,undef,undef,.bool true,.bool true,undef,undef,undef,undef,.bool true,.bool true,undef,undef,undef,undef,.bool true]
structure Zx3 (G X b off kl kc j m:Nat) (xi f nn:Int) (la:Option Addr) (ll lc:Nat) (d:Value) (w:World):Prop where
 x0:w.cell? ⟨X,0,none⟩=some (.int .i64 xi)
 a1:decide (xi<0)=true
theorem Ja5 (G X b off kl kc j m:Nat) (xi f nn:Int) (la:Option Addr) (ll lc:Nat) (d:Value) (Q:Exit->Act->World->Prop) (base:Act) (h:World) (i:base.tmps.size=149) (g:Zb8 G X b off kl kc j m xi f nn la ll lc d base)
  (l:∀ w,Below h.heap.size h w->Zx3 G X b off kl kc j m xi f nn la ll lc d w) (p:∀ c w,Zaf RN7 base c->Below h.heap.size h w->c.eval (.tmp 84)=.bool true->Q .normal c w):(Code.region 7 RN7 true).wp Tryz.prog Q base h:=by
 refine Zn (B:=Zb8 G X b off kl kc j m xi f nn la ll lc d) (T:=Zx3 G X b off kl kc j m xi f nn la ll lc d) (n:=38) (k:=37) LN7 AN7 (VNA G X b off kl kc j m xi f nn la ll lc d) Ja4 rfl (by kernel_rfl) (by kernel_rfl) (by kernel_rfl) (by rw [i];kernel_rfl) (fun c o=>⟨(Zc o (by kernel_rfl)).trans g.t1,(Zc o (by kernel_rfl)).trans g.t3,(Zc o (by kernel_rfl)).trans g.t4⟩) l ?_ (by decide) rfl rfl p
 clear i g l p
 iterate 38 (refine Zd ?_ (by
  intro c w g l hEq
  obtain ⟨t1,t3,t4⟩:=g
  obtain ⟨x0,a1⟩:=l
  have r:=evc c
  have s:=evf c
  dsimp only [AN7,LN7,VNA,nth,Zbm,Za2,Jc] at hEq |-
  first
  | exact ⟨by simp only [hEq],.inr ⟨by first | exact .inl rfl | exact .inr rfl,rfl⟩⟩
  | ((try refine ⟨by simp only [hEq],.inl ⟨rfl,?_⟩⟩);first | (refine .inl fun pos q=>?_;(dsimp only [Sig.oper];generalize c.eval=ρ at *;go_simp;done)) | (refine .inl fun pos q=>?_;dsimp only [Sig.oper];generalize c.eval=ρ at *;go_simp;simp only [decide_eq_true_eq,decide_eq_false_iff_not] at *;omega))))
 exact Zf
def VNB (G X b off kl kc j m:Nat) (xi f nn:Int) (la:Option Addr) (ll lc:Nat) (d:Value):List Value:=[.pointer (some ⟨X,0,none⟩),.int .i64 xi,.bool false,.bool false,.pointer (some ⟨X,0,none⟩),.int .i64 xi,.pointer (some ⟨G,2,none⟩),.int .i64 nn,.bool true,.bool true,.bool true,undef,undef,undef,undef,undef,undef,undef,undef,undef,undef,undef,undef,undef,undef,.bool true,.bool true,undef,undef,undef,undef,.bool true,.bool true,undef,undef,undef,undef,.bool true]
structure Zx4 (G X b off kl kc j m:Nat) (xi f nn:Int) (la:Option Addr) (ll lc:Nat) (d:Value) (w:World):Prop where
 x0:w.cell? ⟨X,0,none⟩=some (.int .i64 xi)
 a1:decide (xi<0)=false
 g2:w.cell? ⟨G,2,none⟩=some (.int .i64 nn)
 a2:decide (nn<=xi)=true
theorem Ja6 (G X b off kl kc j m:Nat) (xi f nn:Int) (la:Option Addr) (ll lc:Nat) (d:Value) (Q:Exit->Act->World->Prop) (base:Act) (h:World) (i:base.tmps.size=149) (g:Zb8 G X b off kl kc j m xi f nn la ll lc d base)
  (l:∀ w,Below h.heap.size h w->Zx4 G X b off kl kc j m xi f nn la ll lc d w) (p:∀ c w,Zaf RN7 base c->Below h.heap.size h w->c.eval (.tmp 84)=.bool true->Q .normal c w):(Code.region 7 RN7 true).wp Tryz.prog Q base h:=by
 refine Zn (B:=Zb8 G X b off kl kc j m xi f nn la ll lc d) (T:=Zx4 G X b off kl kc j m xi f nn la ll lc d) (n:=38) (k:=37) LN7 AN7 (VNB G X b off kl kc j m xi f nn la ll lc d) Ja4 rfl (by kernel_rfl) (by kernel_rfl) (by kernel_rfl) (by rw [i];kernel_rfl) (fun c o=>⟨(Zc o (by kernel_rfl)).trans g.t1,(Zc o (by kernel_rfl)).trans g.t3,(Zc o (by kernel_rfl)).trans g.t4⟩) l ?_ (by decide) rfl rfl p
 clear i g l p
 iterate 38 (refine Zd ?_ (by
  intro c w g l hEq
  obtain ⟨t1,t3,t4⟩:=g
  obtain ⟨x0,a1,g2,a2⟩:=l
  have r:=evc c
  have s:=evf c
  dsimp only [AN7,LN7,VNB,nth,Zbm,Za2,Jc] at hEq |-
  first
  | exact ⟨by simp only [hEq],.inr ⟨by first | exact .inl rfl | exact .inr rfl,rfl⟩⟩
  | ((try refine ⟨by simp only [hEq],.inl ⟨rfl,?_⟩⟩);first | (refine .inl fun pos q=>?_;(dsimp only [Sig.oper];generalize c.eval=ρ at *;go_simp;done)) | (refine .inl fun pos q=>?_;dsimp only [Sig.oper];generalize c.eval=ρ at *;go_simp;simp only [decide_eq_true_eq,decide_eq_false_iff_not] at *;omega))))
 exact Zf
def VNC (G X b off kl kc j m:Nat) (xi f nn:Int) (la:Option Addr) (ll lc:Nat) (d:Value):List Value:=[.pointer (some ⟨X,0,none⟩),.int .i64 xi,.bool false,.bool false,.pointer (some ⟨X,0,none⟩),.int .i64 xi,.pointer (some ⟨G,2,none⟩),.int .i64 nn,.bool false,.bool false,.bool false,.int .i64 (j:Int),.bool true,.bool true,.pointer (some ⟨G,0,none⟩),.slice (some ⟨b,off,none⟩) kl kc,.int .i64 (j:Int),.int .i64 (m:Int),.pointer (some ⟨b,off+m*3,none⟩),.pointer (some ⟨b,off+m*3,none⟩),.int .i64 f,.pointer (some ⟨X,0,none⟩),.int .i64 xi,.bool true,.bool true,.bool true,.bool true,undef,undef,undef,undef,.bool true,.bool true,undef,undef,undef,undef,.bool true]
structure Zx5 (G X b off kl kc j m:Nat) (xi f nn:Int) (la:Option Addr) (ll lc:Nat) (d:Value) (w:World):Prop where
 x0:w.cell? ⟨X,0,none⟩=some (.int .i64 xi)
 a1:decide (xi<0)=false
 g2:w.cell? ⟨G,2,none⟩=some (.int .i64 nn)
 a2:decide (nn<=xi)=false
 a3:decide ((0:Int)<(j:Int))=true
 g0:w.cell? ⟨G,0,none⟩=some (.slice (some ⟨b,off,none⟩) kl kc)
 kj:(j:Int) - 1=(m:Int)
 kw:IntKind.i64.wrap (m:Int)=(m:Int)
 mlt:m<kl
 le:kl<=9223372036854775807
 y0:w.cell? ⟨b,off+m*3,none⟩=some (.int .i64 f)
 a4:decide (xi<=f)=true
theorem Ja7 (G X b off kl kc j m:Nat) (xi f nn:Int) (la:Option Addr) (ll lc:Nat) (d:Value) (Q:Exit->Act->World->Prop) (base:Act) (h:World) (i:base.tmps.size=149) (g:Zb8 G X b off kl kc j m xi f nn la ll lc d base)
  (l:∀ w,Below h.heap.size h w->Zx5 G X b off kl kc j m xi f nn la ll lc d w) (p:∀ c w,Zaf RN7 base c->Below h.heap.size h w->c.eval (.tmp 84)=.bool true->Q .normal c w):(Code.region 7 RN7 true).wp Tryz.prog Q base h:=by
 refine Zn (B:=Zb8 G X b off kl kc j m xi f nn la ll lc d) (T:=Zx5 G X b off kl kc j m xi f nn la ll lc d) (n:=38) (k:=37) LN7 AN7 (VNC G X b off kl kc j m xi f nn la ll lc d) Ja4 rfl (by kernel_rfl) (by kernel_rfl) (by kernel_rfl) (by rw [i];kernel_rfl) (fun c o=>⟨(Zc o (by kernel_rfl)).trans g.t1,(Zc o (by kernel_rfl)).trans g.t3,(Zc o (by kernel_rfl)).trans g.t4⟩) l ?_ (by decide) rfl rfl p
 clear i g l p
 iterate 38 (refine Zd ?_ (by
  intro c w g l hEq
  obtain ⟨t1,t3,t4⟩:=g
  obtain ⟨x0,a1,g2,a2,a3,g0,kj,kw,mlt,le,y0,a4⟩:=l
  have r:=evc c
  have s:=evf c
  dsimp only [AN7,LN7,VNC,nth,Zbm,Za2,Jc] at hEq |-
  first
  | exact ⟨by simp only [hEq],.inr ⟨by first | exact .inl rfl | exact .inr rfl,rfl⟩⟩
  | ((try refine ⟨by simp only [hEq],.inl ⟨rfl,?_⟩⟩);first | (refine .inl fun pos q=>?_;(dsimp only [Sig.oper];generalize c.eval=ρ at *;go_simp;done)) | (refine .inl fun pos q=>?_;dsimp only [Sig.oper];generalize c.eval=ρ at *;go_simp;simp only [decide_eq_true_eq,decide_eq_false_iff_not] at *;omega))))
 exact Zf
def VND (G X b off kl kc j m:Nat) (xi f nn:Int) (la:Option Addr) (ll lc:Nat) (d:Value):List Value:=[.pointer (some ⟨X,0,none⟩),.int .i64 xi,.bool false,.bool false,.pointer (some ⟨X,0,none⟩),.int .i64 xi,.pointer (some ⟨G,2,none⟩),.int .i64 nn,.bool false,.bool false,.bool false,.int .i64 (j:Int),.bool false,.bool false,undef,undef,undef,undef,undef,undef,undef,undef,undef,undef,.bool false,.bool false,.bool false,.pointer (some ⟨X,1,none⟩),.slice la ll lc,.bool false,.bool true,.bool true,.bool true,undef,undef,undef,undef,.bool true]
structure Zx6 (G X b off kl kc j m:Nat) (xi f nn:Int) (la:Option Addr) (ll lc:Nat) (d:Value) (w:World):Prop where
 x0:w.cell? ⟨X,0,none⟩=some (.int .i64 xi)
 a1:decide (xi<0)=false
 g2:w.cell? ⟨G,2,none⟩=some (.int .i64 nn)
 a2:decide (nn<=xi)=false
 a3:decide ((0:Int)<(j:Int))=false
 x1:w.cell? ⟨X,1,none⟩=some (.slice la ll lc)
 k1:Calls Tryz.prog 41 #[.slice la ll lc] w fun e w'=>e=.returned (.bool false)/\Below w.heap.size w w'
theorem Ja8 (G X b off kl kc j m:Nat) (xi f nn:Int) (la:Option Addr) (ll lc:Nat) (d:Value) (Q:Exit->Act->World->Prop) (base:Act) (h:World) (i:base.tmps.size=149) (g:Zb8 G X b off kl kc j m xi f nn la ll lc d base)
  (l:∀ w,Below h.heap.size h w->Zx6 G X b off kl kc j m xi f nn la ll lc d w) (p:∀ c w,Zaf RN7 base c->Below h.heap.size h w->c.eval (.tmp 84)=.bool true->Q .normal c w):(Code.region 7 RN7 true).wp Tryz.prog Q base h:=by
 refine Zn (B:=Zb8 G X b off kl kc j m xi f nn la ll lc d) (T:=Zx6 G X b off kl kc j m xi f nn la ll lc d) (n:=38) (k:=37) LN7 AN7 (VND G X b off kl kc j m xi f nn la ll lc d) Ja4 rfl (by kernel_rfl) (by kernel_rfl) (by kernel_rfl) (by rw [i];kernel_rfl) (fun c o=>⟨(Zc o (by kernel_rfl)).trans g.t1,(Zc o (by kernel_rfl)).trans g.t3,(Zc o (by kernel_rfl)).trans g.t4⟩) l ?_ (by decide) rfl rfl p
 clear i g l p
 iterate 38 (refine Zd ?_ (by
  intro c w g l hEq
  obtain ⟨t1,t3,t4⟩:=g
  obtain ⟨x0,a1,g2,a2,a3,x1,k1⟩:=l
  have r:=evc c
  have s:=evf c
  dsimp only [AN7,LN7,VND,nth,Zbm,Za2,Jc] at hEq |-
  first
  | exact ⟨by simp only [hEq],.inr ⟨by first | exact .inl rfl | exact .inr rfl,rfl⟩⟩
  | ((try refine ⟨by simp only [hEq],.inl ⟨rfl,?_⟩⟩);first | (refine Zk Tryz.call41 k1 ?_;simp only [List.map_toArray,List.map_cons,List.map_nil,hEq];done) | (refine .inl fun pos q=>?_;(clear k1;dsimp only [Sig.oper];generalize c.eval=ρ at *;go_simp;done)) | (refine .inl fun pos q=>?_;clear k1;dsimp only [Sig.oper];generalize c.eval=ρ at *;go_simp;simp only [decide_eq_true_eq,decide_eq_false_iff_not] at *;omega))))
 exact Zf
def VNE (G X b off kl kc j m:Nat) (xi f nn:Int) (la:Option Addr) (ll lc:Nat) (d:Value):List Value:=[.pointer (some ⟨X,0,none⟩),.int .i64 xi,.bool false,.bool false,.pointer (some ⟨X,0,none⟩),.int .i64 xi,.pointer (some ⟨G,2,none⟩),.int .i64 nn,.bool false,.bool false,.bool false,.int .i64 (j:Int),.bool false,.bool false,undef,undef,undef,undef,undef,undef,undef,undef,undef,undef,.bool false,.bool false,.bool false,.pointer (some ⟨X,1,none⟩),.slice la ll lc,.bool true,.bool false,.bool false,.bool false,.pointer (some ⟨X,2,none⟩),d,.bool false,.bool true,.bool true]
structure Zx7 (G X b off kl kc j m:Nat) (xi f nn:Int) (la:Option Addr) (ll lc:Nat) (d:Value) (w:World):Prop where
 x0:w.cell? ⟨X,0,none⟩=some (.int .i64 xi)
 a1:decide (xi<0)=false
 g2:w.cell? ⟨G,2,none⟩=some (.int .i64 nn)
 a2:decide (nn<=xi)=false
 a3:decide ((0:Int)<(j:Int))=false
 x1:w.cell? ⟨X,1,none⟩=some (.slice la ll lc)
 k1:Calls Tryz.prog 41 #[.slice la ll lc] w fun e w'=>e=.returned (.bool true)/\Below w.heap.size w w'
 x2:w.cell? ⟨X,2,none⟩=some (d)
 k2:Calls Tryz.prog 42 #[d] w fun e w'=>e=.returned (.bool false)/\Below w.heap.size w w'
theorem Ja9 (G X b off kl kc j m:Nat) (xi f nn:Int) (la:Option Addr) (ll lc:Nat) (d:Value) (Q:Exit->Act->World->Prop) (base:Act) (h:World) (i:base.tmps.size=149) (g:Zb8 G X b off kl kc j m xi f nn la ll lc d base)
  (l:∀ w,Below h.heap.size h w->Zx7 G X b off kl kc j m xi f nn la ll lc d w) (p:∀ c w,Zaf RN7 base c->Below h.heap.size h w->c.eval (.tmp 84)=.bool true->Q .normal c w):(Code.region 7 RN7 true).wp Tryz.prog Q base h:=by
 refine Zn (B:=Zb8 G X b off kl kc j m xi f nn la ll lc d) (T:=Zx7 G X b off kl kc j m xi f nn la ll lc d) (n:=38) (k:=37) LN7 AN7 (VNE G X b off kl kc j m xi f nn la ll lc d) Ja4 rfl (by kernel_rfl) (by kernel_rfl) (by kernel_rfl) (by rw [i];kernel_rfl) (fun c o=>⟨(Zc o (by kernel_rfl)).trans g.t1,(Zc o (by kernel_rfl)).trans g.t3,(Zc o (by kernel_rfl)).trans g.t4⟩) l ?_ (by decide) rfl rfl p
 clear i g l p
 iterate 38 (refine Zd ?_ (by
  intro c w g l hEq
  obtain ⟨t1,t3,t4⟩:=g
  obtain ⟨x0,a1,g2,a2,a3,x1,k1,x2,k2⟩:=l
  have r:=evc c
  have s:=evf c
  dsimp only [AN7,LN7,VNE,nth,Zbm,Za2,Jc] at hEq |-
  first
  | exact ⟨by simp only [hEq],.inr ⟨by first | exact .inl rfl | exact .inr rfl,rfl⟩⟩
  | ((try refine ⟨by simp only [hEq],.inl ⟨rfl,?_⟩⟩);first | (refine Zk Tryz.call41 k1 ?_;simp only [List.map_toArray,List.map_cons,List.map_nil,hEq];done) | (refine Zk Tryz.call42 k2 ?_;simp only [List.map_toArray,List.map_cons,List.map_nil,hEq];done) | (refine .inl fun pos q=>?_;(clear k1 k2;dsimp only [Sig.oper];generalize c.eval=ρ at *;go_simp;done)) | (refine .inl fun pos q=>?_;clear k1 k2;dsimp only [Sig.oper];generalize c.eval=ρ at *;go_simp;simp only [decide_eq_true_eq,decide_eq_false_iff_not] at *;omega))))
 exact Zf
def VNF (G X b off kl kc j m:Nat) (xi f nn:Int) (la:Option Addr) (ll lc:Nat) (d:Value):List Value:=[.pointer (some ⟨X,0,none⟩),.int .i64 xi,.bool false,.bool false,.pointer (some ⟨X,0,none⟩),.int .i64 xi,.pointer (some ⟨G,2,none⟩),.int .i64 nn,.bool false,.bool false,.bool false,.int .i64 (j:Int),.bool false,.bool false,undef,undef,undef,undef,undef,undef,undef,undef,undef,undef,.bool false,.bool false,.bool false,.pointer (some ⟨X,1,none⟩),.slice la ll lc,.bool true,.bool false,.bool false,.bool false,.pointer (some ⟨X,2,none⟩),d,.bool true,.bool false,.bool false]
structure Zx8 (G X b off kl kc j m:Nat) (xi f nn:Int) (la:Option Addr) (ll lc:Nat) (d:Value) (w:World):Prop where
 x0:w.cell? ⟨X,0,none⟩=some (.int .i64 xi)
 a1:decide (xi<0)=false
 g2:w.cell? ⟨G,2,none⟩=some (.int .i64 nn)
 a2:decide (nn<=xi)=false
 a3:decide ((0:Int)<(j:Int))=false
 x1:w.cell? ⟨X,1,none⟩=some (.slice la ll lc)
 k1:Calls Tryz.prog 41 #[.slice la ll lc] w fun e w'=>e=.returned (.bool true)/\Below w.heap.size w w'
 x2:w.cell? ⟨X,2,none⟩=some (d)
 k2:Calls Tryz.prog 42 #[d] w fun e w'=>e=.returned (.bool true)/\Below w.heap.size w w'
theorem Jba (G X b off kl kc j m:Nat) (xi f nn:Int) (la:Option Addr) (ll lc:Nat) (d:Value) (Q:Exit->Act->World->Prop) (base:Act) (h:World) (i:base.tmps.size=149) (g:Zb8 G X b off kl kc j m xi f nn la ll lc d base)
  (l:∀ w,Below h.heap.size h w->Zx8 G X b off kl kc j m xi f nn la ll lc d w) (p:∀ c w,Zaf RN7 base c->Below h.heap.size h w->c.eval (.tmp 84)=.bool false->Q .normal c w):(Code.region 7 RN7 true).wp Tryz.prog Q base h:=by
 refine Zn (B:=Zb8 G X b off kl kc j m xi f nn la ll lc d) (T:=Zx8 G X b off kl kc j m xi f nn la ll lc d) (n:=38) (k:=37) LN7 AN7 (VNF G X b off kl kc j m xi f nn la ll lc d) Ja4 rfl (by kernel_rfl) (by kernel_rfl) (by kernel_rfl) (by rw [i];kernel_rfl) (fun c o=>⟨(Zc o (by kernel_rfl)).trans g.t1,(Zc o (by kernel_rfl)).trans g.t3,(Zc o (by kernel_rfl)).trans g.t4⟩) l ?_ (by decide) rfl rfl p
 clear i g l p
 iterate 38 (refine Zd ?_ (by
  intro c w g l hEq
  obtain ⟨t1,t3,t4⟩:=g
  obtain ⟨x0,a1,g2,a2,a3,x1,k1,x2,k2⟩:=l
  have r:=evc c
  have s:=evf c
  dsimp only [AN7,LN7,VNF,nth,Zbm,Za2,Jc] at hEq |-
  first
  | exact ⟨by simp only [hEq],.inr ⟨by first | exact .inl rfl | exact .inr rfl,rfl⟩⟩
  | ((try refine ⟨by simp only [hEq],.inl ⟨rfl,?_⟩⟩);first | (refine Zk Tryz.call41 k1 ?_;simp only [List.map_toArray,List.map_cons,List.map_nil,hEq];done) | (refine Zk Tryz.call42 k2 ?_;simp only [List.map_toArray,List.map_cons,List.map_nil,hEq];done) | (refine .inl fun pos q=>?_;(clear k1 k2;dsimp only [Sig.oper];generalize c.eval=ρ at *;go_simp;done)) | (refine .inl fun pos q=>?_;clear k1 k2;dsimp only [Sig.oper];generalize c.eval=ρ at *;go_simp;simp only [decide_eq_true_eq,decide_eq_false_iff_not] at *;omega))))
 exact Zf
def VNG (G X b off kl kc j m:Nat) (xi f nn:Int) (la:Option Addr) (ll lc:Nat) (d:Value):List Value:=[.pointer (some ⟨X,0,none⟩),.int .i64 xi,.bool false,.bool false,.pointer (some ⟨X,0,none⟩),.int .i64 xi,.pointer (some ⟨G,2,none⟩),.int .i64 nn,.bool false,.bool false,.bool false,.int .i64 (j:Int),.bool true,.bool true,.pointer (some ⟨G,0,none⟩),.slice (some ⟨b,off,none⟩) kl kc,.int .i64 (j:Int),.int .i64 (m:Int),.pointer (some ⟨b,off+m*3,none⟩),.pointer (some ⟨b,off+m*3,none⟩),.int .i64 f,.pointer (some ⟨X,0,none⟩),.int .i64 xi,.bool false,.bool false,.bool false,.bool false,.pointer (some ⟨X,1,none⟩),.slice la ll lc,.bool false,.bool true,.bool true,.bool true,undef,undef,undef,undef,.bool true]
structure Zx9 (G X b off kl kc j m:Nat) (xi f nn:Int) (la:Option Addr) (ll lc:Nat) (d:Value) (w:World):Prop where
 x0:w.cell? ⟨X,0,none⟩=some (.int .i64 xi)
 a1:decide (xi<0)=false
 g2:w.cell? ⟨G,2,none⟩=some (.int .i64 nn)
 a2:decide (nn<=xi)=false
 a3:decide ((0:Int)<(j:Int))=true
 g0:w.cell? ⟨G,0,none⟩=some (.slice (some ⟨b,off,none⟩) kl kc)
 kj:(j:Int) - 1=(m:Int)
 kw:IntKind.i64.wrap (m:Int)=(m:Int)
 mlt:m<kl
 le:kl<=9223372036854775807
 y0:w.cell? ⟨b,off+m*3,none⟩=some (.int .i64 f)
 a4:decide (xi<=f)=false
 x1:w.cell? ⟨X,1,none⟩=some (.slice la ll lc)
 k1:Calls Tryz.prog 41 #[.slice la ll lc] w fun e w'=>e=.returned (.bool false)/\Below w.heap.size w w'
theorem Jbb (G X b off kl kc j m:Nat) (xi f nn:Int) (la:Option Addr) (ll lc:Nat) (d:Value) (Q:Exit->Act->World->Prop) (base:Act) (h:World) (i:base.tmps.size=149) (g:Zb8 G X b off kl kc j m xi f nn la ll lc d base)
  (l:∀ w,Below h.heap.size h w->Zx9 G X b off kl kc j m xi f nn la ll lc d w) (p:∀ c w,Zaf RN7 base c->Below h.heap.size h w->c.eval (.tmp 84)=.bool true->Q .normal c w):(Code.region 7 RN7 true).wp Tryz.prog Q base h:=by
 refine Zn (B:=Zb8 G X b off kl kc j m xi f nn la ll lc d) (T:=Zx9 G X b off kl kc j m xi f nn la ll lc d) (n:=38) (k:=37) LN7 AN7 (VNG G X b off kl kc j m xi f nn la ll lc d) Ja4 rfl (by kernel_rfl) (by kernel_rfl) (by kernel_rfl) (by rw [i];kernel_rfl) (fun c o=>⟨(Zc o (by kernel_rfl)).trans g.t1,(Zc o (by kernel_rfl)).trans g.t3,(Zc o (by kernel_rfl)).trans g.t4⟩) l ?_ (by decide) rfl rfl p
 clear i g l p
 iterate 38 (refine Zd ?_ (by
  intro c w g l hEq
  obtain ⟨t1,t3,t4⟩:=g
  obtain ⟨x0,a1,g2,a2,a3,g0,kj,kw,mlt,le,y0,a4,x1,k1⟩:=l
  have r:=evc c
  have s:=evf c
  dsimp only [AN7,LN7,VNG,nth,Zbm,Za2,Jc] at hEq |-
  first
  | exact ⟨by simp only [hEq],.inr ⟨by first | exact .inl rfl | exact .inr rfl,rfl⟩⟩
  | ((try refine ⟨by simp only [hEq],.inl ⟨rfl,?_⟩⟩);first | (refine Zk Tryz.call41 k1 ?_;simp only [List.map_toArray,List.map_cons,List.map_nil,hEq];done) | (refine .inl fun pos q=>?_;(clear k1;dsimp only [Sig.oper];generalize c.eval=ρ at *;go_simp;done)) | (refine .inl fun pos q=>?_;clear k1;dsimp only [Sig.oper];generalize c.eval=ρ at *;go_simp;simp only [decide_eq_true_eq,decide_eq_false_iff_not] at *;omega))))
 exact Zf
def VNH (G X b off kl kc j m:Nat) (xi f nn:Int) (la:Option Addr) (ll lc:Nat) (d:Value):List Value:=[.pointer (some ⟨X,0,none⟩),.int .i64 xi,.bool false,.bool false,.pointer (some ⟨X,0,none⟩),.int .i64 xi,.pointer (some ⟨G,2,none⟩),.int .i64 nn,.bool false,.bool false,.bool false,.int .i64 (j:Int),.bool true,.bool true,.pointer (some ⟨G,0,none⟩),.slice (some ⟨b,off,none⟩) kl kc,.int .i64 (j:Int),.int .i64 (m:Int),.pointer (some ⟨b,off+m*3,none⟩),.pointer (some ⟨b,off+m*3,none⟩),.int .i64 f,.pointer (some ⟨X,0,none⟩),.int .i64 xi,.bool false,.bool false,.bool false,.bool false,.pointer (some ⟨X,1,none⟩),.slice la ll lc,.bool true,.bool false,.bool false,.bool false,.pointer (some ⟨X,2,none⟩),d,.bool false,.bool true,.bool true]
structure Zya (G X b off kl kc j m:Nat) (xi f nn:Int) (la:Option Addr) (ll lc:Nat) (d:Value) (w:World):Prop where
 x0:w.cell? ⟨X,0,none⟩=some (.int .i64 xi)
 a1:decide (xi<0)=false
 g2:w.cell? ⟨G,2,none⟩=some (.int .i64 nn)
 a2:decide (nn<=xi)=false
 a3:decide ((0:Int)<(j:Int))=true
 g0:w.cell? ⟨G,0,none⟩=some (.slice (some ⟨b,off,none⟩) kl kc)
 kj:(j:Int) - 1=(m:Int)
 kw:IntKind.i64.wrap (m:Int)=(m:Int)
 mlt:m<kl
 le:kl<=9223372036854775807
 y0:w.cell? ⟨b,off+m*3,none⟩=some (.int .i64 f)
 a4:decide (xi<=f)=false
 x1:w.cell? ⟨X,1,none⟩=some (.slice la ll lc)
 k1:Calls Tryz.prog 41 #[.slice la ll lc] w fun e w'=>e=.returned (.bool true)/\Below w.heap.size w w'
 x2:w.cell? ⟨X,2,none⟩=some (d)
 k2:Calls Tryz.prog 42 #[d] w fun e w'=>e=.returned (.bool false)/\Below w.heap.size w w'
theorem Jbc (G X b off kl kc j m:Nat) (xi f nn:Int) (la:Option Addr) (ll lc:Nat) (d:Value) (Q:Exit->Act->World->Prop) (base:Act) (h:World) (i:base.tmps.size=149) (g:Zb8 G X b off kl kc j m xi f nn la ll lc d base)
  (l:∀ w,Below h.heap.size h w->Zya G X b off kl kc j m xi f nn la ll lc d w) (p:∀ c w,Zaf RN7 base c->Below h.heap.size h w->c.eval (.tmp 84)=.bool true->Q .normal c w):(Code.region 7 RN7 true).wp Tryz.prog Q base h:=by
 refine Zn (B:=Zb8 G X b off kl kc j m xi f nn la ll lc d) (T:=Zya G X b off kl kc j m xi f nn la ll lc d) (n:=38) (k:=37) LN7 AN7 (VNH G X b off kl kc j m xi f nn la ll lc d) Ja4 rfl (by kernel_rfl) (by kernel_rfl) (by kernel_rfl) (by rw [i];kernel_rfl) (fun c o=>⟨(Zc o (by kernel_rfl)).trans g.t1,(Zc o (by kernel_rfl)).trans g.t3,(Zc o (by kernel_rfl)).trans g.t4⟩) l ?_ (by decide) rfl rfl p
 clear i g l p
 iterate 38 (refine Zd ?_ (by
  intro c w g l hEq
  obtain ⟨t1,t3,t4⟩:=g
  obtain ⟨x0,a1,g2,a2,a3,g0,kj,kw,mlt,le,y0,a4,x1,k1,x2,k2⟩:=l
  have r:=evc c
  have s:=evf c
  dsimp only [AN7,LN7,VNH,nth,Zbm,Za2,Jc] at hEq |-
  first
  | exact ⟨by simp only [hEq],.inr ⟨by first | exact .inl rfl | exact .inr rfl,rfl⟩⟩
  | ((try refine ⟨by simp only [hEq],.inl ⟨rfl,?_⟩⟩);first | (refine Zk Tryz.call41 k1 ?_;simp only [List.map_toArray,List.map_cons,List.map_nil,hEq];done) | (refine Zk Tryz.call42 k2 ?_;simp only [List.map_toArray,List.map_cons,List.map_nil,hEq];done) | (refine .inl fun pos q=>?_;(clear k1 k2;dsimp only [Sig.oper];generalize c.eval=ρ at *;go_simp;done)) | (refine .inl fun pos q=>?_;clear k1 k2;dsimp only [Sig.oper];generalize c.eval=ρ at *;go_simp;simp only [decide_eq_true_eq,decide_eq_false_iff_not] at *;omega))))
 exact Zf
def VNI (G X b off kl kc j m:Nat) (xi f nn:Int) (la:Option Addr) (ll lc:Nat) (d:Value):List Value:=[.pointer (some ⟨X,0,none⟩),.int .i64 xi,.bool false,.bool false,.pointer (some ⟨X,0,none⟩),.int .i64 xi,.pointer (some ⟨G,2,none⟩),.int .i64 nn,.bool false,.bool false,.bool false,.int .i64 (j:Int),.bool true,.bool true,.pointer (some ⟨G,0,none⟩),.slice (some ⟨b,off,none⟩) kl kc,.int .i64 (j:Int),.int .i64 (m:Int),.pointer (some ⟨b,off+m*3,none⟩),.pointer (some ⟨b,off+m*3,none⟩),.int .i64 f,.pointer (some ⟨X,0,none⟩),.int .i64 xi,.bool false,.bool false,.bool false,.bool false,.pointer (some ⟨X,1,none⟩),.slice la ll lc,.bool true,.bool false,.bool false,.bool false,.pointer (some ⟨X,2,none⟩),d,.bool true,.bool false,.bool false]
structure Zyb (G X b off kl kc j m:Nat) (xi f nn:Int) (la:Option Addr) (ll lc:Nat) (d:Value) (w:World):Prop where
 x0:w.cell? ⟨X,0,none⟩=some (.int .i64 xi)
 a1:decide (xi<0)=false
 g2:w.cell? ⟨G,2,none⟩=some (.int .i64 nn)
 a2:decide (nn<=xi)=false
 a3:decide ((0:Int)<(j:Int))=true
 g0:w.cell? ⟨G,0,none⟩=some (.slice (some ⟨b,off,none⟩) kl kc)
 kj:(j:Int) - 1=(m:Int)
 kw:IntKind.i64.wrap (m:Int)=(m:Int)
 mlt:m<kl
 le:kl<=9223372036854775807
 y0:w.cell? ⟨b,off+m*3,none⟩=some (.int .i64 f)
 a4:decide (xi<=f)=false
 x1:w.cell? ⟨X,1,none⟩=some (.slice la ll lc)
 k1:Calls Tryz.prog 41 #[.slice la ll lc] w fun e w'=>e=.returned (.bool true)/\Below w.heap.size w w'
 x2:w.cell? ⟨X,2,none⟩=some (d)
 k2:Calls Tryz.prog 42 #[d] w fun e w'=>e=.returned (.bool true)/\Below w.heap.size w w'
theorem Jbd (G X b off kl kc j m:Nat) (xi f nn:Int) (la:Option Addr) (ll lc:Nat) (d:Value) (Q:Exit->Act->World->Prop) (base:Act) (h:World) (i:base.tmps.size=149) (g:Zb8 G X b off kl kc j m xi f nn la ll lc d base)
  (l:∀ w,Below h.heap.size h w->Zyb G X b off kl kc j m xi f nn la ll lc d w) (p:∀ c w,Zaf RN7 base c->Below h.heap.size h w->c.eval (.tmp 84)=.bool false->Q .normal c w):(Code.region 7 RN7 true).wp Tryz.prog Q base h:=by
 refine Zn (B:=Zb8 G X b off kl kc j m xi f nn la ll lc d) (T:=Zyb G X b off kl kc j m xi f nn la ll lc d) (n:=38) (k:=37) LN7 AN7 (VNI G X b off kl kc j m xi f nn la ll lc d) Ja4 rfl (by kernel_rfl) (by kernel_rfl) (by kernel_rfl) (by rw [i];kernel_rfl) (fun c o=>⟨(Zc o (by kernel_rfl)).trans g.t1,(Zc o (by kernel_rfl)).trans g.t3,(Zc o (by kernel_rfl)).trans g.t4⟩) l ?_ (by decide) rfl rfl p
 clear i g l p
 iterate 38 (refine Zd ?_ (by
  intro c w g l hEq
  obtain ⟨t1,t3,t4⟩:=g
  obtain ⟨x0,a1,g2,a2,a3,g0,kj,kw,mlt,le,y0,a4,x1,k1,x2,k2⟩:=l
  have r:=evc c
  have s:=evf c
  dsimp only [AN7,LN7,VNI,nth,Zbm,Za2,Jc] at hEq |-
  first
  | exact ⟨by simp only [hEq],.inr ⟨by first | exact .inl rfl | exact .inr rfl,rfl⟩⟩
  | ((try refine ⟨by simp only [hEq],.inl ⟨rfl,?_⟩⟩);first | (refine Zk Tryz.call41 k1 ?_;simp only [List.map_toArray,List.map_cons,List.map_nil,hEq];done) | (refine Zk Tryz.call42 k2 ?_;simp only [List.map_toArray,List.map_cons,List.map_nil,hEq];done) | (refine .inl fun pos q=>?_;(clear k1 k2;dsimp only [Sig.oper];generalize c.eval=ρ at *;go_simp;done)) | (refine .inl fun pos q=>?_;clear k1 k2;dsimp only [Sig.oper];generalize c.eval=ρ at *;go_simp;simp only [decide_eq_true_eq,decide_eq_false_iff_not] at *;omega))))
 exact Zf
end
section
open Go.RowKit Go.Shelf Go.WideShapes
noncomputable def Zgs  : Array Oper:=Zy Tryz.f14 13
def Zgu  : List Sig:=[⟨97,.fieldAddr 49 (.tmp 6) 0,0,none⟩,⟨98,.load 2 (.tmp 97),2,none⟩,⟨99,.binOp .lss 2 (.tmp 98) (.const (.int .i64 0)) 2,4,none⟩,⟨100,.move (.tmp 99),4,none⟩,⟨101,.fieldAddr 49 (.tmp 6) 0,0,some (3,false)⟩,⟨102,.load 2 (.tmp 101),2,some (3,false)⟩,⟨103,.fieldAddr 25 (.tmp 1) 3,0,some (3,false)⟩,⟨104,.load 2 (.tmp 103),2,some (3,false)⟩,⟨105,.binOp .geq 2 (.tmp 102) (.tmp 104) 2,4,some (3,false)⟩,⟨106,.pick (.tmp 100) (.const (.bool true)) (.tmp 105),4,none⟩,⟨107,.move (.tmp 106),4,none⟩,⟨108,.move (.tmp 5),3,some (10,false)⟩,⟨109,.binOp .gtr 3 (.tmp 108) (.const (.int .i64 0)) 3,4,some (10,false)⟩,⟨110,.move (.tmp 109),4,some (10,false)⟩,⟨111,.fieldAddr 25 (.tmp 1) 1,0,some (13,true)⟩,⟨112,.load 23 (.tmp 111),23,some (13,true)⟩,⟨113,.move (.tmp 5),3,some (13,true)⟩,⟨114,.binOp .sub 3 (.tmp 113) (.const (.int .i64 1)) 3,3,some (13,true)⟩,⟨115,.indexAddr 23 (.tmp 112) (.tmp 114),0,some (13,true)⟩,⟨116,.fieldAddr 49 (.tmp 115) 0,0,some (13,true)⟩,⟨117,.load 2 (.tmp 116),2,some (13,true)⟩,⟨118,.fieldAddr 49 (.tmp 6) 0,0,some (13,true)⟩,⟨119,.load 2 (.tmp 118),2,some (13,true)⟩,⟨120,.binOp .geq 2 (.tmp 117) (.tmp 119) 2,4,some (13,true)⟩,⟨121,.pick (.tmp 110) (.tmp 120) (.const (.bool false)),4,some (10,false)⟩,⟨122,.pick (.tmp 107) (.const (.bool true)) (.tmp 121),4,none⟩,⟨123,.move (.tmp 122),4,none⟩,⟨124,.fieldAddr 49 (.tmp 6) 3,0,some (26,false)⟩,⟨125,.load 9 (.tmp 124),9,some (26,false)⟩,⟨126,.call { callee:=.value (.func 43),args:=#[.tmp 125],argTypes:=#[9] },4,some (26,false)⟩,⟨127,.unOp .not 4 (.tmp 126),4,some (26,false)⟩,⟨128,.pick (.tmp 123) (.const (.bool true)) (.tmp 127),4,none⟩,⟨129,.move (.tmp 128),4,none⟩,⟨130,.fieldAddr 49 (.tmp 6) 4,0,some (32,false)⟩,⟨131,.load 45 (.tmp 130),45,some (32,false)⟩,⟨132,.call { callee:=.value (.func 42),args:=#[.tmp 131],argTypes:=#[45] },4,some (32,false)⟩,⟨133,.unOp .not 4 (.tmp 132),4,some (32,false)⟩,⟨134,.pick (.tmp 129) (.const (.bool true)) (.tmp 133),4,none⟩,⟨135,.move (.tmp 134),4,none⟩,⟨136,.load 25 (.tmp 1),25,some (38,false)⟩,⟨137,.fieldAddr 49 (.tmp 6) 1,0,some (38,false)⟩,⟨138,.load 2 (.tmp 137),2,some (38,false)⟩,⟨139,.call { callee:=.value (.func 44),args:=#[.tmp 136,.tmp 138],argTypes:=#[25,2] },3,some (38,false)⟩,⟨140,.binOp .lss 3 (.tmp 139) (.const (.int .i64 0)) 3,4,some (38,false)⟩,⟨141,.pick (.tmp 135) (.const (.bool true)) (.tmp 140),4,none⟩,⟨142,.move (.tmp 141),4,none⟩,⟨143,.load 25 (.tmp 1),25,some (45,false)⟩,⟨144,.fieldAddr 49 (.tmp 6) 2,0,some (45,false)⟩,⟨145,.load 2 (.tmp 144),2,some (45,false)⟩,⟨146,.call { callee:=.value (.func 44),args:=#[.tmp 143,.tmp 145],argTypes:=#[25,2] },3,some (45,false)⟩,⟨147,.binOp .lss 3 (.tmp 146) (.const (.int .i64 0)) 3,4,some (45,false)⟩,⟨148,.pick (.tmp 142) (.const (.bool true)) (.tmp 147),4,none⟩]
theorem Zgv  : Jh Zgs=Zgu.map some:=by kernel_rfl
def Zhc  : List (List Nat):=[[],[0],[1],[2],[3],[3,4],[3],[3,6],[3,5,7],[3,8],[9],[10],[10,11],[10,12],[13],[13,14],[13],[13,16],[13,15,17],[13,18],[13,19],[13],[13,21],[13,20,22],[10,13,23],[10,24],[25],[26],[26,27],[26,28],[26,29],[26,30],[31],[32],[32,33],[32,34],[32,35],[32,36],[37],[38],[38],[38,40],[38,39,41],[38,42],[38,43],[44],[45],[45],[45,47],[45,46,48],[45,49],[45,50]]
structure Zae (G X b off kl kc j m:Nat) (xi h fr tt g i nn nr:Int) (ty:ByteArray) (d f:Value) (c:Act):Prop where
 t1:c.eval (.tmp 1)=.pointer (some ⟨G,0,none⟩)
 t5:c.eval (.tmp 5)=.int .i64 (j:Int)
 t6:c.eval (.tmp 6)=.pointer (some ⟨X,0,none⟩)
def VLA (G X b off kl kc j m:Nat) (xi h fr tt g i nn nr:Int) (ty:ByteArray) (d f:Value):List Value:=[.pointer (some ⟨X,0,none⟩),.int .i64 xi,.bool true,.bool true,undef,undef,undef,undef,undef,.bool true,.bool true,undef,undef,undef,undef,undef,undef,undef,undef,undef,undef,undef,undef,undef,undef,.bool true,.bool true,undef,undef,undef,undef,.bool true,.bool true,undef,undef,undef,undef,.bool true,.bool true,undef,undef,undef,undef,undef,.bool true,.bool true,undef,undef,undef,undef,undef,.bool true]
structure Zvn (G X b off kl kc j m:Nat) (xi h fr tt g i nn nr:Int) (ty:ByteArray) (d f:Value) (w:World):Prop where
 x0:w.cell? ⟨X,0,none⟩=some (.int .i64 xi)
 a1:decide (xi<0)=true
theorem Zzo (G X b off kl kc j m:Nat) (xi h fr tt g i nn nr:Int) (ty:ByteArray) (d f:Value) (Q:Exit->Act->World->Prop) (base:Act) (o:World) (p:base.tmps.size=149) (l:Zae G X b off kl kc j m xi h fr tt g i nn nr ty d f base)
  (q:∀ w,Below o.heap.size o w->Zvn G X b off kl kc j m xi h fr tt g i nn nr ty d f w) (s:∀ c w,Zaf Zgs base c->Below o.heap.size o w->c.eval (.tmp 148)=.bool true->Q .normal c w):(Code.region 13 Zgs true).wp Tryz.prog Q base o:=by
 refine Zn (B:=Zae G X b off kl kc j m xi h fr tt g i nn nr ty d f) (T:=Zvn G X b off kl kc j m xi h fr tt g i nn nr ty d f) (n:=52) (k:=51) Zgu Zhc (VLA G X b off kl kc j m xi h fr tt g i nn nr ty d f) Zgv rfl (by kernel_rfl) (by kernel_rfl) (by kernel_rfl) (by rw [p];kernel_rfl) (fun c r=>⟨(Zc r (by kernel_rfl)).trans l.t1,(Zc r (by kernel_rfl)).trans l.t5,(Zc r (by kernel_rfl)).trans l.t6⟩) q ?_ (by decide) rfl rfl s
 clear p l q s
 iterate 52 (refine Zd ?_ (by
  intro c w l q hEq
  obtain ⟨t1,t5,t6⟩:=l
  obtain ⟨x0,a1⟩:=q
  have u:=evc c
  have v:=evf c
  dsimp only [Zhc,Zgu,VLA,nth,Zbm,Za2,Jc] at hEq |-
  first
  | exact ⟨by simp only [hEq],.inr ⟨by first | exact .inl rfl | exact .inr rfl,rfl⟩⟩
  | ((try refine ⟨by simp only [hEq],.inl ⟨rfl,?_⟩⟩);first | (refine .inl fun pos t=>?_;(dsimp only [Sig.oper];generalize c.eval=ρ at *;go_simp;done)) | (refine .inl fun pos t=>?_;dsimp only [Sig.oper];generalize c.eval=ρ at *;go_simp;simp only [decide_eq_true_eq,decide_eq_false_iff_not] at *;omega))))
 exact Zf
def VLB (G X b off kl kc j m:Nat) (xi h fr tt g i nn nr:Int) (ty:ByteArray) (d f:Value):List Value:=[.pointer (some ⟨X,0,none⟩),.int .i64 xi,.bool false,.bool false,.pointer (some ⟨X,0,none⟩),.int .i64 xi,.pointer (some ⟨G,3,none⟩),.int .i64 nr,.bool true,.bool true,.bool true,undef,undef,undef,undef,undef,undef,undef,undef,undef,undef,undef,undef,undef,undef,.bool true,.bool true,undef,undef,undef,undef,.bool true,.bool true,undef,undef,undef,undef,.bool true,.bool true,undef,undef,undef,undef,undef,.bool true,.bool true,undef,undef,undef,undef,undef,.bool true]
structure Zvo (G X b off kl kc j m:Nat) (xi h fr tt g i nn nr:Int) (ty:ByteArray) (d f:Value) (w:World):Prop where
 x0:w.cell? ⟨X,0,none⟩=some (.int .i64 xi)
 a1:decide (xi<0)=false
 g3:w.cell? ⟨G,3,none⟩=some (.int .i64 nr)
 a2:decide (nr<=xi)=true
theorem Zzp (G X b off kl kc j m:Nat) (xi h fr tt g i nn nr:Int) (ty:ByteArray) (d f:Value) (Q:Exit->Act->World->Prop) (base:Act) (o:World) (p:base.tmps.size=149) (l:Zae G X b off kl kc j m xi h fr tt g i nn nr ty d f base)
  (q:∀ w,Below o.heap.size o w->Zvo G X b off kl kc j m xi h fr tt g i nn nr ty d f w) (s:∀ c w,Zaf Zgs base c->Below o.heap.size o w->c.eval (.tmp 148)=.bool true->Q .normal c w):(Code.region 13 Zgs true).wp Tryz.prog Q base o:=by
 refine Zn (B:=Zae G X b off kl kc j m xi h fr tt g i nn nr ty d f) (T:=Zvo G X b off kl kc j m xi h fr tt g i nn nr ty d f) (n:=52) (k:=51) Zgu Zhc (VLB G X b off kl kc j m xi h fr tt g i nn nr ty d f) Zgv rfl (by kernel_rfl) (by kernel_rfl) (by kernel_rfl) (by rw [p];kernel_rfl) (fun c r=>⟨(Zc r (by kernel_rfl)).trans l.t1,(Zc r (by kernel_rfl)).trans l.t5,(Zc r (by kernel_rfl)).trans l.t6⟩) q ?_ (by decide) rfl rfl s
 clear p l q s
 iterate 52 (refine Zd ?_ (by
  intro c w l q hEq
  obtain ⟨t1,t5,t6⟩:=l
  obtain ⟨x0,a1,g3,a2⟩:=q
  have u:=evc c
  have v:=evf c
  dsimp only [Zhc,Zgu,VLB,nth,Zbm,Za2,Jc] at hEq |-
  first
  | exact ⟨by simp only [hEq],.inr ⟨by first | exact .inl rfl | exact .inr rfl,rfl⟩⟩
  | ((try refine ⟨by simp only [hEq],.inl ⟨rfl,?_⟩⟩);first | (refine .inl fun pos t=>?_;(dsimp only [Sig.oper];generalize c.eval=ρ at *;go_simp;done)) | (refine .inl fun pos t=>?_;dsimp only [Sig.oper];generalize c.eval=ρ at *;go_simp;simp only [decide_eq_true_eq,decide_eq_false_iff_not] at *;omega))))
 exact Zf
def VLC (G X b off kl kc j m:Nat) (xi h fr tt g i nn nr:Int) (ty:ByteArray) (d f:Value):List Value:=[.pointer (some ⟨X,0,none⟩),.int .i64 xi,.bool false,.bool false,.pointer (some ⟨X,0,none⟩),.int .i64 xi,.pointer (some ⟨G,3,none⟩),.int .i64 nr,.bool false,.bool false,.bool false,.int .i64 (j:Int),.bool true,.bool true,.pointer (some ⟨G,1,none⟩),.slice (some ⟨b,off,none⟩) kl kc,.int .i64 (j:Int),.int .i64 (m:Int),.pointer (some ⟨b,off+m*5,none⟩),.pointer (some ⟨b,off+m*5,none⟩),.int .i64 h,.pointer (some ⟨X,0,none⟩),.int .i64 xi,.bool true,.bool true,.bool true,.bool true,undef,undef,undef,undef,.bool true,.bool true,undef,undef,undef,undef,.bool true,.bool true,undef,undef,undef,undef,undef,.bool true,.bool true,undef,undef,undef,undef,undef,.bool true]
structure Zvp (G X b off kl kc j m:Nat) (xi h fr tt g i nn nr:Int) (ty:ByteArray) (d f:Value) (w:World):Prop where
 x0:w.cell? ⟨X,0,none⟩=some (.int .i64 xi)
 a1:decide (xi<0)=false
 g3:w.cell? ⟨G,3,none⟩=some (.int .i64 nr)
 a2:decide (nr<=xi)=false
 a3:decide ((0:Int)<(j:Int))=true
 g1:w.cell? ⟨G,1,none⟩=some (.slice (some ⟨b,off,none⟩) kl kc)
 kj:(j:Int) - 1=(m:Int)
 kw:IntKind.i64.wrap (m:Int)=(m:Int)
 mlt:m<kl
 le:kl<=9223372036854775807
 y0:w.cell? ⟨b,off+m*5,none⟩=some (.int .i64 h)
 a4:decide (xi<=h)=true
theorem Zzq (G X b off kl kc j m:Nat) (xi h fr tt g i nn nr:Int) (ty:ByteArray) (d f:Value) (Q:Exit->Act->World->Prop) (base:Act) (o:World) (p:base.tmps.size=149) (l:Zae G X b off kl kc j m xi h fr tt g i nn nr ty d f base)
  (q:∀ w,Below o.heap.size o w->Zvp G X b off kl kc j m xi h fr tt g i nn nr ty d f w) (s:∀ c w,Zaf Zgs base c->Below o.heap.size o w->c.eval (.tmp 148)=.bool true->Q .normal c w):(Code.region 13 Zgs true).wp Tryz.prog Q base o:=by
 refine Zn (B:=Zae G X b off kl kc j m xi h fr tt g i nn nr ty d f) (T:=Zvp G X b off kl kc j m xi h fr tt g i nn nr ty d f) (n:=52) (k:=51) Zgu Zhc (VLC G X b off kl kc j m xi h fr tt g i nn nr ty d f) Zgv rfl (by kernel_rfl) (by kernel_rfl) (by kernel_rfl) (by rw [p];kernel_rfl) (fun c r=>⟨(Zc r (by kernel_rfl)).trans l.t1,(Zc r (by kernel_rfl)).trans l.t5,(Zc r (by kernel_rfl)).trans l.t6⟩) q ?_ (by decide) rfl rfl s
 clear p l q s
 iterate 52 (refine Zd ?_ (by
  intro c w l q hEq
  obtain ⟨t1,t5,t6⟩:=l
  obtain ⟨x0,a1,g3,a2,a3,g1,kj,kw,mlt,le,y0,a4⟩:=q
  have u:=evc c
  have v:=evf c
  dsimp only [Zhc,Zgu,VLC,nth,Zbm,Za2,Jc] at hEq |-
  first
  | exact ⟨by simp only [hEq],.inr ⟨by first | exact .inl rfl | exact .inr rfl,rfl⟩⟩
  | ((try refine ⟨by simp only [hEq],.inl ⟨rfl,?_⟩⟩);first | (refine .inl fun pos t=>?_;(dsimp only [Sig.oper];generalize c.eval=ρ at *;go_simp;done)) | (refine .inl fun pos t=>?_;dsimp only [Sig.oper];generalize c.eval=ρ at *;go_simp;simp only [decide_eq_true_eq,decide_eq_false_iff_not] at *;omega))))
 exact Zf
def Jj1 (G X b off kl kc j m:Nat) (xi h fr tt g i nn nr:Int) (ty:ByteArray) (d f:Value):List Value:=[.pointer (some ⟨X,0,none⟩),.int .i64 xi,.bool false,.bool false,.pointer (some ⟨X,0,none⟩),.int .i64 xi,.pointer (some ⟨G,3,none⟩),.int .i64 nr,.bool false,.bool false,.bool false,.int .i64 (j:Int),.bool false,.bool false,undef,undef,undef,undef,undef,undef,undef,undef,undef,undef,.bool false,.bool false,.bool false,.pointer (some ⟨X,3,none⟩),.string ty,.bool false,.bool true,.bool true,.bool true,undef,undef,undef,undef,.bool true,.bool true,undef,undef,undef,undef,undef,.bool true,.bool true,undef,undef,undef,undef,undef,.bool true]
structure Zqv (G X b off kl kc j m:Nat) (xi h fr tt g i nn nr:Int) (ty:ByteArray) (d f:Value) (w:World):Prop where
 x0:w.cell? ⟨X,0,none⟩=some (.int .i64 xi)
 a1:decide (xi<0)=false
 g3:w.cell? ⟨G,3,none⟩=some (.int .i64 nr)
 a2:decide (nr<=xi)=false
 a3:decide ((0:Int)<(j:Int))=false
 x3:w.cell? ⟨X,3,none⟩=some (.string ty)
 k1:Calls Tryz.prog 43 #[.string ty] w fun e w'=>e=.returned (.bool false)/\Below w.heap.size w w'
theorem Zvq (G X b off kl kc j m:Nat) (xi h fr tt g i nn nr:Int) (ty:ByteArray) (d f:Value) (Q:Exit->Act->World->Prop) (base:Act) (o:World) (p:base.tmps.size=149) (l:Zae G X b off kl kc j m xi h fr tt g i nn nr ty d f base)
  (q:∀ w,Below o.heap.size o w->Zqv G X b off kl kc j m xi h fr tt g i nn nr ty d f w) (s:∀ c w,Zaf Zgs base c->Below o.heap.size o w->c.eval (.tmp 148)=.bool true->Q .normal c w):(Code.region 13 Zgs true).wp Tryz.prog Q base o:=by
 refine Zn (B:=Zae G X b off kl kc j m xi h fr tt g i nn nr ty d f) (T:=Zqv G X b off kl kc j m xi h fr tt g i nn nr ty d f) (n:=52) (k:=51) Zgu Zhc (Jj1 G X b off kl kc j m xi h fr tt g i nn nr ty d f) Zgv rfl (by kernel_rfl) (by kernel_rfl) (by kernel_rfl) (by rw [p];kernel_rfl) (fun c r=>⟨(Zc r (by kernel_rfl)).trans l.t1,(Zc r (by kernel_rfl)).trans l.t5,(Zc r (by kernel_rfl)).trans l.t6⟩) q ?_ (by decide) rfl rfl s
 clear p l q s
 iterate 52 (refine Zd ?_ (by
  intro c w l q hEq
  obtain ⟨t1,t5,t6⟩:=l
  obtain ⟨x0,a1,g3,a2,a3,x3,k1⟩:=q
  have u:=evc c
  have v:=evf c
  dsimp only [Zhc,Zgu,Jj1,nth,Zbm,Za2,Jc] at hEq |-
  first
  | exact ⟨by simp only [hEq],.inr ⟨by first | exact .inl rfl | exact .inr rfl,rfl⟩⟩
  | ((try refine ⟨by simp only [hEq],.inl ⟨rfl,?_⟩⟩);first | (refine Zk Tryz.call43 k1 ?_;simp only [List.map_toArray,List.map_cons,List.map_nil,hEq];done) | (refine .inl fun pos t=>?_;(clear k1;dsimp only [Sig.oper];generalize c.eval=ρ at *;go_simp;done)) | (refine .inl fun pos t=>?_;clear k1;dsimp only [Sig.oper];generalize c.eval=ρ at *;go_simp;simp only [decide_eq_true_eq,decide_eq_false_iff_not] at *;omega))))
 exact Zf
def Jj2 (G X b off kl kc j m:Nat) (xi h fr tt g i nn nr:Int) (ty:ByteArray) (d f:Value):List Value:=[.pointer (some ⟨X,0,none⟩),.int .i64 xi,.bool false,.bool false,.pointer (some ⟨X,0,none⟩),.int .i64 xi,.pointer (some ⟨G,3,none⟩),.int .i64 nr,.bool false,.bool false,.bool false,.int .i64 (j:Int),.bool false,.bool false,undef,undef,undef,undef,undef,undef,undef,undef,undef,undef,.bool false,.bool false,.bool false,.pointer (some ⟨X,3,none⟩),.string ty,.bool true,.bool false,.bool false,.bool false,.pointer (some ⟨X,4,none⟩),f,.bool false,.bool true,.bool true,.bool true,undef,undef,undef,undef,undef,.bool true,.bool true,undef,undef,undef,undef,undef,.bool true]
structure Zqw (G X b off kl kc j m:Nat) (xi h fr tt g i nn nr:Int) (ty:ByteArray) (d f:Value) (w:World):Prop where
 x0:w.cell? ⟨X,0,none⟩=some (.int .i64 xi)
 a1:decide (xi<0)=false
 g3:w.cell? ⟨G,3,none⟩=some (.int .i64 nr)
 a2:decide (nr<=xi)=false
 a3:decide ((0:Int)<(j:Int))=false
 x3:w.cell? ⟨X,3,none⟩=some (.string ty)
 k1:Calls Tryz.prog 43 #[.string ty] w fun e w'=>e=.returned (.bool true)/\Below w.heap.size w w'
 x4:w.cell? ⟨X,4,none⟩=some (f)
 k2:Calls Tryz.prog 42 #[f] w fun e w'=>e=.returned (.bool false)/\Below w.heap.size w w'
theorem Zvr (G X b off kl kc j m:Nat) (xi h fr tt g i nn nr:Int) (ty:ByteArray) (d f:Value) (Q:Exit->Act->World->Prop) (base:Act) (o:World) (p:base.tmps.size=149) (l:Zae G X b off kl kc j m xi h fr tt g i nn nr ty d f base)
  (q:∀ w,Below o.heap.size o w->Zqw G X b off kl kc j m xi h fr tt g i nn nr ty d f w) (s:∀ c w,Zaf Zgs base c->Below o.heap.size o w->c.eval (.tmp 148)=.bool true->Q .normal c w):(Code.region 13 Zgs true).wp Tryz.prog Q base o:=by
 refine Zn (B:=Zae G X b off kl kc j m xi h fr tt g i nn nr ty d f) (T:=Zqw G X b off kl kc j m xi h fr tt g i nn nr ty d f) (n:=52) (k:=51) Zgu Zhc (Jj2 G X b off kl kc j m xi h fr tt g i nn nr ty d f) Zgv rfl (by kernel_rfl) (by kernel_rfl) (by kernel_rfl) (by rw [p];kernel_rfl) (fun c r=>⟨(Zc r (by kernel_rfl)).trans l.t1,(Zc r (by kernel_rfl)).trans l.t5,(Zc r (by kernel_rfl)).trans l.t6⟩) q ?_ (by decide) rfl rfl s
 clear p l q s
 iterate 52 (refine Zd ?_ (by
  intro c w l q hEq
  obtain ⟨t1,t5,t6⟩:=l
  obtain ⟨x0,a1,g3,a2,a3,x3,k1,x4,k2⟩:=q
  have u:=evc c
  have v:=evf c
  dsimp only [Zhc,Zgu,Jj2,nth,Zbm,Za2,Jc] at hEq |-
  first
  | exact ⟨by simp only [hEq],.inr ⟨by first | exact .inl rfl | exact .inr rfl,rfl⟩⟩
  | ((try refine ⟨by simp only [hEq],.inl ⟨rfl,?_⟩⟩);first | (refine Zk Tryz.call43 k1 ?_;simp only [List.map_toArray,List.map_cons,List.map_nil,hEq];done) | (refine Zk Tryz.call42 k2 ?_;simp only [List.map_toArray,List.map_cons,List.map_nil,hEq];done) | (refine .inl fun pos t=>?_;(clear k1 k2;dsimp only [Sig.oper];generalize c.eval=ρ at *;go_simp;done)) | (refine .inl fun pos t=>?_;clear k1 k2;dsimp only [Sig.oper];generalize c.eval=ρ at *;go_simp;simp only [decide_eq_true_eq,decide_eq_false_iff_not] at *;omega))))
 exact Zf
def Jj3 (G X b off kl kc j m:Nat) (xi h fr tt g i nn nr:Int) (ty:ByteArray) (d f:Value):List Value:=[.pointer (some ⟨X,0,none⟩),.int .i64 xi,.bool false,.bool false,.pointer (some ⟨X,0,none⟩),.int .i64 xi,.pointer (some ⟨G,3,none⟩),.int .i64 nr,.bool false,.bool false,.bool false,.int .i64 (j:Int),.bool false,.bool false,undef,undef,undef,undef,undef,undef,undef,undef,undef,undef,.bool false,.bool false,.bool false,.pointer (some ⟨X,3,none⟩),.string ty,.bool true,.bool false,.bool false,.bool false,.pointer (some ⟨X,4,none⟩),f,.bool true,.bool false,.bool false,.bool false,.agg #[d,.slice (some ⟨b,off,none⟩) kl kc,.int .i64 nn,.int .i64 nr],.pointer (some ⟨X,1,none⟩),.int .i64 fr,.int .i64 g,.bool true,.bool true,.bool true,undef,undef,undef,undef,undef,.bool true]
structure Zqx (G X b off kl kc j m:Nat) (xi h fr tt g i nn nr:Int) (ty:ByteArray) (d f:Value) (w:World):Prop where
 x0:w.cell? ⟨X,0,none⟩=some (.int .i64 xi)
 a1:decide (xi<0)=false
 g3:w.cell? ⟨G,3,none⟩=some (.int .i64 nr)
 a2:decide (nr<=xi)=false
 a3:decide ((0:Int)<(j:Int))=false
 x3:w.cell? ⟨X,3,none⟩=some (.string ty)
 k1:Calls Tryz.prog 43 #[.string ty] w fun e w'=>e=.returned (.bool true)/\Below w.heap.size w w'
 x4:w.cell? ⟨X,4,none⟩=some (f)
 k2:Calls Tryz.prog 42 #[f] w fun e w'=>e=.returned (.bool true)/\Below w.heap.size w w'
 g0:w.cell? ⟨G,0,none⟩=some (d)
 g1:w.cell? ⟨G,1,none⟩=some (.slice (some ⟨b,off,none⟩) kl kc)
 g2:w.cell? ⟨G,2,none⟩=some (.int .i64 nn)
 x1:w.cell? ⟨X,1,none⟩=some (.int .i64 fr)
 k3:Calls Tryz.prog 44 #[.agg #[d,.slice (some ⟨b,off,none⟩) kl kc,.int .i64 nn,.int .i64 nr],.int .i64 fr] w fun e w'=>e=.returned (.int .i64 g)/\Below w.heap.size w w'
 a5:decide (g<0)=true
theorem Zvs (G X b off kl kc j m:Nat) (xi h fr tt g i nn nr:Int) (ty:ByteArray) (d f:Value) (Q:Exit->Act->World->Prop) (base:Act) (o:World) (p:base.tmps.size=149) (l:Zae G X b off kl kc j m xi h fr tt g i nn nr ty d f base)
  (q:∀ w,Below o.heap.size o w->Zqx G X b off kl kc j m xi h fr tt g i nn nr ty d f w) (s:∀ c w,Zaf Zgs base c->Below o.heap.size o w->c.eval (.tmp 148)=.bool true->Q .normal c w):(Code.region 13 Zgs true).wp Tryz.prog Q base o:=by
 refine Zn (B:=Zae G X b off kl kc j m xi h fr tt g i nn nr ty d f) (T:=Zqx G X b off kl kc j m xi h fr tt g i nn nr ty d f) (n:=52) (k:=51) Zgu Zhc (Jj3 G X b off kl kc j m xi h fr tt g i nn nr ty d f) Zgv rfl (by kernel_rfl) (by kernel_rfl) (by kernel_rfl) (by rw [p];kernel_rfl) (fun c r=>⟨(Zc r (by kernel_rfl)).trans l.t1,(Zc r (by kernel_rfl)).trans l.t5,(Zc r (by kernel_rfl)).trans l.t6⟩) q ?_ (by decide) rfl rfl s
 clear p l q s
 iterate 52 (refine Zd ?_ (by
  intro c w l q hEq
  obtain ⟨t1,t5,t6⟩:=l
  obtain ⟨x0,a1,g3,a2,a3,x3,k1,x4,k2,g0,g1,g2,x1,k3,a5⟩:=q
  have u:=evc c
  have v:=evf c
  dsimp only [Zhc,Zgu,Jj3,nth,Zbm,Za2,Jc] at hEq |-
  first
  | exact ⟨by simp only [hEq],.inr ⟨by first | exact .inl rfl | exact .inr rfl,rfl⟩⟩
  | ((try refine ⟨by simp only [hEq],.inl ⟨rfl,?_⟩⟩);first | (refine Zk Tryz.call43 k1 ?_;simp only [List.map_toArray,List.map_cons,List.map_nil,hEq];done) | (refine Zk Tryz.call42 k2 ?_;simp only [List.map_toArray,List.map_cons,List.map_nil,hEq];done) | (refine Zk Tryz.call44 k3 ?_;simp only [List.map_toArray,List.map_cons,List.map_nil,hEq];done) | (refine .inl fun pos t=>?_;(clear k1 k2 k3;dsimp only [Sig.oper];generalize c.eval=ρ at *;go_simp;done)) | (refine .inl fun pos t=>?_;clear k1 k2 k3;dsimp only [Sig.oper];generalize c.eval=ρ at *;go_simp;simp only [decide_eq_true_eq,decide_eq_false_iff_not] at *;omega))))
 exact Zf
def Jj4 (G X b off kl kc j m:Nat) (xi h fr tt g i nn nr:Int) (ty:ByteArray) (d f:Value):List Value:=[.pointer (some ⟨X,0,none⟩),.int .i64 xi,.bool false,.bool false,.pointer (some ⟨X,0,none⟩),.int .i64 xi,.pointer (some ⟨G,3,none⟩),.int .i64 nr,.bool false,.bool false,.bool false,.int .i64 (j:Int),.bool false,.bool false,undef,undef,undef,undef,undef,undef,undef,undef,undef,undef,.bool false,.bool false,.bool false,.pointer (some ⟨X,3,none⟩),.string ty,.bool true,.bool false,.bool false,.bool false,.pointer (some ⟨X,4,none⟩),f,.bool true,.bool false,.bool false,.bool false,.agg #[d,.slice (some ⟨b,off,none⟩) kl kc,.int .i64 nn,.int .i64 nr],.pointer (some ⟨X,1,none⟩),.int .i64 fr,.int .i64 g,.bool false,.bool false,.bool false,.agg #[d,.slice (some ⟨b,off,none⟩) kl kc,.int .i64 nn,.int .i64 nr],.pointer (some ⟨X,2,none⟩),.int .i64 tt,.int .i64 i,.bool true,.bool true]
structure Zqy (G X b off kl kc j m:Nat) (xi h fr tt g i nn nr:Int) (ty:ByteArray) (d f:Value) (w:World):Prop where
 x0:w.cell? ⟨X,0,none⟩=some (.int .i64 xi)
 a1:decide (xi<0)=false
 g3:w.cell? ⟨G,3,none⟩=some (.int .i64 nr)
 a2:decide (nr<=xi)=false
 a3:decide ((0:Int)<(j:Int))=false
 x3:w.cell? ⟨X,3,none⟩=some (.string ty)
 k1:Calls Tryz.prog 43 #[.string ty] w fun e w'=>e=.returned (.bool true)/\Below w.heap.size w w'
 x4:w.cell? ⟨X,4,none⟩=some (f)
 k2:Calls Tryz.prog 42 #[f] w fun e w'=>e=.returned (.bool true)/\Below w.heap.size w w'
 g0:w.cell? ⟨G,0,none⟩=some (d)
 g1:w.cell? ⟨G,1,none⟩=some (.slice (some ⟨b,off,none⟩) kl kc)
 g2:w.cell? ⟨G,2,none⟩=some (.int .i64 nn)
 x1:w.cell? ⟨X,1,none⟩=some (.int .i64 fr)
 k3:Calls Tryz.prog 44 #[.agg #[d,.slice (some ⟨b,off,none⟩) kl kc,.int .i64 nn,.int .i64 nr],.int .i64 fr] w fun e w'=>e=.returned (.int .i64 g)/\Below w.heap.size w w'
 a5:decide (g<0)=false
 x2:w.cell? ⟨X,2,none⟩=some (.int .i64 tt)
 k4:Calls Tryz.prog 44 #[.agg #[d,.slice (some ⟨b,off,none⟩) kl kc,.int .i64 nn,.int .i64 nr],.int .i64 tt] w fun e w'=>e=.returned (.int .i64 i)/\Below w.heap.size w w'
 a6:decide (i<0)=true
theorem Zvt (G X b off kl kc j m:Nat) (xi h fr tt g i nn nr:Int) (ty:ByteArray) (d f:Value) (Q:Exit->Act->World->Prop) (base:Act) (o:World) (p:base.tmps.size=149) (l:Zae G X b off kl kc j m xi h fr tt g i nn nr ty d f base)
  (q:∀ w,Below o.heap.size o w->Zqy G X b off kl kc j m xi h fr tt g i nn nr ty d f w) (s:∀ c w,Zaf Zgs base c->Below o.heap.size o w->c.eval (.tmp 148)=.bool true->Q .normal c w):(Code.region 13 Zgs true).wp Tryz.prog Q base o:=by
 refine Zn (B:=Zae G X b off kl kc j m xi h fr tt g i nn nr ty d f) (T:=Zqy G X b off kl kc j m xi h fr tt g i nn nr ty d f) (n:=52) (k:=51) Zgu Zhc (Jj4 G X b off kl kc j m xi h fr tt g i nn nr ty d f) Zgv rfl (by kernel_rfl) (by kernel_rfl) (by kernel_rfl) (by rw [p];kernel_rfl) (fun c r=>⟨(Zc r (by kernel_rfl)).trans l.t1,(Zc r (by kernel_rfl)).trans l.t5,(Zc r (by kernel_rfl)).trans l.t6⟩) q ?_ (by decide) rfl rfl s
 clear p l q s
 iterate 52 (refine Zd ?_ (by
  intro c w l q hEq
  obtain ⟨t1,t5,t6⟩:=l
  obtain ⟨x0,a1,g3,a2,a3,x3,k1,x4,k2,g0,g1,g2,x1,k3,a5,x2,k4,a6⟩:=q
  have u:=evc c
  have v:=evf c
  dsimp only [Zhc,Zgu,Jj4,nth,Zbm,Za2,Jc] at hEq |-
  first
  | exact ⟨by simp only [hEq],.inr ⟨by first | exact .inl rfl | exact .inr rfl,rfl⟩⟩
  | ((try refine ⟨by simp only [hEq],.inl ⟨rfl,?_⟩⟩);first | (refine Zk Tryz.call43 k1 ?_;simp only [List.map_toArray,List.map_cons,List.map_nil,hEq];done) | (refine Zk Tryz.call42 k2 ?_;simp only [List.map_toArray,List.map_cons,List.map_nil,hEq];done) | (refine Zk Tryz.call44 k3 ?_;simp only [List.map_toArray,List.map_cons,List.map_nil,hEq];done) | (refine Zk Tryz.call44 k4 ?_;simp only [List.map_toArray,List.map_cons,List.map_nil,hEq];done) | (refine .inl fun pos t=>?_;(clear k1 k2 k3 k4;dsimp only [Sig.oper];generalize c.eval=ρ at *;go_simp;done)) | (refine .inl fun pos t=>?_;clear k1 k2 k3 k4;dsimp only [Sig.oper];generalize c.eval=ρ at *;go_simp;simp only [decide_eq_true_eq,decide_eq_false_iff_not] at *;omega))))
 exact Zf
def Jj5 (G X b off kl kc j m:Nat) (xi h fr tt g i nn nr:Int) (ty:ByteArray) (d f:Value):List Value:=[.pointer (some ⟨X,0,none⟩),.int .i64 xi,.bool false,.bool false,.pointer (some ⟨X,0,none⟩),.int .i64 xi,.pointer (some ⟨G,3,none⟩),.int .i64 nr,.bool false,.bool false,.bool false,.int .i64 (j:Int),.bool false,.bool false,undef,undef,undef,undef,undef,undef,undef,undef,undef,undef,.bool false,.bool false,.bool false,.pointer (some ⟨X,3,none⟩),.string ty,.bool true,.bool false,.bool false,.bool false,.pointer (some ⟨X,4,none⟩),f,.bool true,.bool false,.bool false,.bool false,.agg #[d,.slice (some ⟨b,off,none⟩) kl kc,.int .i64 nn,.int .i64 nr],.pointer (some ⟨X,1,none⟩),.int .i64 fr,.int .i64 g,.bool false,.bool false,.bool false,.agg #[d,.slice (some ⟨b,off,none⟩) kl kc,.int .i64 nn,.int .i64 nr],.pointer (some ⟨X,2,none⟩),.int .i64 tt,.int .i64 i,.bool false,.bool false]
structure Zqz (G X b off kl kc j m:Nat) (xi h fr tt g i nn nr:Int) (ty:ByteArray) (d f:Value) (w:World):Prop where
 x0:w.cell? ⟨X,0,none⟩=some (.int .i64 xi)
 a1:decide (xi<0)=false
 g3:w.cell? ⟨G,3,none⟩=some (.int .i64 nr)
 a2:decide (nr<=xi)=false
 a3:decide ((0:Int)<(j:Int))=false
 x3:w.cell? ⟨X,3,none⟩=some (.string ty)
 k1:Calls Tryz.prog 43 #[.string ty] w fun e w'=>e=.returned (.bool true)/\Below w.heap.size w w'
 x4:w.cell? ⟨X,4,none⟩=some (f)
 k2:Calls Tryz.prog 42 #[f] w fun e w'=>e=.returned (.bool true)/\Below w.heap.size w w'
 g0:w.cell? ⟨G,0,none⟩=some (d)
 g1:w.cell? ⟨G,1,none⟩=some (.slice (some ⟨b,off,none⟩) kl kc)
 g2:w.cell? ⟨G,2,none⟩=some (.int .i64 nn)
 x1:w.cell? ⟨X,1,none⟩=some (.int .i64 fr)
 k3:Calls Tryz.prog 44 #[.agg #[d,.slice (some ⟨b,off,none⟩) kl kc,.int .i64 nn,.int .i64 nr],.int .i64 fr] w fun e w'=>e=.returned (.int .i64 g)/\Below w.heap.size w w'
 a5:decide (g<0)=false
 x2:w.cell? ⟨X,2,none⟩=some (.int .i64 tt)
 k4:Calls Tryz.prog 44 #[.agg #[d,.slice (some ⟨b,off,none⟩) kl kc,.int .i64 nn,.int .i64 nr],.int .i64 tt] w fun e w'=>e=.returned (.int .i64 i)/\Below w.heap.size w w'
 a6:decide (i<0)=false
theorem Zvu (G X b off kl kc j m:Nat) (xi h fr tt g i nn nr:Int) (ty:ByteArray) (d f:Value) (Q:Exit->Act->World->Prop) (base:Act) (o:World) (p:base.tmps.size=149) (l:Zae G X b off kl kc j m xi h fr tt g i nn nr ty d f base)
  (q:∀ w,Below o.heap.size o w->Zqz G X b off kl kc j m xi h fr tt g i nn nr ty d f w) (s:∀ c w,Zaf Zgs base c->Below o.heap.size o w->c.eval (.tmp 148)=.bool false->Q .normal c w):(Code.region 13 Zgs true).wp Tryz.prog Q base o:=by
 refine Zn (B:=Zae G X b off kl kc j m xi h fr tt g i nn nr ty d f) (T:=Zqz G X b off kl kc j m xi h fr tt g i nn nr ty d f) (n:=52) (k:=51) Zgu Zhc (Jj5 G X b off kl kc j m xi h fr tt g i nn nr ty d f) Zgv rfl (by kernel_rfl) (by kernel_rfl) (by kernel_rfl) (by rw [p];kernel_rfl) (fun c r=>⟨(Zc r (by kernel_rfl)).trans l.t1,(Zc r (by kernel_rfl)).trans l.t5,(Zc r (by kernel_rfl)).trans l.t6⟩) q ?_ (by decide) rfl rfl s
 clear p l q s
 iterate 52 (refine Zd ?_ (by
  intro c w l q hEq
  obtain ⟨t1,t5,t6⟩:=l
  obtain ⟨x0,a1,g3,a2,a3,x3,k1,x4,k2,g0,g1,g2,x1,k3,a5,x2,k4,a6⟩:=q
  have u:=evc c
  have v:=evf c
  dsimp only [Zhc,Zgu,Jj5,nth,Zbm,Za2,Jc] at hEq |-
  first
  | exact ⟨by simp only [hEq],.inr ⟨by first | exact .inl rfl | exact .inr rfl,rfl⟩⟩
  | ((try refine ⟨by simp only [hEq],.inl ⟨rfl,?_⟩⟩);first | (refine Zk Tryz.call43 k1 ?_;simp only [List.map_toArray,List.map_cons,List.map_nil,hEq];done) | (refine Zk Tryz.call42 k2 ?_;simp only [List.map_toArray,List.map_cons,List.map_nil,hEq];done) | (refine Zk Tryz.call44 k3 ?_;simp only [List.map_toArray,List.map_cons,List.map_nil,hEq];done) | (refine Zk Tryz.call44 k4 ?_;simp only [List.map_toArray,List.map_cons,List.map_nil,hEq];done) | (refine .inl fun pos t=>?_;(clear k1 k2 k3 k4;dsimp only [Sig.oper];generalize c.eval=ρ at *;go_simp;done)) | (refine .inl fun pos t=>?_;clear k1 k2 k3 k4;dsimp only [Sig.oper];generalize c.eval=ρ at *;go_simp;simp only [decide_eq_true_eq,decide_eq_false_iff_not] at *;omega))))
 exact Zf
def Jj6 (G X b off kl kc j m:Nat) (xi h fr tt g i nn nr:Int) (ty:ByteArray) (d f:Value):List Value:=[.pointer (some ⟨X,0,none⟩),.int .i64 xi,.bool false,.bool false,.pointer (some ⟨X,0,none⟩),.int .i64 xi,.pointer (some ⟨G,3,none⟩),.int .i64 nr,.bool false,.bool false,.bool false,.int .i64 (j:Int),.bool true,.bool true,.pointer (some ⟨G,1,none⟩),.slice (some ⟨b,off,none⟩) kl kc,.int .i64 (j:Int),.int .i64 (m:Int),.pointer (some ⟨b,off+m*5,none⟩),.pointer (some ⟨b,off+m*5,none⟩),.int .i64 h,.pointer (some ⟨X,0,none⟩),.int .i64 xi,.bool false,.bool false,.bool false,.bool false,.pointer (some ⟨X,3,none⟩),.string ty,.bool false,.bool true,.bool true,.bool true,undef,undef,undef,undef,.bool true,.bool true,undef,undef,undef,undef,undef,.bool true,.bool true,undef,undef,undef,undef,undef,.bool true]
structure Zq0 (G X b off kl kc j m:Nat) (xi h fr tt g i nn nr:Int) (ty:ByteArray) (d f:Value) (w:World):Prop where
 x0:w.cell? ⟨X,0,none⟩=some (.int .i64 xi)
 a1:decide (xi<0)=false
 g3:w.cell? ⟨G,3,none⟩=some (.int .i64 nr)
 a2:decide (nr<=xi)=false
 a3:decide ((0:Int)<(j:Int))=true
 g1:w.cell? ⟨G,1,none⟩=some (.slice (some ⟨b,off,none⟩) kl kc)
 kj:(j:Int) - 1=(m:Int)
 kw:IntKind.i64.wrap (m:Int)=(m:Int)
 mlt:m<kl
 le:kl<=9223372036854775807
 y0:w.cell? ⟨b,off+m*5,none⟩=some (.int .i64 h)
 a4:decide (xi<=h)=false
 x3:w.cell? ⟨X,3,none⟩=some (.string ty)
 k1:Calls Tryz.prog 43 #[.string ty] w fun e w'=>e=.returned (.bool false)/\Below w.heap.size w w'
theorem Zvv (G X b off kl kc j m:Nat) (xi h fr tt g i nn nr:Int) (ty:ByteArray) (d f:Value) (Q:Exit->Act->World->Prop) (base:Act) (o:World) (p:base.tmps.size=149) (l:Zae G X b off kl kc j m xi h fr tt g i nn nr ty d f base)
  (q:∀ w,Below o.heap.size o w->Zq0 G X b off kl kc j m xi h fr tt g i nn nr ty d f w) (s:∀ c w,Zaf Zgs base c->Below o.heap.size o w->c.eval (.tmp 148)=.bool true->Q .normal c w):(Code.region 13 Zgs true).wp Tryz.prog Q base o:=by
 refine Zn (B:=Zae G X b off kl kc j m xi h fr tt g i nn nr ty d f) (T:=Zq0 G X b off kl kc j m xi h fr tt g i nn nr ty d f) (n:=52) (k:=51) Zgu Zhc (Jj6 G X b off kl kc j m xi h fr tt g i nn nr ty d f) Zgv rfl (by kernel_rfl) (by kernel_rfl) (by kernel_rfl) (by rw [p];kernel_rfl) (fun c r=>⟨(Zc r (by kernel_rfl)).trans l.t1,(Zc r (by kernel_rfl)).trans l.t5,(Zc r (by kernel_rfl)).trans l.t6⟩) q ?_ (by decide) rfl rfl s
 clear p l q s
 iterate 52 (refine Zd ?_ (by
  intro c w l q hEq
  obtain ⟨t1,t5,t6⟩:=l
  obtain ⟨x0,a1,g3,a2,a3,g1,kj,kw,mlt,le,y0,a4,x3,k1⟩:=q
  have u:=evc c
  have v:=evf c
  dsimp only [Zhc,Zgu,Jj6,nth,Zbm,Za2,Jc] at hEq |-
  first
  | exact ⟨by simp only [hEq],.inr ⟨by first | exact .inl rfl | exact .inr rfl,rfl⟩⟩
  | ((try refine ⟨by simp only [hEq],.inl ⟨rfl,?_⟩⟩);first | (refine Zk Tryz.call43 k1 ?_;simp only [List.map_toArray,List.map_cons,List.map_nil,hEq];done) | (refine .inl fun pos t=>?_;(clear k1;dsimp only [Sig.oper];generalize c.eval=ρ at *;go_simp;done)) | (refine .inl fun pos t=>?_;clear k1;dsimp only [Sig.oper];generalize c.eval=ρ at *;go_simp;simp only [decide_eq_true_eq,decide_eq_false_iff_not] at *;omega))))
 exact Zf
def Jj7 (G X b off kl kc j m:Nat) (xi h fr tt g i nn nr:Int) (ty:ByteArray) (d f:Value):List Value:=[.pointer (some ⟨X,0,none⟩),.int .i64 xi,.bool false,.bool false,.pointer (some ⟨X,0,none⟩),.int .i64 xi,.pointer (some ⟨G,3,none⟩),.int .i64 nr,.bool false,.bool false,.bool false,.int .i64 (j:Int),.bool true,.bool true,.pointer (some ⟨G,1,none⟩),.slice (some ⟨b,off,none⟩) kl kc,.int .i64 (j:Int),.int .i64 (m:Int),.pointer (some ⟨b,off+m*5,none⟩),.pointer (some ⟨b,off+m*5,none⟩),.int .i64 h,.pointer (some ⟨X,0,none⟩),.int .i64 xi,.bool false,.bool false,.bool false,.bool false,.pointer (some ⟨X,3,none⟩),.string ty,.bool true,.bool false,.bool false,.bool false,.pointer (some ⟨X,4,none⟩),f,.bool false,.bool true,.bool true,.bool true,undef,undef,undef,undef,undef,.bool true,.bool true,undef,undef,undef,undef,undef,.bool true]
structure Zq1 (G X b off kl kc j m:Nat) (xi h fr tt g i nn nr:Int) (ty:ByteArray) (d f:Value) (w:World):Prop where
 x0:w.cell? ⟨X,0,none⟩=some (.int .i64 xi)
 a1:decide (xi<0)=false
 g3:w.cell? ⟨G,3,none⟩=some (.int .i64 nr)
 a2:decide (nr<=xi)=false
 a3:decide ((0:Int)<(j:Int))=true
 g1:w.cell? ⟨G,1,none⟩=some (.slice (some ⟨b,off,none⟩) kl kc)
 kj:(j:Int) - 1=(m:Int)
 kw:IntKind.i64.wrap (m:Int)=(m:Int)
 mlt:m<kl
 le:kl<=9223372036854775807
 y0:w.cell? ⟨b,off+m*5,none⟩=some (.int .i64 h)
 a4:decide (xi<=h)=false
 x3:w.cell? ⟨X,3,none⟩=some (.string ty)
 k1:Calls Tryz.prog 43 #[.string ty] w fun e w'=>e=.returned (.bool true)/\Below w.heap.size w w'
 x4:w.cell? ⟨X,4,none⟩=some (f)
 k2:Calls Tryz.prog 42 #[f] w fun e w'=>e=.returned (.bool false)/\Below w.heap.size w w'
theorem Zvw (G X b off kl kc j m:Nat) (xi h fr tt g i nn nr:Int) (ty:ByteArray) (d f:Value) (Q:Exit->Act->World->Prop) (base:Act) (o:World) (p:base.tmps.size=149) (l:Zae G X b off kl kc j m xi h fr tt g i nn nr ty d f base)
  (q:∀ w,Below o.heap.size o w->Zq1 G X b off kl kc j m xi h fr tt g i nn nr ty d f w) (s:∀ c w,Zaf Zgs base c->Below o.heap.size o w->c.eval (.tmp 148)=.bool true->Q .normal c w):(Code.region 13 Zgs true).wp Tryz.prog Q base o:=by
 refine Zn (B:=Zae G X b off kl kc j m xi h fr tt g i nn nr ty d f) (T:=Zq1 G X b off kl kc j m xi h fr tt g i nn nr ty d f) (n:=52) (k:=51) Zgu Zhc (Jj7 G X b off kl kc j m xi h fr tt g i nn nr ty d f) Zgv rfl (by kernel_rfl) (by kernel_rfl) (by kernel_rfl) (by rw [p];kernel_rfl) (fun c r=>⟨(Zc r (by kernel_rfl)).trans l.t1,(Zc r (by kernel_rfl)).trans l.t5,(Zc r (by kernel_rfl)).trans l.t6⟩) q ?_ (by decide) rfl rfl s
 clear p l q s
 iterate 52 (refine Zd ?_ (by
  intro c w l q hEq
  obtain ⟨t1,t5,t6⟩:=l
  obtain ⟨x0,a1,g3,a2,a3,g1,kj,kw,mlt,le,y0,a4,x3,k1,x4,k2⟩:=q
  have u:=evc c
  have v:=evf c
  dsimp only [Zhc,Zgu,Jj7,nth,Zbm,Za2,Jc] at hEq |-
  first
  | exact ⟨by simp only [hEq],.inr ⟨by first | exact .inl rfl | exact .inr rfl,rfl⟩⟩
  | ((try refine ⟨by simp only [hEq],.inl ⟨rfl,?_⟩⟩);first | (refine Zk Tryz.call43 k1 ?_;simp only [List.map_toArray,List.map_cons,List.map_nil,hEq];done) | (refine Zk Tryz.call42 k2 ?_;simp only [List.map_toArray,List.map_cons,List.map_nil,hEq];done) | (refine .inl fun pos t=>?_;(clear k1 k2;dsimp only [Sig.oper];generalize c.eval=ρ at *;go_simp;done)) | (refine .inl fun pos t=>?_;clear k1 k2;dsimp only [Sig.oper];generalize c.eval=ρ at *;go_simp;simp only [decide_eq_true_eq,decide_eq_false_iff_not] at *;omega))))
 exact Zf
def Jj8 (G X b off kl kc j m:Nat) (xi h fr tt g i nn nr:Int) (ty:ByteArray) (d f:Value):List Value:=[.pointer (some ⟨X,0,none⟩),.int .i64 xi,.bool false,.bool false,.pointer (some ⟨X,0,none⟩),.int .i64 xi,.pointer (some ⟨G,3,none⟩),.int .i64 nr,.bool false,.bool false,.bool false,.int .i64 (j:Int),.bool true,.bool true,.pointer (some ⟨G,1,none⟩),.slice (some ⟨b,off,none⟩) kl kc,.int .i64 (j:Int),.int .i64 (m:Int),.pointer (some ⟨b,off+m*5,none⟩),.pointer (some ⟨b,off+m*5,none⟩),.int .i64 h,.pointer (some ⟨X,0,none⟩),.int .i64 xi,.bool false,.bool false,.bool false,.bool false,.pointer (some ⟨X,3,none⟩),.string ty,.bool true,.bool false,.bool false,.bool false,.pointer (some ⟨X,4,none⟩),f,.bool true,.bool false,.bool false,.bool false,.agg #[d,.slice (some ⟨b,off,none⟩) kl kc,.int .i64 nn,.int .i64 nr],.pointer (some ⟨X,1,none⟩),.int .i64 fr,.int .i64 g,.bool true,.bool true,.bool true,undef,undef,undef,undef,undef,.bool true]
structure Zq2 (G X b off kl kc j m:Nat) (xi h fr tt g i nn nr:Int) (ty:ByteArray) (d f:Value) (w:World):Prop where
 x0:w.cell? ⟨X,0,none⟩=some (.int .i64 xi)
 a1:decide (xi<0)=false
 g3:w.cell? ⟨G,3,none⟩=some (.int .i64 nr)
 a2:decide (nr<=xi)=false
 a3:decide ((0:Int)<(j:Int))=true
 g1:w.cell? ⟨G,1,none⟩=some (.slice (some ⟨b,off,none⟩) kl kc)
 kj:(j:Int) - 1=(m:Int)
 kw:IntKind.i64.wrap (m:Int)=(m:Int)
 mlt:m<kl
 le:kl<=9223372036854775807
 y0:w.cell? ⟨b,off+m*5,none⟩=some (.int .i64 h)
 a4:decide (xi<=h)=false
 x3:w.cell? ⟨X,3,none⟩=some (.string ty)
 k1:Calls Tryz.prog 43 #[.string ty] w fun e w'=>e=.returned (.bool true)/\Below w.heap.size w w'
 x4:w.cell? ⟨X,4,none⟩=some (f)
 k2:Calls Tryz.prog 42 #[f] w fun e w'=>e=.returned (.bool true)/\Below w.heap.size w w'
 g0:w.cell? ⟨G,0,none⟩=some (d)
 g2:w.cell? ⟨G,2,none⟩=some (.int .i64 nn)
 x1:w.cell? ⟨X,1,none⟩=some (.int .i64 fr)
 k3:Calls Tryz.prog 44 #[.agg #[d,.slice (some ⟨b,off,none⟩) kl kc,.int .i64 nn,.int .i64 nr],.int .i64 fr] w fun e w'=>e=.returned (.int .i64 g)/\Below w.heap.size w w'
 a5:decide (g<0)=true
theorem Zvx (G X b off kl kc j m:Nat) (xi h fr tt g i nn nr:Int) (ty:ByteArray) (d f:Value) (Q:Exit->Act->World->Prop) (base:Act) (o:World) (p:base.tmps.size=149) (l:Zae G X b off kl kc j m xi h fr tt g i nn nr ty d f base)
  (q:∀ w,Below o.heap.size o w->Zq2 G X b off kl kc j m xi h fr tt g i nn nr ty d f w) (s:∀ c w,Zaf Zgs base c->Below o.heap.size o w->c.eval (.tmp 148)=.bool true->Q .normal c w):(Code.region 13 Zgs true).wp Tryz.prog Q base o:=by
 refine Zn (B:=Zae G X b off kl kc j m xi h fr tt g i nn nr ty d f) (T:=Zq2 G X b off kl kc j m xi h fr tt g i nn nr ty d f) (n:=52) (k:=51) Zgu Zhc (Jj8 G X b off kl kc j m xi h fr tt g i nn nr ty d f) Zgv rfl (by kernel_rfl) (by kernel_rfl) (by kernel_rfl) (by rw [p];kernel_rfl) (fun c r=>⟨(Zc r (by kernel_rfl)).trans l.t1,(Zc r (by kernel_rfl)).trans l.t5,(Zc r (by kernel_rfl)).trans l.t6⟩) q ?_ (by decide) rfl rfl s
 clear p l q s
 iterate 52 (refine Zd ?_ (by
  intro c w l q hEq
  obtain ⟨t1,t5,t6⟩:=l
  obtain ⟨x0,a1,g3,a2,a3,g1,kj,kw,mlt,le,y0,a4,x3,k1,x4,k2,g0,g2,x1,k3,a5⟩:=q
  have u:=evc c
  have v:=evf c
  dsimp only [Zhc,Zgu,Jj8,nth,Zbm,Za2,Jc] at hEq |-
  first
  | exact ⟨by simp only [hEq],.inr ⟨by first | exact .inl rfl | exact .inr rfl,rfl⟩⟩
  | ((try refine ⟨by simp only [hEq],.inl ⟨rfl,?_⟩⟩);first | (refine Zk Tryz.call43 k1 ?_;simp only [List.map_toArray,List.map_cons,List.map_nil,hEq];done) | (refine Zk Tryz.call42 k2 ?_;simp only [List.map_toArray,List.map_cons,List.map_nil,hEq];done) | (refine Zk Tryz.call44 k3 ?_;simp only [List.map_toArray,List.map_cons,List.map_nil,hEq];done) | (refine .inl fun pos t=>?_;(clear k1 k2 k3;dsimp only [Sig.oper];generalize c.eval=ρ at *;go_simp;done)) | (refine .inl fun pos t=>?_;clear k1 k2 k3;dsimp only [Sig.oper];generalize c.eval=ρ at *;go_simp;simp only [decide_eq_true_eq,decide_eq_false_iff_not] at *;omega))))
 exact Zf
def Jj9 (G X b off kl kc j m:Nat) (xi h fr tt g i nn nr:Int) (ty:ByteArray) (d f:Value):List Value:=[.pointer (some ⟨X,0,none⟩),.int .i64 xi,.bool false,.bool false,.pointer (some ⟨X,0,none⟩),.int .i64 xi,.pointer (some ⟨G,3,none⟩),.int .i64 nr,.bool false,.bool false,.bool false,.int .i64 (j:Int),.bool true,.bool true,.pointer (some ⟨G,1,none⟩),.slice (some ⟨b,off,none⟩) kl kc,.int .i64 (j:Int),.int .i64 (m:Int),.pointer (some ⟨b,off+m*5,none⟩),.pointer (some ⟨b,off+m*5,none⟩),.int .i64 h,.pointer (some ⟨X,0,none⟩),.int .i64 xi,.bool false,.bool false,.bool false,.bool false,.pointer (some ⟨X,3,none⟩),.string ty,.bool true,.bool false,.bool false,.bool false,.pointer (some ⟨X,4,none⟩),f,.bool true,.bool false,.bool false,.bool false,.agg #[d,.slice (some ⟨b,off,none⟩) kl kc,.int .i64 nn,.int .i64 nr],.pointer (some ⟨X,1,none⟩),.int .i64 fr,.int .i64 g,.bool false,.bool false,.bool false,.agg #[d,.slice (some ⟨b,off,none⟩) kl kc,.int .i64 nn,.int .i64 nr],.pointer (some ⟨X,2,none⟩),.int .i64 tt,.int .i64 i,.bool true,.bool true]
structure Zq3 (G X b off kl kc j m:Nat) (xi h fr tt g i nn nr:Int) (ty:ByteArray) (d f:Value) (w:World):Prop where
 x0:w.cell? ⟨X,0,none⟩=some (.int .i64 xi)
 a1:decide (xi<0)=false
 g3:w.cell? ⟨G,3,none⟩=some (.int .i64 nr)
 a2:decide (nr<=xi)=false
 a3:decide ((0:Int)<(j:Int))=true
 g1:w.cell? ⟨G,1,none⟩=some (.slice (some ⟨b,off,none⟩) kl kc)
 kj:(j:Int) - 1=(m:Int)
 kw:IntKind.i64.wrap (m:Int)=(m:Int)
 mlt:m<kl
 le:kl<=9223372036854775807
 y0:w.cell? ⟨b,off+m*5,none⟩=some (.int .i64 h)
 a4:decide (xi<=h)=false
 x3:w.cell? ⟨X,3,none⟩=some (.string ty)
 k1:Calls Tryz.prog 43 #[.string ty] w fun e w'=>e=.returned (.bool true)/\Below w.heap.size w w'
 x4:w.cell? ⟨X,4,none⟩=some (f)
 k2:Calls Tryz.prog 42 #[f] w fun e w'=>e=.returned (.bool true)/\Below w.heap.size w w'
 g0:w.cell? ⟨G,0,none⟩=some (d)
 g2:w.cell? ⟨G,2,none⟩=some (.int .i64 nn)
 x1:w.cell? ⟨X,1,none⟩=some (.int .i64 fr)
 k3:Calls Tryz.prog 44 #[.agg #[d,.slice (some ⟨b,off,none⟩) kl kc,.int .i64 nn,.int .i64 nr],.int .i64 fr] w fun e w'=>e=.returned (.int .i64 g)/\Below w.heap.size w w'
 a5:decide (g<0)=false
 x2:w.cell? ⟨X,2,none⟩=some (.int .i64 tt)
 k4:Calls Tryz.prog 44 #[.agg #[d,.slice (some ⟨b,off,none⟩) kl kc,.int .i64 nn,.int .i64 nr],.int .i64 tt] w fun e w'=>e=.returned (.int .i64 i)/\Below w.heap.size w w'
 a6:decide (i<0)=true
theorem Zvy (G X b off kl kc j m:Nat) (xi h fr tt g i nn nr:Int) (ty:ByteArray) (d f:Value) (Q:Exit->Act->World->Prop) (base:Act) (o:World) (p:base.tmps.size=149) (l:Zae G X b off kl kc j m xi h fr tt g i nn nr ty d f base)
  (q:∀ w,Below o.heap.size o w->Zq3 G X b off kl kc j m xi h fr tt g i nn nr ty d f w) (s:∀ c w,Zaf Zgs base c->Below o.heap.size o w->c.eval (.tmp 148)=.bool true->Q .normal c w):(Code.region 13 Zgs true).wp Tryz.prog Q base o:=by
 refine Zn (B:=Zae G X b off kl kc j m xi h fr tt g i nn nr ty d f) (T:=Zq3 G X b off kl kc j m xi h fr tt g i nn nr ty d f) (n:=52) (k:=51) Zgu Zhc (Jj9 G X b off kl kc j m xi h fr tt g i nn nr ty d f) Zgv rfl (by kernel_rfl) (by kernel_rfl) (by kernel_rfl) (by rw [p];kernel_rfl) (fun c r=>⟨(Zc r (by kernel_rfl)).trans l.t1,(Zc r (by kernel_rfl)).trans l.t5,(Zc r (by kernel_rfl)).trans l.t6⟩) q ?_ (by decide) rfl rfl s
 clear p l q s
 iterate 52 (refine Zd ?_ (by
  intro c w l q hEq
  obtain ⟨t1,t5,t6⟩:=l
  obtain ⟨x0,a1,g3,a2,a3,g1,kj,kw,mlt,le,y0,a4,x3,k1,x4,k2,g0,g2,x1,k3,a5,x2,k4,a6⟩:=q
  have u:=evc c
  have v:=evf c
  dsimp only [Zhc,Zgu,Jj9,nth,Zbm,Za2,Jc] at hEq |-
  first
  | exact ⟨by simp only [hEq],.inr ⟨by first | exact .inl rfl | exact .inr rfl,rfl⟩⟩
  | ((try refine ⟨by simp only [hEq],.inl ⟨rfl,?_⟩⟩);first | (refine Zk Tryz.call43 k1 ?_;simp only [List.map_toArray,List.map_cons,List.map_nil,hEq];done) | (refine Zk Tryz.call42 k2 ?_;simp only [List.map_toArray,List.map_cons,List.map_nil,hEq];done) | (refine Zk Tryz.call44 k3 ?_;simp only [List.map_toArray,List.map_cons,List.map_nil,hEq];done) | (refine Zk Tryz.call44 k4 ?_;simp only [List.map_toArray,List.map_cons,List.map_nil,hEq];done) | (refine .inl fun pos t=>?_;(clear k1 k2 k3 k4;dsimp only [Sig.oper];generalize c.eval=ρ at *;go_simp;done)) | (refine .inl fun pos t=>?_;clear k1 k2 k3 k4;dsimp only [Sig.oper];generalize c.eval=ρ at *;go_simp;simp only [decide_eq_true_eq,decide_eq_false_iff_not] at *;omega))))
 exact Zf
def Jka (G X b off kl kc j m:Nat) (xi h fr tt g i nn nr:Int) (ty:ByteArray) (d f:Value):List Value:=[.pointer (some ⟨X,0,none⟩),.int .i64 xi,.bool false,.bool false,.pointer (some ⟨X,0,none⟩),.int .i64 xi,.pointer (some ⟨G,3,none⟩),.int .i64 nr,.bool false,.bool false,.bool false,.int .i64 (j:Int),.bool true,.bool true,.pointer (some ⟨G,1,none⟩),.slice (some ⟨b,off,none⟩) kl kc,.int .i64 (j:Int),.int .i64 (m:Int),.pointer (some ⟨b,off+m*5,none⟩),.pointer (some ⟨b,off+m*5,none⟩),.int .i64 h,.pointer (some ⟨X,0,none⟩),.int .i64 xi,.bool false,.bool false,.bool false,.bool false,.pointer (some ⟨X,3,none⟩),.string ty,.bool true,.bool false,.bool false,.bool false,.pointer (some ⟨X,4,none⟩),f,.bool true,.bool false,.bool false,.bool false,.agg #[d,.slice (some ⟨b,off,none⟩) kl kc,.int .i64 nn,.int .i64 nr],.pointer (some ⟨X,1,none⟩),.int .i64 fr,.int .i64 g,.bool false,.bool false,.bool false,.agg #[d,.slice (some ⟨b,off,none⟩) kl kc,.int .i64 nn,.int .i64 nr],.pointer (some ⟨X,2,none⟩),.int .i64 tt,.int .i64 i,.bool false,.bool false]
structure Zq4 (G X b off kl kc j m:Nat) (xi h fr tt g i nn nr:Int) (ty:ByteArray) (d f:Value) (w:World):Prop where
 x0:w.cell? ⟨X,0,none⟩=some (.int .i64 xi)
 a1:decide (xi<0)=false
 g3:w.cell? ⟨G,3,none⟩=some (.int .i64 nr)
 a2:decide (nr<=xi)=false
 a3:decide ((0:Int)<(j:Int))=true
 g1:w.cell? ⟨G,1,none⟩=some (.slice (some ⟨b,off,none⟩) kl kc)
 kj:(j:Int) - 1=(m:Int)
 kw:IntKind.i64.wrap (m:Int)=(m:Int)
 mlt:m<kl
 le:kl<=9223372036854775807
 y0:w.cell? ⟨b,off+m*5,none⟩=some (.int .i64 h)
 a4:decide (xi<=h)=false
 x3:w.cell? ⟨X,3,none⟩=some (.string ty)
 k1:Calls Tryz.prog 43 #[.string ty] w fun e w'=>e=.returned (.bool true)/\Below w.heap.size w w'
 x4:w.cell? ⟨X,4,none⟩=some (f)
 k2:Calls Tryz.prog 42 #[f] w fun e w'=>e=.returned (.bool true)/\Below w.heap.size w w'
 g0:w.cell? ⟨G,0,none⟩=some (d)
 g2:w.cell? ⟨G,2,none⟩=some (.int .i64 nn)
 x1:w.cell? ⟨X,1,none⟩=some (.int .i64 fr)
 k3:Calls Tryz.prog 44 #[.agg #[d,.slice (some ⟨b,off,none⟩) kl kc,.int .i64 nn,.int .i64 nr],.int .i64 fr] w fun e w'=>e=.returned (.int .i64 g)/\Below w.heap.size w w'
 a5:decide (g<0)=false
 x2:w.cell? ⟨X,2,none⟩=some (.int .i64 tt)
 k4:Calls Tryz.prog 44 #[.agg #[d,.slice (some ⟨b,off,none⟩) kl kc,.int .i64 nn,.int .i64 nr],.int .i64 tt] w fun e w'=>e=.returned (.int .i64 i)/\Below w.heap.size w w'
 a6:decide (i<0)=false
theorem Zvz (G X b off kl kc j m:Nat) (xi h fr tt g i nn nr:Int) (ty:ByteArray) (d f:Value) (Q:Exit->Act->World->Prop) (base:Act) (o:World) (p:base.tmps.size=149) (l:Zae G X b off kl kc j m xi h fr tt g i nn nr ty d f base)
  (q:∀ w,Below o.heap.size o w->Zq4 G X b off kl kc j m xi h fr tt g i nn nr ty d f w) (s:∀ c w,Zaf Zgs base c->Below o.heap.size o w->c.eval (.tmp 148)=.bool false->Q .normal c w):(Code.region 13 Zgs true).wp Tryz.prog Q base o:=by
 refine Zn (B:=Zae G X b off kl kc j m xi h fr tt g i nn nr ty d f) (T:=Zq4 G X b off kl kc j m xi h fr tt g i nn nr ty d f) (n:=52) (k:=51) Zgu Zhc (Jka G X b off kl kc j m xi h fr tt g i nn nr ty d f) Zgv rfl (by kernel_rfl) (by kernel_rfl) (by kernel_rfl) (by rw [p];kernel_rfl) (fun c r=>⟨(Zc r (by kernel_rfl)).trans l.t1,(Zc r (by kernel_rfl)).trans l.t5,(Zc r (by kernel_rfl)).trans l.t6⟩) q ?_ (by decide) rfl rfl s
 clear p l q s
 iterate 52 (refine Zd ?_ (by
  intro c w l q hEq
  obtain ⟨t1,t5,t6⟩:=l
  obtain ⟨x0,a1,g3,a2,a3,g1,kj,kw,mlt,le,y0,a4,x3,k1,x4,k2,g0,g2,x1,k3,a5,x2,k4,a6⟩:=q
  have u:=evc c
  have v:=evf c
  dsimp only [Zhc,Zgu,Jka,nth,Zbm,Za2,Jc] at hEq |-
  first
  | exact ⟨by simp only [hEq],.inr ⟨by first | exact .inl rfl | exact .inr rfl,rfl⟩⟩
  | ((try refine ⟨by simp only [hEq],.inl ⟨rfl,?_⟩⟩);first | (refine Zk Tryz.call43 k1 ?_;simp only [List.map_toArray,List.map_cons,List.map_nil,hEq];done) | (refine Zk Tryz.call42 k2 ?_;simp only [List.map_toArray,List.map_cons,List.map_nil,hEq];done) | (refine Zk Tryz.call44 k3 ?_;simp only [List.map_toArray,List.map_cons,List.map_nil,hEq];done) | (refine Zk Tryz.call44 k4 ?_;simp only [List.map_toArray,List.map_cons,List.map_nil,hEq];done) | (refine .inl fun pos t=>?_;(clear k1 k2 k3 k4;dsimp only [Sig.oper];generalize c.eval=ρ at *;go_simp;done)) | (refine .inl fun pos t=>?_;clear k1 k2 k3 k4;dsimp only [Sig.oper];generalize c.eval=ρ at *;go_simp;simp only [decide_eq_true_eq,decide_eq_false_iff_not] at *;omega))))
 exact Zf
end
