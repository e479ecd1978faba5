/- May a graph be: the document's test of one node, in whatever order its operations are done. -/
import Derived.Test.YteddjlbfbpecjaaGreatDoorJoin2
import Derived.Test.YteddjlbfbpecjaaGreatDoorJoin24
import Derived.Test.YteddjlbfbpecjaaGreatDoorJoin33
namespace Go.Proofs.YteddjlbfbpecjaaGreatDoor
section
open Go.RowKit Go.Shelf Go.WideShapes
set_option maxHeartbeats 4000000
set_option maxRecDepth 100000
set_option linter.all false
noncomputable def RN7  : Array Oper:=Jg Tryz.f14 7
def LN7  : List Sig:=[⟨47,.fieldAddr 47 (.tmp 4) 0,0,none⟩,⟨48,.load 2 (.tmp 47),2,none⟩,⟨49,.binOp .lss 2 (.tmp 48) (.const (.int .i64 0)) 2,4,none⟩,⟨50,.move (.tmp 49),4,none⟩,⟨51,.fieldAddr 47 (.tmp 4) 0,0,some (3,false)⟩,⟨52,.load 2 (.tmp 51),2,some (3,false)⟩,⟨53,.fieldAddr 25 (.tmp 1) 2,0,some (3,false)⟩,⟨54,.load 2 (.tmp 53),2,some (3,false)⟩,⟨55,.binOp .geq 2 (.tmp 52) (.tmp 54) 2,4,some (3,false)⟩,⟨56,.pick (.tmp 50) (.const (.bool true)) (.tmp 55),4,none⟩,⟨57,.move (.tmp 56),4,none⟩,⟨58,.move (.tmp 3),3,some (10,false)⟩,⟨59,.binOp .gtr 3 (.tmp 58) (.const (.int .i64 0)) 3,4,some (10,false)⟩,⟨60,.move (.tmp 59),4,some (10,false)⟩,⟨61,.fieldAddr 25 (.tmp 1) 0,0,some (13,true)⟩,⟨62,.load 22 (.tmp 61),22,some (13,true)⟩,⟨63,.move (.tmp 3),3,some (13,true)⟩,⟨64,.binOp .sub 3 (.tmp 63) (.const (.int .i64 1)) 3,3,some (13,true)⟩,⟨65,.indexAddr 22 (.tmp 62) (.tmp 64),0,some (13,true)⟩,⟨66,.fieldAddr 47 (.tmp 65) 0,0,some (13,true)⟩,⟨67,.load 2 (.tmp 66),2,some (13,true)⟩,⟨68,.fieldAddr 47 (.tmp 4) 0,0,some (13,true)⟩,⟨69,.load 2 (.tmp 68),2,some (13,true)⟩,⟨70,.binOp .geq 2 (.tmp 67) (.tmp 69) 2,4,some (13,true)⟩,⟨71,.pick (.tmp 60) (.tmp 70) (.const (.bool false)),4,some (10,false)⟩,⟨72,.pick (.tmp 57) (.const (.bool true)) (.tmp 71),4,none⟩,⟨73,.move (.tmp 72),4,none⟩,⟨74,.fieldAddr 47 (.tmp 4) 1,0,some (26,false)⟩,⟨75,.load 44 (.tmp 74),44,some (26,false)⟩,⟨76,.call { callee:=.value (.func 41),args:=#[.tmp 75],argTypes:=#[44] },4,some (26,false)⟩,⟨77,.unOp .not 4 (.tmp 76),4,some (26,false)⟩,⟨78,.pick (.tmp 73) (.const (.bool true)) (.tmp 77),4,none⟩,⟨79,.move (.tmp 78),4,none⟩,⟨80,.fieldAddr 47 (.tmp 4) 2,0,some (32,false)⟩,⟨81,.load 45 (.tmp 80),45,some (32,false)⟩,⟨82,.call { callee:=.value (.func 42),args:=#[.tmp 81],argTypes:=#[45] },4,some (32,false)⟩,⟨83,.unOp .not 4 (.tmp 82),4,some (32,false)⟩,⟨84,.pick (.tmp 79) (.const (.bool true)) (.tmp 83),4,none⟩]
theorem Zx7  : Jq RN7=LN7.map some:=by kernel_rfl
def AN7  : List (List Nat):=[[],[0],[1],[2],[3],[3,4],[3],[3,6],[3,5,7],[3,8],[9],[10],[10,11],[10,12],[13],[13,14],[13],[13,16],[13,15,17],[13,18],[13,19],[13],[13,21],[13,20,22],[10,13,23],[10,24],[25],[26],[26,27],[26,28],[26,29],[26,30],[31],[32],[32,33],[32,34],[32,35],[32,36]]
structure Zbx (G X bl off kl kc j m:Nat) (xi yi nn:Int) (la:Option Addr) (ll lc:Nat) (pv:Value) (c:Act):Prop where
 t1:c.eval (.tmp 1)=.pointer (some ⟨G,0,none⟩)
 t3:c.eval (.tmp 3)=.int .i64 (j:Int)
 t4:c.eval (.tmp 4)=.pointer (some ⟨X,0,none⟩)
def VNA (G X bl off kl kc j m:Nat) (xi yi nn:Int) (la:Option Addr) (ll lc:Nat) (pv:Value):List Value:=[.pointer (some ⟨X,0,none⟩),.int .i64 xi,.bool true,.bool true,undef,undef,undef,undef,undef,.bool true,.bool true,undef,undef,undef,undef,undef,undef,undef,undef,undef,undef,undef,undef,undef,undef,.bool true,.bool true,undef,undef,undef,undef,.bool true,.bool true,undef,undef,undef,undef,.bool true]
structure Zu4 (G X bl off kl kc j m:Nat) (xi yi nn:Int) (la:Option Addr) (ll lc:Nat) (pv:Value) (w:World):Prop where
 x0:w.cell? ⟨X,0,none⟩=some (.int .i64 xi)
 a1:decide (xi<0)=true
theorem Zx8 (G X bl off kl kc j m:Nat) (xi yi nn:Int) (la:Option Addr) (ll lc:Nat) (pv:Value) (Q:Exit→Act→World→Prop) (base:Act) (w0:World) (hsz:base.tmps.size=149) (hb:Zbx G X bl off kl kc j m xi yi nn la ll lc pv base)
  (hW:∀ w,Below w0.heap.size w0 w→Zu4 G X bl off kl kc j m xi yi nn la ll lc pv w) (hQ:∀ c w,Zae RN7 base c→Below w0.heap.size w0 w→c.eval (.tmp 84)=.bool true→Q .normal c w):(Code.region 7 RN7 true).wp Tryz.prog Q base w0:=by
 refine Zr (B:=Zbx G X bl off kl kc j m xi yi nn la ll lc pv) (T:=Zu4 G X bl off kl kc j m xi yi nn la ll lc pv) (n:=38) (k:=37) LN7 AN7 (VNA G X bl off kl kc j m xi yi nn la ll lc pv) Zx7 rfl (by kernel_rfl) (by kernel_rfl) (by kernel_rfl) (by rw [hsz];kernel_rfl) (fun c hS=>⟨(Zc hS (by kernel_rfl)).trans hb.t1,(Zc hS (by kernel_rfl)).trans hb.t3,(Zc hS (by kernel_rfl)).trans hb.t4⟩) hW ?_ (by decide) rfl rfl hQ
 clear hsz hb hW hQ
 iterate 38 (refine Zd ?_ (by
  intro c w hb hW hEq
  obtain ⟨t1,t3,t4⟩:=hb
  obtain ⟨x0,a1⟩:=hW
  have ec:=evc c
  have ef:=evf c
  dsimp only [AN7,LN7,VNA,nth,Zcm,Zbd,Jl] at hEq ⊢
  first
  | exact ⟨by first | exact hEq.1 | exact hEq.2.1 | exact hEq.2.2.1 | exact hEq.2.2.2.1,.inr ⟨by first | exact .inl rfl | exact .inr rfl,rfl⟩⟩
  | ((try refine ⟨by first | exact hEq.1 | exact hEq.2.1 | exact hEq.2.2.1 | exact hEq.2.2.2.1,.inl ⟨rfl,?_⟩⟩);first | (refine .inl fun pos af=>?_;(dsimp only [Sig.oper];generalize c.eval=ρ at *;go_simp;done)) | (refine .inl fun pos af=>?_;dsimp only [Sig.oper];generalize c.eval=ρ at *;go_simp;simp only [decide_eq_true_eq,decide_eq_false_iff_not] at *;omega))))
 exact Zj
def VNB (G X bl off kl kc j m:Nat) (xi yi nn:Int) (la:Option Addr) (ll lc:Nat) (pv:Value):List Value:=[.pointer (some ⟨X,0,none⟩),.int .i64 xi,.bool false,.bool false,.pointer (some ⟨X,0,none⟩),.int .i64 xi,.pointer (some ⟨G,2,none⟩),.int .i64 nn,.bool true,.bool true,.bool true,undef,undef,undef,undef,undef,undef,undef,undef,undef,undef,undef,undef,undef,undef,.bool true,.bool true,undef,undef,undef,undef,.bool true,.bool true,undef,undef,undef,undef,.bool true]
structure Zu5 (G X bl off kl kc j m:Nat) (xi yi nn:Int) (la:Option Addr) (ll lc:Nat) (pv:Value) (w:World):Prop where
 x0:w.cell? ⟨X,0,none⟩=some (.int .i64 xi)
 a1:decide (xi<0)=false
 g2:w.cell? ⟨G,2,none⟩=some (.int .i64 nn)
 a2:decide (nn≤xi)=true
theorem Zx9 (G X bl off kl kc j m:Nat) (xi yi nn:Int) (la:Option Addr) (ll lc:Nat) (pv:Value) (Q:Exit→Act→World→Prop) (base:Act) (w0:World) (hsz:base.tmps.size=149) (hb:Zbx G X bl off kl kc j m xi yi nn la ll lc pv base)
  (hW:∀ w,Below w0.heap.size w0 w→Zu5 G X bl off kl kc j m xi yi nn la ll lc pv w) (hQ:∀ c w,Zae RN7 base c→Below w0.heap.size w0 w→c.eval (.tmp 84)=.bool true→Q .normal c w):(Code.region 7 RN7 true).wp Tryz.prog Q base w0:=by
 refine Zr (B:=Zbx G X bl off kl kc j m xi yi nn la ll lc pv) (T:=Zu5 G X bl off kl kc j m xi yi nn la ll lc pv) (n:=38) (k:=37) LN7 AN7 (VNB G X bl off kl kc j m xi yi nn la ll lc pv) Zx7 rfl (by kernel_rfl) (by kernel_rfl) (by kernel_rfl) (by rw [hsz];kernel_rfl) (fun c hS=>⟨(Zc hS (by kernel_rfl)).trans hb.t1,(Zc hS (by kernel_rfl)).trans hb.t3,(Zc hS (by kernel_rfl)).trans hb.t4⟩) hW ?_ (by decide) rfl rfl hQ
 clear hsz hb hW hQ
 iterate 38 (refine Zd ?_ (by
  intro c w hb hW hEq
  obtain ⟨t1,t3,t4⟩:=hb
  obtain ⟨x0,a1,g2,a2⟩:=hW
  have ec:=evc c
  have ef:=evf c
  dsimp only [AN7,LN7,VNB,nth,Zcm,Zbd,Jl] at hEq ⊢
  first
  | exact ⟨by first | exact hEq.1 | exact hEq.2.1 | exact hEq.2.2.1 | exact hEq.2.2.2.1,.inr ⟨by first | exact .inl rfl | exact .inr rfl,rfl⟩⟩
  | ((try refine ⟨by first | exact hEq.1 | exact hEq.2.1 | exact hEq.2.2.1 | exact hEq.2.2.2.1,.inl ⟨rfl,?_⟩⟩);first | (refine .inl fun pos af=>?_;(dsimp only [Sig.oper];generalize c.eval=ρ at *;go_simp;done)) | (refine .inl fun pos af=>?_;dsimp only [Sig.oper];generalize c.eval=ρ at *;go_simp;simp only [decide_eq_true_eq,decide_eq_false_iff_not] at *;omega))))
 exact Zj
def VNC (G X bl off kl kc j m:Nat) (xi yi nn:Int) (la:Option Addr) (ll lc:Nat) (pv:Value):List Value:=[.pointer (some ⟨X,0,none⟩),.int .i64 xi,.bool false,.bool false,.pointer (some ⟨X,0,none⟩),.int .i64 xi,.pointer (some ⟨G,2,none⟩),.int .i64 nn,.bool false,.bool false,.bool false,.int .i64 (j:Int),.bool true,.bool true,.pointer (some ⟨G,0,none⟩),.slice (some ⟨bl,off,none⟩) kl kc,.int .i64 (j:Int),.int .i64 (m:Int),.pointer (some ⟨bl,off+m*3,none⟩),.pointer (some ⟨bl,off+m*3,none⟩),.int .i64 yi,.pointer (some ⟨X,0,none⟩),.int .i64 xi,.bool true,.bool true,.bool true,.bool true,undef,undef,undef,undef,.bool true,.bool true,undef,undef,undef,undef,.bool true]
structure Zu6 (G X bl off kl kc j m:Nat) (xi yi nn:Int) (la:Option Addr) (ll lc:Nat) (pv:Value) (w:World):Prop where
 x0:w.cell? ⟨X,0,none⟩=some (.int .i64 xi)
 a1:decide (xi<0)=false
 g2:w.cell? ⟨G,2,none⟩=some (.int .i64 nn)
 a2:decide (nn≤xi)=false
 a3:decide ((0:Int)<(j:Int))=true
 g0:w.cell? ⟨G,0,none⟩=some (.slice (some ⟨bl,off,none⟩) kl kc)
 kj:(j:Int) - 1=(m:Int)
 kw:IntKind.i64.wrap (m:Int)=(m:Int)
 mlt:m<kl
 le:kl≤9223372036854775807
 y0:w.cell? ⟨bl,off+m*3,none⟩=some (.int .i64 yi)
 a4:decide (xi≤yi)=true
theorem Zya (G X bl off kl kc j m:Nat) (xi yi nn:Int) (la:Option Addr) (ll lc:Nat) (pv:Value) (Q:Exit→Act→World→Prop) (base:Act) (w0:World) (hsz:base.tmps.size=149) (hb:Zbx G X bl off kl kc j m xi yi nn la ll lc pv base)
  (hW:∀ w,Below w0.heap.size w0 w→Zu6 G X bl off kl kc j m xi yi nn la ll lc pv w) (hQ:∀ c w,Zae RN7 base c→Below w0.heap.size w0 w→c.eval (.tmp 84)=.bool true→Q .normal c w):(Code.region 7 RN7 true).wp Tryz.prog Q base w0:=by
 refine Zr (B:=Zbx G X bl off kl kc j m xi yi nn la ll lc pv) (T:=Zu6 G X bl off kl kc j m xi yi nn la ll lc pv) (n:=38) (k:=37) LN7 AN7 (VNC G X bl off kl kc j m xi yi nn la ll lc pv) Zx7 rfl (by kernel_rfl) (by kernel_rfl) (by kernel_rfl) (by rw [hsz];kernel_rfl) (fun c hS=>⟨(Zc hS (by kernel_rfl)).trans hb.t1,(Zc hS (by kernel_rfl)).trans hb.t3,(Zc hS (by kernel_rfl)).trans hb.t4⟩) hW ?_ (by decide) rfl rfl hQ
 clear hsz hb hW hQ
 iterate 38 (refine Zd ?_ (by
  intro c w hb hW hEq
  obtain ⟨t1,t3,t4⟩:=hb
  obtain ⟨x0,a1,g2,a2,a3,g0,kj,kw,mlt,le,y0,a4⟩:=hW
  have ec:=evc c
  have ef:=evf c
  dsimp only [AN7,LN7,VNC,nth,Zcm,Zbd,Jl] at hEq ⊢
  first
  | exact ⟨by first | exact hEq.1 | exact hEq.2.1 | exact hEq.2.2.1 | exact hEq.2.2.2.1,.inr ⟨by first | exact .inl rfl | exact .inr rfl,rfl⟩⟩
  | ((try refine ⟨by first | exact hEq.1 | exact hEq.2.1 | exact hEq.2.2.1 | exact hEq.2.2.2.1,.inl ⟨rfl,?_⟩⟩);first | (refine .inl fun pos af=>?_;(dsimp only [Sig.oper];generalize c.eval=ρ at *;go_simp;done)) | (refine .inl fun pos af=>?_;dsimp only [Sig.oper];generalize c.eval=ρ at *;go_simp;simp only [decide_eq_true_eq,decide_eq_false_iff_not] at *;omega))))
 exact Zj
def VND (G X bl off kl kc j m:Nat) (xi yi nn:Int) (la:Option Addr) (ll lc:Nat) (pv:Value):List Value:=[.pointer (some ⟨X,0,none⟩),.int .i64 xi,.bool false,.bool false,.pointer (some ⟨X,0,none⟩),.int .i64 xi,.pointer (some ⟨G,2,none⟩),.int .i64 nn,.bool false,.bool false,.bool false,.int .i64 (j:Int),.bool false,.bool false,undef,undef,undef,undef,undef,undef,undef,undef,undef,undef,.bool false,.bool false,.bool false,.pointer (some ⟨X,1,none⟩),.slice la ll lc,.bool false,.bool true,.bool true,.bool true,undef,undef,undef,undef,.bool true]
structure Zu7 (G X bl off kl kc j m:Nat) (xi yi nn:Int) (la:Option Addr) (ll lc:Nat) (pv:Value) (w:World):Prop where
 x0:w.cell? ⟨X,0,none⟩=some (.int .i64 xi)
 a1:decide (xi<0)=false
 g2:w.cell? ⟨G,2,none⟩=some (.int .i64 nn)
 a2:decide (nn≤xi)=false
 a3:decide ((0:Int)<(j:Int))=false
 x1:w.cell? ⟨X,1,none⟩=some (.slice la ll lc)
 k1:Calls Tryz.prog 41 #[.slice la ll lc] w fun e w'=>e=.returned (.bool false)∧Below w.heap.size w w'
theorem Zyb (G X bl off kl kc j m:Nat) (xi yi nn:Int) (la:Option Addr) (ll lc:Nat) (pv:Value) (Q:Exit→Act→World→Prop) (base:Act) (w0:World) (hsz:base.tmps.size=149) (hb:Zbx G X bl off kl kc j m xi yi nn la ll lc pv base)
  (hW:∀ w,Below w0.heap.size w0 w→Zu7 G X bl off kl kc j m xi yi nn la ll lc pv w) (hQ:∀ c w,Zae RN7 base c→Below w0.heap.size w0 w→c.eval (.tmp 84)=.bool true→Q .normal c w):(Code.region 7 RN7 true).wp Tryz.prog Q base w0:=by
 refine Zr (B:=Zbx G X bl off kl kc j m xi yi nn la ll lc pv) (T:=Zu7 G X bl off kl kc j m xi yi nn la ll lc pv) (n:=38) (k:=37) LN7 AN7 (VND G X bl off kl kc j m xi yi nn la ll lc pv) Zx7 rfl (by kernel_rfl) (by kernel_rfl) (by kernel_rfl) (by rw [hsz];kernel_rfl) (fun c hS=>⟨(Zc hS (by kernel_rfl)).trans hb.t1,(Zc hS (by kernel_rfl)).trans hb.t3,(Zc hS (by kernel_rfl)).trans hb.t4⟩) hW ?_ (by decide) rfl rfl hQ
 clear hsz hb hW hQ
 iterate 38 (refine Zd ?_ (by
  intro c w hb hW hEq
  obtain ⟨t1,t3,t4⟩:=hb
  obtain ⟨x0,a1,g2,a2,a3,x1,k1⟩:=hW
  have ec:=evc c
  have ef:=evf c
  dsimp only [AN7,LN7,VND,nth,Zcm,Zbd,Jl] at hEq ⊢
  first
  | exact ⟨by first | exact hEq.1 | exact hEq.2.1 | exact hEq.2.2.1 | exact hEq.2.2.2.1,.inr ⟨by first | exact .inl rfl | exact .inr rfl,rfl⟩⟩
  | ((try refine ⟨by first | exact hEq.1 | exact hEq.2.1 | exact hEq.2.2.1 | exact hEq.2.2.2.1,.inl ⟨rfl,?_⟩⟩);first | (refine Zm Tryz.call41 k1 ?_;simp only [List.map_toArray,List.map_cons,List.map_nil,hEq];done) | (refine .inl fun pos af=>?_;(clear k1;dsimp only [Sig.oper];generalize c.eval=ρ at *;go_simp;done)) | (refine .inl fun pos af=>?_;clear k1;dsimp only [Sig.oper];generalize c.eval=ρ at *;go_simp;simp only [decide_eq_true_eq,decide_eq_false_iff_not] at *;omega))))
 exact Zj
def VNE (G X bl off kl kc j m:Nat) (xi yi nn:Int) (la:Option Addr) (ll lc:Nat) (pv:Value):List Value:=[.pointer (some ⟨X,0,none⟩),.int .i64 xi,.bool false,.bool false,.pointer (some ⟨X,0,none⟩),.int .i64 xi,.pointer (some ⟨G,2,none⟩),.int .i64 nn,.bool false,.bool false,.bool false,.int .i64 (j:Int),.bool false,.bool false,undef,undef,undef,undef,undef,undef,undef,undef,undef,undef,.bool false,.bool false,.bool false,.pointer (some ⟨X,1,none⟩),.slice la ll lc,.bool true,.bool false,.bool false,.bool false,.pointer (some ⟨X,2,none⟩),pv,.bool false,.bool true,.bool true]
structure Zu8 (G X bl off kl kc j m:Nat) (xi yi nn:Int) (la:Option Addr) (ll lc:Nat) (pv:Value) (w:World):Prop where
 x0:w.cell? ⟨X,0,none⟩=some (.int .i64 xi)
 a1:decide (xi<0)=false
 g2:w.cell? ⟨G,2,none⟩=some (.int .i64 nn)
 a2:decide (nn≤xi)=false
 a3:decide ((0:Int)<(j:Int))=false
 x1:w.cell? ⟨X,1,none⟩=some (.slice la ll lc)
 k1:Calls Tryz.prog 41 #[.slice la ll lc] w fun e w'=>e=.returned (.bool true)∧Below w.heap.size w w'
 x2:w.cell? ⟨X,2,none⟩=some (pv)
 k2:Calls Tryz.prog 42 #[pv] w fun e w'=>e=.returned (.bool false)∧Below w.heap.size w w'
theorem Zyc (G X bl off kl kc j m:Nat) (xi yi nn:Int) (la:Option Addr) (ll lc:Nat) (pv:Value) (Q:Exit→Act→World→Prop) (base:Act) (w0:World) (hsz:base.tmps.size=149) (hb:Zbx G X bl off kl kc j m xi yi nn la ll lc pv base)
  (hW:∀ w,Below w0.heap.size w0 w→Zu8 G X bl off kl kc j m xi yi nn la ll lc pv w) (hQ:∀ c w,Zae RN7 base c→Below w0.heap.size w0 w→c.eval (.tmp 84)=.bool true→Q .normal c w):(Code.region 7 RN7 true).wp Tryz.prog Q base w0:=by
 refine Zr (B:=Zbx G X bl off kl kc j m xi yi nn la ll lc pv) (T:=Zu8 G X bl off kl kc j m xi yi nn la ll lc pv) (n:=38) (k:=37) LN7 AN7 (VNE G X bl off kl kc j m xi yi nn la ll lc pv) Zx7 rfl (by kernel_rfl) (by kernel_rfl) (by kernel_rfl) (by rw [hsz];kernel_rfl) (fun c hS=>⟨(Zc hS (by kernel_rfl)).trans hb.t1,(Zc hS (by kernel_rfl)).trans hb.t3,(Zc hS (by kernel_rfl)).trans hb.t4⟩) hW ?_ (by decide) rfl rfl hQ
 clear hsz hb hW hQ
 iterate 38 (refine Zd ?_ (by
  intro c w hb hW hEq
  obtain ⟨t1,t3,t4⟩:=hb
  obtain ⟨x0,a1,g2,a2,a3,x1,k1,x2,k2⟩:=hW
  have ec:=evc c
  have ef:=evf c
  dsimp only [AN7,LN7,VNE,nth,Zcm,Zbd,Jl] at hEq ⊢
  first
  | exact ⟨by first | exact hEq.1 | exact hEq.2.1 | exact hEq.2.2.1 | exact hEq.2.2.2.1,.inr ⟨by first | exact .inl rfl | exact .inr rfl,rfl⟩⟩
  | ((try refine ⟨by first | exact hEq.1 | exact hEq.2.1 | exact hEq.2.2.1 | exact hEq.2.2.2.1,.inl ⟨rfl,?_⟩⟩);first | (refine Zm Tryz.call41 k1 ?_;simp only [List.map_toArray,List.map_cons,List.map_nil,hEq];done) | (refine Zm Tryz.call42 k2 ?_;simp only [List.map_toArray,List.map_cons,List.map_nil,hEq];done) | (refine .inl fun pos af=>?_;(clear k1 k2;dsimp only [Sig.oper];generalize c.eval=ρ at *;go_simp;done)) | (refine .inl fun pos af=>?_;clear k1 k2;dsimp only [Sig.oper];generalize c.eval=ρ at *;go_simp;simp only [decide_eq_true_eq,decide_eq_false_iff_not] at *;omega))))
 exact Zj
def VNF (G X bl off kl kc j m:Nat) (xi yi nn:Int) (la:Option Addr) (ll lc:Nat) (pv:Value):List Value:=[.pointer (some ⟨X,0,none⟩),.int .i64 xi,.bool false,.bool false,.pointer (some ⟨X,0,none⟩),.int .i64 xi,.pointer (some ⟨G,2,none⟩),.int .i64 nn,.bool false,.bool false,.bool false,.int .i64 (j:Int),.bool false,.bool false,undef,undef,undef,undef,undef,undef,undef,undef,undef,undef,.bool false,.bool false,.bool false,.pointer (some ⟨X,1,none⟩),.slice la ll lc,.bool true,.bool false,.bool false,.bool false,.pointer (some ⟨X,2,none⟩),pv,.bool true,.bool false,.bool false]
structure Zu9 (G X bl off kl kc j m:Nat) (xi yi nn:Int) (la:Option Addr) (ll lc:Nat) (pv:Value) (w:World):Prop where
 x0:w.cell? ⟨X,0,none⟩=some (.int .i64 xi)
 a1:decide (xi<0)=false
 g2:w.cell? ⟨G,2,none⟩=some (.int .i64 nn)
 a2:decide (nn≤xi)=false
 a3:decide ((0:Int)<(j:Int))=false
 x1:w.cell? ⟨X,1,none⟩=some (.slice la ll lc)
 k1:Calls Tryz.prog 41 #[.slice la ll lc] w fun e w'=>e=.returned (.bool true)∧Below w.heap.size w w'
 x2:w.cell? ⟨X,2,none⟩=some (pv)
 k2:Calls Tryz.prog 42 #[pv] w fun e w'=>e=.returned (.bool true)∧Below w.heap.size w w'
theorem Zyd (G X bl off kl kc j m:Nat) (xi yi nn:Int) (la:Option Addr) (ll lc:Nat) (pv:Value) (Q:Exit→Act→World→Prop) (base:Act) (w0:World) (hsz:base.tmps.size=149) (hb:Zbx G X bl off kl kc j m xi yi nn la ll lc pv base)
  (hW:∀ w,Below w0.heap.size w0 w→Zu9 G X bl off kl kc j m xi yi nn la ll lc pv w) (hQ:∀ c w,Zae RN7 base c→Below w0.heap.size w0 w→c.eval (.tmp 84)=.bool false→Q .normal c w):(Code.region 7 RN7 true).wp Tryz.prog Q base w0:=by
 refine Zr (B:=Zbx G X bl off kl kc j m xi yi nn la ll lc pv) (T:=Zu9 G X bl off kl kc j m xi yi nn la ll lc pv) (n:=38) (k:=37) LN7 AN7 (VNF G X bl off kl kc j m xi yi nn la ll lc pv) Zx7 rfl (by kernel_rfl) (by kernel_rfl) (by kernel_rfl) (by rw [hsz];kernel_rfl) (fun c hS=>⟨(Zc hS (by kernel_rfl)).trans hb.t1,(Zc hS (by kernel_rfl)).trans hb.t3,(Zc hS (by kernel_rfl)).trans hb.t4⟩) hW ?_ (by decide) rfl rfl hQ
 clear hsz hb hW hQ
 iterate 38 (refine Zd ?_ (by
  intro c w hb hW hEq
  obtain ⟨t1,t3,t4⟩:=hb
  obtain ⟨x0,a1,g2,a2,a3,x1,k1,x2,k2⟩:=hW
  have ec:=evc c
  have ef:=evf c
  dsimp only [AN7,LN7,VNF,nth,Zcm,Zbd,Jl] at hEq ⊢
  first
  | exact ⟨by first | exact hEq.1 | exact hEq.2.1 | exact hEq.2.2.1 | exact hEq.2.2.2.1,.inr ⟨by first | exact .inl rfl | exact .inr rfl,rfl⟩⟩
  | ((try refine ⟨by first | exact hEq.1 | exact hEq.2.1 | exact hEq.2.2.1 | exact hEq.2.2.2.1,.inl ⟨rfl,?_⟩⟩);first | (refine Zm Tryz.call41 k1 ?_;simp only [List.map_toArray,List.map_cons,List.map_nil,hEq];done) | (refine Zm Tryz.call42 k2 ?_;simp only [List.map_toArray,List.map_cons,List.map_nil,hEq];done) | (refine .inl fun pos af=>?_;(clear k1 k2;dsimp only [Sig.oper];generalize c.eval=ρ at *;go_simp;done)) | (refine .inl fun pos af=>?_;clear k1 k2;dsimp only [Sig.oper];generalize c.eval=ρ at *;go_simp;simp only [decide_eq_true_eq,decide_eq_false_iff_not] at *;omega))))
 exact Zj
def VNG (G X bl off kl kc j m:Nat) (xi yi nn:Int) (la:Option Addr) (ll lc:Nat) (pv:Value):List Value:=[.pointer (some ⟨X,0,none⟩),.int .i64 xi,.bool false,.bool false,.pointer (some ⟨X,0,none⟩),.int .i64 xi,.pointer (some ⟨G,2,none⟩),.int .i64 nn,.bool false,.bool false,.bool false,.int .i64 (j:Int),.bool true,.bool true,.pointer (some ⟨G,0,none⟩),.slice (some ⟨bl,off,none⟩) kl kc,.int .i64 (j:Int),.int .i64 (m:Int),.pointer (some ⟨bl,off+m*3,none⟩),.pointer (some ⟨bl,off+m*3,none⟩),.int .i64 yi,.pointer (some ⟨X,0,none⟩),.int .i64 xi,.bool false,.bool false,.bool false,.bool false,.pointer (some ⟨X,1,none⟩),.slice la ll lc,.bool false,.bool true,.bool true,.bool true,undef,undef,undef,undef,.bool true]
structure Zva (G X bl off kl kc j m:Nat) (xi yi nn:Int) (la:Option Addr) (ll lc:Nat) (pv:Value) (w:World):Prop where
 x0:w.cell? ⟨X,0,none⟩=some (.int .i64 xi)
 a1:decide (xi<0)=false
 g2:w.cell? ⟨G,2,none⟩=some (.int .i64 nn)
 a2:decide (nn≤xi)=false
 a3:decide ((0:Int)<(j:Int))=true
 g0:w.cell? ⟨G,0,none⟩=some (.slice (some ⟨bl,off,none⟩) kl kc)
 kj:(j:Int) - 1=(m:Int)
 kw:IntKind.i64.wrap (m:Int)=(m:Int)
 mlt:m<kl
 le:kl≤9223372036854775807
 y0:w.cell? ⟨bl,off+m*3,none⟩=some (.int .i64 yi)
 a4:decide (xi≤yi)=false
 x1:w.cell? ⟨X,1,none⟩=some (.slice la ll lc)
 k1:Calls Tryz.prog 41 #[.slice la ll lc] w fun e w'=>e=.returned (.bool false)∧Below w.heap.size w w'
theorem Zye (G X bl off kl kc j m:Nat) (xi yi nn:Int) (la:Option Addr) (ll lc:Nat) (pv:Value) (Q:Exit→Act→World→Prop) (base:Act) (w0:World) (hsz:base.tmps.size=149) (hb:Zbx G X bl off kl kc j m xi yi nn la ll lc pv base)
  (hW:∀ w,Below w0.heap.size w0 w→Zva G X bl off kl kc j m xi yi nn la ll lc pv w) (hQ:∀ c w,Zae RN7 base c→Below w0.heap.size w0 w→c.eval (.tmp 84)=.bool true→Q .normal c w):(Code.region 7 RN7 true).wp Tryz.prog Q base w0:=by
 refine Zr (B:=Zbx G X bl off kl kc j m xi yi nn la ll lc pv) (T:=Zva G X bl off kl kc j m xi yi nn la ll lc pv) (n:=38) (k:=37) LN7 AN7 (VNG G X bl off kl kc j m xi yi nn la ll lc pv) Zx7 rfl (by kernel_rfl) (by kernel_rfl) (by kernel_rfl) (by rw [hsz];kernel_rfl) (fun c hS=>⟨(Zc hS (by kernel_rfl)).trans hb.t1,(Zc hS (by kernel_rfl)).trans hb.t3,(Zc hS (by kernel_rfl)).trans hb.t4⟩) hW ?_ (by decide) rfl rfl hQ
 clear hsz hb hW hQ
 iterate 38 (refine Zd ?_ (by
  intro c w hb hW hEq
  obtain ⟨t1,t3,t4⟩:=hb
  obtain ⟨x0,a1,g2,a2,a3,g0,kj,kw,mlt,le,y0,a4,x1,k1⟩:=hW
  have ec:=evc c
  have ef:=evf c
  dsimp only [AN7,LN7,VNG,nth,Zcm,Zbd,Jl] at hEq ⊢
  first
  | exact ⟨by first | exact hEq.1 | exact hEq.2.1 | exact hEq.2.2.1 | exact hEq.2.2.2.1,.inr ⟨by first | exact .inl rfl | exact .inr rfl,rfl⟩⟩
  | ((try refine ⟨by first | exact hEq.1 | exact hEq.2.1 | exact hEq.2.2.1 | exact hEq.2.2.2.1,.inl ⟨rfl,?_⟩⟩);first | (refine Zm Tryz.call41 k1 ?_;simp only [List.map_toArray,List.map_cons,List.map_nil,hEq];done) | (refine .inl fun pos af=>?_;(clear k1;dsimp only [Sig.oper];generalize c.eval=ρ at *;go_simp;done)) | (refine .inl fun pos af=>?_;clear k1;dsimp only [Sig.oper];generalize c.eval=ρ at *;go_simp;simp only [decide_eq_true_eq,decide_eq_false_iff_not] at *;omega))))
 exact Zj
def VNH (G X bl off kl kc j m:Nat) (xi yi nn:Int) (la:Option Addr) (ll lc:Nat) (pv:Value):List Value:=[.pointer (some ⟨X,0,none⟩),.int .i64 xi,.bool false,.bool false,.pointer (some ⟨X,0,none⟩),.int .i64 xi,.pointer (some ⟨G,2,none⟩),.int .i64 nn,.bool false,.bool false,.bool false,.int .i64 (j:Int),.bool true,.bool true,.pointer (some ⟨G,0,none⟩),.slice (some ⟨bl,off,none⟩) kl kc,.int .i64 (j:Int),.int .i64 (m:Int),.pointer (some ⟨bl,off+m*3,none⟩),.pointer (some ⟨bl,off+m*3,none⟩),.int .i64 yi,.pointer (some ⟨X,0,none⟩),.int .i64 xi,.bool false,.bool false,.bool false,.bool false,.pointer (some ⟨X,1,none⟩),.slice la ll lc,.bool true,.bool false,.bool false,.bool false,.pointer (some ⟨X,2,none⟩),pv,.bool false,.bool true,.bool true]
structure Zvb (G X bl off kl kc j m:Nat) (xi yi nn:Int) (la:Option Addr) (ll lc:Nat) (pv:Value) (w:World):Prop where
 x0:w.cell? ⟨X,0,none⟩=some (.int .i64 xi)
 a1:decide (xi<0)=false
 g2:w.cell? ⟨G,2,none⟩=some (.int .i64 nn)
 a2:decide (nn≤xi)=false
 a3:decide ((0:Int)<(j:Int))=true
 g0:w.cell? ⟨G,0,none⟩=some (.slice (some ⟨bl,off,none⟩) kl kc)
 kj:(j:Int) - 1=(m:Int)
 kw:IntKind.i64.wrap (m:Int)=(m:Int)
 mlt:m<kl
 le:kl≤9223372036854775807
 y0:w.cell? ⟨bl,off+m*3,none⟩=some (.int .i64 yi)
 a4:decide (xi≤yi)=false
 x1:w.cell? ⟨X,1,none⟩=some (.slice la ll lc)
 k1:Calls Tryz.prog 41 #[.slice la ll lc] w fun e w'=>e=.returned (.bool true)∧Below w.heap.size w w'
 x2:w.cell? ⟨X,2,none⟩=some (pv)
 k2:Calls Tryz.prog 42 #[pv] w fun e w'=>e=.returned (.bool false)∧Below w.heap.size w w'
theorem Zyf (G X bl off kl kc j m:Nat) (xi yi nn:Int) (la:Option Addr) (ll lc:Nat) (pv:Value) (Q:Exit→Act→World→Prop) (base:Act) (w0:World) (hsz:base.tmps.size=149) (hb:Zbx G X bl off kl kc j m xi yi nn la ll lc pv base)
  (hW:∀ w,Below w0.heap.size w0 w→Zvb G X bl off kl kc j m xi yi nn la ll lc pv w) (hQ:∀ c w,Zae RN7 base c→Below w0.heap.size w0 w→c.eval (.tmp 84)=.bool true→Q .normal c w):(Code.region 7 RN7 true).wp Tryz.prog Q base w0:=by
 refine Zr (B:=Zbx G X bl off kl kc j m xi yi nn la ll lc pv) (T:=Zvb G X bl off kl kc j m xi yi nn la ll lc pv) (n:=38) (k:=37) LN7 AN7 (VNH G X bl off kl kc j m xi yi nn la ll lc pv) Zx7 rfl (by kernel_rfl) (by kernel_rfl) (by kernel_rfl) (by rw [hsz];kernel_rfl) (fun c hS=>⟨(Zc hS (by kernel_rfl)).trans hb.t1,(Zc hS (by kernel_rfl)).trans hb.t3,(Zc hS (by kernel_rfl)).trans hb.t4⟩) hW ?_ (by decide) rfl rfl hQ
 clear hsz hb hW hQ
 iterate 38 (refine Zd ?_ (by
  intro c w hb hW hEq
  obtain ⟨t1,t3,t4⟩:=hb
  obtain ⟨x0,a1,g2,a2,a3,g0,kj,kw,mlt,le,y0,a4,x1,k1,x2,k2⟩:=hW
  have ec:=evc c
  have ef:=evf c
  dsimp only [AN7,LN7,VNH,nth,Zcm,Zbd,Jl] at hEq ⊢
  first
  | exact ⟨by first | exact hEq.1 | exact hEq.2.1 | exact hEq.2.2.1 | exact hEq.2.2.2.1,.inr ⟨by first | exact .inl rfl | exact .inr rfl,rfl⟩⟩
  | ((try refine ⟨by first | exact hEq.1 | exact hEq.2.1 | exact hEq.2.2.1 | exact hEq.2.2.2.1,.inl ⟨rfl,?_⟩⟩);first | (refine Zm Tryz.call41 k1 ?_;simp only [List.map_toArray,List.map_cons,List.map_nil,hEq];done) | (refine Zm Tryz.call42 k2 ?_;simp only [List.map_toArray,List.map_cons,List.map_nil,hEq];done) | (refine .inl fun pos af=>?_;(clear k1 k2;dsimp only [Sig.oper];generalize c.eval=ρ at *;go_simp;done)) | (refine .inl fun pos af=>?_;clear k1 k2;dsimp only [Sig.oper];generalize c.eval=ρ at *;go_simp;simp only [decide_eq_true_eq,decide_eq_false_iff_not] at *;omega))))
 exact Zj
def VNI (G X bl off kl kc j m:Nat) (xi yi nn:Int) (la:Option Addr) (ll lc:Nat) (pv:Value):List Value:=[.pointer (some ⟨X,0,none⟩),.int .i64 xi,.bool false,.bool false,.pointer (some ⟨X,0,none⟩),.int .i64 xi,.pointer (some ⟨G,2,none⟩),.int .i64 nn,.bool false,.bool false,.bool false,.int .i64 (j:Int),.bool true,.bool true,.pointer (some ⟨G,0,none⟩),.slice (some ⟨bl,off,none⟩) kl kc,.int .i64 (j:Int),.int .i64 (m:Int),.pointer (some ⟨bl,off+m*3,none⟩),.pointer (some ⟨bl,off+m*3,none⟩),.int .i64 yi,.pointer (some ⟨X,0,none⟩),.int .i64 xi,.bool false,.bool false,.bool false,.bool false,.pointer (some ⟨X,1,none⟩),.slice la ll lc,.bool true,.bool false,.bool false,.bool false,.pointer (some ⟨X,2,none⟩),pv,.bool true,.bool false,.bool false]
structure Zvc (G X bl off kl kc j m:Nat) (xi yi nn:Int) (la:Option Addr) (ll lc:Nat) (pv:Value) (w:World):Prop where
 x0:w.cell? ⟨X,0,none⟩=some (.int .i64 xi)
 a1:decide (xi<0)=false
 g2:w.cell? ⟨G,2,none⟩=some (.int .i64 nn)
 a2:decide (nn≤xi)=false
 a3:decide ((0:Int)<(j:Int))=true
 g0:w.cell? ⟨G,0,none⟩=some (.slice (some ⟨bl,off,none⟩) kl kc)
 kj:(j:Int) - 1=(m:Int)
 kw:IntKind.i64.wrap (m:Int)=(m:Int)
 mlt:m<kl
 le:kl≤9223372036854775807
 y0:w.cell? ⟨bl,off+m*3,none⟩=some (.int .i64 yi)
 a4:decide (xi≤yi)=false
 x1:w.cell? ⟨X,1,none⟩=some (.slice la ll lc)
 k1:Calls Tryz.prog 41 #[.slice la ll lc] w fun e w'=>e=.returned (.bool true)∧Below w.heap.size w w'
 x2:w.cell? ⟨X,2,none⟩=some (pv)
 k2:Calls Tryz.prog 42 #[pv] w fun e w'=>e=.returned (.bool true)∧Below w.heap.size w w'
theorem Zyg (G X bl off kl kc j m:Nat) (xi yi nn:Int) (la:Option Addr) (ll lc:Nat) (pv:Value) (Q:Exit→Act→World→Prop) (base:Act) (w0:World) (hsz:base.tmps.size=149) (hb:Zbx G X bl off kl kc j m xi yi nn la ll lc pv base)
  (hW:∀ w,Below w0.heap.size w0 w→Zvc G X bl off kl kc j m xi yi nn la ll lc pv w) (hQ:∀ c w,Zae RN7 base c→Below w0.heap.size w0 w→c.eval (.tmp 84)=.bool false→Q .normal c w):(Code.region 7 RN7 true).wp Tryz.prog Q base w0:=by
 refine Zr (B:=Zbx G X bl off kl kc j m xi yi nn la ll lc pv) (T:=Zvc G X bl off kl kc j m xi yi nn la ll lc pv) (n:=38) (k:=37) LN7 AN7 (VNI G X bl off kl kc j m xi yi nn la ll lc pv) Zx7 rfl (by kernel_rfl) (by kernel_rfl) (by kernel_rfl) (by rw [hsz];kernel_rfl) (fun c hS=>⟨(Zc hS (by kernel_rfl)).trans hb.t1,(Zc hS (by kernel_rfl)).trans hb.t3,(Zc hS (by kernel_rfl)).trans hb.t4⟩) hW ?_ (by decide) rfl rfl hQ
 clear hsz hb hW hQ
 iterate 38 (refine Zd ?_ (by
  intro c w hb hW hEq
  obtain ⟨t1,t3,t4⟩:=hb
  obtain ⟨x0,a1,g2,a2,a3,g0,kj,kw,mlt,le,y0,a4,x1,k1,x2,k2⟩:=hW
  have ec:=evc c
  have ef:=evf c
  dsimp only [AN7,LN7,VNI,nth,Zcm,Zbd,Jl] at hEq ⊢
  first
  | exact ⟨by first | exact hEq.1 | exact hEq.2.1 | exact hEq.2.2.1 | exact hEq.2.2.2.1,.inr ⟨by first | exact .inl rfl | exact .inr rfl,rfl⟩⟩
  | ((try refine ⟨by first | exact hEq.1 | exact hEq.2.1 | exact hEq.2.2.1 | exact hEq.2.2.2.1,.inl ⟨rfl,?_⟩⟩);first | (refine Zm Tryz.call41 k1 ?_;simp only [List.map_toArray,List.map_cons,List.map_nil,hEq];done) | (refine Zm Tryz.call42 k2 ?_;simp only [List.map_toArray,List.map_cons,List.map_nil,hEq];done) | (refine .inl fun pos af=>?_;(clear k1 k2;dsimp only [Sig.oper];generalize c.eval=ρ at *;go_simp;done)) | (refine .inl fun pos af=>?_;clear k1 k2;dsimp only [Sig.oper];generalize c.eval=ρ at *;go_simp;simp only [decide_eq_true_eq,decide_eq_false_iff_not] at *;omega))))
 exact Zj
end
section
open Go.RowKit Go.Shelf Go.WideShapes
set_option maxHeartbeats 4000000
set_option maxRecDepth 100000
set_option linter.all false
noncomputable def Zf8  : Array Oper:=Jg Tryz.f14 13
def Zgf  : List Sig:=[⟨97,.fieldAddr 49 (.tmp 6) 0,0,none⟩,⟨98,.load 2 (.tmp 97),2,none⟩,⟨99,.binOp .lss 2 (.tmp 98) (.const (.int .i64 0)) 2,4,none⟩,⟨100,.move (.tmp 99),4,none⟩,⟨101,.fieldAddr 49 (.tmp 6) 0,0,some (3,false)⟩,⟨102,.load 2 (.tmp 101),2,some (3,false)⟩,⟨103,.fieldAddr 25 (.tmp 1) 3,0,some (3,false)⟩,⟨104,.load 2 (.tmp 103),2,some (3,false)⟩,⟨105,.binOp .geq 2 (.tmp 102) (.tmp 104) 2,4,some (3,false)⟩,⟨106,.pick (.tmp 100) (.const (.bool true)) (.tmp 105),4,none⟩,⟨107,.move (.tmp 106),4,none⟩,⟨108,.move (.tmp 5),3,some (10,false)⟩,⟨109,.binOp .gtr 3 (.tmp 108) (.const (.int .i64 0)) 3,4,some (10,false)⟩,⟨110,.move (.tmp 109),4,some (10,false)⟩,⟨111,.fieldAddr 25 (.tmp 1) 1,0,some (13,true)⟩,⟨112,.load 23 (.tmp 111),23,some (13,true)⟩,⟨113,.move (.tmp 5),3,some (13,true)⟩,⟨114,.binOp .sub 3 (.tmp 113) (.const (.int .i64 1)) 3,3,some (13,true)⟩,⟨115,.indexAddr 23 (.tmp 112) (.tmp 114),0,some (13,true)⟩,⟨116,.fieldAddr 49 (.tmp 115) 0,0,some (13,true)⟩,⟨117,.load 2 (.tmp 116),2,some (13,true)⟩,⟨118,.fieldAddr 49 (.tmp 6) 0,0,some (13,true)⟩,⟨119,.load 2 (.tmp 118),2,some (13,true)⟩,⟨120,.binOp .geq 2 (.tmp 117) (.tmp 119) 2,4,some (13,true)⟩,⟨121,.pick (.tmp 110) (.tmp 120) (.const (.bool false)),4,some (10,false)⟩,⟨122,.pick (.tmp 107) (.const (.bool true)) (.tmp 121),4,none⟩,⟨123,.move (.tmp 122),4,none⟩,⟨124,.fieldAddr 49 (.tmp 6) 3,0,some (26,false)⟩,⟨125,.load 9 (.tmp 124),9,some (26,false)⟩,⟨126,.call { callee:=.value (.func 43),args:=#[.tmp 125],argTypes:=#[9] },4,some (26,false)⟩,⟨127,.unOp .not 4 (.tmp 126),4,some (26,false)⟩,⟨128,.pick (.tmp 123) (.const (.bool true)) (.tmp 127),4,none⟩,⟨129,.move (.tmp 128),4,none⟩,⟨130,.fieldAddr 49 (.tmp 6) 4,0,some (32,false)⟩,⟨131,.load 45 (.tmp 130),45,some (32,false)⟩,⟨132,.call { callee:=.value (.func 42),args:=#[.tmp 131],argTypes:=#[45] },4,some (32,false)⟩,⟨133,.unOp .not 4 (.tmp 132),4,some (32,false)⟩,⟨134,.pick (.tmp 129) (.const (.bool true)) (.tmp 133),4,none⟩,⟨135,.move (.tmp 134),4,none⟩,⟨136,.load 25 (.tmp 1),25,some (38,false)⟩,⟨137,.fieldAddr 49 (.tmp 6) 1,0,some (38,false)⟩,⟨138,.load 2 (.tmp 137),2,some (38,false)⟩,⟨139,.call { callee:=.value (.func 44),args:=#[.tmp 136,.tmp 138],argTypes:=#[25,2] },3,some (38,false)⟩,⟨140,.binOp .lss 3 (.tmp 139) (.const (.int .i64 0)) 3,4,some (38,false)⟩,⟨141,.pick (.tmp 135) (.const (.bool true)) (.tmp 140),4,none⟩,⟨142,.move (.tmp 141),4,none⟩,⟨143,.load 25 (.tmp 1),25,some (45,false)⟩,⟨144,.fieldAddr 49 (.tmp 6) 2,0,some (45,false)⟩,⟨145,.load 2 (.tmp 144),2,some (45,false)⟩,⟨146,.call { callee:=.value (.func 44),args:=#[.tmp 143,.tmp 145],argTypes:=#[25,2] },3,some (45,false)⟩,⟨147,.binOp .lss 3 (.tmp 146) (.const (.int .i64 0)) 3,4,some (45,false)⟩,⟨148,.pick (.tmp 142) (.const (.bool true)) (.tmp 147),4,none⟩]
theorem Zgg  : Jq Zf8=Zgf.map some:=by kernel_rfl
def Zgt  : List (List Nat):=[[],[0],[1],[2],[3],[3,4],[3],[3,6],[3,5,7],[3,8],[9],[10],[10,11],[10,12],[13],[13,14],[13],[13,16],[13,15,17],[13,18],[13,19],[13],[13,21],[13,20,22],[10,13,23],[10,24],[25],[26],[26,27],[26,28],[26,29],[26,30],[31],[32],[32,33],[32,34],[32,35],[32,36],[37],[38],[38],[38,40],[38,39,41],[38,42],[38,43],[44],[45],[45],[45,47],[45,46,48],[45,49],[45,50]]
structure Ju (G X bl off kl kc j m:Nat) (xi yi fr tt z1 z2 nn nr:Int) (ty:ByteArray) (nv pv:Value) (c:Act):Prop where
 t1:c.eval (.tmp 1)=.pointer (some ⟨G,0,none⟩)
 t5:c.eval (.tmp 5)=.int .i64 (j:Int)
 t6:c.eval (.tmp 6)=.pointer (some ⟨X,0,none⟩)
def VLA (G X bl off kl kc j m:Nat) (xi yi fr tt z1 z2 nn nr:Int) (ty:ByteArray) (nv pv:Value):List Value:=[.pointer (some ⟨X,0,none⟩),.int .i64 xi,.bool true,.bool true,undef,undef,undef,undef,undef,.bool true,.bool true,undef,undef,undef,undef,undef,undef,undef,undef,undef,undef,undef,undef,undef,undef,.bool true,.bool true,undef,undef,undef,undef,.bool true,.bool true,undef,undef,undef,undef,.bool true,.bool true,undef,undef,undef,undef,undef,.bool true,.bool true,undef,undef,undef,undef,undef,.bool true]
structure Zs4 (G X bl off kl kc j m:Nat) (xi yi fr tt z1 z2 nn nr:Int) (ty:ByteArray) (nv pv:Value) (w:World):Prop where
 x0:w.cell? ⟨X,0,none⟩=some (.int .i64 xi)
 a1:decide (xi<0)=true
theorem Zws (G X bl off kl kc j m:Nat) (xi yi fr tt z1 z2 nn nr:Int) (ty:ByteArray) (nv pv:Value) (Q:Exit→Act→World→Prop) (base:Act) (w0:World) (hsz:base.tmps.size=149) (hb:Ju G X bl off kl kc j m xi yi fr tt z1 z2 nn nr ty nv pv base)
  (hW:∀ w,Below w0.heap.size w0 w→Zs4 G X bl off kl kc j m xi yi fr tt z1 z2 nn nr ty nv pv w) (hQ:∀ c w,Zae Zf8 base c→Below w0.heap.size w0 w→c.eval (.tmp 148)=.bool true→Q .normal c w):(Code.region 13 Zf8 true).wp Tryz.prog Q base w0:=by
 refine Zr (B:=Ju G X bl off kl kc j m xi yi fr tt z1 z2 nn nr ty nv pv) (T:=Zs4 G X bl off kl kc j m xi yi fr tt z1 z2 nn nr ty nv pv) (n:=52) (k:=51) Zgf Zgt (VLA G X bl off kl kc j m xi yi fr tt z1 z2 nn nr ty nv pv) Zgg rfl (by kernel_rfl) (by kernel_rfl) (by kernel_rfl) (by rw [hsz];kernel_rfl) (fun c hS=>⟨(Zc hS (by kernel_rfl)).trans hb.t1,(Zc hS (by kernel_rfl)).trans hb.t5,(Zc hS (by kernel_rfl)).trans hb.t6⟩) hW ?_ (by decide) rfl rfl hQ
 clear hsz hb hW hQ
 iterate 52 (refine Zd ?_ (by
  intro c w hb hW hEq
  obtain ⟨t1,t5,t6⟩:=hb
  obtain ⟨x0,a1⟩:=hW
  have ec:=evc c
  have ef:=evf c
  dsimp only [Zgt,Zgf,VLA,nth,Zcm,Zbd,Jl] at hEq ⊢
  first
  | exact ⟨by first | exact hEq.1 | exact hEq.2.1 | exact hEq.2.2.1 | exact hEq.2.2.2.1,.inr ⟨by first | exact .inl rfl | exact .inr rfl,rfl⟩⟩
  | ((try refine ⟨by first | exact hEq.1 | exact hEq.2.1 | exact hEq.2.2.1 | exact hEq.2.2.2.1,.inl ⟨rfl,?_⟩⟩);first | (refine .inl fun pos af=>?_;(dsimp only [Sig.oper];generalize c.eval=ρ at *;go_simp;done)) | (refine .inl fun pos af=>?_;dsimp only [Sig.oper];generalize c.eval=ρ at *;go_simp;simp only [decide_eq_true_eq,decide_eq_false_iff_not] at *;omega))))
 exact Zj
def VLB (G X bl off kl kc j m:Nat) (xi yi fr tt z1 z2 nn nr:Int) (ty:ByteArray) (nv pv:Value):List Value:=[.pointer (some ⟨X,0,none⟩),.int .i64 xi,.bool false,.bool false,.pointer (some ⟨X,0,none⟩),.int .i64 xi,.pointer (some ⟨G,3,none⟩),.int .i64 nr,.bool true,.bool true,.bool true,undef,undef,undef,undef,undef,undef,undef,undef,undef,undef,undef,undef,undef,undef,.bool true,.bool true,undef,undef,undef,undef,.bool true,.bool true,undef,undef,undef,undef,.bool true,.bool true,undef,undef,undef,undef,undef,.bool true,.bool true,undef,undef,undef,undef,undef,.bool true]
structure Zs5 (G X bl off kl kc j m:Nat) (xi yi fr tt z1 z2 nn nr:Int) (ty:ByteArray) (nv pv:Value) (w:World):Prop where
 x0:w.cell? ⟨X,0,none⟩=some (.int .i64 xi)
 a1:decide (xi<0)=false
 g3:w.cell? ⟨G,3,none⟩=some (.int .i64 nr)
 a2:decide (nr≤xi)=true
theorem Zwt (G X bl off kl kc j m:Nat) (xi yi fr tt z1 z2 nn nr:Int) (ty:ByteArray) (nv pv:Value) (Q:Exit→Act→World→Prop) (base:Act) (w0:World) (hsz:base.tmps.size=149) (hb:Ju G X bl off kl kc j m xi yi fr tt z1 z2 nn nr ty nv pv base)
  (hW:∀ w,Below w0.heap.size w0 w→Zs5 G X bl off kl kc j m xi yi fr tt z1 z2 nn nr ty nv pv w) (hQ:∀ c w,Zae Zf8 base c→Below w0.heap.size w0 w→c.eval (.tmp 148)=.bool true→Q .normal c w):(Code.region 13 Zf8 true).wp Tryz.prog Q base w0:=by
 refine Zr (B:=Ju G X bl off kl kc j m xi yi fr tt z1 z2 nn nr ty nv pv) (T:=Zs5 G X bl off kl kc j m xi yi fr tt z1 z2 nn nr ty nv pv) (n:=52) (k:=51) Zgf Zgt (VLB G X bl off kl kc j m xi yi fr tt z1 z2 nn nr ty nv pv) Zgg rfl (by kernel_rfl) (by kernel_rfl) (by kernel_rfl) (by rw [hsz];kernel_rfl) (fun c hS=>⟨(Zc hS (by kernel_rfl)).trans hb.t1,(Zc hS (by kernel_rfl)).trans hb.t5,(Zc hS (by kernel_rfl)).trans hb.t6⟩) hW ?_ (by decide) rfl rfl hQ
 clear hsz hb hW hQ
 iterate 52 (refine Zd ?_ (by
  intro c w hb hW hEq
  obtain ⟨t1,t5,t6⟩:=hb
  obtain ⟨x0,a1,g3,a2⟩:=hW
  have ec:=evc c
  have ef:=evf c
  dsimp only [Zgt,Zgf,VLB,nth,Zcm,Zbd,Jl] at hEq ⊢
  first
  | exact ⟨by first | exact hEq.1 | exact hEq.2.1 | exact hEq.2.2.1 | exact hEq.2.2.2.1,.inr ⟨by first | exact .inl rfl | exact .inr rfl,rfl⟩⟩
  | ((try refine ⟨by first | exact hEq.1 | exact hEq.2.1 | exact hEq.2.2.1 | exact hEq.2.2.2.1,.inl ⟨rfl,?_⟩⟩);first | (refine .inl fun pos af=>?_;(dsimp only [Sig.oper];generalize c.eval=ρ at *;go_simp;done)) | (refine .inl fun pos af=>?_;dsimp only [Sig.oper];generalize c.eval=ρ at *;go_simp;simp only [decide_eq_true_eq,decide_eq_false_iff_not] at *;omega))))
 exact Zj
def VLC (G X bl off kl kc j m:Nat) (xi yi fr tt z1 z2 nn nr:Int) (ty:ByteArray) (nv pv:Value):List Value:=[.pointer (some ⟨X,0,none⟩),.int .i64 xi,.bool false,.bool false,.pointer (some ⟨X,0,none⟩),.int .i64 xi,.pointer (some ⟨G,3,none⟩),.int .i64 nr,.bool false,.bool false,.bool false,.int .i64 (j:Int),.bool true,.bool true,.pointer (some ⟨G,1,none⟩),.slice (some ⟨bl,off,none⟩) kl kc,.int .i64 (j:Int),.int .i64 (m:Int),.pointer (some ⟨bl,off+m*5,none⟩),.pointer (some ⟨bl,off+m*5,none⟩),.int .i64 yi,.pointer (some ⟨X,0,none⟩),.int .i64 xi,.bool true,.bool true,.bool true,.bool true,undef,undef,undef,undef,.bool true,.bool true,undef,undef,undef,undef,.bool true,.bool true,undef,undef,undef,undef,undef,.bool true,.bool true,undef,undef,undef,undef,undef,.bool true]
structure Zs6 (G X bl off kl kc j m:Nat) (xi yi fr tt z1 z2 nn nr:Int) (ty:ByteArray) (nv pv:Value) (w:World):Prop where
 x0:w.cell? ⟨X,0,none⟩=some (.int .i64 xi)
 a1:decide (xi<0)=false
 g3:w.cell? ⟨G,3,none⟩=some (.int .i64 nr)
 a2:decide (nr≤xi)=false
 a3:decide ((0:Int)<(j:Int))=true
 g1:w.cell? ⟨G,1,none⟩=some (.slice (some ⟨bl,off,none⟩) kl kc)
 kj:(j:Int) - 1=(m:Int)
 kw:IntKind.i64.wrap (m:Int)=(m:Int)
 mlt:m<kl
 le:kl≤9223372036854775807
 y0:w.cell? ⟨bl,off+m*5,none⟩=some (.int .i64 yi)
 a4:decide (xi≤yi)=true
theorem Zwu (G X bl off kl kc j m:Nat) (xi yi fr tt z1 z2 nn nr:Int) (ty:ByteArray) (nv pv:Value) (Q:Exit→Act→World→Prop) (base:Act) (w0:World) (hsz:base.tmps.size=149) (hb:Ju G X bl off kl kc j m xi yi fr tt z1 z2 nn nr ty nv pv base)
  (hW:∀ w,Below w0.heap.size w0 w→Zs6 G X bl off kl kc j m xi yi fr tt z1 z2 nn nr ty nv pv w) (hQ:∀ c w,Zae Zf8 base c→Below w0.heap.size w0 w→c.eval (.tmp 148)=.bool true→Q .normal c w):(Code.region 13 Zf8 true).wp Tryz.prog Q base w0:=by
 refine Zr (B:=Ju G X bl off kl kc j m xi yi fr tt z1 z2 nn nr ty nv pv) (T:=Zs6 G X bl off kl kc j m xi yi fr tt z1 z2 nn nr ty nv pv) (n:=52) (k:=51) Zgf Zgt (VLC G X bl off kl kc j m xi yi fr tt z1 z2 nn nr ty nv pv) Zgg rfl (by kernel_rfl) (by kernel_rfl) (by kernel_rfl) (by rw [hsz];kernel_rfl) (fun c hS=>⟨(Zc hS (by kernel_rfl)).trans hb.t1,(Zc hS (by kernel_rfl)).trans hb.t5,(Zc hS (by kernel_rfl)).trans hb.t6⟩) hW ?_ (by decide) rfl rfl hQ
 clear hsz hb hW hQ
 iterate 52 (refine Zd ?_ (by
  intro c w hb hW hEq
  obtain ⟨t1,t5,t6⟩:=hb
  obtain ⟨x0,a1,g3,a2,a3,g1,kj,kw,mlt,le,y0,a4⟩:=hW
  have ec:=evc c
  have ef:=evf c
  dsimp only [Zgt,Zgf,VLC,nth,Zcm,Zbd,Jl] at hEq ⊢
  first
  | exact ⟨by first | exact hEq.1 | exact hEq.2.1 | exact hEq.2.2.1 | exact hEq.2.2.2.1,.inr ⟨by first | exact .inl rfl | exact .inr rfl,rfl⟩⟩
  | ((try refine ⟨by first | exact hEq.1 | exact hEq.2.1 | exact hEq.2.2.1 | exact hEq.2.2.2.1,.inl ⟨rfl,?_⟩⟩);first | (refine .inl fun pos af=>?_;(dsimp only [Sig.oper];generalize c.eval=ρ at *;go_simp;done)) | (refine .inl fun pos af=>?_;dsimp only [Sig.oper];generalize c.eval=ρ at *;go_simp;simp only [decide_eq_true_eq,decide_eq_false_iff_not] at *;omega))))
 exact Zj
def Jf2 (G X bl off kl kc j m:Nat) (xi yi fr tt z1 z2 nn nr:Int) (ty:ByteArray) (nv pv:Value):List Value:=[.pointer (some ⟨X,0,none⟩),.int .i64 xi,.bool false,.bool false,.pointer (some ⟨X,0,none⟩),.int .i64 xi,.pointer (some ⟨G,3,none⟩),.int .i64 nr,.bool false,.bool false,.bool false,.int .i64 (j:Int),.bool false,.bool false,undef,undef,undef,undef,undef,undef,undef,undef,undef,undef,.bool false,.bool false,.bool false,.pointer (some ⟨X,3,none⟩),.string ty,.bool false,.bool true,.bool true,.bool true,undef,undef,undef,undef,.bool true,.bool true,undef,undef,undef,undef,undef,.bool true,.bool true,undef,undef,undef,undef,undef,.bool true]
structure Zox (G X bl off kl kc j m:Nat) (xi yi fr tt z1 z2 nn nr:Int) (ty:ByteArray) (nv pv:Value) (w:World):Prop where
 x0:w.cell? ⟨X,0,none⟩=some (.int .i64 xi)
 a1:decide (xi<0)=false
 g3:w.cell? ⟨G,3,none⟩=some (.int .i64 nr)
 a2:decide (nr≤xi)=false
 a3:decide ((0:Int)<(j:Int))=false
 x3:w.cell? ⟨X,3,none⟩=some (.string ty)
 k1:Calls Tryz.prog 43 #[.string ty] w fun e w'=>e=.returned (.bool false)∧Below w.heap.size w w'
theorem Zs7 (G X bl off kl kc j m:Nat) (xi yi fr tt z1 z2 nn nr:Int) (ty:ByteArray) (nv pv:Value) (Q:Exit→Act→World→Prop) (base:Act) (w0:World) (hsz:base.tmps.size=149) (hb:Ju G X bl off kl kc j m xi yi fr tt z1 z2 nn nr ty nv pv base)
  (hW:∀ w,Below w0.heap.size w0 w→Zox G X bl off kl kc j m xi yi fr tt z1 z2 nn nr ty nv pv w) (hQ:∀ c w,Zae Zf8 base c→Below w0.heap.size w0 w→c.eval (.tmp 148)=.bool true→Q .normal c w):(Code.region 13 Zf8 true).wp Tryz.prog Q base w0:=by
 refine Zr (B:=Ju G X bl off kl kc j m xi yi fr tt z1 z2 nn nr ty nv pv) (T:=Zox G X bl off kl kc j m xi yi fr tt z1 z2 nn nr ty nv pv) (n:=52) (k:=51) Zgf Zgt (Jf2 G X bl off kl kc j m xi yi fr tt z1 z2 nn nr ty nv pv) Zgg rfl (by kernel_rfl) (by kernel_rfl) (by kernel_rfl) (by rw [hsz];kernel_rfl) (fun c hS=>⟨(Zc hS (by kernel_rfl)).trans hb.t1,(Zc hS (by kernel_rfl)).trans hb.t5,(Zc hS (by kernel_rfl)).trans hb.t6⟩) hW ?_ (by decide) rfl rfl hQ
 clear hsz hb hW hQ
 iterate 52 (refine Zd ?_ (by
  intro c w hb hW hEq
  obtain ⟨t1,t5,t6⟩:=hb
  obtain ⟨x0,a1,g3,a2,a3,x3,k1⟩:=hW
  have ec:=evc c
  have ef:=evf c
  dsimp only [Zgt,Zgf,Jf2,nth,Zcm,Zbd,Jl] at hEq ⊢
  first
  | exact ⟨by first | exact hEq.1 | exact hEq.2.1 | exact hEq.2.2.1 | exact hEq.2.2.2.1,.inr ⟨by first | exact .inl rfl | exact .inr rfl,rfl⟩⟩
  | ((try refine ⟨by first | exact hEq.1 | exact hEq.2.1 | exact hEq.2.2.1 | exact hEq.2.2.2.1,.inl ⟨rfl,?_⟩⟩);first | (refine Zm Tryz.call43 k1 ?_;simp only [List.map_toArray,List.map_cons,List.map_nil,hEq];done) | (refine .inl fun pos af=>?_;(clear k1;dsimp only [Sig.oper];generalize c.eval=ρ at *;go_simp;done)) | (refine .inl fun pos af=>?_;clear k1;dsimp only [Sig.oper];generalize c.eval=ρ at *;go_simp;simp only [decide_eq_true_eq,decide_eq_false_iff_not] at *;omega))))
 exact Zj
def Jf3 (G X bl off kl kc j m:Nat) (xi yi fr tt z1 z2 nn nr:Int) (ty:ByteArray) (nv pv:Value):List Value:=[.pointer (some ⟨X,0,none⟩),.int .i64 xi,.bool false,.bool false,.pointer (some ⟨X,0,none⟩),.int .i64 xi,.pointer (some ⟨G,3,none⟩),.int .i64 nr,.bool false,.bool false,.bool false,.int .i64 (j:Int),.bool false,.bool false,undef,undef,undef,undef,undef,undef,undef,undef,undef,undef,.bool false,.bool false,.bool false,.pointer (some ⟨X,3,none⟩),.string ty,.bool true,.bool false,.bool false,.bool false,.pointer (some ⟨X,4,none⟩),pv,.bool false,.bool true,.bool true,.bool true,undef,undef,undef,undef,undef,.bool true,.bool true,undef,undef,undef,undef,undef,.bool true]
structure Zoy (G X bl off kl kc j m:Nat) (xi yi fr tt z1 z2 nn nr:Int) (ty:ByteArray) (nv pv:Value) (w:World):Prop where
 x0:w.cell? ⟨X,0,none⟩=some (.int .i64 xi)
 a1:decide (xi<0)=false
 g3:w.cell? ⟨G,3,none⟩=some (.int .i64 nr)
 a2:decide (nr≤xi)=false
 a3:decide ((0:Int)<(j:Int))=false
 x3:w.cell? ⟨X,3,none⟩=some (.string ty)
 k1:Calls Tryz.prog 43 #[.string ty] w fun e w'=>e=.returned (.bool true)∧Below w.heap.size w w'
 x4:w.cell? ⟨X,4,none⟩=some (pv)
 k2:Calls Tryz.prog 42 #[pv] w fun e w'=>e=.returned (.bool false)∧Below w.heap.size w w'
theorem Zs8 (G X bl off kl kc j m:Nat) (xi yi fr tt z1 z2 nn nr:Int) (ty:ByteArray) (nv pv:Value) (Q:Exit→Act→World→Prop) (base:Act) (w0:World) (hsz:base.tmps.size=149) (hb:Ju G X bl off kl kc j m xi yi fr tt z1 z2 nn nr ty nv pv base)
  (hW:∀ w,Below w0.heap.size w0 w→Zoy G X bl off kl kc j m xi yi fr tt z1 z2 nn nr ty nv pv w) (hQ:∀ c w,Zae Zf8 base c→Below w0.heap.size w0 w→c.eval (.tmp 148)=.bool true→Q .normal c w):(Code.region 13 Zf8 true).wp Tryz.prog Q base w0:=by
 refine Zr (B:=Ju G X bl off kl kc j m xi yi fr tt z1 z2 nn nr ty nv pv) (T:=Zoy G X bl off kl kc j m xi yi fr tt z1 z2 nn nr ty nv pv) (n:=52) (k:=51) Zgf Zgt (Jf3 G X bl off kl kc j m xi yi fr tt z1 z2 nn nr ty nv pv) Zgg rfl (by kernel_rfl) (by kernel_rfl) (by kernel_rfl) (by rw [hsz];kernel_rfl) (fun c hS=>⟨(Zc hS (by kernel_rfl)).trans hb.t1,(Zc hS (by kernel_rfl)).trans hb.t5,(Zc hS (by kernel_rfl)).trans hb.t6⟩) hW ?_ (by decide) rfl rfl hQ
 clear hsz hb hW hQ
 iterate 52 (refine Zd ?_ (by
  intro c w hb hW hEq
  obtain ⟨t1,t5,t6⟩:=hb
  obtain ⟨x0,a1,g3,a2,a3,x3,k1,x4,k2⟩:=hW
  have ec:=evc c
  have ef:=evf c
  dsimp only [Zgt,Zgf,Jf3,nth,Zcm,Zbd,Jl] at hEq ⊢
  first
  | exact ⟨by first | exact hEq.1 | exact hEq.2.1 | exact hEq.2.2.1 | exact hEq.2.2.2.1,.inr ⟨by first | exact .inl rfl | exact .inr rfl,rfl⟩⟩
  | ((try refine ⟨by first | exact hEq.1 | exact hEq.2.1 | exact hEq.2.2.1 | exact hEq.2.2.2.1,.inl ⟨rfl,?_⟩⟩);first | (refine Zm Tryz.call43 k1 ?_;simp only [List.map_toArray,List.map_cons,List.map_nil,hEq];done) | (refine Zm Tryz.call42 k2 ?_;simp only [List.map_toArray,List.map_cons,List.map_nil,hEq];done) | (refine .inl fun pos af=>?_;(clear k1 k2;dsimp only [Sig.oper];generalize c.eval=ρ at *;go_simp;done)) | (refine .inl fun pos af=>?_;clear k1 k2;dsimp only [Sig.oper];generalize c.eval=ρ at *;go_simp;simp only [decide_eq_true_eq,decide_eq_false_iff_not] at *;omega))))
 exact Zj
def Jf4 (G X bl off kl kc j m:Nat) (xi yi fr tt z1 z2 nn nr:Int) (ty:ByteArray) (nv pv:Value):List Value:=[.pointer (some ⟨X,0,none⟩),.int .i64 xi,.bool false,.bool false,.pointer (some ⟨X,0,none⟩),.int .i64 xi,.pointer (some ⟨G,3,none⟩),.int .i64 nr,.bool false,.bool false,.bool false,.int .i64 (j:Int),.bool false,.bool false,undef,undef,undef,undef,undef,undef,undef,undef,undef,undef,.bool false,.bool false,.bool false,.pointer (some ⟨X,3,none⟩),.string ty,.bool true,.bool false,.bool false,.bool false,.pointer (some ⟨X,4,none⟩),pv,.bool true,.bool false,.bool false,.bool false,.agg #[nv,.slice (some ⟨bl,off,none⟩) kl kc,.int .i64 nn,.int .i64 nr],.pointer (some ⟨X,1,none⟩),.int .i64 fr,.int .i64 z1,.bool true,.bool true,.bool true,undef,undef,undef,undef,undef,.bool true]
structure Zoz (G X bl off kl kc j m:Nat) (xi yi fr tt z1 z2 nn nr:Int) (ty:ByteArray) (nv pv:Value) (w:World):Prop where
 x0:w.cell? ⟨X,0,none⟩=some (.int .i64 xi)
 a1:decide (xi<0)=false
 g3:w.cell? ⟨G,3,none⟩=some (.int .i64 nr)
 a2:decide (nr≤xi)=false
 a3:decide ((0:Int)<(j:Int))=false
 x3:w.cell? ⟨X,3,none⟩=some (.string ty)
 k1:Calls Tryz.prog 43 #[.string ty] w fun e w'=>e=.returned (.bool true)∧Below w.heap.size w w'
 x4:w.cell? ⟨X,4,none⟩=some (pv)
 k2:Calls Tryz.prog 42 #[pv] w fun e w'=>e=.returned (.bool true)∧Below w.heap.size w w'
 g0:w.cell? ⟨G,0,none⟩=some (nv)
 g1:w.cell? ⟨G,1,none⟩=some (.slice (some ⟨bl,off,none⟩) kl kc)
 g2:w.cell? ⟨G,2,none⟩=some (.int .i64 nn)
 x1:w.cell? ⟨X,1,none⟩=some (.int .i64 fr)
 k3:Calls Tryz.prog 44 #[.agg #[nv,.slice (some ⟨bl,off,none⟩) kl kc,.int .i64 nn,.int .i64 nr],.int .i64 fr] w fun e w'=>e=.returned (.int .i64 z1)∧Below w.heap.size w w'
 a5:decide (z1<0)=true
theorem Zs9 (G X bl off kl kc j m:Nat) (xi yi fr tt z1 z2 nn nr:Int) (ty:ByteArray) (nv pv:Value) (Q:Exit→Act→World→Prop) (base:Act) (w0:World) (hsz:base.tmps.size=149) (hb:Ju G X bl off kl kc j m xi yi fr tt z1 z2 nn nr ty nv pv base)
  (hW:∀ w,Below w0.heap.size w0 w→Zoz G X bl off kl kc j m xi yi fr tt z1 z2 nn nr ty nv pv w) (hQ:∀ c w,Zae Zf8 base c→Below w0.heap.size w0 w→c.eval (.tmp 148)=.bool true→Q .normal c w):(Code.region 13 Zf8 true).wp Tryz.prog Q base w0:=by
 refine Zr (B:=Ju G X bl off kl kc j m xi yi fr tt z1 z2 nn nr ty nv pv) (T:=Zoz G X bl off kl kc j m xi yi fr tt z1 z2 nn nr ty nv pv) (n:=52) (k:=51) Zgf Zgt (Jf4 G X bl off kl kc j m xi yi fr tt z1 z2 nn nr ty nv pv) Zgg rfl (by kernel_rfl) (by kernel_rfl) (by kernel_rfl) (by rw [hsz];kernel_rfl) (fun c hS=>⟨(Zc hS (by kernel_rfl)).trans hb.t1,(Zc hS (by kernel_rfl)).trans hb.t5,(Zc hS (by kernel_rfl)).trans hb.t6⟩) hW ?_ (by decide) rfl rfl hQ
 clear hsz hb hW hQ
 iterate 52 (refine Zd ?_ (by
  intro c w hb hW hEq
  obtain ⟨t1,t5,t6⟩:=hb
  obtain ⟨x0,a1,g3,a2,a3,x3,k1,x4,k2,g0,g1,g2,x1,k3,a5⟩:=hW
  have ec:=evc c
  have ef:=evf c
  dsimp only [Zgt,Zgf,Jf4,nth,Zcm,Zbd,Jl] at hEq ⊢
  first
  | exact ⟨by first | exact hEq.1 | exact hEq.2.1 | exact hEq.2.2.1 | exact hEq.2.2.2.1,.inr ⟨by first | exact .inl rfl | exact .inr rfl,rfl⟩⟩
  | ((try refine ⟨by first | exact hEq.1 | exact hEq.2.1 | exact hEq.2.2.1 | exact hEq.2.2.2.1,.inl ⟨rfl,?_⟩⟩);first | (refine Zm Tryz.call43 k1 ?_;simp only [List.map_toArray,List.map_cons,List.map_nil,hEq];done) | (refine Zm Tryz.call42 k2 ?_;simp only [List.map_toArray,List.map_cons,List.map_nil,hEq];done) | (refine Zm Tryz.call44 k3 ?_;simp only [List.map_toArray,List.map_cons,List.map_nil,hEq];done) | (refine .inl fun pos af=>?_;(clear k1 k2 k3;dsimp only [Sig.oper];generalize c.eval=ρ at *;go_simp;done)) | (refine .inl fun pos af=>?_;clear k1 k2 k3;dsimp only [Sig.oper];generalize c.eval=ρ at *;go_simp;simp only [decide_eq_true_eq,decide_eq_false_iff_not] at *;omega))))
 exact Zj
def Jf5 (G X bl off kl kc j m:Nat) (xi yi fr tt z1 z2 nn nr:Int) (ty:ByteArray) (nv pv:Value):List Value:=[.pointer (some ⟨X,0,none⟩),.int .i64 xi,.bool false,.bool false,.pointer (some ⟨X,0,none⟩),.int .i64 xi,.pointer (some ⟨G,3,none⟩),.int .i64 nr,.bool false,.bool false,.bool false,.int .i64 (j:Int),.bool false,.bool false,undef,undef,undef,undef,undef,undef,undef,undef,undef,undef,.bool false,.bool false,.bool false,.pointer (some ⟨X,3,none⟩),.string ty,.bool true,.bool false,.bool false,.bool false,.pointer (some ⟨X,4,none⟩),pv,.bool true,.bool false,.bool false,.bool false,.agg #[nv,.slice (some ⟨bl,off,none⟩) kl kc,.int .i64 nn,.int .i64 nr],.pointer (some ⟨X,1,none⟩),.int .i64 fr,.int .i64 z1,.bool false,.bool false,.bool false,.agg #[nv,.slice (some ⟨bl,off,none⟩) kl kc,.int .i64 nn,.int .i64 nr],.pointer (some ⟨X,2,none⟩),.int .i64 tt,.int .i64 z2,.bool true,.bool true]
structure Zo0 (G X bl off kl kc j m:Nat) (xi yi fr tt z1 z2 nn nr:Int) (ty:ByteArray) (nv pv:Value) (w:World):Prop where
 x0:w.cell? ⟨X,0,none⟩=some (.int .i64 xi)
 a1:decide (xi<0)=false
 g3:w.cell? ⟨G,3,none⟩=some (.int .i64 nr)
 a2:decide (nr≤xi)=false
 a3:decide ((0:Int)<(j:Int))=false
 x3:w.cell? ⟨X,3,none⟩=some (.string ty)
 k1:Calls Tryz.prog 43 #[.string ty] w fun e w'=>e=.returned (.bool true)∧Below w.heap.size w w'
 x4:w.cell? ⟨X,4,none⟩=some (pv)
 k2:Calls Tryz.prog 42 #[pv] w fun e w'=>e=.returned (.bool true)∧Below w.heap.size w w'
 g0:w.cell? ⟨G,0,none⟩=some (nv)
 g1:w.cell? ⟨G,1,none⟩=some (.slice (some ⟨bl,off,none⟩) kl kc)
 g2:w.cell? ⟨G,2,none⟩=some (.int .i64 nn)
 x1:w.cell? ⟨X,1,none⟩=some (.int .i64 fr)
 k3:Calls Tryz.prog 44 #[.agg #[nv,.slice (some ⟨bl,off,none⟩) kl kc,.int .i64 nn,.int .i64 nr],.int .i64 fr] w fun e w'=>e=.returned (.int .i64 z1)∧Below w.heap.size w w'
 a5:decide (z1<0)=false
 x2:w.cell? ⟨X,2,none⟩=some (.int .i64 tt)
 k4:Calls Tryz.prog 44 #[.agg #[nv,.slice (some ⟨bl,off,none⟩) kl kc,.int .i64 nn,.int .i64 nr],.int .i64 tt] w fun e w'=>e=.returned (.int .i64 z2)∧Below w.heap.size w w'
 a6:decide (z2<0)=true
theorem Zta (G X bl off kl kc j m:Nat) (xi yi fr tt z1 z2 nn nr:Int) (ty:ByteArray) (nv pv:Value) (Q:Exit→Act→World→Prop) (base:Act) (w0:World) (hsz:base.tmps.size=149) (hb:Ju G X bl off kl kc j m xi yi fr tt z1 z2 nn nr ty nv pv base)
  (hW:∀ w,Below w0.heap.size w0 w→Zo0 G X bl off kl kc j m xi yi fr tt z1 z2 nn nr ty nv pv w) (hQ:∀ c w,Zae Zf8 base c→Below w0.heap.size w0 w→c.eval (.tmp 148)=.bool true→Q .normal c w):(Code.region 13 Zf8 true).wp Tryz.prog Q base w0:=by
 refine Zr (B:=Ju G X bl off kl kc j m xi yi fr tt z1 z2 nn nr ty nv pv) (T:=Zo0 G X bl off kl kc j m xi yi fr tt z1 z2 nn nr ty nv pv) (n:=52) (k:=51) Zgf Zgt (Jf5 G X bl off kl kc j m xi yi fr tt z1 z2 nn nr ty nv pv) Zgg rfl (by kernel_rfl) (by kernel_rfl) (by kernel_rfl) (by rw [hsz];kernel_rfl) (fun c hS=>⟨(Zc hS (by kernel_rfl)).trans hb.t1,(Zc hS (by kernel_rfl)).trans hb.t5,(Zc hS (by kernel_rfl)).trans hb.t6⟩) hW ?_ (by decide) rfl rfl hQ
 clear hsz hb hW hQ
 iterate 52 (refine Zd ?_ (by
  intro c w hb hW hEq
  obtain ⟨t1,t5,t6⟩:=hb
  obtain ⟨x0,a1,g3,a2,a3,x3,k1,x4,k2,g0,g1,g2,x1,k3,a5,x2,k4,a6⟩:=hW
  have ec:=evc c
  have ef:=evf c
  dsimp only [Zgt,Zgf,Jf5,nth,Zcm,Zbd,Jl] at hEq ⊢
  first
  | exact ⟨by first | exact hEq.1 | exact hEq.2.1 | exact hEq.2.2.1 | exact hEq.2.2.2.1,.inr ⟨by first | exact .inl rfl | exact .inr rfl,rfl⟩⟩
  | ((try refine ⟨by first | exact hEq.1 | exact hEq.2.1 | exact hEq.2.2.1 | exact hEq.2.2.2.1,.inl ⟨rfl,?_⟩⟩);first | (refine Zm Tryz.call43 k1 ?_;simp only [List.map_toArray,List.map_cons,List.map_nil,hEq];done) | (refine Zm Tryz.call42 k2 ?_;simp only [List.map_toArray,List.map_cons,List.map_nil,hEq];done) | (refine Zm Tryz.call44 k3 ?_;simp only [List.map_toArray,List.map_cons,List.map_nil,hEq];done) | (refine Zm Tryz.call44 k4 ?_;simp only [List.map_toArray,List.map_cons,List.map_nil,hEq];done) | (refine .inl fun pos af=>?_;(clear k1 k2 k3 k4;dsimp only [Sig.oper];generalize c.eval=ρ at *;go_simp;done)) | (refine .inl fun pos af=>?_;clear k1 k2 k3 k4;dsimp only [Sig.oper];generalize c.eval=ρ at *;go_simp;simp only [decide_eq_true_eq,decide_eq_false_iff_not] at *;omega))))
 exact Zj
def Jf6 (G X bl off kl kc j m:Nat) (xi yi fr tt z1 z2 nn nr:Int) (ty:ByteArray) (nv pv:Value):List Value:=[.pointer (some ⟨X,0,none⟩),.int .i64 xi,.bool false,.bool false,.pointer (some ⟨X,0,none⟩),.int .i64 xi,.pointer (some ⟨G,3,none⟩),.int .i64 nr,.bool false,.bool false,.bool false,.int .i64 (j:Int),.bool false,.bool false,undef,undef,undef,undef,undef,undef,undef,undef,undef,undef,.bool false,.bool false,.bool false,.pointer (some ⟨X,3,none⟩),.string ty,.bool true,.bool false,.bool false,.bool false,.pointer (some ⟨X,4,none⟩),pv,.bool true,.bool false,.bool false,.bool false,.agg #[nv,.slice (some ⟨bl,off,none⟩) kl kc,.int .i64 nn,.int .i64 nr],.pointer (some ⟨X,1,none⟩),.int .i64 fr,.int .i64 z1,.bool false,.bool false,.bool false,.agg #[nv,.slice (some ⟨bl,off,none⟩) kl kc,.int .i64 nn,.int .i64 nr],.pointer (some ⟨X,2,none⟩),.int .i64 tt,.int .i64 z2,.bool false,.bool false]
structure Zo1 (G X bl off kl kc j m:Nat) (xi yi fr tt z1 z2 nn nr:Int) (ty:ByteArray) (nv pv:Value) (w:World):Prop where
 x0:w.cell? ⟨X,0,none⟩=some (.int .i64 xi)
 a1:decide (xi<0)=false
 g3:w.cell? ⟨G,3,none⟩=some (.int .i64 nr)
 a2:decide (nr≤xi)=false
 a3:decide ((0:Int)<(j:Int))=false
 x3:w.cell? ⟨X,3,none⟩=some (.string ty)
 k1:Calls Tryz.prog 43 #[.string ty] w fun e w'=>e=.returned (.bool true)∧Below w.heap.size w w'
 x4:w.cell? ⟨X,4,none⟩=some (pv)
 k2:Calls Tryz.prog 42 #[pv] w fun e w'=>e=.returned (.bool true)∧Below w.heap.size w w'
 g0:w.cell? ⟨G,0,none⟩=some (nv)
 g1:w.cell? ⟨G,1,none⟩=some (.slice (some ⟨bl,off,none⟩) kl kc)
 g2:w.cell? ⟨G,2,none⟩=some (.int .i64 nn)
 x1:w.cell? ⟨X,1,none⟩=some (.int .i64 fr)
 k3:Calls Tryz.prog 44 #[.agg #[nv,.slice (some ⟨bl,off,none⟩) kl kc,.int .i64 nn,.int .i64 nr],.int .i64 fr] w fun e w'=>e=.returned (.int .i64 z1)∧Below w.heap.size w w'
 a5:decide (z1<0)=false
 x2:w.cell? ⟨X,2,none⟩=some (.int .i64 tt)
 k4:Calls Tryz.prog 44 #[.agg #[nv,.slice (some ⟨bl,off,none⟩) kl kc,.int .i64 nn,.int .i64 nr],.int .i64 tt] w fun e w'=>e=.returned (.int .i64 z2)∧Below w.heap.size w w'
 a6:decide (z2<0)=false
theorem Ztb (G X bl off kl kc j m:Nat) (xi yi fr tt z1 z2 nn nr:Int) (ty:ByteArray) (nv pv:Value) (Q:Exit→Act→World→Prop) (base:Act) (w0:World) (hsz:base.tmps.size=149) (hb:Ju G X bl off kl kc j m xi yi fr tt z1 z2 nn nr ty nv pv base)
  (hW:∀ w,Below w0.heap.size w0 w→Zo1 G X bl off kl kc j m xi yi fr tt z1 z2 nn nr ty nv pv w) (hQ:∀ c w,Zae Zf8 base c→Below w0.heap.size w0 w→c.eval (.tmp 148)=.bool false→Q .normal c w):(Code.region 13 Zf8 true).wp Tryz.prog Q base w0:=by
 refine Zr (B:=Ju G X bl off kl kc j m xi yi fr tt z1 z2 nn nr ty nv pv) (T:=Zo1 G X bl off kl kc j m xi yi fr tt z1 z2 nn nr ty nv pv) (n:=52) (k:=51) Zgf Zgt (Jf6 G X bl off kl kc j m xi yi fr tt z1 z2 nn nr ty nv pv) Zgg rfl (by kernel_rfl) (by kernel_rfl) (by kernel_rfl) (by rw [hsz];kernel_rfl) (fun c hS=>⟨(Zc hS (by kernel_rfl)).trans hb.t1,(Zc hS (by kernel_rfl)).trans hb.t5,(Zc hS (by kernel_rfl)).trans hb.t6⟩) hW ?_ (by decide) rfl rfl hQ
 clear hsz hb hW hQ
 iterate 52 (refine Zd ?_ (by
  intro c w hb hW hEq
  obtain ⟨t1,t5,t6⟩:=hb
  obtain ⟨x0,a1,g3,a2,a3,x3,k1,x4,k2,g0,g1,g2,x1,k3,a5,x2,k4,a6⟩:=hW
  have ec:=evc c
  have ef:=evf c
  dsimp only [Zgt,Zgf,Jf6,nth,Zcm,Zbd,Jl] at hEq ⊢
  first
  | exact ⟨by first | exact hEq.1 | exact hEq.2.1 | exact hEq.2.2.1 | exact hEq.2.2.2.1,.inr ⟨by first | exact .inl rfl | exact .inr rfl,rfl⟩⟩
  | ((try refine ⟨by first | exact hEq.1 | exact hEq.2.1 | exact hEq.2.2.1 | exact hEq.2.2.2.1,.inl ⟨rfl,?_⟩⟩);first | (refine Zm Tryz.call43 k1 ?_;simp only [List.map_toArray,List.map_cons,List.map_nil,hEq];done) | (refine Zm Tryz.call42 k2 ?_;simp only [List.map_toArray,List.map_cons,List.map_nil,hEq];done) | (refine Zm Tryz.call44 k3 ?_;simp only [List.map_toArray,List.map_cons,List.map_nil,hEq];done) | (refine Zm Tryz.call44 k4 ?_;simp only [List.map_toArray,List.map_cons,List.map_nil,hEq];done) | (refine .inl fun pos af=>?_;(clear k1 k2 k3 k4;dsimp only [Sig.oper];generalize c.eval=ρ at *;go_simp;done)) | (refine .inl fun pos af=>?_;clear k1 k2 k3 k4;dsimp only [Sig.oper];generalize c.eval=ρ at *;go_simp;simp only [decide_eq_true_eq,decide_eq_false_iff_not] at *;omega))))
 exact Zj
def Jf7 (G X bl off kl kc j m:Nat) (xi yi fr tt z1 z2 nn nr:Int) (ty:ByteArray) (nv pv:Value):List Value:=[.pointer (some ⟨X,0,none⟩),.int .i64 xi,.bool false,.bool false,.pointer (some ⟨X,0,none⟩),.int .i64 xi,.pointer (some ⟨G,3,none⟩),.int .i64 nr,.bool false,.bool false,.bool false,.int .i64 (j:Int),.bool true,.bool true,.pointer (some ⟨G,1,none⟩),.slice (some ⟨bl,off,none⟩) kl kc,.int .i64 (j:Int),.int .i64 (m:Int),.pointer (some ⟨bl,off+m*5,none⟩),.pointer (some ⟨bl,off+m*5,none⟩),.int .i64 yi,.pointer (some ⟨X,0,none⟩),.int .i64 xi,.bool false,.bool false,.bool false,.bool false,.pointer (some ⟨X,3,none⟩),.string ty,.bool false,.bool true,.bool true,.bool true,undef,undef,undef,undef,.bool true,.bool true,undef,undef,undef,undef,undef,.bool true,.bool true,undef,undef,undef,undef,undef,.bool true]
structure Zo2 (G X bl off kl kc j m:Nat) (xi yi fr tt z1 z2 nn nr:Int) (ty:ByteArray) (nv pv:Value) (w:World):Prop where
 x0:w.cell? ⟨X,0,none⟩=some (.int .i64 xi)
 a1:decide (xi<0)=false
 g3:w.cell? ⟨G,3,none⟩=some (.int .i64 nr)
 a2:decide (nr≤xi)=false
 a3:decide ((0:Int)<(j:Int))=true
 g1:w.cell? ⟨G,1,none⟩=some (.slice (some ⟨bl,off,none⟩) kl kc)
 kj:(j:Int) - 1=(m:Int)
 kw:IntKind.i64.wrap (m:Int)=(m:Int)
 mlt:m<kl
 le:kl≤9223372036854775807
 y0:w.cell? ⟨bl,off+m*5,none⟩=some (.int .i64 yi)
 a4:decide (xi≤yi)=false
 x3:w.cell? ⟨X,3,none⟩=some (.string ty)
 k1:Calls Tryz.prog 43 #[.string ty] w fun e w'=>e=.returned (.bool false)∧Below w.heap.size w w'
theorem Ztc (G X bl off kl kc j m:Nat) (xi yi fr tt z1 z2 nn nr:Int) (ty:ByteArray) (nv pv:Value) (Q:Exit→Act→World→Prop) (base:Act) (w0:World) (hsz:base.tmps.size=149) (hb:Ju G X bl off kl kc j m xi yi fr tt z1 z2 nn nr ty nv pv base)
  (hW:∀ w,Below w0.heap.size w0 w→Zo2 G X bl off kl kc j m xi yi fr tt z1 z2 nn nr ty nv pv w) (hQ:∀ c w,Zae Zf8 base c→Below w0.heap.size w0 w→c.eval (.tmp 148)=.bool true→Q .normal c w):(Code.region 13 Zf8 true).wp Tryz.prog Q base w0:=by
 refine Zr (B:=Ju G X bl off kl kc j m xi yi fr tt z1 z2 nn nr ty nv pv) (T:=Zo2 G X bl off kl kc j m xi yi fr tt z1 z2 nn nr ty nv pv) (n:=52) (k:=51) Zgf Zgt (Jf7 G X bl off kl kc j m xi yi fr tt z1 z2 nn nr ty nv pv) Zgg rfl (by kernel_rfl) (by kernel_rfl) (by kernel_rfl) (by rw [hsz];kernel_rfl) (fun c hS=>⟨(Zc hS (by kernel_rfl)).trans hb.t1,(Zc hS (by kernel_rfl)).trans hb.t5,(Zc hS (by kernel_rfl)).trans hb.t6⟩) hW ?_ (by decide) rfl rfl hQ
 clear hsz hb hW hQ
 iterate 52 (refine Zd ?_ (by
  intro c w hb hW hEq
  obtain ⟨t1,t5,t6⟩:=hb
  obtain ⟨x0,a1,g3,a2,a3,g1,kj,kw,mlt,le,y0,a4,x3,k1⟩:=hW
  have ec:=evc c
  have ef:=evf c
  dsimp only [Zgt,Zgf,Jf7,nth,Zcm,Zbd,Jl] at hEq ⊢
  first
  | exact ⟨by first | exact hEq.1 | exact hEq.2.1 | exact hEq.2.2.1 | exact hEq.2.2.2.1,.inr ⟨by first | exact .inl rfl | exact .inr rfl,rfl⟩⟩
  | ((try refine ⟨by first | exact hEq.1 | exact hEq.2.1 | exact hEq.2.2.1 | exact hEq.2.2.2.1,.inl ⟨rfl,?_⟩⟩);first | (refine Zm Tryz.call43 k1 ?_;simp only [List.map_toArray,List.map_cons,List.map_nil,hEq];done) | (refine .inl fun pos af=>?_;(clear k1;dsimp only [Sig.oper];generalize c.eval=ρ at *;go_simp;done)) | (refine .inl fun pos af=>?_;clear k1;dsimp only [Sig.oper];generalize c.eval=ρ at *;go_simp;simp only [decide_eq_true_eq,decide_eq_false_iff_not] at *;omega))))
 exact Zj
def Jf8 (G X bl off kl kc j m:Nat) (xi yi fr tt z1 z2 nn nr:Int) (ty:ByteArray) (nv pv:Value):List Value:=[.pointer (some ⟨X,0,none⟩),.int .i64 xi,.bool false,.bool false,.pointer (some ⟨X,0,none⟩),.int .i64 xi,.pointer (some ⟨G,3,none⟩),.int .i64 nr,.bool false,.bool false,.bool false,.int .i64 (j:Int),.bool true,.bool true,.pointer (some ⟨G,1,none⟩),.slice (some ⟨bl,off,none⟩) kl kc,.int .i64 (j:Int),.int .i64 (m:Int),.pointer (some ⟨bl,off+m*5,none⟩),.pointer (some ⟨bl,off+m*5,none⟩),.int .i64 yi,.pointer (some ⟨X,0,none⟩),.int .i64 xi,.bool false,.bool false,.bool false,.bool false,.pointer (some ⟨X,3,none⟩),.string ty,.bool true,.bool false,.bool false,.bool false,.pointer (some ⟨X,4,none⟩),pv,.bool false,.bool true,.bool true,.bool true,undef,undef,undef,undef,undef,.bool true,.bool true,undef,undef,undef,undef,undef,.bool true]
structure Zo3 (G X bl off kl kc j m:Nat) (xi yi fr tt z1 z2 nn nr:Int) (ty:ByteArray) (nv pv:Value) (w:World):Prop where
 x0:w.cell? ⟨X,0,none⟩=some (.int .i64 xi)
 a1:decide (xi<0)=false
 g3:w.cell? ⟨G,3,none⟩=some (.int .i64 nr)
 a2:decide (nr≤xi)=false
 a3:decide ((0:Int)<(j:Int))=true
 g1:w.cell? ⟨G,1,none⟩=some (.slice (some ⟨bl,off,none⟩) kl kc)
 kj:(j:Int) - 1=(m:Int)
 kw:IntKind.i64.wrap (m:Int)=(m:Int)
 mlt:m<kl
 le:kl≤9223372036854775807
 y0:w.cell? ⟨bl,off+m*5,none⟩=some (.int .i64 yi)
 a4:decide (xi≤yi)=false
 x3:w.cell? ⟨X,3,none⟩=some (.string ty)
 k1:Calls Tryz.prog 43 #[.string ty] w fun e w'=>e=.returned (.bool true)∧Below w.heap.size w w'
 x4:w.cell? ⟨X,4,none⟩=some (pv)
 k2:Calls Tryz.prog 42 #[pv] w fun e w'=>e=.returned (.bool false)∧Below w.heap.size w w'
theorem Ztd (G X bl off kl kc j m:Nat) (xi yi fr tt z1 z2 nn nr:Int) (ty:ByteArray) (nv pv:Value) (Q:Exit→Act→World→Prop) (base:Act) (w0:World) (hsz:base.tmps.size=149) (hb:Ju G X bl off kl kc j m xi yi fr tt z1 z2 nn nr ty nv pv base)
  (hW:∀ w,Below w0.heap.size w0 w→Zo3 G X bl off kl kc j m xi yi fr tt z1 z2 nn nr ty nv pv w) (hQ:∀ c w,Zae Zf8 base c→Below w0.heap.size w0 w→c.eval (.tmp 148)=.bool true→Q .normal c w):(Code.region 13 Zf8 true).wp Tryz.prog Q base w0:=by
 refine Zr (B:=Ju G X bl off kl kc j m xi yi fr tt z1 z2 nn nr ty nv pv) (T:=Zo3 G X bl off kl kc j m xi yi fr tt z1 z2 nn nr ty nv pv) (n:=52) (k:=51) Zgf Zgt (Jf8 G X bl off kl kc j m xi yi fr tt z1 z2 nn nr ty nv pv) Zgg rfl (by kernel_rfl) (by kernel_rfl) (by kernel_rfl) (by rw [hsz];kernel_rfl) (fun c hS=>⟨(Zc hS (by kernel_rfl)).trans hb.t1,(Zc hS (by kernel_rfl)).trans hb.t5,(Zc hS (by kernel_rfl)).trans hb.t6⟩) hW ?_ (by decide) rfl rfl hQ
 clear hsz hb hW hQ
 iterate 52 (refine Zd ?_ (by
  intro c w hb hW hEq
  obtain ⟨t1,t5,t6⟩:=hb
  obtain ⟨x0,a1,g3,a2,a3,g1,kj,kw,mlt,le,y0,a4,x3,k1,x4,k2⟩:=hW
  have ec:=evc c
  have ef:=evf c
  dsimp only [Zgt,Zgf,Jf8,nth,Zcm,Zbd,Jl] at hEq ⊢
  first
  | exact ⟨by first | exact hEq.1 | exact hEq.2.1 | exact hEq.2.2.1 | exact hEq.2.2.2.1,.inr ⟨by first | exact .inl rfl | exact .inr rfl,rfl⟩⟩
  | ((try refine ⟨by first | exact hEq.1 | exact hEq.2.1 | exact hEq.2.2.1 | exact hEq.2.2.2.1,.inl ⟨rfl,?_⟩⟩);first | (refine Zm Tryz.call43 k1 ?_;simp only [List.map_toArray,List.map_cons,List.map_nil,hEq];done) | (refine Zm Tryz.call42 k2 ?_;simp only [List.map_toArray,List.map_cons,List.map_nil,hEq];done) | (refine .inl fun pos af=>?_;(clear k1 k2;dsimp only [Sig.oper];generalize c.eval=ρ at *;go_simp;done)) | (refine .inl fun pos af=>?_;clear k1 k2;dsimp only [Sig.oper];generalize c.eval=ρ at *;go_simp;simp only [decide_eq_true_eq,decide_eq_false_iff_not] at *;omega))))
 exact Zj
def Jf9 (G X bl off kl kc j m:Nat) (xi yi fr tt z1 z2 nn nr:Int) (ty:ByteArray) (nv pv:Value):List Value:=[.pointer (some ⟨X,0,none⟩),.int .i64 xi,.bool false,.bool false,.pointer (some ⟨X,0,none⟩),.int .i64 xi,.pointer (some ⟨G,3,none⟩),.int .i64 nr,.bool false,.bool false,.bool false,.int .i64 (j:Int),.bool true,.bool true,.pointer (some ⟨G,1,none⟩),.slice (some ⟨bl,off,none⟩) kl kc,.int .i64 (j:Int),.int .i64 (m:Int),.pointer (some ⟨bl,off+m*5,none⟩),.pointer (some ⟨bl,off+m*5,none⟩),.int .i64 yi,.pointer (some ⟨X,0,none⟩),.int .i64 xi,.bool false,.bool false,.bool false,.bool false,.pointer (some ⟨X,3,none⟩),.string ty,.bool true,.bool false,.bool false,.bool false,.pointer (some ⟨X,4,none⟩),pv,.bool true,.bool false,.bool false,.bool false,.agg #[nv,.slice (some ⟨bl,off,none⟩) kl kc,.int .i64 nn,.int .i64 nr],.pointer (some ⟨X,1,none⟩),.int .i64 fr,.int .i64 z1,.bool true,.bool true,.bool true,undef,undef,undef,undef,undef,.bool true]
structure Zo4 (G X bl off kl kc j m:Nat) (xi yi fr tt z1 z2 nn nr:Int) (ty:ByteArray) (nv pv:Value) (w:World):Prop where
 x0:w.cell? ⟨X,0,none⟩=some (.int .i64 xi)
 a1:decide (xi<0)=false
 g3:w.cell? ⟨G,3,none⟩=some (.int .i64 nr)
 a2:decide (nr≤xi)=false
 a3:decide ((0:Int)<(j:Int))=true
 g1:w.cell? ⟨G,1,none⟩=some (.slice (some ⟨bl,off,none⟩) kl kc)
 kj:(j:Int) - 1=(m:Int)
 kw:IntKind.i64.wrap (m:Int)=(m:Int)
 mlt:m<kl
 le:kl≤9223372036854775807
 y0:w.cell? ⟨bl,off+m*5,none⟩=some (.int .i64 yi)
 a4:decide (xi≤yi)=false
 x3:w.cell? ⟨X,3,none⟩=some (.string ty)
 k1:Calls Tryz.prog 43 #[.string ty] w fun e w'=>e=.returned (.bool true)∧Below w.heap.size w w'
 x4:w.cell? ⟨X,4,none⟩=some (pv)
 k2:Calls Tryz.prog 42 #[pv] w fun e w'=>e=.returned (.bool true)∧Below w.heap.size w w'
 g0:w.cell? ⟨G,0,none⟩=some (nv)
 g2:w.cell? ⟨G,2,none⟩=some (.int .i64 nn)
 x1:w.cell? ⟨X,1,none⟩=some (.int .i64 fr)
 k3:Calls Tryz.prog 44 #[.agg #[nv,.slice (some ⟨bl,off,none⟩) kl kc,.int .i64 nn,.int .i64 nr],.int .i64 fr] w fun e w'=>e=.returned (.int .i64 z1)∧Below w.heap.size w w'
 a5:decide (z1<0)=true
theorem Zte (G X bl off kl kc j m:Nat) (xi yi fr tt z1 z2 nn nr:Int) (ty:ByteArray) (nv pv:Value) (Q:Exit→Act→World→Prop) (base:Act) (w0:World) (hsz:base.tmps.size=149) (hb:Ju G X bl off kl kc j m xi yi fr tt z1 z2 nn nr ty nv pv base)
  (hW:∀ w,Below w0.heap.size w0 w→Zo4 G X bl off kl kc j m xi yi fr tt z1 z2 nn nr ty nv pv w) (hQ:∀ c w,Zae Zf8 base c→Below w0.heap.size w0 w→c.eval (.tmp 148)=.bool true→Q .normal c w):(Code.region 13 Zf8 true).wp Tryz.prog Q base w0:=by
 refine Zr (B:=Ju G X bl off kl kc j m xi yi fr tt z1 z2 nn nr ty nv pv) (T:=Zo4 G X bl off kl kc j m xi yi fr tt z1 z2 nn nr ty nv pv) (n:=52) (k:=51) Zgf Zgt (Jf9 G X bl off kl kc j m xi yi fr tt z1 z2 nn nr ty nv pv) Zgg rfl (by kernel_rfl) (by kernel_rfl) (by kernel_rfl) (by rw [hsz];kernel_rfl) (fun c hS=>⟨(Zc hS (by kernel_rfl)).trans hb.t1,(Zc hS (by kernel_rfl)).trans hb.t5,(Zc hS (by kernel_rfl)).trans hb.t6⟩) hW ?_ (by decide) rfl rfl hQ
 clear hsz hb hW hQ
 iterate 52 (refine Zd ?_ (by
  intro c w hb hW hEq
  obtain ⟨t1,t5,t6⟩:=hb
  obtain ⟨x0,a1,g3,a2,a3,g1,kj,kw,mlt,le,y0,a4,x3,k1,x4,k2,g0,g2,x1,k3,a5⟩:=hW
  have ec:=evc c
  have ef:=evf c
  dsimp only [Zgt,Zgf,Jf9,nth,Zcm,Zbd,Jl] at hEq ⊢
  first
  | exact ⟨by first | exact hEq.1 | exact hEq.2.1 | exact hEq.2.2.1 | exact hEq.2.2.2.1,.inr ⟨by first | exact .inl rfl | exact .inr rfl,rfl⟩⟩
  | ((try refine ⟨by first | exact hEq.1 | exact hEq.2.1 | exact hEq.2.2.1 | exact hEq.2.2.2.1,.inl ⟨rfl,?_⟩⟩);first | (refine Zm Tryz.call43 k1 ?_;simp only [List.map_toArray,List.map_cons,List.map_nil,hEq];done) | (refine Zm Tryz.call42 k2 ?_;simp only [List.map_toArray,List.map_cons,List.map_nil,hEq];done) | (refine Zm Tryz.call44 k3 ?_;simp only [List.map_toArray,List.map_cons,List.map_nil,hEq];done) | (refine .inl fun pos af=>?_;(clear k1 k2 k3;dsimp only [Sig.oper];generalize c.eval=ρ at *;go_simp;done)) | (refine .inl fun pos af=>?_;clear k1 k2 k3;dsimp only [Sig.oper];generalize c.eval=ρ at *;go_simp;simp only [decide_eq_true_eq,decide_eq_false_iff_not] at *;omega))))
 exact Zj
def Jga (G X bl off kl kc j m:Nat) (xi yi fr tt z1 z2 nn nr:Int) (ty:ByteArray) (nv pv:Value):List Value:=[.pointer (some ⟨X,0,none⟩),.int .i64 xi,.bool false,.bool false,.pointer (some ⟨X,0,none⟩),.int .i64 xi,.pointer (some ⟨G,3,none⟩),.int .i64 nr,.bool false,.bool false,.bool false,.int .i64 (j:Int),.bool true,.bool true,.pointer (some ⟨G,1,none⟩),.slice (some ⟨bl,off,none⟩) kl kc,.int .i64 (j:Int),.int .i64 (m:Int),.pointer (some ⟨bl,off+m*5,none⟩),.pointer (some ⟨bl,off+m*5,none⟩),.int .i64 yi,.pointer (some ⟨X,0,none⟩),.int .i64 xi,.bool false,.bool false,.bool false,.bool false,.pointer (some ⟨X,3,none⟩),.string ty,.bool true,.bool false,.bool false,.bool false,.pointer (some ⟨X,4,none⟩),pv,.bool true,.bool false,.bool false,.bool false,.agg #[nv,.slice (some ⟨bl,off,none⟩) kl kc,.int .i64 nn,.int .i64 nr],.pointer (some ⟨X,1,none⟩),.int .i64 fr,.int .i64 z1,.bool false,.bool false,.bool false,.agg #[nv,.slice (some ⟨bl,off,none⟩) kl kc,.int .i64 nn,.int .i64 nr],.pointer (some ⟨X,2,none⟩),.int .i64 tt,.int .i64 z2,.bool true,.bool true]
structure Zo5 (G X bl off kl kc j m:Nat) (xi yi fr tt z1 z2 nn nr:Int) (ty:ByteArray) (nv pv:Value) (w:World):Prop where
 x0:w.cell? ⟨X,0,none⟩=some (.int .i64 xi)
 a1:decide (xi<0)=false
 g3:w.cell? ⟨G,3,none⟩=some (.int .i64 nr)
 a2:decide (nr≤xi)=false
 a3:decide ((0:Int)<(j:Int))=true
 g1:w.cell? ⟨G,1,none⟩=some (.slice (some ⟨bl,off,none⟩) kl kc)
 kj:(j:Int) - 1=(m:Int)
 kw:IntKind.i64.wrap (m:Int)=(m:Int)
 mlt:m<kl
 le:kl≤9223372036854775807
 y0:w.cell? ⟨bl,off+m*5,none⟩=some (.int .i64 yi)
 a4:decide (xi≤yi)=false
 x3:w.cell? ⟨X,3,none⟩=some (.string ty)
 k1:Calls Tryz.prog 43 #[.string ty] w fun e w'=>e=.returned (.bool true)∧Below w.heap.size w w'
 x4:w.cell? ⟨X,4,none⟩=some (pv)
 k2:Calls Tryz.prog 42 #[pv] w fun e w'=>e=.returned (.bool true)∧Below w.heap.size w w'
 g0:w.cell? ⟨G,0,none⟩=some (nv)
 g2:w.cell? ⟨G,2,none⟩=some (.int .i64 nn)
 x1:w.cell? ⟨X,1,none⟩=some (.int .i64 fr)
 k3:Calls Tryz.prog 44 #[.agg #[nv,.slice (some ⟨bl,off,none⟩) kl kc,.int .i64 nn,.int .i64 nr],.int .i64 fr] w fun e w'=>e=.returned (.int .i64 z1)∧Below w.heap.size w w'
 a5:decide (z1<0)=false
 x2:w.cell? ⟨X,2,none⟩=some (.int .i64 tt)
 k4:Calls Tryz.prog 44 #[.agg #[nv,.slice (some ⟨bl,off,none⟩) kl kc,.int .i64 nn,.int .i64 nr],.int .i64 tt] w fun e w'=>e=.returned (.int .i64 z2)∧Below w.heap.size w w'
 a6:decide (z2<0)=true
theorem Ztf (G X bl off kl kc j m:Nat) (xi yi fr tt z1 z2 nn nr:Int) (ty:ByteArray) (nv pv:Value) (Q:Exit→Act→World→Prop) (base:Act) (w0:World) (hsz:base.tmps.size=149) (hb:Ju G X bl off kl kc j m xi yi fr tt z1 z2 nn nr ty nv pv base)
  (hW:∀ w,Below w0.heap.size w0 w→Zo5 G X bl off kl kc j m xi yi fr tt z1 z2 nn nr ty nv pv w) (hQ:∀ c w,Zae Zf8 base c→Below w0.heap.size w0 w→c.eval (.tmp 148)=.bool true→Q .normal c w):(Code.region 13 Zf8 true).wp Tryz.prog Q base w0:=by
 refine Zr (B:=Ju G X bl off kl kc j m xi yi fr tt z1 z2 nn nr ty nv pv) (T:=Zo5 G X bl off kl kc j m xi yi fr tt z1 z2 nn nr ty nv pv) (n:=52) (k:=51) Zgf Zgt (Jga G X bl off kl kc j m xi yi fr tt z1 z2 nn nr ty nv pv) Zgg rfl (by kernel_rfl) (by kernel_rfl) (by kernel_rfl) (by rw [hsz];kernel_rfl) (fun c hS=>⟨(Zc hS (by kernel_rfl)).trans hb.t1,(Zc hS (by kernel_rfl)).trans hb.t5,(Zc hS (by kernel_rfl)).trans hb.t6⟩) hW ?_ (by decide) rfl rfl hQ
 clear hsz hb hW hQ
 iterate 52 (refine Zd ?_ (by
  intro c w hb hW hEq
  obtain ⟨t1,t5,t6⟩:=hb
  obtain ⟨x0,a1,g3,a2,a3,g1,kj,kw,mlt,le,y0,a4,x3,k1,x4,k2,g0,g2,x1,k3,a5,x2,k4,a6⟩:=hW
  have ec:=evc c
  have ef:=evf c
  dsimp only [Zgt,Zgf,Jga,nth,Zcm,Zbd,Jl] at hEq ⊢
  first
  | exact ⟨by first | exact hEq.1 | exact hEq.2.1 | exact hEq.2.2.1 | exact hEq.2.2.2.1,.inr ⟨by first | exact .inl rfl | exact .inr rfl,rfl⟩⟩
  | ((try refine ⟨by first | exact hEq.1 | exact hEq.2.1 | exact hEq.2.2.1 | exact hEq.2.2.2.1,.inl ⟨rfl,?_⟩⟩);first | (refine Zm Tryz.call43 k1 ?_;simp only [List.map_toArray,List.map_cons,List.map_nil,hEq];done) | (refine Zm Tryz.call42 k2 ?_;simp only [List.map_toArray,List.map_cons,List.map_nil,hEq];done) | (refine Zm Tryz.call44 k3 ?_;simp only [List.map_toArray,List.map_cons,List.map_nil,hEq];done) | (refine Zm Tryz.call44 k4 ?_;simp only [List.map_toArray,List.map_cons,List.map_nil,hEq];done) | (refine .inl fun pos af=>?_;(clear k1 k2 k3 k4;dsimp only [Sig.oper];generalize c.eval=ρ at *;go_simp;done)) | (refine .inl fun pos af=>?_;clear k1 k2 k3 k4;dsimp only [Sig.oper];generalize c.eval=ρ at *;go_simp;simp only [decide_eq_true_eq,decide_eq_false_iff_not] at *;omega))))
 exact Zj
def Jgb (G X bl off kl kc j m:Nat) (xi yi fr tt z1 z2 nn nr:Int) (ty:ByteArray) (nv pv:Value):List Value:=[.pointer (some ⟨X,0,none⟩),.int .i64 xi,.bool false,.bool false,.pointer (some ⟨X,0,none⟩),.int .i64 xi,.pointer (some ⟨G,3,none⟩),.int .i64 nr,.bool false,.bool false,.bool false,.int .i64 (j:Int),.bool true,.bool true,.pointer (some ⟨G,1,none⟩),.slice (some ⟨bl,off,none⟩) kl kc,.int .i64 (j:Int),.int .i64 (m:Int),.pointer (some ⟨bl,off+m*5,none⟩),.pointer (some ⟨bl,off+m*5,none⟩),.int .i64 yi,.pointer (some ⟨X,0,none⟩),.int .i64 xi,.bool false,.bool false,.bool false,.bool false,.pointer (some ⟨X,3,none⟩),.string ty,.bool true,.bool false,.bool false,.bool false,.pointer (some ⟨X,4,none⟩),pv,.bool true,.bool false,.bool false,.bool false,.agg #[nv,.slice (some ⟨bl,off,none⟩) kl kc,.int .i64 nn,.int .i64 nr],.pointer (some ⟨X,1,none⟩),.int .i64 fr,.int .i64 z1,.bool false,.bool false,.bool false,.agg #[nv,.slice (some ⟨bl,off,none⟩) kl kc,.int .i64 nn,.int .i64 nr],.pointer (some ⟨X,2,none⟩),.int .i64 tt,.int .i64 z2,.bool false,.bool false]
structure Zo6 (G X bl off kl kc j m:Nat) (xi yi fr tt z1 z2 nn nr:Int) (ty:ByteArray) (nv pv:Value) (w:World):Prop where
 x0:w.cell? ⟨X,0,none⟩=some (.int .i64 xi)
 a1:decide (xi<0)=false
 g3:w.cell? ⟨G,3,none⟩=some (.int .i64 nr)
 a2:decide (nr≤xi)=false
 a3:decide ((0:Int)<(j:Int))=true
 g1:w.cell? ⟨G,1,none⟩=some (.slice (some ⟨bl,off,none⟩) kl kc)
 kj:(j:Int) - 1=(m:Int)
 kw:IntKind.i64.wrap (m:Int)=(m:Int)
 mlt:m<kl
 le:kl≤9223372036854775807
 y0:w.cell? ⟨bl,off+m*5,none⟩=some (.int .i64 yi)
 a4:decide (xi≤yi)=false
 x3:w.cell? ⟨X,3,none⟩=some (.string ty)
 k1:Calls Tryz.prog 43 #[.string ty] w fun e w'=>e=.returned (.bool true)∧Below w.heap.size w w'
 x4:w.cell? ⟨X,4,none⟩=some (pv)
 k2:Calls Tryz.prog 42 #[pv] w fun e w'=>e=.returned (.bool true)∧Below w.heap.size w w'
 g0:w.cell? ⟨G,0,none⟩=some (nv)
 g2:w.cell? ⟨G,2,none⟩=some (.int .i64 nn)
 x1:w.cell? ⟨X,1,none⟩=some (.int .i64 fr)
 k3:Calls Tryz.prog 44 #[.agg #[nv,.slice (some ⟨bl,off,none⟩) kl kc,.int .i64 nn,.int .i64 nr],.int .i64 fr] w fun e w'=>e=.returned (.int .i64 z1)∧Below w.heap.size w w'
 a5:decide (z1<0)=false
 x2:w.cell? ⟨X,2,none⟩=some (.int .i64 tt)
 k4:Calls Tryz.prog 44 #[.agg #[nv,.slice (some ⟨bl,off,none⟩) kl kc,.int .i64 nn,.int .i64 nr],.int .i64 tt] w fun e w'=>e=.returned (.int .i64 z2)∧Below w.heap.size w w'
 a6:decide (z2<0)=false
theorem Ztg (G X bl off kl kc j m:Nat) (xi yi fr tt z1 z2 nn nr:Int) (ty:ByteArray) (nv pv:Value) (Q:Exit→Act→World→Prop) (base:Act) (w0:World) (hsz:base.tmps.size=149) (hb:Ju G X bl off kl kc j m xi yi fr tt z1 z2 nn nr ty nv pv base)
  (hW:∀ w,Below w0.heap.size w0 w→Zo6 G X bl off kl kc j m xi yi fr tt z1 z2 nn nr ty nv pv w) (hQ:∀ c w,Zae Zf8 base c→Below w0.heap.size w0 w→c.eval (.tmp 148)=.bool false→Q .normal c w):(Code.region 13 Zf8 true).wp Tryz.prog Q base w0:=by
 refine Zr (B:=Ju G X bl off kl kc j m xi yi fr tt z1 z2 nn nr ty nv pv) (T:=Zo6 G X bl off kl kc j m xi yi fr tt z1 z2 nn nr ty nv pv) (n:=52) (k:=51) Zgf Zgt (Jgb G X bl off kl kc j m xi yi fr tt z1 z2 nn nr ty nv pv) Zgg rfl (by kernel_rfl) (by kernel_rfl) (by kernel_rfl) (by rw [hsz];kernel_rfl) (fun c hS=>⟨(Zc hS (by kernel_rfl)).trans hb.t1,(Zc hS (by kernel_rfl)).trans hb.t5,(Zc hS (by kernel_rfl)).trans hb.t6⟩) hW ?_ (by decide) rfl rfl hQ
 clear hsz hb hW hQ
 iterate 52 (refine Zd ?_ (by
  intro c w hb hW hEq
  obtain ⟨t1,t5,t6⟩:=hb
  obtain ⟨x0,a1,g3,a2,a3,g1,kj,kw,mlt,le,y0,a4,x3,k1,x4,k2,g0,g2,x1,k3,a5,x2,k4,a6⟩:=hW
  have ec:=evc c
  have ef:=evf c
  dsimp only [Zgt,Zgf,Jgb,nth,Zcm,Zbd,Jl] at hEq ⊢
  first
  | exact ⟨by first | exact hEq.1 | exact hEq.2.1 | exact hEq.2.2.1 | exact hEq.2.2.2.1,.inr ⟨by first | exact .inl rfl | exact .inr rfl,rfl⟩⟩
  | ((try refine ⟨by first | exact hEq.1 | exact hEq.2.1 | exact hEq.2.2.1 | exact hEq.2.2.2.1,.inl ⟨rfl,?_⟩⟩);first | (refine Zm Tryz.call43 k1 ?_;simp only [List.map_toArray,List.map_cons,List.map_nil,hEq];done) | (refine Zm Tryz.call42 k2 ?_;simp only [List.map_toArray,List.map_cons,List.map_nil,hEq];done) | (refine Zm Tryz.call44 k3 ?_;simp only [List.map_toArray,List.map_cons,List.map_nil,hEq];done) | (refine Zm Tryz.call44 k4 ?_;simp only [List.map_toArray,List.map_cons,List.map_nil,hEq];done) | (refine .inl fun pos af=>?_;(clear k1 k2 k3 k4;dsimp only [Sig.oper];generalize c.eval=ρ at *;go_simp;done)) | (refine .inl fun pos af=>?_;clear k1 k2 k3 k4;dsimp only [Sig.oper];generalize c.eval=ρ at *;go_simp;simp only [decide_eq_true_eq,decide_eq_false_iff_not] at *;omega))))
 exact Zj
end
