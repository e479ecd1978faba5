/- May a graph be: the document's test of one node, in whatever order its operations are done. -/
import Derived.Test.YteddjlbfbpecjaaGreatDoorJoin2
import Derived.Test.YteddjlbfbpecjaaGreatDoorJoin24
import Derived.Test.YteddjlbfbpecjaaGreatDoorJoin33
namespace Go.Proofs.YteddjlbfbpecjaaGreatDoor
open Go.RowKit Go.Shelf Go.WideShapes
set_option maxHeartbeats 4000000
set_option maxRecDepth 100000
set_option linter.unusedVariables false
set_option linter.unusedSimpArgs false
noncomputable def RN7  : Array Oper:=regionAt Tryz.f14 7
def LN7  : List Sig:=[⟨47,.fieldAddr 47 (.tmp 4) 0,0,none⟩,⟨48,.load 2 (.tmp 47),2,none⟩,⟨49,.binOp .lss 2 (.tmp 48) (.const (.int .i64 0)) 2,4,none⟩,⟨50,.move (.tmp 49),4,none⟩,⟨51,.fieldAddr 47 (.tmp 4) 0,0,some (3,false)⟩,⟨52,.load 2 (.tmp 51),2,some (3,false)⟩,⟨53,.fieldAddr 25 (.tmp 1) 2,0,some (3,false)⟩,⟨54,.load 2 (.tmp 53),2,some (3,false)⟩,⟨55,.binOp .geq 2 (.tmp 52) (.tmp 54) 2,4,some (3,false)⟩,⟨56,.pick (.tmp 50) (.const (.bool true)) (.tmp 55),4,none⟩,⟨57,.move (.tmp 56),4,none⟩,⟨58,.move (.tmp 3),3,some (10,false)⟩,⟨59,.binOp .gtr 3 (.tmp 58) (.const (.int .i64 0)) 3,4,some (10,false)⟩,⟨60,.move (.tmp 59),4,some (10,false)⟩,⟨61,.fieldAddr 25 (.tmp 1) 0,0,some (13,true)⟩,⟨62,.load 22 (.tmp 61),22,some (13,true)⟩,⟨63,.move (.tmp 3),3,some (13,true)⟩,⟨64,.binOp .sub 3 (.tmp 63) (.const (.int .i64 1)) 3,3,some (13,true)⟩,⟨65,.indexAddr 22 (.tmp 62) (.tmp 64),0,some (13,true)⟩,⟨66,.fieldAddr 47 (.tmp 65) 0,0,some (13,true)⟩,⟨67,.load 2 (.tmp 66),2,some (13,true)⟩,⟨68,.fieldAddr 47 (.tmp 4) 0,0,some (13,true)⟩,⟨69,.load 2 (.tmp 68),2,some (13,true)⟩,⟨70,.binOp .geq 2 (.tmp 67) (.tmp 69) 2,4,some (13,true)⟩,⟨71,.pick (.tmp 60) (.tmp 70) (.const (.bool false)),4,some (10,false)⟩,⟨72,.pick (.tmp 57) (.const (.bool true)) (.tmp 71),4,none⟩,⟨73,.move (.tmp 72),4,none⟩,⟨74,.fieldAddr 47 (.tmp 4) 1,0,some (26,false)⟩,⟨75,.load 44 (.tmp 74),44,some (26,false)⟩,⟨76,.call { callee:=.value (.func 41),args:=#[.tmp 75],argTypes:=#[44] },4,some (26,false)⟩,⟨77,.unOp .not 4 (.tmp 76),4,some (26,false)⟩,⟨78,.pick (.tmp 73) (.const (.bool true)) (.tmp 77),4,none⟩,⟨79,.move (.tmp 78),4,none⟩,⟨80,.fieldAddr 47 (.tmp 4) 2,0,some (32,false)⟩,⟨81,.load 45 (.tmp 80),45,some (32,false)⟩,⟨82,.call { callee:=.value (.func 42),args:=#[.tmp 81],argTypes:=#[45] },4,some (32,false)⟩,⟨83,.unOp .not 4 (.tmp 82),4,some (32,false)⟩,⟨84,.pick (.tmp 79) (.const (.bool true)) (.tmp 83),4,none⟩]
theorem hLN7  : sigsOf RN7=LN7.map some:=by kernel_rfl
def AN7  : List (List Nat):=[[],[0],[1],[2],[3],[3,4],[3],[3,6],[3,5,7],[3,8],[9],[10],[10,11],[10,12],[13],[13,14],[13],[13,16],[13,15,17],[13,18],[13,19],[13],[13,21],[13,20,22],[10,13,23],[10,24],[25],[26],[26,27],[26,28],[26,29],[26,30],[31],[32],[32,33],[32,34],[32,35],[32,36]]
structure BaseN7 (G X bl off kl kc j m:Nat) (xi yi nn:Int) (la:Option Addr) (ll lc:Nat) (pv:Value) (c:Act):Prop where
 t1:c.eval (.tmp 1)=.pointer (some ⟨G,0,none⟩)
 t3:c.eval (.tmp 3)=.int .i64 (j:Int)
 t4:c.eval (.tmp 4)=.pointer (some ⟨X,0,none⟩)
def VNA (G X bl off kl kc j m:Nat) (xi yi nn:Int) (la:Option Addr) (ll lc:Nat) (pv:Value):List Value:=[.pointer (some ⟨X,0,none⟩),.int .i64 xi,.bool true,.bool true,undef,undef,undef,undef,undef,.bool true,.bool true,undef,undef,undef,undef,undef,undef,undef,undef,undef,undef,undef,undef,undef,undef,.bool true,.bool true,undef,undef,undef,undef,.bool true,.bool true,undef,undef,undef,undef,.bool true]
structure WorldNA (G X bl off kl kc j m:Nat) (xi yi nn:Int) (la:Option Addr) (ll lc:Nat) (pv:Value) (w:World):Prop where
 x0:w.cell? ⟨X,0,none⟩=some (.int .i64 xi)
 a1:decide (xi<0)=true
theorem regionNA (G X bl off kl kc j m:Nat) (xi yi nn:Int) (la:Option Addr) (ll lc:Nat) (pv:Value) (Q:Exit→Act→World→Prop) (base:Act) (w0:World) (hsz:base.tmps.size=149) (hb:BaseN7 G X bl off kl kc j m xi yi nn la ll lc pv base)
  (hW:∀ w,Below w0.heap.size w0 w→WorldNA G X bl off kl kc j m xi yi nn la ll lc pv w) (hQ:∀ c w,Same RN7 base c→Below w0.heap.size w0 w→c.eval (.tmp 84)=.bool true→Q .normal c w):(Code.region 7 RN7 true).wp Tryz.prog Q base w0:=by
 refine told_rule (B:=BaseN7 G X bl off kl kc j m xi yi nn la ll lc pv) (T:=WorldNA G X bl off kl kc j m xi yi nn la ll lc pv) (n:=38) (k:=37) LN7 AN7 (VNA G X bl off kl kc j m xi yi nn la ll lc pv) hLN7 rfl (by kernel_rfl) (by kernel_rfl) (by kernel_rfl) (by rw [hsz];kernel_rfl) (fun c hS=>⟨(same_eval hS (by kernel_rfl)).trans hb.t1,(same_eval hS (by kernel_rfl)).trans hb.t3,(same_eval hS (by kernel_rfl)).trans hb.t4⟩) hW ?_ (by decide) rfl rfl hQ
 clear hsz hb hW hQ
 iterate 38 (refine below_succ ?_ (by
  intro c w hb hW hEq
  obtain ⟨t1,t3,t4⟩:=hb
  obtain ⟨x0,a1⟩:=hW
  have ec:=evc c
  have ef:=evf c
  dsimp only [AN7,LN7,VNA,nth,EqAt,look,OpGoal] at hEq ⊢
  first
  | exact ⟨by first | exact hEq.1 | exact hEq.2.1 | exact hEq.2.2.1 | exact hEq.2.2.2.1,.inr ⟨.inl rfl,rfl⟩⟩
  | exact ⟨by first | exact hEq.1 | exact hEq.2.1 | exact hEq.2.2.1 | exact hEq.2.2.2.1,.inr ⟨.inr rfl,rfl⟩⟩
  | ((try refine ⟨by first | exact hEq.1 | exact hEq.2.1 | exact hEq.2.2.1 | exact hEq.2.2.2.1,.inl ⟨rfl,?_⟩⟩);first | (refine .inl fun pos af=>?_;(dsimp only [Sig.oper];generalize c.eval=ρ at *;go_simp;done)) | (refine .inl fun pos af=>?_;dsimp only [Sig.oper];generalize c.eval=ρ at *;go_simp;simp only [decide_eq_true_eq,decide_eq_false_iff_not] at *;omega))))
 exact below_zero
def VNB (G X bl off kl kc j m:Nat) (xi yi nn:Int) (la:Option Addr) (ll lc:Nat) (pv:Value):List Value:=[.pointer (some ⟨X,0,none⟩),.int .i64 xi,.bool false,.bool false,.pointer (some ⟨X,0,none⟩),.int .i64 xi,.pointer (some ⟨G,2,none⟩),.int .i64 nn,.bool true,.bool true,.bool true,undef,undef,undef,undef,undef,undef,undef,undef,undef,undef,undef,undef,undef,undef,.bool true,.bool true,undef,undef,undef,undef,.bool true,.bool true,undef,undef,undef,undef,.bool true]
structure WorldNB (G X bl off kl kc j m:Nat) (xi yi nn:Int) (la:Option Addr) (ll lc:Nat) (pv:Value) (w:World):Prop where
 x0:w.cell? ⟨X,0,none⟩=some (.int .i64 xi)
 a1:decide (xi<0)=false
 g2:w.cell? ⟨G,2,none⟩=some (.int .i64 nn)
 a2:decide (nn≤xi)=true
theorem regionNB (G X bl off kl kc j m:Nat) (xi yi nn:Int) (la:Option Addr) (ll lc:Nat) (pv:Value) (Q:Exit→Act→World→Prop) (base:Act) (w0:World) (hsz:base.tmps.size=149) (hb:BaseN7 G X bl off kl kc j m xi yi nn la ll lc pv base)
  (hW:∀ w,Below w0.heap.size w0 w→WorldNB G X bl off kl kc j m xi yi nn la ll lc pv w) (hQ:∀ c w,Same RN7 base c→Below w0.heap.size w0 w→c.eval (.tmp 84)=.bool true→Q .normal c w):(Code.region 7 RN7 true).wp Tryz.prog Q base w0:=by
 refine told_rule (B:=BaseN7 G X bl off kl kc j m xi yi nn la ll lc pv) (T:=WorldNB G X bl off kl kc j m xi yi nn la ll lc pv) (n:=38) (k:=37) LN7 AN7 (VNB G X bl off kl kc j m xi yi nn la ll lc pv) hLN7 rfl (by kernel_rfl) (by kernel_rfl) (by kernel_rfl) (by rw [hsz];kernel_rfl) (fun c hS=>⟨(same_eval hS (by kernel_rfl)).trans hb.t1,(same_eval hS (by kernel_rfl)).trans hb.t3,(same_eval hS (by kernel_rfl)).trans hb.t4⟩) hW ?_ (by decide) rfl rfl hQ
 clear hsz hb hW hQ
 iterate 38 (refine below_succ ?_ (by
  intro c w hb hW hEq
  obtain ⟨t1,t3,t4⟩:=hb
  obtain ⟨x0,a1,g2,a2⟩:=hW
  have ec:=evc c
  have ef:=evf c
  dsimp only [AN7,LN7,VNB,nth,EqAt,look,OpGoal] at hEq ⊢
  first
  | exact ⟨by first | exact hEq.1 | exact hEq.2.1 | exact hEq.2.2.1 | exact hEq.2.2.2.1,.inr ⟨.inl rfl,rfl⟩⟩
  | exact ⟨by first | exact hEq.1 | exact hEq.2.1 | exact hEq.2.2.1 | exact hEq.2.2.2.1,.inr ⟨.inr rfl,rfl⟩⟩
  | ((try refine ⟨by first | exact hEq.1 | exact hEq.2.1 | exact hEq.2.2.1 | exact hEq.2.2.2.1,.inl ⟨rfl,?_⟩⟩);first | (refine .inl fun pos af=>?_;(dsimp only [Sig.oper];generalize c.eval=ρ at *;go_simp;done)) | (refine .inl fun pos af=>?_;dsimp only [Sig.oper];generalize c.eval=ρ at *;go_simp;simp only [decide_eq_true_eq,decide_eq_false_iff_not] at *;omega))))
 exact below_zero
def VNC (G X bl off kl kc j m:Nat) (xi yi nn:Int) (la:Option Addr) (ll lc:Nat) (pv:Value):List Value:=[.pointer (some ⟨X,0,none⟩),.int .i64 xi,.bool false,.bool false,.pointer (some ⟨X,0,none⟩),.int .i64 xi,.pointer (some ⟨G,2,none⟩),.int .i64 nn,.bool false,.bool false,.bool false,.int .i64 (j:Int),.bool true,.bool true,.pointer (some ⟨G,0,none⟩),.slice (some ⟨bl,off,none⟩) kl kc,.int .i64 (j:Int),.int .i64 (m:Int),.pointer (some ⟨bl,off+m*3,none⟩),.pointer (some ⟨bl,off+m*3,none⟩),.int .i64 yi,.pointer (some ⟨X,0,none⟩),.int .i64 xi,.bool true,.bool true,.bool true,.bool true,undef,undef,undef,undef,.bool true,.bool true,undef,undef,undef,undef,.bool true]
structure WorldNC (G X bl off kl kc j m:Nat) (xi yi nn:Int) (la:Option Addr) (ll lc:Nat) (pv:Value) (w:World):Prop where
 x0:w.cell? ⟨X,0,none⟩=some (.int .i64 xi)
 a1:decide (xi<0)=false
 g2:w.cell? ⟨G,2,none⟩=some (.int .i64 nn)
 a2:decide (nn≤xi)=false
 a3:decide ((0:Int)<(j:Int))=true
 g0:w.cell? ⟨G,0,none⟩=some (.slice (some ⟨bl,off,none⟩) kl kc)
 kj:(j:Int) - 1=(m:Int)
 kw:IntKind.i64.wrap (m:Int)=(m:Int)
 mlt:m<kl
 le:kl≤9223372036854775807
 y0:w.cell? ⟨bl,off+m*3,none⟩=some (.int .i64 yi)
 a4:decide (xi≤yi)=true
theorem regionNC (G X bl off kl kc j m:Nat) (xi yi nn:Int) (la:Option Addr) (ll lc:Nat) (pv:Value) (Q:Exit→Act→World→Prop) (base:Act) (w0:World) (hsz:base.tmps.size=149) (hb:BaseN7 G X bl off kl kc j m xi yi nn la ll lc pv base)
  (hW:∀ w,Below w0.heap.size w0 w→WorldNC G X bl off kl kc j m xi yi nn la ll lc pv w) (hQ:∀ c w,Same RN7 base c→Below w0.heap.size w0 w→c.eval (.tmp 84)=.bool true→Q .normal c w):(Code.region 7 RN7 true).wp Tryz.prog Q base w0:=by
 refine told_rule (B:=BaseN7 G X bl off kl kc j m xi yi nn la ll lc pv) (T:=WorldNC G X bl off kl kc j m xi yi nn la ll lc pv) (n:=38) (k:=37) LN7 AN7 (VNC G X bl off kl kc j m xi yi nn la ll lc pv) hLN7 rfl (by kernel_rfl) (by kernel_rfl) (by kernel_rfl) (by rw [hsz];kernel_rfl) (fun c hS=>⟨(same_eval hS (by kernel_rfl)).trans hb.t1,(same_eval hS (by kernel_rfl)).trans hb.t3,(same_eval hS (by kernel_rfl)).trans hb.t4⟩) hW ?_ (by decide) rfl rfl hQ
 clear hsz hb hW hQ
 iterate 38 (refine below_succ ?_ (by
  intro c w hb hW hEq
  obtain ⟨t1,t3,t4⟩:=hb
  obtain ⟨x0,a1,g2,a2,a3,g0,kj,kw,mlt,le,y0,a4⟩:=hW
  have ec:=evc c
  have ef:=evf c
  dsimp only [AN7,LN7,VNC,nth,EqAt,look,OpGoal] at hEq ⊢
  first
  | exact ⟨by first | exact hEq.1 | exact hEq.2.1 | exact hEq.2.2.1 | exact hEq.2.2.2.1,.inr ⟨.inl rfl,rfl⟩⟩
  | exact ⟨by first | exact hEq.1 | exact hEq.2.1 | exact hEq.2.2.1 | exact hEq.2.2.2.1,.inr ⟨.inr rfl,rfl⟩⟩
  | ((try refine ⟨by first | exact hEq.1 | exact hEq.2.1 | exact hEq.2.2.1 | exact hEq.2.2.2.1,.inl ⟨rfl,?_⟩⟩);first | (refine .inl fun pos af=>?_;(dsimp only [Sig.oper];generalize c.eval=ρ at *;go_simp;done)) | (refine .inl fun pos af=>?_;dsimp only [Sig.oper];generalize c.eval=ρ at *;go_simp;simp only [decide_eq_true_eq,decide_eq_false_iff_not] at *;omega))))
 exact below_zero
def VND (G X bl off kl kc j m:Nat) (xi yi nn:Int) (la:Option Addr) (ll lc:Nat) (pv:Value):List Value:=[.pointer (some ⟨X,0,none⟩),.int .i64 xi,.bool false,.bool false,.pointer (some ⟨X,0,none⟩),.int .i64 xi,.pointer (some ⟨G,2,none⟩),.int .i64 nn,.bool false,.bool false,.bool false,.int .i64 (j:Int),.bool false,.bool false,undef,undef,undef,undef,undef,undef,undef,undef,undef,undef,.bool false,.bool false,.bool false,.pointer (some ⟨X,1,none⟩),.slice la ll lc,.bool false,.bool true,.bool true,.bool true,undef,undef,undef,undef,.bool true]
structure WorldND (G X bl off kl kc j m:Nat) (xi yi nn:Int) (la:Option Addr) (ll lc:Nat) (pv:Value) (w:World):Prop where
 x0:w.cell? ⟨X,0,none⟩=some (.int .i64 xi)
 a1:decide (xi<0)=false
 g2:w.cell? ⟨G,2,none⟩=some (.int .i64 nn)
 a2:decide (nn≤xi)=false
 a3:decide ((0:Int)<(j:Int))=false
 x1:w.cell? ⟨X,1,none⟩=some (.slice la ll lc)
 k1:Calls Tryz.prog 41 #[.slice la ll lc] w fun e w'=>e=.returned (.bool false)∧Below w.heap.size w w'
theorem regionND (G X bl off kl kc j m:Nat) (xi yi nn:Int) (la:Option Addr) (ll lc:Nat) (pv:Value) (Q:Exit→Act→World→Prop) (base:Act) (w0:World) (hsz:base.tmps.size=149) (hb:BaseN7 G X bl off kl kc j m xi yi nn la ll lc pv base)
  (hW:∀ w,Below w0.heap.size w0 w→WorldND G X bl off kl kc j m xi yi nn la ll lc pv w) (hQ:∀ c w,Same RN7 base c→Below w0.heap.size w0 w→c.eval (.tmp 84)=.bool true→Q .normal c w):(Code.region 7 RN7 true).wp Tryz.prog Q base w0:=by
 refine told_rule (B:=BaseN7 G X bl off kl kc j m xi yi nn la ll lc pv) (T:=WorldND G X bl off kl kc j m xi yi nn la ll lc pv) (n:=38) (k:=37) LN7 AN7 (VND G X bl off kl kc j m xi yi nn la ll lc pv) hLN7 rfl (by kernel_rfl) (by kernel_rfl) (by kernel_rfl) (by rw [hsz];kernel_rfl) (fun c hS=>⟨(same_eval hS (by kernel_rfl)).trans hb.t1,(same_eval hS (by kernel_rfl)).trans hb.t3,(same_eval hS (by kernel_rfl)).trans hb.t4⟩) hW ?_ (by decide) rfl rfl hQ
 clear hsz hb hW hQ
 iterate 38 (refine below_succ ?_ (by
  intro c w hb hW hEq
  obtain ⟨t1,t3,t4⟩:=hb
  obtain ⟨x0,a1,g2,a2,a3,x1,k1⟩:=hW
  have ec:=evc c
  have ef:=evf c
  dsimp only [AN7,LN7,VND,nth,EqAt,look,OpGoal] at hEq ⊢
  first
  | exact ⟨by first | exact hEq.1 | exact hEq.2.1 | exact hEq.2.2.1 | exact hEq.2.2.2.1,.inr ⟨.inl rfl,rfl⟩⟩
  | exact ⟨by first | exact hEq.1 | exact hEq.2.1 | exact hEq.2.2.1 | exact hEq.2.2.2.1,.inr ⟨.inr rfl,rfl⟩⟩
  | ((try refine ⟨by first | exact hEq.1 | exact hEq.2.1 | exact hEq.2.2.1 | exact hEq.2.2.2.1,.inl ⟨rfl,?_⟩⟩);first | (refine od_static Tryz.call41 k1 ?_;simp only [List.map_toArray,List.map_cons,List.map_nil,hEq];done) | (refine .inl fun pos af=>?_;(clear k1;dsimp only [Sig.oper];generalize c.eval=ρ at *;go_simp;done)) | (refine .inl fun pos af=>?_;clear k1;dsimp only [Sig.oper];generalize c.eval=ρ at *;go_simp;simp only [decide_eq_true_eq,decide_eq_false_iff_not] at *;omega))))
 exact below_zero
def VNE (G X bl off kl kc j m:Nat) (xi yi nn:Int) (la:Option Addr) (ll lc:Nat) (pv:Value):List Value:=[.pointer (some ⟨X,0,none⟩),.int .i64 xi,.bool false,.bool false,.pointer (some ⟨X,0,none⟩),.int .i64 xi,.pointer (some ⟨G,2,none⟩),.int .i64 nn,.bool false,.bool false,.bool false,.int .i64 (j:Int),.bool false,.bool false,undef,undef,undef,undef,undef,undef,undef,undef,undef,undef,.bool false,.bool false,.bool false,.pointer (some ⟨X,1,none⟩),.slice la ll lc,.bool true,.bool false,.bool false,.bool false,.pointer (some ⟨X,2,none⟩),pv,.bool false,.bool true,.bool true]
structure WorldNE (G X bl off kl kc j m:Nat) (xi yi nn:Int) (la:Option Addr) (ll lc:Nat) (pv:Value) (w:World):Prop where
 x0:w.cell? ⟨X,0,none⟩=some (.int .i64 xi)
 a1:decide (xi<0)=false
 g2:w.cell? ⟨G,2,none⟩=some (.int .i64 nn)
 a2:decide (nn≤xi)=false
 a3:decide ((0:Int)<(j:Int))=false
 x1:w.cell? ⟨X,1,none⟩=some (.slice la ll lc)
 k1:Calls Tryz.prog 41 #[.slice la ll lc] w fun e w'=>e=.returned (.bool true)∧Below w.heap.size w w'
 x2:w.cell? ⟨X,2,none⟩=some (pv)
 k2:Calls Tryz.prog 42 #[pv] w fun e w'=>e=.returned (.bool false)∧Below w.heap.size w w'
theorem regionNE (G X bl off kl kc j m:Nat) (xi yi nn:Int) (la:Option Addr) (ll lc:Nat) (pv:Value) (Q:Exit→Act→World→Prop) (base:Act) (w0:World) (hsz:base.tmps.size=149) (hb:BaseN7 G X bl off kl kc j m xi yi nn la ll lc pv base)
  (hW:∀ w,Below w0.heap.size w0 w→WorldNE G X bl off kl kc j m xi yi nn la ll lc pv w) (hQ:∀ c w,Same RN7 base c→Below w0.heap.size w0 w→c.eval (.tmp 84)=.bool true→Q .normal c w):(Code.region 7 RN7 true).wp Tryz.prog Q base w0:=by
 refine told_rule (B:=BaseN7 G X bl off kl kc j m xi yi nn la ll lc pv) (T:=WorldNE G X bl off kl kc j m xi yi nn la ll lc pv) (n:=38) (k:=37) LN7 AN7 (VNE G X bl off kl kc j m xi yi nn la ll lc pv) hLN7 rfl (by kernel_rfl) (by kernel_rfl) (by kernel_rfl) (by rw [hsz];kernel_rfl) (fun c hS=>⟨(same_eval hS (by kernel_rfl)).trans hb.t1,(same_eval hS (by kernel_rfl)).trans hb.t3,(same_eval hS (by kernel_rfl)).trans hb.t4⟩) hW ?_ (by decide) rfl rfl hQ
 clear hsz hb hW hQ
 iterate 38 (refine below_succ ?_ (by
  intro c w hb hW hEq
  obtain ⟨t1,t3,t4⟩:=hb
  obtain ⟨x0,a1,g2,a2,a3,x1,k1,x2,k2⟩:=hW
  have ec:=evc c
  have ef:=evf c
  dsimp only [AN7,LN7,VNE,nth,EqAt,look,OpGoal] at hEq ⊢
  first
  | exact ⟨by first | exact hEq.1 | exact hEq.2.1 | exact hEq.2.2.1 | exact hEq.2.2.2.1,.inr ⟨.inl rfl,rfl⟩⟩
  | exact ⟨by first | exact hEq.1 | exact hEq.2.1 | exact hEq.2.2.1 | exact hEq.2.2.2.1,.inr ⟨.inr rfl,rfl⟩⟩
  | ((try refine ⟨by first | exact hEq.1 | exact hEq.2.1 | exact hEq.2.2.1 | exact hEq.2.2.2.1,.inl ⟨rfl,?_⟩⟩);first | (refine od_static Tryz.call41 k1 ?_;simp only [List.map_toArray,List.map_cons,List.map_nil,hEq];done) | (refine od_static Tryz.call42 k2 ?_;simp only [List.map_toArray,List.map_cons,List.map_nil,hEq];done) | (refine .inl fun pos af=>?_;(clear k1 k2;dsimp only [Sig.oper];generalize c.eval=ρ at *;go_simp;done)) | (refine .inl fun pos af=>?_;clear k1 k2;dsimp only [Sig.oper];generalize c.eval=ρ at *;go_simp;simp only [decide_eq_true_eq,decide_eq_false_iff_not] at *;omega))))
 exact below_zero
def VNF (G X bl off kl kc j m:Nat) (xi yi nn:Int) (la:Option Addr) (ll lc:Nat) (pv:Value):List Value:=[.pointer (some ⟨X,0,none⟩),.int .i64 xi,.bool false,.bool false,.pointer (some ⟨X,0,none⟩),.int .i64 xi,.pointer (some ⟨G,2,none⟩),.int .i64 nn,.bool false,.bool false,.bool false,.int .i64 (j:Int),.bool false,.bool false,undef,undef,undef,undef,undef,undef,undef,undef,undef,undef,.bool false,.bool false,.bool false,.pointer (some ⟨X,1,none⟩),.slice la ll lc,.bool true,.bool false,.bool false,.bool false,.pointer (some ⟨X,2,none⟩),pv,.bool true,.bool false,.bool false]
structure WorldNF (G X bl off kl kc j m:Nat) (xi yi nn:Int) (la:Option Addr) (ll lc:Nat) (pv:Value) (w:World):Prop where
 x0:w.cell? ⟨X,0,none⟩=some (.int .i64 xi)
 a1:decide (xi<0)=false
 g2:w.cell? ⟨G,2,none⟩=some (.int .i64 nn)
 a2:decide (nn≤xi)=false
 a3:decide ((0:Int)<(j:Int))=false
 x1:w.cell? ⟨X,1,none⟩=some (.slice la ll lc)
 k1:Calls Tryz.prog 41 #[.slice la ll lc] w fun e w'=>e=.returned (.bool true)∧Below w.heap.size w w'
 x2:w.cell? ⟨X,2,none⟩=some (pv)
 k2:Calls Tryz.prog 42 #[pv] w fun e w'=>e=.returned (.bool true)∧Below w.heap.size w w'
theorem regionNF (G X bl off kl kc j m:Nat) (xi yi nn:Int) (la:Option Addr) (ll lc:Nat) (pv:Value) (Q:Exit→Act→World→Prop) (base:Act) (w0:World) (hsz:base.tmps.size=149) (hb:BaseN7 G X bl off kl kc j m xi yi nn la ll lc pv base)
  (hW:∀ w,Below w0.heap.size w0 w→WorldNF G X bl off kl kc j m xi yi nn la ll lc pv w) (hQ:∀ c w,Same RN7 base c→Below w0.heap.size w0 w→c.eval (.tmp 84)=.bool false→Q .normal c w):(Code.region 7 RN7 true).wp Tryz.prog Q base w0:=by
 refine told_rule (B:=BaseN7 G X bl off kl kc j m xi yi nn la ll lc pv) (T:=WorldNF G X bl off kl kc j m xi yi nn la ll lc pv) (n:=38) (k:=37) LN7 AN7 (VNF G X bl off kl kc j m xi yi nn la ll lc pv) hLN7 rfl (by kernel_rfl) (by kernel_rfl) (by kernel_rfl) (by rw [hsz];kernel_rfl) (fun c hS=>⟨(same_eval hS (by kernel_rfl)).trans hb.t1,(same_eval hS (by kernel_rfl)).trans hb.t3,(same_eval hS (by kernel_rfl)).trans hb.t4⟩) hW ?_ (by decide) rfl rfl hQ
 clear hsz hb hW hQ
 iterate 38 (refine below_succ ?_ (by
  intro c w hb hW hEq
  obtain ⟨t1,t3,t4⟩:=hb
  obtain ⟨x0,a1,g2,a2,a3,x1,k1,x2,k2⟩:=hW
  have ec:=evc c
  have ef:=evf c
  dsimp only [AN7,LN7,VNF,nth,EqAt,look,OpGoal] at hEq ⊢
  first
  | exact ⟨by first | exact hEq.1 | exact hEq.2.1 | exact hEq.2.2.1 | exact hEq.2.2.2.1,.inr ⟨.inl rfl,rfl⟩⟩
  | exact ⟨by first | exact hEq.1 | exact hEq.2.1 | exact hEq.2.2.1 | exact hEq.2.2.2.1,.inr ⟨.inr rfl,rfl⟩⟩
  | ((try refine ⟨by first | exact hEq.1 | exact hEq.2.1 | exact hEq.2.2.1 | exact hEq.2.2.2.1,.inl ⟨rfl,?_⟩⟩);first | (refine od_static Tryz.call41 k1 ?_;simp only [List.map_toArray,List.map_cons,List.map_nil,hEq];done) | (refine od_static Tryz.call42 k2 ?_;simp only [List.map_toArray,List.map_cons,List.map_nil,hEq];done) | (refine .inl fun pos af=>?_;(clear k1 k2;dsimp only [Sig.oper];generalize c.eval=ρ at *;go_simp;done)) | (refine .inl fun pos af=>?_;clear k1 k2;dsimp only [Sig.oper];generalize c.eval=ρ at *;go_simp;simp only [decide_eq_true_eq,decide_eq_false_iff_not] at *;omega))))
 exact below_zero
def VNG (G X bl off kl kc j m:Nat) (xi yi nn:Int) (la:Option Addr) (ll lc:Nat) (pv:Value):List Value:=[.pointer (some ⟨X,0,none⟩),.int .i64 xi,.bool false,.bool false,.pointer (some ⟨X,0,none⟩),.int .i64 xi,.pointer (some ⟨G,2,none⟩),.int .i64 nn,.bool false,.bool false,.bool false,.int .i64 (j:Int),.bool true,.bool true,.pointer (some ⟨G,0,none⟩),.slice (some ⟨bl,off,none⟩) kl kc,.int .i64 (j:Int),.int .i64 (m:Int),.pointer (some ⟨bl,off+m*3,none⟩),.pointer (some ⟨bl,off+m*3,none⟩),.int .i64 yi,.pointer (some ⟨X,0,none⟩),.int .i64 xi,.bool false,.bool false,.bool false,.bool false,.pointer (some ⟨X,1,none⟩),.slice la ll lc,.bool false,.bool true,.bool true,.bool true,undef,undef,undef,undef,.bool true]
structure WorldNG (G X bl off kl kc j m:Nat) (xi yi nn:Int) (la:Option Addr) (ll lc:Nat) (pv:Value) (w:World):Prop where
 x0:w.cell? ⟨X,0,none⟩=some (.int .i64 xi)
 a1:decide (xi<0)=false
 g2:w.cell? ⟨G,2,none⟩=some (.int .i64 nn)
 a2:decide (nn≤xi)=false
 a3:decide ((0:Int)<(j:Int))=true
 g0:w.cell? ⟨G,0,none⟩=some (.slice (some ⟨bl,off,none⟩) kl kc)
 kj:(j:Int) - 1=(m:Int)
 kw:IntKind.i64.wrap (m:Int)=(m:Int)
 mlt:m<kl
 le:kl≤9223372036854775807
 y0:w.cell? ⟨bl,off+m*3,none⟩=some (.int .i64 yi)
 a4:decide (xi≤yi)=false
 x1:w.cell? ⟨X,1,none⟩=some (.slice la ll lc)
 k1:Calls Tryz.prog 41 #[.slice la ll lc] w fun e w'=>e=.returned (.bool false)∧Below w.heap.size w w'
theorem regionNG (G X bl off kl kc j m:Nat) (xi yi nn:Int) (la:Option Addr) (ll lc:Nat) (pv:Value) (Q:Exit→Act→World→Prop) (base:Act) (w0:World) (hsz:base.tmps.size=149) (hb:BaseN7 G X bl off kl kc j m xi yi nn la ll lc pv base)
  (hW:∀ w,Below w0.heap.size w0 w→WorldNG G X bl off kl kc j m xi yi nn la ll lc pv w) (hQ:∀ c w,Same RN7 base c→Below w0.heap.size w0 w→c.eval (.tmp 84)=.bool true→Q .normal c w):(Code.region 7 RN7 true).wp Tryz.prog Q base w0:=by
 refine told_rule (B:=BaseN7 G X bl off kl kc j m xi yi nn la ll lc pv) (T:=WorldNG G X bl off kl kc j m xi yi nn la ll lc pv) (n:=38) (k:=37) LN7 AN7 (VNG G X bl off kl kc j m xi yi nn la ll lc pv) hLN7 rfl (by kernel_rfl) (by kernel_rfl) (by kernel_rfl) (by rw [hsz];kernel_rfl) (fun c hS=>⟨(same_eval hS (by kernel_rfl)).trans hb.t1,(same_eval hS (by kernel_rfl)).trans hb.t3,(same_eval hS (by kernel_rfl)).trans hb.t4⟩) hW ?_ (by decide) rfl rfl hQ
 clear hsz hb hW hQ
 iterate 38 (refine below_succ ?_ (by
  intro c w hb hW hEq
  obtain ⟨t1,t3,t4⟩:=hb
  obtain ⟨x0,a1,g2,a2,a3,g0,kj,kw,mlt,le,y0,a4,x1,k1⟩:=hW
  have ec:=evc c
  have ef:=evf c
  dsimp only [AN7,LN7,VNG,nth,EqAt,look,OpGoal] at hEq ⊢
  first
  | exact ⟨by first | exact hEq.1 | exact hEq.2.1 | exact hEq.2.2.1 | exact hEq.2.2.2.1,.inr ⟨.inl rfl,rfl⟩⟩
  | exact ⟨by first | exact hEq.1 | exact hEq.2.1 | exact hEq.2.2.1 | exact hEq.2.2.2.1,.inr ⟨.inr rfl,rfl⟩⟩
  | ((try refine ⟨by first | exact hEq.1 | exact hEq.2.1 | exact hEq.2.2.1 | exact hEq.2.2.2.1,.inl ⟨rfl,?_⟩⟩);first | (refine od_static Tryz.call41 k1 ?_;simp only [List.map_toArray,List.map_cons,List.map_nil,hEq];done) | (refine .inl fun pos af=>?_;(clear k1;dsimp only [Sig.oper];generalize c.eval=ρ at *;go_simp;done)) | (refine .inl fun pos af=>?_;clear k1;dsimp only [Sig.oper];generalize c.eval=ρ at *;go_simp;simp only [decide_eq_true_eq,decide_eq_false_iff_not] at *;omega))))
 exact below_zero
def VNH (G X bl off kl kc j m:Nat) (xi yi nn:Int) (la:Option Addr) (ll lc:Nat) (pv:Value):List Value:=[.pointer (some ⟨X,0,none⟩),.int .i64 xi,.bool false,.bool false,.pointer (some ⟨X,0,none⟩),.int .i64 xi,.pointer (some ⟨G,2,none⟩),.int .i64 nn,.bool false,.bool false,.bool false,.int .i64 (j:Int),.bool true,.bool true,.pointer (some ⟨G,0,none⟩),.slice (some ⟨bl,off,none⟩) kl kc,.int .i64 (j:Int),.int .i64 (m:Int),.pointer (some ⟨bl,off+m*3,none⟩),.pointer (some ⟨bl,off+m*3,none⟩),.int .i64 yi,.pointer (some ⟨X,0,none⟩),.int .i64 xi,.bool false,.bool false,.bool false,.bool false,.pointer (some ⟨X,1,none⟩),.slice la ll lc,.bool true,.bool false,.bool false,.bool false,.pointer (some ⟨X,2,none⟩),pv,.bool false,.bool true,.bool true]
structure WorldNH (G X bl off kl kc j m:Nat) (xi yi nn:Int) (la:Option Addr) (ll lc:Nat) (pv:Value) (w:World):Prop where
 x0:w.cell? ⟨X,0,none⟩=some (.int .i64 xi)
 a1:decide (xi<0)=false
 g2:w.cell? ⟨G,2,none⟩=some (.int .i64 nn)
 a2:decide (nn≤xi)=false
 a3:decide ((0:Int)<(j:Int))=true
 g0:w.cell? ⟨G,0,none⟩=some (.slice (some ⟨bl,off,none⟩) kl kc)
 kj:(j:Int) - 1=(m:Int)
 kw:IntKind.i64.wrap (m:Int)=(m:Int)
 mlt:m<kl
 le:kl≤9223372036854775807
 y0:w.cell? ⟨bl,off+m*3,none⟩=some (.int .i64 yi)
 a4:decide (xi≤yi)=false
 x1:w.cell? ⟨X,1,none⟩=some (.slice la ll lc)
 k1:Calls Tryz.prog 41 #[.slice la ll lc] w fun e w'=>e=.returned (.bool true)∧Below w.heap.size w w'
 x2:w.cell? ⟨X,2,none⟩=some (pv)
 k2:Calls Tryz.prog 42 #[pv] w fun e w'=>e=.returned (.bool false)∧Below w.heap.size w w'
theorem regionNH (G X bl off kl kc j m:Nat) (xi yi nn:Int) (la:Option Addr) (ll lc:Nat) (pv:Value) (Q:Exit→Act→World→Prop) (base:Act) (w0:World) (hsz:base.tmps.size=149) (hb:BaseN7 G X bl off kl kc j m xi yi nn la ll lc pv base)
  (hW:∀ w,Below w0.heap.size w0 w→WorldNH G X bl off kl kc j m xi yi nn la ll lc pv w) (hQ:∀ c w,Same RN7 base c→Below w0.heap.size w0 w→c.eval (.tmp 84)=.bool true→Q .normal c w):(Code.region 7 RN7 true).wp Tryz.prog Q base w0:=by
 refine told_rule (B:=BaseN7 G X bl off kl kc j m xi yi nn la ll lc pv) (T:=WorldNH G X bl off kl kc j m xi yi nn la ll lc pv) (n:=38) (k:=37) LN7 AN7 (VNH G X bl off kl kc j m xi yi nn la ll lc pv) hLN7 rfl (by kernel_rfl) (by kernel_rfl) (by kernel_rfl) (by rw [hsz];kernel_rfl) (fun c hS=>⟨(same_eval hS (by kernel_rfl)).trans hb.t1,(same_eval hS (by kernel_rfl)).trans hb.t3,(same_eval hS (by kernel_rfl)).trans hb.t4⟩) hW ?_ (by decide) rfl rfl hQ
 clear hsz hb hW hQ
 iterate 38 (refine below_succ ?_ (by
  intro c w hb hW hEq
  obtain ⟨t1,t3,t4⟩:=hb
  obtain ⟨x0,a1,g2,a2,a3,g0,kj,kw,mlt,le,y0,a4,x1,k1,x2,k2⟩:=hW
  have ec:=evc c
  have ef:=evf c
  dsimp only [AN7,LN7,VNH,nth,EqAt,look,OpGoal] at hEq ⊢
  first
  | exact ⟨by first | exact hEq.1 | exact hEq.2.1 | exact hEq.2.2.1 | exact hEq.2.2.2.1,.inr ⟨.inl rfl,rfl⟩⟩
  | exact ⟨by first | exact hEq.1 | exact hEq.2.1 | exact hEq.2.2.1 | exact hEq.2.2.2.1,.inr ⟨.inr rfl,rfl⟩⟩
  | ((try refine ⟨by first | exact hEq.1 | exact hEq.2.1 | exact hEq.2.2.1 | exact hEq.2.2.2.1,.inl ⟨rfl,?_⟩⟩);first | (refine od_static Tryz.call41 k1 ?_;simp only [List.map_toArray,List.map_cons,List.map_nil,hEq];done) | (refine od_static Tryz.call42 k2 ?_;simp only [List.map_toArray,List.map_cons,List.map_nil,hEq];done) | (refine .inl fun pos af=>?_;(clear k1 k2;dsimp only [Sig.oper];generalize c.eval=ρ at *;go_simp;done)) | (refine .inl fun pos af=>?_;clear k1 k2;dsimp only [Sig.oper];generalize c.eval=ρ at *;go_simp;simp only [decide_eq_true_eq,decide_eq_false_iff_not] at *;omega))))
 exact below_zero
def VNI (G X bl off kl kc j m:Nat) (xi yi nn:Int) (la:Option Addr) (ll lc:Nat) (pv:Value):List Value:=[.pointer (some ⟨X,0,none⟩),.int .i64 xi,.bool false,.bool false,.pointer (some ⟨X,0,none⟩),.int .i64 xi,.pointer (some ⟨G,2,none⟩),.int .i64 nn,.bool false,.bool false,.bool false,.int .i64 (j:Int),.bool true,.bool true,.pointer (some ⟨G,0,none⟩),.slice (some ⟨bl,off,none⟩) kl kc,.int .i64 (j:Int),.int .i64 (m:Int),.pointer (some ⟨bl,off+m*3,none⟩),.pointer (some ⟨bl,off+m*3,none⟩),.int .i64 yi,.pointer (some ⟨X,0,none⟩),.int .i64 xi,.bool false,.bool false,.bool false,.bool false,.pointer (some ⟨X,1,none⟩),.slice la ll lc,.bool true,.bool false,.bool false,.bool false,.pointer (some ⟨X,2,none⟩),pv,.bool true,.bool false,.bool false]
structure WorldNI (G X bl off kl kc j m:Nat) (xi yi nn:Int) (la:Option Addr) (ll lc:Nat) (pv:Value) (w:World):Prop where
 x0:w.cell? ⟨X,0,none⟩=some (.int .i64 xi)
 a1:decide (xi<0)=false
 g2:w.cell? ⟨G,2,none⟩=some (.int .i64 nn)
 a2:decide (nn≤xi)=false
 a3:decide ((0:Int)<(j:Int))=true
 g0:w.cell? ⟨G,0,none⟩=some (.slice (some ⟨bl,off,none⟩) kl kc)
 kj:(j:Int) - 1=(m:Int)
 kw:IntKind.i64.wrap (m:Int)=(m:Int)
 mlt:m<kl
 le:kl≤9223372036854775807
 y0:w.cell? ⟨bl,off+m*3,none⟩=some (.int .i64 yi)
 a4:decide (xi≤yi)=false
 x1:w.cell? ⟨X,1,none⟩=some (.slice la ll lc)
 k1:Calls Tryz.prog 41 #[.slice la ll lc] w fun e w'=>e=.returned (.bool true)∧Below w.heap.size w w'
 x2:w.cell? ⟨X,2,none⟩=some (pv)
 k2:Calls Tryz.prog 42 #[pv] w fun e w'=>e=.returned (.bool true)∧Below w.heap.size w w'
theorem regionNI (G X bl off kl kc j m:Nat) (xi yi nn:Int) (la:Option Addr) (ll lc:Nat) (pv:Value) (Q:Exit→Act→World→Prop) (base:Act) (w0:World) (hsz:base.tmps.size=149) (hb:BaseN7 G X bl off kl kc j m xi yi nn la ll lc pv base)
  (hW:∀ w,Below w0.heap.size w0 w→WorldNI G X bl off kl kc j m xi yi nn la ll lc pv w) (hQ:∀ c w,Same RN7 base c→Below w0.heap.size w0 w→c.eval (.tmp 84)=.bool false→Q .normal c w):(Code.region 7 RN7 true).wp Tryz.prog Q base w0:=by
 refine told_rule (B:=BaseN7 G X bl off kl kc j m xi yi nn la ll lc pv) (T:=WorldNI G X bl off kl kc j m xi yi nn la ll lc pv) (n:=38) (k:=37) LN7 AN7 (VNI G X bl off kl kc j m xi yi nn la ll lc pv) hLN7 rfl (by kernel_rfl) (by kernel_rfl) (by kernel_rfl) (by rw [hsz];kernel_rfl) (fun c hS=>⟨(same_eval hS (by kernel_rfl)).trans hb.t1,(same_eval hS (by kernel_rfl)).trans hb.t3,(same_eval hS (by kernel_rfl)).trans hb.t4⟩) hW ?_ (by decide) rfl rfl hQ
 clear hsz hb hW hQ
 iterate 38 (refine below_succ ?_ (by
  intro c w hb hW hEq
  obtain ⟨t1,t3,t4⟩:=hb
  obtain ⟨x0,a1,g2,a2,a3,g0,kj,kw,mlt,le,y0,a4,x1,k1,x2,k2⟩:=hW
  have ec:=evc c
  have ef:=evf c
  dsimp only [AN7,LN7,VNI,nth,EqAt,look,OpGoal] at hEq ⊢
  first
  | exact ⟨by first | exact hEq.1 | exact hEq.2.1 | exact hEq.2.2.1 | exact hEq.2.2.2.1,.inr ⟨.inl rfl,rfl⟩⟩
  | exact ⟨by first | exact hEq.1 | exact hEq.2.1 | exact hEq.2.2.1 | exact hEq.2.2.2.1,.inr ⟨.inr rfl,rfl⟩⟩
  | ((try refine ⟨by first | exact hEq.1 | exact hEq.2.1 | exact hEq.2.2.1 | exact hEq.2.2.2.1,.inl ⟨rfl,?_⟩⟩);first | (refine od_static Tryz.call41 k1 ?_;simp only [List.map_toArray,List.map_cons,List.map_nil,hEq];done) | (refine od_static Tryz.call42 k2 ?_;simp only [List.map_toArray,List.map_cons,List.map_nil,hEq];done) | (refine .inl fun pos af=>?_;(clear k1 k2;dsimp only [Sig.oper];generalize c.eval=ρ at *;go_simp;done)) | (refine .inl fun pos af=>?_;clear k1 k2;dsimp only [Sig.oper];generalize c.eval=ρ at *;go_simp;simp only [decide_eq_true_eq,decide_eq_false_iff_not] at *;omega))))
 exact below_zero
end Go.Proofs.YteddjlbfbpecjaaGreatDoor
