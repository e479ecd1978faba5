/- May a graph be: the document's test of one relationship, in whatever order its operations are done. -/
import Derived.Test.YteddjlbfbpecjaaGreatDoorJoin2
import Derived.Test.YteddjlbfbpecjaaGreatDoorJoin24
import Derived.Test.YteddjlbfbpecjaaGreatDoorJoin33
namespace Go.Proofs.YteddjlbfbpecjaaGreatDoor
open Go.RowKit Go.Shelf Go.WideShapes
set_option maxHeartbeats 4000000
set_option maxRecDepth 100000
set_option linter.unusedVariables false
set_option linter.unusedSimpArgs false
noncomputable def RL13  : Array Oper:=regionAt Tryz.f14 13
def LL13  : List Sig:=[⟨97,.fieldAddr 49 (.tmp 6) 0,0,none⟩,⟨98,.load 2 (.tmp 97),2,none⟩,⟨99,.binOp .lss 2 (.tmp 98) (.const (.int .i64 0)) 2,4,none⟩,⟨100,.move (.tmp 99),4,none⟩,⟨101,.fieldAddr 49 (.tmp 6) 0,0,some (3,false)⟩,⟨102,.load 2 (.tmp 101),2,some (3,false)⟩,⟨103,.fieldAddr 25 (.tmp 1) 3,0,some (3,false)⟩,⟨104,.load 2 (.tmp 103),2,some (3,false)⟩,⟨105,.binOp .geq 2 (.tmp 102) (.tmp 104) 2,4,some (3,false)⟩,⟨106,.pick (.tmp 100) (.const (.bool true)) (.tmp 105),4,none⟩,⟨107,.move (.tmp 106),4,none⟩,⟨108,.move (.tmp 5),3,some (10,false)⟩,⟨109,.binOp .gtr 3 (.tmp 108) (.const (.int .i64 0)) 3,4,some (10,false)⟩,⟨110,.move (.tmp 109),4,some (10,false)⟩,⟨111,.fieldAddr 25 (.tmp 1) 1,0,some (13,true)⟩,⟨112,.load 23 (.tmp 111),23,some (13,true)⟩,⟨113,.move (.tmp 5),3,some (13,true)⟩,⟨114,.binOp .sub 3 (.tmp 113) (.const (.int .i64 1)) 3,3,some (13,true)⟩,⟨115,.indexAddr 23 (.tmp 112) (.tmp 114),0,some (13,true)⟩,⟨116,.fieldAddr 49 (.tmp 115) 0,0,some (13,true)⟩,⟨117,.load 2 (.tmp 116),2,some (13,true)⟩,⟨118,.fieldAddr 49 (.tmp 6) 0,0,some (13,true)⟩,⟨119,.load 2 (.tmp 118),2,some (13,true)⟩,⟨120,.binOp .geq 2 (.tmp 117) (.tmp 119) 2,4,some (13,true)⟩,⟨121,.pick (.tmp 110) (.tmp 120) (.const (.bool false)),4,some (10,false)⟩,⟨122,.pick (.tmp 107) (.const (.bool true)) (.tmp 121),4,none⟩,⟨123,.move (.tmp 122),4,none⟩,⟨124,.fieldAddr 49 (.tmp 6) 3,0,some (26,false)⟩,⟨125,.load 9 (.tmp 124),9,some (26,false)⟩,⟨126,.call { callee:=.value (.func 43),args:=#[.tmp 125],argTypes:=#[9] },4,some (26,false)⟩,⟨127,.unOp .not 4 (.tmp 126),4,some (26,false)⟩,⟨128,.pick (.tmp 123) (.const (.bool true)) (.tmp 127),4,none⟩,⟨129,.move (.tmp 128),4,none⟩,⟨130,.fieldAddr 49 (.tmp 6) 4,0,some (32,false)⟩,⟨131,.load 45 (.tmp 130),45,some (32,false)⟩,⟨132,.call { callee:=.value (.func 42),args:=#[.tmp 131],argTypes:=#[45] },4,some (32,false)⟩,⟨133,.unOp .not 4 (.tmp 132),4,some (32,false)⟩,⟨134,.pick (.tmp 129) (.const (.bool true)) (.tmp 133),4,none⟩,⟨135,.move (.tmp 134),4,none⟩,⟨136,.load 25 (.tmp 1),25,some (38,false)⟩,⟨137,.fieldAddr 49 (.tmp 6) 1,0,some (38,false)⟩,⟨138,.load 2 (.tmp 137),2,some (38,false)⟩,⟨139,.call { callee:=.value (.func 44),args:=#[.tmp 136,.tmp 138],argTypes:=#[25,2] },3,some (38,false)⟩,⟨140,.binOp .lss 3 (.tmp 139) (.const (.int .i64 0)) 3,4,some (38,false)⟩,⟨141,.pick (.tmp 135) (.const (.bool true)) (.tmp 140),4,none⟩,⟨142,.move (.tmp 141),4,none⟩,⟨143,.load 25 (.tmp 1),25,some (45,false)⟩,⟨144,.fieldAddr 49 (.tmp 6) 2,0,some (45,false)⟩,⟨145,.load 2 (.tmp 144),2,some (45,false)⟩,⟨146,.call { callee:=.value (.func 44),args:=#[.tmp 143,.tmp 145],argTypes:=#[25,2] },3,some (45,false)⟩,⟨147,.binOp .lss 3 (.tmp 146) (.const (.int .i64 0)) 3,4,some (45,false)⟩,⟨148,.pick (.tmp 142) (.const (.bool true)) (.tmp 147),4,none⟩]
theorem hLL13  : sigsOf RL13=LL13.map some:=by kernel_rfl
def AL13  : List (List Nat):=[[],[0],[1],[2],[3],[3,4],[3],[3,6],[3,5,7],[3,8],[9],[10],[10,11],[10,12],[13],[13,14],[13],[13,16],[13,15,17],[13,18],[13,19],[13],[13,21],[13,20,22],[10,13,23],[10,24],[25],[26],[26,27],[26,28],[26,29],[26,30],[31],[32],[32,33],[32,34],[32,35],[32,36],[37],[38],[38],[38,40],[38,39,41],[38,42],[38,43],[44],[45],[45],[45,47],[45,46,48],[45,49],[45,50]]
structure BaseL13 (G X bl off kl kc j m:Nat) (xi yi fr tt z1 z2 nn nr:Int) (ty:ByteArray) (nv pv:Value) (c:Act):Prop where
 t1:c.eval (.tmp 1)=.pointer (some ⟨G,0,none⟩)
 t5:c.eval (.tmp 5)=.int .i64 (j:Int)
 t6:c.eval (.tmp 6)=.pointer (some ⟨X,0,none⟩)
def VLA (G X bl off kl kc j m:Nat) (xi yi fr tt z1 z2 nn nr:Int) (ty:ByteArray) (nv pv:Value):List Value:=[.pointer (some ⟨X,0,none⟩),.int .i64 xi,.bool true,.bool true,undef,undef,undef,undef,undef,.bool true,.bool true,undef,undef,undef,undef,undef,undef,undef,undef,undef,undef,undef,undef,undef,undef,.bool true,.bool true,undef,undef,undef,undef,.bool true,.bool true,undef,undef,undef,undef,.bool true,.bool true,undef,undef,undef,undef,undef,.bool true,.bool true,undef,undef,undef,undef,undef,.bool true]
structure WorldLA (G X bl off kl kc j m:Nat) (xi yi fr tt z1 z2 nn nr:Int) (ty:ByteArray) (nv pv:Value) (w:World):Prop where
 x0:w.cell? ⟨X,0,none⟩=some (.int .i64 xi)
 a1:decide (xi<0)=true
theorem regionLA (G X bl off kl kc j m:Nat) (xi yi fr tt z1 z2 nn nr:Int) (ty:ByteArray) (nv pv:Value) (Q:Exit→Act→World→Prop) (base:Act) (w0:World) (hsz:base.tmps.size=149) (hb:BaseL13 G X bl off kl kc j m xi yi fr tt z1 z2 nn nr ty nv pv base)
  (hW:∀ w,Below w0.heap.size w0 w→WorldLA G X bl off kl kc j m xi yi fr tt z1 z2 nn nr ty nv pv w) (hQ:∀ c w,Same RL13 base c→Below w0.heap.size w0 w→c.eval (.tmp 148)=.bool true→Q .normal c w):(Code.region 13 RL13 true).wp Tryz.prog Q base w0:=by
 refine told_rule (B:=BaseL13 G X bl off kl kc j m xi yi fr tt z1 z2 nn nr ty nv pv) (T:=WorldLA G X bl off kl kc j m xi yi fr tt z1 z2 nn nr ty nv pv) (n:=52) (k:=51) LL13 AL13 (VLA G X bl off kl kc j m xi yi fr tt z1 z2 nn nr ty nv pv) hLL13 rfl (by kernel_rfl) (by kernel_rfl) (by kernel_rfl) (by rw [hsz];kernel_rfl) (fun c hS=>⟨(same_eval hS (by kernel_rfl)).trans hb.t1,(same_eval hS (by kernel_rfl)).trans hb.t5,(same_eval hS (by kernel_rfl)).trans hb.t6⟩) hW ?_ (by decide) rfl rfl hQ
 clear hsz hb hW hQ
 iterate 52 (refine below_succ ?_ (by
  intro c w hb hW hEq
  obtain ⟨t1,t5,t6⟩:=hb
  obtain ⟨x0,a1⟩:=hW
  have ec:=evc c
  have ef:=evf c
  dsimp only [AL13,LL13,VLA,nth,EqAt,look,OpGoal] at hEq ⊢
  first
  | exact ⟨by first | exact hEq.1 | exact hEq.2.1 | exact hEq.2.2.1 | exact hEq.2.2.2.1,.inr ⟨.inl rfl,rfl⟩⟩
  | exact ⟨by first | exact hEq.1 | exact hEq.2.1 | exact hEq.2.2.1 | exact hEq.2.2.2.1,.inr ⟨.inr rfl,rfl⟩⟩
  | ((try refine ⟨by first | exact hEq.1 | exact hEq.2.1 | exact hEq.2.2.1 | exact hEq.2.2.2.1,.inl ⟨rfl,?_⟩⟩);first | (refine .inl fun pos af=>?_;(dsimp only [Sig.oper];generalize c.eval=ρ at *;go_simp;done)) | (refine .inl fun pos af=>?_;dsimp only [Sig.oper];generalize c.eval=ρ at *;go_simp;simp only [decide_eq_true_eq,decide_eq_false_iff_not] at *;omega))))
 exact below_zero
def VLB (G X bl off kl kc j m:Nat) (xi yi fr tt z1 z2 nn nr:Int) (ty:ByteArray) (nv pv:Value):List Value:=[.pointer (some ⟨X,0,none⟩),.int .i64 xi,.bool false,.bool false,.pointer (some ⟨X,0,none⟩),.int .i64 xi,.pointer (some ⟨G,3,none⟩),.int .i64 nr,.bool true,.bool true,.bool true,undef,undef,undef,undef,undef,undef,undef,undef,undef,undef,undef,undef,undef,undef,.bool true,.bool true,undef,undef,undef,undef,.bool true,.bool true,undef,undef,undef,undef,.bool true,.bool true,undef,undef,undef,undef,undef,.bool true,.bool true,undef,undef,undef,undef,undef,.bool true]
structure WorldLB (G X bl off kl kc j m:Nat) (xi yi fr tt z1 z2 nn nr:Int) (ty:ByteArray) (nv pv:Value) (w:World):Prop where
 x0:w.cell? ⟨X,0,none⟩=some (.int .i64 xi)
 a1:decide (xi<0)=false
 g3:w.cell? ⟨G,3,none⟩=some (.int .i64 nr)
 a2:decide (nr≤xi)=true
theorem regionLB (G X bl off kl kc j m:Nat) (xi yi fr tt z1 z2 nn nr:Int) (ty:ByteArray) (nv pv:Value) (Q:Exit→Act→World→Prop) (base:Act) (w0:World) (hsz:base.tmps.size=149) (hb:BaseL13 G X bl off kl kc j m xi yi fr tt z1 z2 nn nr ty nv pv base)
  (hW:∀ w,Below w0.heap.size w0 w→WorldLB G X bl off kl kc j m xi yi fr tt z1 z2 nn nr ty nv pv w) (hQ:∀ c w,Same RL13 base c→Below w0.heap.size w0 w→c.eval (.tmp 148)=.bool true→Q .normal c w):(Code.region 13 RL13 true).wp Tryz.prog Q base w0:=by
 refine told_rule (B:=BaseL13 G X bl off kl kc j m xi yi fr tt z1 z2 nn nr ty nv pv) (T:=WorldLB G X bl off kl kc j m xi yi fr tt z1 z2 nn nr ty nv pv) (n:=52) (k:=51) LL13 AL13 (VLB G X bl off kl kc j m xi yi fr tt z1 z2 nn nr ty nv pv) hLL13 rfl (by kernel_rfl) (by kernel_rfl) (by kernel_rfl) (by rw [hsz];kernel_rfl) (fun c hS=>⟨(same_eval hS (by kernel_rfl)).trans hb.t1,(same_eval hS (by kernel_rfl)).trans hb.t5,(same_eval hS (by kernel_rfl)).trans hb.t6⟩) hW ?_ (by decide) rfl rfl hQ
 clear hsz hb hW hQ
 iterate 52 (refine below_succ ?_ (by
  intro c w hb hW hEq
  obtain ⟨t1,t5,t6⟩:=hb
  obtain ⟨x0,a1,g3,a2⟩:=hW
  have ec:=evc c
  have ef:=evf c
  dsimp only [AL13,LL13,VLB,nth,EqAt,look,OpGoal] at hEq ⊢
  first
  | exact ⟨by first | exact hEq.1 | exact hEq.2.1 | exact hEq.2.2.1 | exact hEq.2.2.2.1,.inr ⟨.inl rfl,rfl⟩⟩
  | exact ⟨by first | exact hEq.1 | exact hEq.2.1 | exact hEq.2.2.1 | exact hEq.2.2.2.1,.inr ⟨.inr rfl,rfl⟩⟩
  | ((try refine ⟨by first | exact hEq.1 | exact hEq.2.1 | exact hEq.2.2.1 | exact hEq.2.2.2.1,.inl ⟨rfl,?_⟩⟩);first | (refine .inl fun pos af=>?_;(dsimp only [Sig.oper];generalize c.eval=ρ at *;go_simp;done)) | (refine .inl fun pos af=>?_;dsimp only [Sig.oper];generalize c.eval=ρ at *;go_simp;simp only [decide_eq_true_eq,decide_eq_false_iff_not] at *;omega))))
 exact below_zero
def VLC (G X bl off kl kc j m:Nat) (xi yi fr tt z1 z2 nn nr:Int) (ty:ByteArray) (nv pv:Value):List Value:=[.pointer (some ⟨X,0,none⟩),.int .i64 xi,.bool false,.bool false,.pointer (some ⟨X,0,none⟩),.int .i64 xi,.pointer (some ⟨G,3,none⟩),.int .i64 nr,.bool false,.bool false,.bool false,.int .i64 (j:Int),.bool true,.bool true,.pointer (some ⟨G,1,none⟩),.slice (some ⟨bl,off,none⟩) kl kc,.int .i64 (j:Int),.int .i64 (m:Int),.pointer (some ⟨bl,off+m*5,none⟩),.pointer (some ⟨bl,off+m*5,none⟩),.int .i64 yi,.pointer (some ⟨X,0,none⟩),.int .i64 xi,.bool true,.bool true,.bool true,.bool true,undef,undef,undef,undef,.bool true,.bool true,undef,undef,undef,undef,.bool true,.bool true,undef,undef,undef,undef,undef,.bool true,.bool true,undef,undef,undef,undef,undef,.bool true]
structure WorldLC (G X bl off kl kc j m:Nat) (xi yi fr tt z1 z2 nn nr:Int) (ty:ByteArray) (nv pv:Value) (w:World):Prop where
 x0:w.cell? ⟨X,0,none⟩=some (.int .i64 xi)
 a1:decide (xi<0)=false
 g3:w.cell? ⟨G,3,none⟩=some (.int .i64 nr)
 a2:decide (nr≤xi)=false
 a3:decide ((0:Int)<(j:Int))=true
 g1:w.cell? ⟨G,1,none⟩=some (.slice (some ⟨bl,off,none⟩) kl kc)
 kj:(j:Int) - 1=(m:Int)
 kw:IntKind.i64.wrap (m:Int)=(m:Int)
 mlt:m<kl
 le:kl≤9223372036854775807
 y0:w.cell? ⟨bl,off+m*5,none⟩=some (.int .i64 yi)
 a4:decide (xi≤yi)=true
theorem regionLC (G X bl off kl kc j m:Nat) (xi yi fr tt z1 z2 nn nr:Int) (ty:ByteArray) (nv pv:Value) (Q:Exit→Act→World→Prop) (base:Act) (w0:World) (hsz:base.tmps.size=149) (hb:BaseL13 G X bl off kl kc j m xi yi fr tt z1 z2 nn nr ty nv pv base)
  (hW:∀ w,Below w0.heap.size w0 w→WorldLC G X bl off kl kc j m xi yi fr tt z1 z2 nn nr ty nv pv w) (hQ:∀ c w,Same RL13 base c→Below w0.heap.size w0 w→c.eval (.tmp 148)=.bool true→Q .normal c w):(Code.region 13 RL13 true).wp Tryz.prog Q base w0:=by
 refine told_rule (B:=BaseL13 G X bl off kl kc j m xi yi fr tt z1 z2 nn nr ty nv pv) (T:=WorldLC G X bl off kl kc j m xi yi fr tt z1 z2 nn nr ty nv pv) (n:=52) (k:=51) LL13 AL13 (VLC G X bl off kl kc j m xi yi fr tt z1 z2 nn nr ty nv pv) hLL13 rfl (by kernel_rfl) (by kernel_rfl) (by kernel_rfl) (by rw [hsz];kernel_rfl) (fun c hS=>⟨(same_eval hS (by kernel_rfl)).trans hb.t1,(same_eval hS (by kernel_rfl)).trans hb.t5,(same_eval hS (by kernel_rfl)).trans hb.t6⟩) hW ?_ (by decide) rfl rfl hQ
 clear hsz hb hW hQ
 iterate 52 (refine below_succ ?_ (by
  intro c w hb hW hEq
  obtain ⟨t1,t5,t6⟩:=hb
  obtain ⟨x0,a1,g3,a2,a3,g1,kj,kw,mlt,le,y0,a4⟩:=hW
  have ec:=evc c
  have ef:=evf c
  dsimp only [AL13,LL13,VLC,nth,EqAt,look,OpGoal] at hEq ⊢
  first
  | exact ⟨by first | exact hEq.1 | exact hEq.2.1 | exact hEq.2.2.1 | exact hEq.2.2.2.1,.inr ⟨.inl rfl,rfl⟩⟩
  | exact ⟨by first | exact hEq.1 | exact hEq.2.1 | exact hEq.2.2.1 | exact hEq.2.2.2.1,.inr ⟨.inr rfl,rfl⟩⟩
  | ((try refine ⟨by first | exact hEq.1 | exact hEq.2.1 | exact hEq.2.2.1 | exact hEq.2.2.2.1,.inl ⟨rfl,?_⟩⟩);first | (refine .inl fun pos af=>?_;(dsimp only [Sig.oper];generalize c.eval=ρ at *;go_simp;done)) | (refine .inl fun pos af=>?_;dsimp only [Sig.oper];generalize c.eval=ρ at *;go_simp;simp only [decide_eq_true_eq,decide_eq_false_iff_not] at *;omega))))
 exact below_zero
def VL0A (G X bl off kl kc j m:Nat) (xi yi fr tt z1 z2 nn nr:Int) (ty:ByteArray) (nv pv:Value):List Value:=[.pointer (some ⟨X,0,none⟩),.int .i64 xi,.bool false,.bool false,.pointer (some ⟨X,0,none⟩),.int .i64 xi,.pointer (some ⟨G,3,none⟩),.int .i64 nr,.bool false,.bool false,.bool false,.int .i64 (j:Int),.bool false,.bool false,undef,undef,undef,undef,undef,undef,undef,undef,undef,undef,.bool false,.bool false,.bool false,.pointer (some ⟨X,3,none⟩),.string ty,.bool false,.bool true,.bool true,.bool true,undef,undef,undef,undef,.bool true,.bool true,undef,undef,undef,undef,undef,.bool true,.bool true,undef,undef,undef,undef,undef,.bool true]
structure WorldL0A (G X bl off kl kc j m:Nat) (xi yi fr tt z1 z2 nn nr:Int) (ty:ByteArray) (nv pv:Value) (w:World):Prop where
 x0:w.cell? ⟨X,0,none⟩=some (.int .i64 xi)
 a1:decide (xi<0)=false
 g3:w.cell? ⟨G,3,none⟩=some (.int .i64 nr)
 a2:decide (nr≤xi)=false
 a3:decide ((0:Int)<(j:Int))=false
 x3:w.cell? ⟨X,3,none⟩=some (.string ty)
 k1:Calls Tryz.prog 43 #[.string ty] w fun e w'=>e=.returned (.bool false)∧Below w.heap.size w w'
theorem regionL0A (G X bl off kl kc j m:Nat) (xi yi fr tt z1 z2 nn nr:Int) (ty:ByteArray) (nv pv:Value) (Q:Exit→Act→World→Prop) (base:Act) (w0:World) (hsz:base.tmps.size=149) (hb:BaseL13 G X bl off kl kc j m xi yi fr tt z1 z2 nn nr ty nv pv base)
  (hW:∀ w,Below w0.heap.size w0 w→WorldL0A G X bl off kl kc j m xi yi fr tt z1 z2 nn nr ty nv pv w) (hQ:∀ c w,Same RL13 base c→Below w0.heap.size w0 w→c.eval (.tmp 148)=.bool true→Q .normal c w):(Code.region 13 RL13 true).wp Tryz.prog Q base w0:=by
 refine told_rule (B:=BaseL13 G X bl off kl kc j m xi yi fr tt z1 z2 nn nr ty nv pv) (T:=WorldL0A G X bl off kl kc j m xi yi fr tt z1 z2 nn nr ty nv pv) (n:=52) (k:=51) LL13 AL13 (VL0A G X bl off kl kc j m xi yi fr tt z1 z2 nn nr ty nv pv) hLL13 rfl (by kernel_rfl) (by kernel_rfl) (by kernel_rfl) (by rw [hsz];kernel_rfl) (fun c hS=>⟨(same_eval hS (by kernel_rfl)).trans hb.t1,(same_eval hS (by kernel_rfl)).trans hb.t5,(same_eval hS (by kernel_rfl)).trans hb.t6⟩) hW ?_ (by decide) rfl rfl hQ
 clear hsz hb hW hQ
 iterate 52 (refine below_succ ?_ (by
  intro c w hb hW hEq
  obtain ⟨t1,t5,t6⟩:=hb
  obtain ⟨x0,a1,g3,a2,a3,x3,k1⟩:=hW
  have ec:=evc c
  have ef:=evf c
  dsimp only [AL13,LL13,VL0A,nth,EqAt,look,OpGoal] at hEq ⊢
  first
  | exact ⟨by first | exact hEq.1 | exact hEq.2.1 | exact hEq.2.2.1 | exact hEq.2.2.2.1,.inr ⟨.inl rfl,rfl⟩⟩
  | exact ⟨by first | exact hEq.1 | exact hEq.2.1 | exact hEq.2.2.1 | exact hEq.2.2.2.1,.inr ⟨.inr rfl,rfl⟩⟩
  | ((try refine ⟨by first | exact hEq.1 | exact hEq.2.1 | exact hEq.2.2.1 | exact hEq.2.2.2.1,.inl ⟨rfl,?_⟩⟩);first | (refine od_static Tryz.call43 k1 ?_;simp only [List.map_toArray,List.map_cons,List.map_nil,hEq];done) | (refine .inl fun pos af=>?_;(clear k1;dsimp only [Sig.oper];generalize c.eval=ρ at *;go_simp;done)) | (refine .inl fun pos af=>?_;clear k1;dsimp only [Sig.oper];generalize c.eval=ρ at *;go_simp;simp only [decide_eq_true_eq,decide_eq_false_iff_not] at *;omega))))
 exact below_zero
def VL0B (G X bl off kl kc j m:Nat) (xi yi fr tt z1 z2 nn nr:Int) (ty:ByteArray) (nv pv:Value):List Value:=[.pointer (some ⟨X,0,none⟩),.int .i64 xi,.bool false,.bool false,.pointer (some ⟨X,0,none⟩),.int .i64 xi,.pointer (some ⟨G,3,none⟩),.int .i64 nr,.bool false,.bool false,.bool false,.int .i64 (j:Int),.bool false,.bool false,undef,undef,undef,undef,undef,undef,undef,undef,undef,undef,.bool false,.bool false,.bool false,.pointer (some ⟨X,3,none⟩),.string ty,.bool true,.bool false,.bool false,.bool false,.pointer (some ⟨X,4,none⟩),pv,.bool false,.bool true,.bool true,.bool true,undef,undef,undef,undef,undef,.bool true,.bool true,undef,undef,undef,undef,undef,.bool true]
structure WorldL0B (G X bl off kl kc j m:Nat) (xi yi fr tt z1 z2 nn nr:Int) (ty:ByteArray) (nv pv:Value) (w:World):Prop where
 x0:w.cell? ⟨X,0,none⟩=some (.int .i64 xi)
 a1:decide (xi<0)=false
 g3:w.cell? ⟨G,3,none⟩=some (.int .i64 nr)
 a2:decide (nr≤xi)=false
 a3:decide ((0:Int)<(j:Int))=false
 x3:w.cell? ⟨X,3,none⟩=some (.string ty)
 k1:Calls Tryz.prog 43 #[.string ty] w fun e w'=>e=.returned (.bool true)∧Below w.heap.size w w'
 x4:w.cell? ⟨X,4,none⟩=some (pv)
 k2:Calls Tryz.prog 42 #[pv] w fun e w'=>e=.returned (.bool false)∧Below w.heap.size w w'
theorem regionL0B (G X bl off kl kc j m:Nat) (xi yi fr tt z1 z2 nn nr:Int) (ty:ByteArray) (nv pv:Value) (Q:Exit→Act→World→Prop) (base:Act) (w0:World) (hsz:base.tmps.size=149) (hb:BaseL13 G X bl off kl kc j m xi yi fr tt z1 z2 nn nr ty nv pv base)
  (hW:∀ w,Below w0.heap.size w0 w→WorldL0B G X bl off kl kc j m xi yi fr tt z1 z2 nn nr ty nv pv w) (hQ:∀ c w,Same RL13 base c→Below w0.heap.size w0 w→c.eval (.tmp 148)=.bool true→Q .normal c w):(Code.region 13 RL13 true).wp Tryz.prog Q base w0:=by
 refine told_rule (B:=BaseL13 G X bl off kl kc j m xi yi fr tt z1 z2 nn nr ty nv pv) (T:=WorldL0B G X bl off kl kc j m xi yi fr tt z1 z2 nn nr ty nv pv) (n:=52) (k:=51) LL13 AL13 (VL0B G X bl off kl kc j m xi yi fr tt z1 z2 nn nr ty nv pv) hLL13 rfl (by kernel_rfl) (by kernel_rfl) (by kernel_rfl) (by rw [hsz];kernel_rfl) (fun c hS=>⟨(same_eval hS (by kernel_rfl)).trans hb.t1,(same_eval hS (by kernel_rfl)).trans hb.t5,(same_eval hS (by kernel_rfl)).trans hb.t6⟩) hW ?_ (by decide) rfl rfl hQ
 clear hsz hb hW hQ
 iterate 52 (refine below_succ ?_ (by
  intro c w hb hW hEq
  obtain ⟨t1,t5,t6⟩:=hb
  obtain ⟨x0,a1,g3,a2,a3,x3,k1,x4,k2⟩:=hW
  have ec:=evc c
  have ef:=evf c
  dsimp only [AL13,LL13,VL0B,nth,EqAt,look,OpGoal] at hEq ⊢
  first
  | exact ⟨by first | exact hEq.1 | exact hEq.2.1 | exact hEq.2.2.1 | exact hEq.2.2.2.1,.inr ⟨.inl rfl,rfl⟩⟩
  | exact ⟨by first | exact hEq.1 | exact hEq.2.1 | exact hEq.2.2.1 | exact hEq.2.2.2.1,.inr ⟨.inr rfl,rfl⟩⟩
  | ((try refine ⟨by first | exact hEq.1 | exact hEq.2.1 | exact hEq.2.2.1 | exact hEq.2.2.2.1,.inl ⟨rfl,?_⟩⟩);first | (refine od_static Tryz.call43 k1 ?_;simp only [List.map_toArray,List.map_cons,List.map_nil,hEq];done) | (refine od_static Tryz.call42 k2 ?_;simp only [List.map_toArray,List.map_cons,List.map_nil,hEq];done) | (refine .inl fun pos af=>?_;(clear k1 k2;dsimp only [Sig.oper];generalize c.eval=ρ at *;go_simp;done)) | (refine .inl fun pos af=>?_;clear k1 k2;dsimp only [Sig.oper];generalize c.eval=ρ at *;go_simp;simp only [decide_eq_true_eq,decide_eq_false_iff_not] at *;omega))))
 exact below_zero
def VL0C (G X bl off kl kc j m:Nat) (xi yi fr tt z1 z2 nn nr:Int) (ty:ByteArray) (nv pv:Value):List Value:=[.pointer (some ⟨X,0,none⟩),.int .i64 xi,.bool false,.bool false,.pointer (some ⟨X,0,none⟩),.int .i64 xi,.pointer (some ⟨G,3,none⟩),.int .i64 nr,.bool false,.bool false,.bool false,.int .i64 (j:Int),.bool false,.bool false,undef,undef,undef,undef,undef,undef,undef,undef,undef,undef,.bool false,.bool false,.bool false,.pointer (some ⟨X,3,none⟩),.string ty,.bool true,.bool false,.bool false,.bool false,.pointer (some ⟨X,4,none⟩),pv,.bool true,.bool false,.bool false,.bool false,.agg #[nv,.slice (some ⟨bl,off,none⟩) kl kc,.int .i64 nn,.int .i64 nr],.pointer (some ⟨X,1,none⟩),.int .i64 fr,.int .i64 z1,.bool true,.bool true,.bool true,undef,undef,undef,undef,undef,.bool true]
structure WorldL0C (G X bl off kl kc j m:Nat) (xi yi fr tt z1 z2 nn nr:Int) (ty:ByteArray) (nv pv:Value) (w:World):Prop where
 x0:w.cell? ⟨X,0,none⟩=some (.int .i64 xi)
 a1:decide (xi<0)=false
 g3:w.cell? ⟨G,3,none⟩=some (.int .i64 nr)
 a2:decide (nr≤xi)=false
 a3:decide ((0:Int)<(j:Int))=false
 x3:w.cell? ⟨X,3,none⟩=some (.string ty)
 k1:Calls Tryz.prog 43 #[.string ty] w fun e w'=>e=.returned (.bool true)∧Below w.heap.size w w'
 x4:w.cell? ⟨X,4,none⟩=some (pv)
 k2:Calls Tryz.prog 42 #[pv] w fun e w'=>e=.returned (.bool true)∧Below w.heap.size w w'
 g0:w.cell? ⟨G,0,none⟩=some (nv)
 g1:w.cell? ⟨G,1,none⟩=some (.slice (some ⟨bl,off,none⟩) kl kc)
 g2:w.cell? ⟨G,2,none⟩=some (.int .i64 nn)
 x1:w.cell? ⟨X,1,none⟩=some (.int .i64 fr)
 k3:Calls Tryz.prog 44 #[.agg #[nv,.slice (some ⟨bl,off,none⟩) kl kc,.int .i64 nn,.int .i64 nr],.int .i64 fr] w fun e w'=>e=.returned (.int .i64 z1)∧Below w.heap.size w w'
 a5:decide (z1<0)=true
theorem regionL0C (G X bl off kl kc j m:Nat) (xi yi fr tt z1 z2 nn nr:Int) (ty:ByteArray) (nv pv:Value) (Q:Exit→Act→World→Prop) (base:Act) (w0:World) (hsz:base.tmps.size=149) (hb:BaseL13 G X bl off kl kc j m xi yi fr tt z1 z2 nn nr ty nv pv base)
  (hW:∀ w,Below w0.heap.size w0 w→WorldL0C G X bl off kl kc j m xi yi fr tt z1 z2 nn nr ty nv pv w) (hQ:∀ c w,Same RL13 base c→Below w0.heap.size w0 w→c.eval (.tmp 148)=.bool true→Q .normal c w):(Code.region 13 RL13 true).wp Tryz.prog Q base w0:=by
 refine told_rule (B:=BaseL13 G X bl off kl kc j m xi yi fr tt z1 z2 nn nr ty nv pv) (T:=WorldL0C G X bl off kl kc j m xi yi fr tt z1 z2 nn nr ty nv pv) (n:=52) (k:=51) LL13 AL13 (VL0C G X bl off kl kc j m xi yi fr tt z1 z2 nn nr ty nv pv) hLL13 rfl (by kernel_rfl) (by kernel_rfl) (by kernel_rfl) (by rw [hsz];kernel_rfl) (fun c hS=>⟨(same_eval hS (by kernel_rfl)).trans hb.t1,(same_eval hS (by kernel_rfl)).trans hb.t5,(same_eval hS (by kernel_rfl)).trans hb.t6⟩) hW ?_ (by decide) rfl rfl hQ
 clear hsz hb hW hQ
 iterate 52 (refine below_succ ?_ (by
  intro c w hb hW hEq
  obtain ⟨t1,t5,t6⟩:=hb
  obtain ⟨x0,a1,g3,a2,a3,x3,k1,x4,k2,g0,g1,g2,x1,k3,a5⟩:=hW
  have ec:=evc c
  have ef:=evf c
  dsimp only [AL13,LL13,VL0C,nth,EqAt,look,OpGoal] at hEq ⊢
  first
  | exact ⟨by first | exact hEq.1 | exact hEq.2.1 | exact hEq.2.2.1 | exact hEq.2.2.2.1,.inr ⟨.inl rfl,rfl⟩⟩
  | exact ⟨by first | exact hEq.1 | exact hEq.2.1 | exact hEq.2.2.1 | exact hEq.2.2.2.1,.inr ⟨.inr rfl,rfl⟩⟩
  | ((try refine ⟨by first | exact hEq.1 | exact hEq.2.1 | exact hEq.2.2.1 | exact hEq.2.2.2.1,.inl ⟨rfl,?_⟩⟩);first | (refine od_static Tryz.call43 k1 ?_;simp only [List.map_toArray,List.map_cons,List.map_nil,hEq];done) | (refine od_static Tryz.call42 k2 ?_;simp only [List.map_toArray,List.map_cons,List.map_nil,hEq];done) | (refine od_static Tryz.call44 k3 ?_;simp only [List.map_toArray,List.map_cons,List.map_nil,hEq];done) | (refine .inl fun pos af=>?_;(clear k1 k2 k3;dsimp only [Sig.oper];generalize c.eval=ρ at *;go_simp;done)) | (refine .inl fun pos af=>?_;clear k1 k2 k3;dsimp only [Sig.oper];generalize c.eval=ρ at *;go_simp;simp only [decide_eq_true_eq,decide_eq_false_iff_not] at *;omega))))
 exact below_zero
def VL0D (G X bl off kl kc j m:Nat) (xi yi fr tt z1 z2 nn nr:Int) (ty:ByteArray) (nv pv:Value):List Value:=[.pointer (some ⟨X,0,none⟩),.int .i64 xi,.bool false,.bool false,.pointer (some ⟨X,0,none⟩),.int .i64 xi,.pointer (some ⟨G,3,none⟩),.int .i64 nr,.bool false,.bool false,.bool false,.int .i64 (j:Int),.bool false,.bool false,undef,undef,undef,undef,undef,undef,undef,undef,undef,undef,.bool false,.bool false,.bool false,.pointer (some ⟨X,3,none⟩),.string ty,.bool true,.bool false,.bool false,.bool false,.pointer (some ⟨X,4,none⟩),pv,.bool true,.bool false,.bool false,.bool false,.agg #[nv,.slice (some ⟨bl,off,none⟩) kl kc,.int .i64 nn,.int .i64 nr],.pointer (some ⟨X,1,none⟩),.int .i64 fr,.int .i64 z1,.bool false,.bool false,.bool false,.agg #[nv,.slice (some ⟨bl,off,none⟩) kl kc,.int .i64 nn,.int .i64 nr],.pointer (some ⟨X,2,none⟩),.int .i64 tt,.int .i64 z2,.bool true,.bool true]
structure WorldL0D (G X bl off kl kc j m:Nat) (xi yi fr tt z1 z2 nn nr:Int) (ty:ByteArray) (nv pv:Value) (w:World):Prop where
 x0:w.cell? ⟨X,0,none⟩=some (.int .i64 xi)
 a1:decide (xi<0)=false
 g3:w.cell? ⟨G,3,none⟩=some (.int .i64 nr)
 a2:decide (nr≤xi)=false
 a3:decide ((0:Int)<(j:Int))=false
 x3:w.cell? ⟨X,3,none⟩=some (.string ty)
 k1:Calls Tryz.prog 43 #[.string ty] w fun e w'=>e=.returned (.bool true)∧Below w.heap.size w w'
 x4:w.cell? ⟨X,4,none⟩=some (pv)
 k2:Calls Tryz.prog 42 #[pv] w fun e w'=>e=.returned (.bool true)∧Below w.heap.size w w'
 g0:w.cell? ⟨G,0,none⟩=some (nv)
 g1:w.cell? ⟨G,1,none⟩=some (.slice (some ⟨bl,off,none⟩) kl kc)
 g2:w.cell? ⟨G,2,none⟩=some (.int .i64 nn)
 x1:w.cell? ⟨X,1,none⟩=some (.int .i64 fr)
 k3:Calls Tryz.prog 44 #[.agg #[nv,.slice (some ⟨bl,off,none⟩) kl kc,.int .i64 nn,.int .i64 nr],.int .i64 fr] w fun e w'=>e=.returned (.int .i64 z1)∧Below w.heap.size w w'
 a5:decide (z1<0)=false
 x2:w.cell? ⟨X,2,none⟩=some (.int .i64 tt)
 k4:Calls Tryz.prog 44 #[.agg #[nv,.slice (some ⟨bl,off,none⟩) kl kc,.int .i64 nn,.int .i64 nr],.int .i64 tt] w fun e w'=>e=.returned (.int .i64 z2)∧Below w.heap.size w w'
 a6:decide (z2<0)=true
theorem regionL0D (G X bl off kl kc j m:Nat) (xi yi fr tt z1 z2 nn nr:Int) (ty:ByteArray) (nv pv:Value) (Q:Exit→Act→World→Prop) (base:Act) (w0:World) (hsz:base.tmps.size=149) (hb:BaseL13 G X bl off kl kc j m xi yi fr tt z1 z2 nn nr ty nv pv base)
  (hW:∀ w,Below w0.heap.size w0 w→WorldL0D G X bl off kl kc j m xi yi fr tt z1 z2 nn nr ty nv pv w) (hQ:∀ c w,Same RL13 base c→Below w0.heap.size w0 w→c.eval (.tmp 148)=.bool true→Q .normal c w):(Code.region 13 RL13 true).wp Tryz.prog Q base w0:=by
 refine told_rule (B:=BaseL13 G X bl off kl kc j m xi yi fr tt z1 z2 nn nr ty nv pv) (T:=WorldL0D G X bl off kl kc j m xi yi fr tt z1 z2 nn nr ty nv pv) (n:=52) (k:=51) LL13 AL13 (VL0D G X bl off kl kc j m xi yi fr tt z1 z2 nn nr ty nv pv) hLL13 rfl (by kernel_rfl) (by kernel_rfl) (by kernel_rfl) (by rw [hsz];kernel_rfl) (fun c hS=>⟨(same_eval hS (by kernel_rfl)).trans hb.t1,(same_eval hS (by kernel_rfl)).trans hb.t5,(same_eval hS (by kernel_rfl)).trans hb.t6⟩) hW ?_ (by decide) rfl rfl hQ
 clear hsz hb hW hQ
 iterate 52 (refine below_succ ?_ (by
  intro c w hb hW hEq
  obtain ⟨t1,t5,t6⟩:=hb
  obtain ⟨x0,a1,g3,a2,a3,x3,k1,x4,k2,g0,g1,g2,x1,k3,a5,x2,k4,a6⟩:=hW
  have ec:=evc c
  have ef:=evf c
  dsimp only [AL13,LL13,VL0D,nth,EqAt,look,OpGoal] at hEq ⊢
  first
  | exact ⟨by first | exact hEq.1 | exact hEq.2.1 | exact hEq.2.2.1 | exact hEq.2.2.2.1,.inr ⟨.inl rfl,rfl⟩⟩
  | exact ⟨by first | exact hEq.1 | exact hEq.2.1 | exact hEq.2.2.1 | exact hEq.2.2.2.1,.inr ⟨.inr rfl,rfl⟩⟩
  | ((try refine ⟨by first | exact hEq.1 | exact hEq.2.1 | exact hEq.2.2.1 | exact hEq.2.2.2.1,.inl ⟨rfl,?_⟩⟩);first | (refine od_static Tryz.call43 k1 ?_;simp only [List.map_toArray,List.map_cons,List.map_nil,hEq];done) | (refine od_static Tryz.call42 k2 ?_;simp only [List.map_toArray,List.map_cons,List.map_nil,hEq];done) | (refine od_static Tryz.call44 k3 ?_;simp only [List.map_toArray,List.map_cons,List.map_nil,hEq];done) | (refine od_static Tryz.call44 k4 ?_;simp only [List.map_toArray,List.map_cons,List.map_nil,hEq];done) | (refine .inl fun pos af=>?_;(clear k1 k2 k3 k4;dsimp only [Sig.oper];generalize c.eval=ρ at *;go_simp;done)) | (refine .inl fun pos af=>?_;clear k1 k2 k3 k4;dsimp only [Sig.oper];generalize c.eval=ρ at *;go_simp;simp only [decide_eq_true_eq,decide_eq_false_iff_not] at *;omega))))
 exact below_zero
def VL0E (G X bl off kl kc j m:Nat) (xi yi fr tt z1 z2 nn nr:Int) (ty:ByteArray) (nv pv:Value):List Value:=[.pointer (some ⟨X,0,none⟩),.int .i64 xi,.bool false,.bool false,.pointer (some ⟨X,0,none⟩),.int .i64 xi,.pointer (some ⟨G,3,none⟩),.int .i64 nr,.bool false,.bool false,.bool false,.int .i64 (j:Int),.bool false,.bool false,undef,undef,undef,undef,undef,undef,undef,undef,undef,undef,.bool false,.bool false,.bool false,.pointer (some ⟨X,3,none⟩),.string ty,.bool true,.bool false,.bool false,.bool false,.pointer (some ⟨X,4,none⟩),pv,.bool true,.bool false,.bool false,.bool false,.agg #[nv,.slice (some ⟨bl,off,none⟩) kl kc,.int .i64 nn,.int .i64 nr],.pointer (some ⟨X,1,none⟩),.int .i64 fr,.int .i64 z1,.bool false,.bool false,.bool false,.agg #[nv,.slice (some ⟨bl,off,none⟩) kl kc,.int .i64 nn,.int .i64 nr],.pointer (some ⟨X,2,none⟩),.int .i64 tt,.int .i64 z2,.bool false,.bool false]
structure WorldL0E (G X bl off kl kc j m:Nat) (xi yi fr tt z1 z2 nn nr:Int) (ty:ByteArray) (nv pv:Value) (w:World):Prop where
 x0:w.cell? ⟨X,0,none⟩=some (.int .i64 xi)
 a1:decide (xi<0)=false
 g3:w.cell? ⟨G,3,none⟩=some (.int .i64 nr)
 a2:decide (nr≤xi)=false
 a3:decide ((0:Int)<(j:Int))=false
 x3:w.cell? ⟨X,3,none⟩=some (.string ty)
 k1:Calls Tryz.prog 43 #[.string ty] w fun e w'=>e=.returned (.bool true)∧Below w.heap.size w w'
 x4:w.cell? ⟨X,4,none⟩=some (pv)
 k2:Calls Tryz.prog 42 #[pv] w fun e w'=>e=.returned (.bool true)∧Below w.heap.size w w'
 g0:w.cell? ⟨G,0,none⟩=some (nv)
 g1:w.cell? ⟨G,1,none⟩=some (.slice (some ⟨bl,off,none⟩) kl kc)
 g2:w.cell? ⟨G,2,none⟩=some (.int .i64 nn)
 x1:w.cell? ⟨X,1,none⟩=some (.int .i64 fr)
 k3:Calls Tryz.prog 44 #[.agg #[nv,.slice (some ⟨bl,off,none⟩) kl kc,.int .i64 nn,.int .i64 nr],.int .i64 fr] w fun e w'=>e=.returned (.int .i64 z1)∧Below w.heap.size w w'
 a5:decide (z1<0)=false
 x2:w.cell? ⟨X,2,none⟩=some (.int .i64 tt)
 k4:Calls Tryz.prog 44 #[.agg #[nv,.slice (some ⟨bl,off,none⟩) kl kc,.int .i64 nn,.int .i64 nr],.int .i64 tt] w fun e w'=>e=.returned (.int .i64 z2)∧Below w.heap.size w w'
 a6:decide (z2<0)=false
theorem regionL0E (G X bl off kl kc j m:Nat) (xi yi fr tt z1 z2 nn nr:Int) (ty:ByteArray) (nv pv:Value) (Q:Exit→Act→World→Prop) (base:Act) (w0:World) (hsz:base.tmps.size=149) (hb:BaseL13 G X bl off kl kc j m xi yi fr tt z1 z2 nn nr ty nv pv base)
  (hW:∀ w,Below w0.heap.size w0 w→WorldL0E G X bl off kl kc j m xi yi fr tt z1 z2 nn nr ty nv pv w) (hQ:∀ c w,Same RL13 base c→Below w0.heap.size w0 w→c.eval (.tmp 148)=.bool false→Q .normal c w):(Code.region 13 RL13 true).wp Tryz.prog Q base w0:=by
 refine told_rule (B:=BaseL13 G X bl off kl kc j m xi yi fr tt z1 z2 nn nr ty nv pv) (T:=WorldL0E G X bl off kl kc j m xi yi fr tt z1 z2 nn nr ty nv pv) (n:=52) (k:=51) LL13 AL13 (VL0E G X bl off kl kc j m xi yi fr tt z1 z2 nn nr ty nv pv) hLL13 rfl (by kernel_rfl) (by kernel_rfl) (by kernel_rfl) (by rw [hsz];kernel_rfl) (fun c hS=>⟨(same_eval hS (by kernel_rfl)).trans hb.t1,(same_eval hS (by kernel_rfl)).trans hb.t5,(same_eval hS (by kernel_rfl)).trans hb.t6⟩) hW ?_ (by decide) rfl rfl hQ
 clear hsz hb hW hQ
 iterate 52 (refine below_succ ?_ (by
  intro c w hb hW hEq
  obtain ⟨t1,t5,t6⟩:=hb
  obtain ⟨x0,a1,g3,a2,a3,x3,k1,x4,k2,g0,g1,g2,x1,k3,a5,x2,k4,a6⟩:=hW
  have ec:=evc c
  have ef:=evf c
  dsimp only [AL13,LL13,VL0E,nth,EqAt,look,OpGoal] at hEq ⊢
  first
  | exact ⟨by first | exact hEq.1 | exact hEq.2.1 | exact hEq.2.2.1 | exact hEq.2.2.2.1,.inr ⟨.inl rfl,rfl⟩⟩
  | exact ⟨by first | exact hEq.1 | exact hEq.2.1 | exact hEq.2.2.1 | exact hEq.2.2.2.1,.inr ⟨.inr rfl,rfl⟩⟩
  | ((try refine ⟨by first | exact hEq.1 | exact hEq.2.1 | exact hEq.2.2.1 | exact hEq.2.2.2.1,.inl ⟨rfl,?_⟩⟩);first | (refine od_static Tryz.call43 k1 ?_;simp only [List.map_toArray,List.map_cons,List.map_nil,hEq];done) | (refine od_static Tryz.call42 k2 ?_;simp only [List.map_toArray,List.map_cons,List.map_nil,hEq];done) | (refine od_static Tryz.call44 k3 ?_;simp only [List.map_toArray,List.map_cons,List.map_nil,hEq];done) | (refine od_static Tryz.call44 k4 ?_;simp only [List.map_toArray,List.map_cons,List.map_nil,hEq];done) | (refine .inl fun pos af=>?_;(clear k1 k2 k3 k4;dsimp only [Sig.oper];generalize c.eval=ρ at *;go_simp;done)) | (refine .inl fun pos af=>?_;clear k1 k2 k3 k4;dsimp only [Sig.oper];generalize c.eval=ρ at *;go_simp;simp only [decide_eq_true_eq,decide_eq_false_iff_not] at *;omega))))
 exact below_zero
def VL1A (G X bl off kl kc j m:Nat) (xi yi fr tt z1 z2 nn nr:Int) (ty:ByteArray) (nv pv:Value):List Value:=[.pointer (some ⟨X,0,none⟩),.int .i64 xi,.bool false,.bool false,.pointer (some ⟨X,0,none⟩),.int .i64 xi,.pointer (some ⟨G,3,none⟩),.int .i64 nr,.bool false,.bool false,.bool false,.int .i64 (j:Int),.bool true,.bool true,.pointer (some ⟨G,1,none⟩),.slice (some ⟨bl,off,none⟩) kl kc,.int .i64 (j:Int),.int .i64 (m:Int),.pointer (some ⟨bl,off+m*5,none⟩),.pointer (some ⟨bl,off+m*5,none⟩),.int .i64 yi,.pointer (some ⟨X,0,none⟩),.int .i64 xi,.bool false,.bool false,.bool false,.bool false,.pointer (some ⟨X,3,none⟩),.string ty,.bool false,.bool true,.bool true,.bool true,undef,undef,undef,undef,.bool true,.bool true,undef,undef,undef,undef,undef,.bool true,.bool true,undef,undef,undef,undef,undef,.bool true]
structure WorldL1A (G X bl off kl kc j m:Nat) (xi yi fr tt z1 z2 nn nr:Int) (ty:ByteArray) (nv pv:Value) (w:World):Prop where
 x0:w.cell? ⟨X,0,none⟩=some (.int .i64 xi)
 a1:decide (xi<0)=false
 g3:w.cell? ⟨G,3,none⟩=some (.int .i64 nr)
 a2:decide (nr≤xi)=false
 a3:decide ((0:Int)<(j:Int))=true
 g1:w.cell? ⟨G,1,none⟩=some (.slice (some ⟨bl,off,none⟩) kl kc)
 kj:(j:Int) - 1=(m:Int)
 kw:IntKind.i64.wrap (m:Int)=(m:Int)
 mlt:m<kl
 le:kl≤9223372036854775807
 y0:w.cell? ⟨bl,off+m*5,none⟩=some (.int .i64 yi)
 a4:decide (xi≤yi)=false
 x3:w.cell? ⟨X,3,none⟩=some (.string ty)
 k1:Calls Tryz.prog 43 #[.string ty] w fun e w'=>e=.returned (.bool false)∧Below w.heap.size w w'
theorem regionL1A (G X bl off kl kc j m:Nat) (xi yi fr tt z1 z2 nn nr:Int) (ty:ByteArray) (nv pv:Value) (Q:Exit→Act→World→Prop) (base:Act) (w0:World) (hsz:base.tmps.size=149) (hb:BaseL13 G X bl off kl kc j m xi yi fr tt z1 z2 nn nr ty nv pv base)
  (hW:∀ w,Below w0.heap.size w0 w→WorldL1A G X bl off kl kc j m xi yi fr tt z1 z2 nn nr ty nv pv w) (hQ:∀ c w,Same RL13 base c→Below w0.heap.size w0 w→c.eval (.tmp 148)=.bool true→Q .normal c w):(Code.region 13 RL13 true).wp Tryz.prog Q base w0:=by
 refine told_rule (B:=BaseL13 G X bl off kl kc j m xi yi fr tt z1 z2 nn nr ty nv pv) (T:=WorldL1A G X bl off kl kc j m xi yi fr tt z1 z2 nn nr ty nv pv) (n:=52) (k:=51) LL13 AL13 (VL1A G X bl off kl kc j m xi yi fr tt z1 z2 nn nr ty nv pv) hLL13 rfl (by kernel_rfl) (by kernel_rfl) (by kernel_rfl) (by rw [hsz];kernel_rfl) (fun c hS=>⟨(same_eval hS (by kernel_rfl)).trans hb.t1,(same_eval hS (by kernel_rfl)).trans hb.t5,(same_eval hS (by kernel_rfl)).trans hb.t6⟩) hW ?_ (by decide) rfl rfl hQ
 clear hsz hb hW hQ
 iterate 52 (refine below_succ ?_ (by
  intro c w hb hW hEq
  obtain ⟨t1,t5,t6⟩:=hb
  obtain ⟨x0,a1,g3,a2,a3,g1,kj,kw,mlt,le,y0,a4,x3,k1⟩:=hW
  have ec:=evc c
  have ef:=evf c
  dsimp only [AL13,LL13,VL1A,nth,EqAt,look,OpGoal] at hEq ⊢
  first
  | exact ⟨by first | exact hEq.1 | exact hEq.2.1 | exact hEq.2.2.1 | exact hEq.2.2.2.1,.inr ⟨.inl rfl,rfl⟩⟩
  | exact ⟨by first | exact hEq.1 | exact hEq.2.1 | exact hEq.2.2.1 | exact hEq.2.2.2.1,.inr ⟨.inr rfl,rfl⟩⟩
  | ((try refine ⟨by first | exact hEq.1 | exact hEq.2.1 | exact hEq.2.2.1 | exact hEq.2.2.2.1,.inl ⟨rfl,?_⟩⟩);first | (refine od_static Tryz.call43 k1 ?_;simp only [List.map_toArray,List.map_cons,List.map_nil,hEq];done) | (refine .inl fun pos af=>?_;(clear k1;dsimp only [Sig.oper];generalize c.eval=ρ at *;go_simp;done)) | (refine .inl fun pos af=>?_;clear k1;dsimp only [Sig.oper];generalize c.eval=ρ at *;go_simp;simp only [decide_eq_true_eq,decide_eq_false_iff_not] at *;omega))))
 exact below_zero
def VL1B (G X bl off kl kc j m:Nat) (xi yi fr tt z1 z2 nn nr:Int) (ty:ByteArray) (nv pv:Value):List Value:=[.pointer (some ⟨X,0,none⟩),.int .i64 xi,.bool false,.bool false,.pointer (some ⟨X,0,none⟩),.int .i64 xi,.pointer (some ⟨G,3,none⟩),.int .i64 nr,.bool false,.bool false,.bool false,.int .i64 (j:Int),.bool true,.bool true,.pointer (some ⟨G,1,none⟩),.slice (some ⟨bl,off,none⟩) kl kc,.int .i64 (j:Int),.int .i64 (m:Int),.pointer (some ⟨bl,off+m*5,none⟩),.pointer (some ⟨bl,off+m*5,none⟩),.int .i64 yi,.pointer (some ⟨X,0,none⟩),.int .i64 xi,.bool false,.bool false,.bool false,.bool false,.pointer (some ⟨X,3,none⟩),.string ty,.bool true,.bool false,.bool false,.bool false,.pointer (some ⟨X,4,none⟩),pv,.bool false,.bool true,.bool true,.bool true,undef,undef,undef,undef,undef,.bool true,.bool true,undef,undef,undef,undef,undef,.bool true]
structure WorldL1B (G X bl off kl kc j m:Nat) (xi yi fr tt z1 z2 nn nr:Int) (ty:ByteArray) (nv pv:Value) (w:World):Prop where
 x0:w.cell? ⟨X,0,none⟩=some (.int .i64 xi)
 a1:decide (xi<0)=false
 g3:w.cell? ⟨G,3,none⟩=some (.int .i64 nr)
 a2:decide (nr≤xi)=false
 a3:decide ((0:Int)<(j:Int))=true
 g1:w.cell? ⟨G,1,none⟩=some (.slice (some ⟨bl,off,none⟩) kl kc)
 kj:(j:Int) - 1=(m:Int)
 kw:IntKind.i64.wrap (m:Int)=(m:Int)
 mlt:m<kl
 le:kl≤9223372036854775807
 y0:w.cell? ⟨bl,off+m*5,none⟩=some (.int .i64 yi)
 a4:decide (xi≤yi)=false
 x3:w.cell? ⟨X,3,none⟩=some (.string ty)
 k1:Calls Tryz.prog 43 #[.string ty] w fun e w'=>e=.returned (.bool true)∧Below w.heap.size w w'
 x4:w.cell? ⟨X,4,none⟩=some (pv)
 k2:Calls Tryz.prog 42 #[pv] w fun e w'=>e=.returned (.bool false)∧Below w.heap.size w w'
theorem regionL1B (G X bl off kl kc j m:Nat) (xi yi fr tt z1 z2 nn nr:Int) (ty:ByteArray) (nv pv:Value) (Q:Exit→Act→World→Prop) (base:Act) (w0:World) (hsz:base.tmps.size=149) (hb:BaseL13 G X bl off kl kc j m xi yi fr tt z1 z2 nn nr ty nv pv base)
  (hW:∀ w,Below w0.heap.size w0 w→WorldL1B G X bl off kl kc j m xi yi fr tt z1 z2 nn nr ty nv pv w) (hQ:∀ c w,Same RL13 base c→Below w0.heap.size w0 w→c.eval (.tmp 148)=.bool true→Q .normal c w):(Code.region 13 RL13 true).wp Tryz.prog Q base w0:=by
 refine told_rule (B:=BaseL13 G X bl off kl kc j m xi yi fr tt z1 z2 nn nr ty nv pv) (T:=WorldL1B G X bl off kl kc j m xi yi fr tt z1 z2 nn nr ty nv pv) (n:=52) (k:=51) LL13 AL13 (VL1B G X bl off kl kc j m xi yi fr tt z1 z2 nn nr ty nv pv) hLL13 rfl (by kernel_rfl) (by kernel_rfl) (by kernel_rfl) (by rw [hsz];kernel_rfl) (fun c hS=>⟨(same_eval hS (by kernel_rfl)).trans hb.t1,(same_eval hS (by kernel_rfl)).trans hb.t5,(same_eval hS (by kernel_rfl)).trans hb.t6⟩) hW ?_ (by decide) rfl rfl hQ
 clear hsz hb hW hQ
 iterate 52 (refine below_succ ?_ (by
  intro c w hb hW hEq
  obtain ⟨t1,t5,t6⟩:=hb
  obtain ⟨x0,a1,g3,a2,a3,g1,kj,kw,mlt,le,y0,a4,x3,k1,x4,k2⟩:=hW
  have ec:=evc c
  have ef:=evf c
  dsimp only [AL13,LL13,VL1B,nth,EqAt,look,OpGoal] at hEq ⊢
  first
  | exact ⟨by first | exact hEq.1 | exact hEq.2.1 | exact hEq.2.2.1 | exact hEq.2.2.2.1,.inr ⟨.inl rfl,rfl⟩⟩
  | exact ⟨by first | exact hEq.1 | exact hEq.2.1 | exact hEq.2.2.1 | exact hEq.2.2.2.1,.inr ⟨.inr rfl,rfl⟩⟩
  | ((try refine ⟨by first | exact hEq.1 | exact hEq.2.1 | exact hEq.2.2.1 | exact hEq.2.2.2.1,.inl ⟨rfl,?_⟩⟩);first | (refine od_static Tryz.call43 k1 ?_;simp only [List.map_toArray,List.map_cons,List.map_nil,hEq];done) | (refine od_static Tryz.call42 k2 ?_;simp only [List.map_toArray,List.map_cons,List.map_nil,hEq];done) | (refine .inl fun pos af=>?_;(clear k1 k2;dsimp only [Sig.oper];generalize c.eval=ρ at *;go_simp;done)) | (refine .inl fun pos af=>?_;clear k1 k2;dsimp only [Sig.oper];generalize c.eval=ρ at *;go_simp;simp only [decide_eq_true_eq,decide_eq_false_iff_not] at *;omega))))
 exact below_zero
def VL1C (G X bl off kl kc j m:Nat) (xi yi fr tt z1 z2 nn nr:Int) (ty:ByteArray) (nv pv:Value):List Value:=[.pointer (some ⟨X,0,none⟩),.int .i64 xi,.bool false,.bool false,.pointer (some ⟨X,0,none⟩),.int .i64 xi,.pointer (some ⟨G,3,none⟩),.int .i64 nr,.bool false,.bool false,.bool false,.int .i64 (j:Int),.bool true,.bool true,.pointer (some ⟨G,1,none⟩),.slice (some ⟨bl,off,none⟩) kl kc,.int .i64 (j:Int),.int .i64 (m:Int),.pointer (some ⟨bl,off+m*5,none⟩),.pointer (some ⟨bl,off+m*5,none⟩),.int .i64 yi,.pointer (some ⟨X,0,none⟩),.int .i64 xi,.bool false,.bool false,.bool false,.bool false,.pointer (some ⟨X,3,none⟩),.string ty,.bool true,.bool false,.bool false,.bool false,.pointer (some ⟨X,4,none⟩),pv,.bool true,.bool false,.bool false,.bool false,.agg #[nv,.slice (some ⟨bl,off,none⟩) kl kc,.int .i64 nn,.int .i64 nr],.pointer (some ⟨X,1,none⟩),.int .i64 fr,.int .i64 z1,.bool true,.bool true,.bool true,undef,undef,undef,undef,undef,.bool true]
structure WorldL1C (G X bl off kl kc j m:Nat) (xi yi fr tt z1 z2 nn nr:Int) (ty:ByteArray) (nv pv:Value) (w:World):Prop where
 x0:w.cell? ⟨X,0,none⟩=some (.int .i64 xi)
 a1:decide (xi<0)=false
 g3:w.cell? ⟨G,3,none⟩=some (.int .i64 nr)
 a2:decide (nr≤xi)=false
 a3:decide ((0:Int)<(j:Int))=true
 g1:w.cell? ⟨G,1,none⟩=some (.slice (some ⟨bl,off,none⟩) kl kc)
 kj:(j:Int) - 1=(m:Int)
 kw:IntKind.i64.wrap (m:Int)=(m:Int)
 mlt:m<kl
 le:kl≤9223372036854775807
 y0:w.cell? ⟨bl,off+m*5,none⟩=some (.int .i64 yi)
 a4:decide (xi≤yi)=false
 x3:w.cell? ⟨X,3,none⟩=some (.string ty)
 k1:Calls Tryz.prog 43 #[.string ty] w fun e w'=>e=.returned (.bool true)∧Below w.heap.size w w'
 x4:w.cell? ⟨X,4,none⟩=some (pv)
 k2:Calls Tryz.prog 42 #[pv] w fun e w'=>e=.returned (.bool true)∧Below w.heap.size w w'
 g0:w.cell? ⟨G,0,none⟩=some (nv)
 g2:w.cell? ⟨G,2,none⟩=some (.int .i64 nn)
 x1:w.cell? ⟨X,1,none⟩=some (.int .i64 fr)
 k3:Calls Tryz.prog 44 #[.agg #[nv,.slice (some ⟨bl,off,none⟩) kl kc,.int .i64 nn,.int .i64 nr],.int .i64 fr] w fun e w'=>e=.returned (.int .i64 z1)∧Below w.heap.size w w'
 a5:decide (z1<0)=true
theorem regionL1C (G X bl off kl kc j m:Nat) (xi yi fr tt z1 z2 nn nr:Int) (ty:ByteArray) (nv pv:Value) (Q:Exit→Act→World→Prop) (base:Act) (w0:World) (hsz:base.tmps.size=149) (hb:BaseL13 G X bl off kl kc j m xi yi fr tt z1 z2 nn nr ty nv pv base)
  (hW:∀ w,Below w0.heap.size w0 w→WorldL1C G X bl off kl kc j m xi yi fr tt z1 z2 nn nr ty nv pv w) (hQ:∀ c w,Same RL13 base c→Below w0.heap.size w0 w→c.eval (.tmp 148)=.bool true→Q .normal c w):(Code.region 13 RL13 true).wp Tryz.prog Q base w0:=by
 refine told_rule (B:=BaseL13 G X bl off kl kc j m xi yi fr tt z1 z2 nn nr ty nv pv) (T:=WorldL1C G X bl off kl kc j m xi yi fr tt z1 z2 nn nr ty nv pv) (n:=52) (k:=51) LL13 AL13 (VL1C G X bl off kl kc j m xi yi fr tt z1 z2 nn nr ty nv pv) hLL13 rfl (by kernel_rfl) (by kernel_rfl) (by kernel_rfl) (by rw [hsz];kernel_rfl) (fun c hS=>⟨(same_eval hS (by kernel_rfl)).trans hb.t1,(same_eval hS (by kernel_rfl)).trans hb.t5,(same_eval hS (by kernel_rfl)).trans hb.t6⟩) hW ?_ (by decide) rfl rfl hQ
 clear hsz hb hW hQ
 iterate 52 (refine below_succ ?_ (by
  intro c w hb hW hEq
  obtain ⟨t1,t5,t6⟩:=hb
  obtain ⟨x0,a1,g3,a2,a3,g1,kj,kw,mlt,le,y0,a4,x3,k1,x4,k2,g0,g2,x1,k3,a5⟩:=hW
  have ec:=evc c
  have ef:=evf c
  dsimp only [AL13,LL13,VL1C,nth,EqAt,look,OpGoal] at hEq ⊢
  first
  | exact ⟨by first | exact hEq.1 | exact hEq.2.1 | exact hEq.2.2.1 | exact hEq.2.2.2.1,.inr ⟨.inl rfl,rfl⟩⟩
  | exact ⟨by first | exact hEq.1 | exact hEq.2.1 | exact hEq.2.2.1 | exact hEq.2.2.2.1,.inr ⟨.inr rfl,rfl⟩⟩
  | ((try refine ⟨by first | exact hEq.1 | exact hEq.2.1 | exact hEq.2.2.1 | exact hEq.2.2.2.1,.inl ⟨rfl,?_⟩⟩);first | (refine od_static Tryz.call43 k1 ?_;simp only [List.map_toArray,List.map_cons,List.map_nil,hEq];done) | (refine od_static Tryz.call42 k2 ?_;simp only [List.map_toArray,List.map_cons,List.map_nil,hEq];done) | (refine od_static Tryz.call44 k3 ?_;simp only [List.map_toArray,List.map_cons,List.map_nil,hEq];done) | (refine .inl fun pos af=>?_;(clear k1 k2 k3;dsimp only [Sig.oper];generalize c.eval=ρ at *;go_simp;done)) | (refine .inl fun pos af=>?_;clear k1 k2 k3;dsimp only [Sig.oper];generalize c.eval=ρ at *;go_simp;simp only [decide_eq_true_eq,decide_eq_false_iff_not] at *;omega))))
 exact below_zero
def VL1D (G X bl off kl kc j m:Nat) (xi yi fr tt z1 z2 nn nr:Int) (ty:ByteArray) (nv pv:Value):List Value:=[.pointer (some ⟨X,0,none⟩),.int .i64 xi,.bool false,.bool false,.pointer (some ⟨X,0,none⟩),.int .i64 xi,.pointer (some ⟨G,3,none⟩),.int .i64 nr,.bool false,.bool false,.bool false,.int .i64 (j:Int),.bool true,.bool true,.pointer (some ⟨G,1,none⟩),.slice (some ⟨bl,off,none⟩) kl kc,.int .i64 (j:Int),.int .i64 (m:Int),.pointer (some ⟨bl,off+m*5,none⟩),.pointer (some ⟨bl,off+m*5,none⟩),.int .i64 yi,.pointer (some ⟨X,0,none⟩),.int .i64 xi,.bool false,.bool false,.bool false,.bool false,.pointer (some ⟨X,3,none⟩),.string ty,.bool true,.bool false,.bool false,.bool false,.pointer (some ⟨X,4,none⟩),pv,.bool true,.bool false,.bool false,.bool false,.agg #[nv,.slice (some ⟨bl,off,none⟩) kl kc,.int .i64 nn,.int .i64 nr],.pointer (some ⟨X,1,none⟩),.int .i64 fr,.int .i64 z1,.bool false,.bool false,.bool false,.agg #[nv,.slice (some ⟨bl,off,none⟩) kl kc,.int .i64 nn,.int .i64 nr],.pointer (some ⟨X,2,none⟩),.int .i64 tt,.int .i64 z2,.bool true,.bool true]
structure WorldL1D (G X bl off kl kc j m:Nat) (xi yi fr tt z1 z2 nn nr:Int) (ty:ByteArray) (nv pv:Value) (w:World):Prop where
 x0:w.cell? ⟨X,0,none⟩=some (.int .i64 xi)
 a1:decide (xi<0)=false
 g3:w.cell? ⟨G,3,none⟩=some (.int .i64 nr)
 a2:decide (nr≤xi)=false
 a3:decide ((0:Int)<(j:Int))=true
 g1:w.cell? ⟨G,1,none⟩=some (.slice (some ⟨bl,off,none⟩) kl kc)
 kj:(j:Int) - 1=(m:Int)
 kw:IntKind.i64.wrap (m:Int)=(m:Int)
 mlt:m<kl
 le:kl≤9223372036854775807
 y0:w.cell? ⟨bl,off+m*5,none⟩=some (.int .i64 yi)
 a4:decide (xi≤yi)=false
 x3:w.cell? ⟨X,3,none⟩=some (.string ty)
 k1:Calls Tryz.prog 43 #[.string ty] w fun e w'=>e=.returned (.bool true)∧Below w.heap.size w w'
 x4:w.cell? ⟨X,4,none⟩=some (pv)
 k2:Calls Tryz.prog 42 #[pv] w fun e w'=>e=.returned (.bool true)∧Below w.heap.size w w'
 g0:w.cell? ⟨G,0,none⟩=some (nv)
 g2:w.cell? ⟨G,2,none⟩=some (.int .i64 nn)
 x1:w.cell? ⟨X,1,none⟩=some (.int .i64 fr)
 k3:Calls Tryz.prog 44 #[.agg #[nv,.slice (some ⟨bl,off,none⟩) kl kc,.int .i64 nn,.int .i64 nr],.int .i64 fr] w fun e w'=>e=.returned (.int .i64 z1)∧Below w.heap.size w w'
 a5:decide (z1<0)=false
 x2:w.cell? ⟨X,2,none⟩=some (.int .i64 tt)
 k4:Calls Tryz.prog 44 #[.agg #[nv,.slice (some ⟨bl,off,none⟩) kl kc,.int .i64 nn,.int .i64 nr],.int .i64 tt] w fun e w'=>e=.returned (.int .i64 z2)∧Below w.heap.size w w'
 a6:decide (z2<0)=true
theorem regionL1D (G X bl off kl kc j m:Nat) (xi yi fr tt z1 z2 nn nr:Int) (ty:ByteArray) (nv pv:Value) (Q:Exit→Act→World→Prop) (base:Act) (w0:World) (hsz:base.tmps.size=149) (hb:BaseL13 G X bl off kl kc j m xi yi fr tt z1 z2 nn nr ty nv pv base)
  (hW:∀ w,Below w0.heap.size w0 w→WorldL1D G X bl off kl kc j m xi yi fr tt z1 z2 nn nr ty nv pv w) (hQ:∀ c w,Same RL13 base c→Below w0.heap.size w0 w→c.eval (.tmp 148)=.bool true→Q .normal c w):(Code.region 13 RL13 true).wp Tryz.prog Q base w0:=by
 refine told_rule (B:=BaseL13 G X bl off kl kc j m xi yi fr tt z1 z2 nn nr ty nv pv) (T:=WorldL1D G X bl off kl kc j m xi yi fr tt z1 z2 nn nr ty nv pv) (n:=52) (k:=51) LL13 AL13 (VL1D G X bl off kl kc j m xi yi fr tt z1 z2 nn nr ty nv pv) hLL13 rfl (by kernel_rfl) (by kernel_rfl) (by kernel_rfl) (by rw [hsz];kernel_rfl) (fun c hS=>⟨(same_eval hS (by kernel_rfl)).trans hb.t1,(same_eval hS (by kernel_rfl)).trans hb.t5,(same_eval hS (by kernel_rfl)).trans hb.t6⟩) hW ?_ (by decide) rfl rfl hQ
 clear hsz hb hW hQ
 iterate 52 (refine below_succ ?_ (by
  intro c w hb hW hEq
  obtain ⟨t1,t5,t6⟩:=hb
  obtain ⟨x0,a1,g3,a2,a3,g1,kj,kw,mlt,le,y0,a4,x3,k1,x4,k2,g0,g2,x1,k3,a5,x2,k4,a6⟩:=hW
  have ec:=evc c
  have ef:=evf c
  dsimp only [AL13,LL13,VL1D,nth,EqAt,look,OpGoal] at hEq ⊢
  first
  | exact ⟨by first | exact hEq.1 | exact hEq.2.1 | exact hEq.2.2.1 | exact hEq.2.2.2.1,.inr ⟨.inl rfl,rfl⟩⟩
  | exact ⟨by first | exact hEq.1 | exact hEq.2.1 | exact hEq.2.2.1 | exact hEq.2.2.2.1,.inr ⟨.inr rfl,rfl⟩⟩
  | ((try refine ⟨by first | exact hEq.1 | exact hEq.2.1 | exact hEq.2.2.1 | exact hEq.2.2.2.1,.inl ⟨rfl,?_⟩⟩);first | (refine od_static Tryz.call43 k1 ?_;simp only [List.map_toArray,List.map_cons,List.map_nil,hEq];done) | (refine od_static Tryz.call42 k2 ?_;simp only [List.map_toArray,List.map_cons,List.map_nil,hEq];done) | (refine od_static Tryz.call44 k3 ?_;simp only [List.map_toArray,List.map_cons,List.map_nil,hEq];done) | (refine od_static Tryz.call44 k4 ?_;simp only [List.map_toArray,List.map_cons,List.map_nil,hEq];done) | (refine .inl fun pos af=>?_;(clear k1 k2 k3 k4;dsimp only [Sig.oper];generalize c.eval=ρ at *;go_simp;done)) | (refine .inl fun pos af=>?_;clear k1 k2 k3 k4;dsimp only [Sig.oper];generalize c.eval=ρ at *;go_simp;simp only [decide_eq_true_eq,decide_eq_false_iff_not] at *;omega))))
 exact below_zero
def VL1E (G X bl off kl kc j m:Nat) (xi yi fr tt z1 z2 nn nr:Int) (ty:ByteArray) (nv pv:Value):List Value:=[.pointer (some ⟨X,0,none⟩),.int .i64 xi,.bool false,.bool false,.pointer (some ⟨X,0,none⟩),.int .i64 xi,.pointer (some ⟨G,3,none⟩),.int .i64 nr,.bool false,.bool false,.bool false,.int .i64 (j:Int),.bool true,.bool true,.pointer (some ⟨G,1,none⟩),.slice (some ⟨bl,off,none⟩) kl kc,.int .i64 (j:Int),.int .i64 (m:Int),.pointer (some ⟨bl,off+m*5,none⟩),.pointer (some ⟨bl,off+m*5,none⟩),.int .i64 yi,.pointer (some ⟨X,0,none⟩),.int .i64 xi,.bool false,.bool false,.bool false,.bool false,.pointer (some ⟨X,3,none⟩),.string ty,.bool true,.bool false,.bool false,.bool false,.pointer (some ⟨X,4,none⟩),pv,.bool true,.bool false,.bool false,.bool false,.agg #[nv,.slice (some ⟨bl,off,none⟩) kl kc,.int .i64 nn,.int .i64 nr],.pointer (some ⟨X,1,none⟩),.int .i64 fr,.int .i64 z1,.bool false,.bool false,.bool false,.agg #[nv,.slice (some ⟨bl,off,none⟩) kl kc,.int .i64 nn,.int .i64 nr],.pointer (some ⟨X,2,none⟩),.int .i64 tt,.int .i64 z2,.bool false,.bool false]
structure WorldL1E (G X bl off kl kc j m:Nat) (xi yi fr tt z1 z2 nn nr:Int) (ty:ByteArray) (nv pv:Value) (w:World):Prop where
 x0:w.cell? ⟨X,0,none⟩=some (.int .i64 xi)
 a1:decide (xi<0)=false
 g3:w.cell? ⟨G,3,none⟩=some (.int .i64 nr)
 a2:decide (nr≤xi)=false
 a3:decide ((0:Int)<(j:Int))=true
 g1:w.cell? ⟨G,1,none⟩=some (.slice (some ⟨bl,off,none⟩) kl kc)
 kj:(j:Int) - 1=(m:Int)
 kw:IntKind.i64.wrap (m:Int)=(m:Int)
 mlt:m<kl
 le:kl≤9223372036854775807
 y0:w.cell? ⟨bl,off+m*5,none⟩=some (.int .i64 yi)
 a4:decide (xi≤yi)=false
 x3:w.cell? ⟨X,3,none⟩=some (.string ty)
 k1:Calls Tryz.prog 43 #[.string ty] w fun e w'=>e=.returned (.bool true)∧Below w.heap.size w w'
 x4:w.cell? ⟨X,4,none⟩=some (pv)
 k2:Calls Tryz.prog 42 #[pv] w fun e w'=>e=.returned (.bool true)∧Below w.heap.size w w'
 g0:w.cell? ⟨G,0,none⟩=some (nv)
 g2:w.cell? ⟨G,2,none⟩=some (.int .i64 nn)
 x1:w.cell? ⟨X,1,none⟩=some (.int .i64 fr)
 k3:Calls Tryz.prog 44 #[.agg #[nv,.slice (some ⟨bl,off,none⟩) kl kc,.int .i64 nn,.int .i64 nr],.int .i64 fr] w fun e w'=>e=.returned (.int .i64 z1)∧Below w.heap.size w w'
 a5:decide (z1<0)=false
 x2:w.cell? ⟨X,2,none⟩=some (.int .i64 tt)
 k4:Calls Tryz.prog 44 #[.agg #[nv,.slice (some ⟨bl,off,none⟩) kl kc,.int .i64 nn,.int .i64 nr],.int .i64 tt] w fun e w'=>e=.returned (.int .i64 z2)∧Below w.heap.size w w'
 a6:decide (z2<0)=false
theorem regionL1E (G X bl off kl kc j m:Nat) (xi yi fr tt z1 z2 nn nr:Int) (ty:ByteArray) (nv pv:Value) (Q:Exit→Act→World→Prop) (base:Act) (w0:World) (hsz:base.tmps.size=149) (hb:BaseL13 G X bl off kl kc j m xi yi fr tt z1 z2 nn nr ty nv pv base)
  (hW:∀ w,Below w0.heap.size w0 w→WorldL1E G X bl off kl kc j m xi yi fr tt z1 z2 nn nr ty nv pv w) (hQ:∀ c w,Same RL13 base c→Below w0.heap.size w0 w→c.eval (.tmp 148)=.bool false→Q .normal c w):(Code.region 13 RL13 true).wp Tryz.prog Q base w0:=by
 refine told_rule (B:=BaseL13 G X bl off kl kc j m xi yi fr tt z1 z2 nn nr ty nv pv) (T:=WorldL1E G X bl off kl kc j m xi yi fr tt z1 z2 nn nr ty nv pv) (n:=52) (k:=51) LL13 AL13 (VL1E G X bl off kl kc j m xi yi fr tt z1 z2 nn nr ty nv pv) hLL13 rfl (by kernel_rfl) (by kernel_rfl) (by kernel_rfl) (by rw [hsz];kernel_rfl) (fun c hS=>⟨(same_eval hS (by kernel_rfl)).trans hb.t1,(same_eval hS (by kernel_rfl)).trans hb.t5,(same_eval hS (by kernel_rfl)).trans hb.t6⟩) hW ?_ (by decide) rfl rfl hQ
 clear hsz hb hW hQ
 iterate 52 (refine below_succ ?_ (by
  intro c w hb hW hEq
  obtain ⟨t1,t5,t6⟩:=hb
  obtain ⟨x0,a1,g3,a2,a3,g1,kj,kw,mlt,le,y0,a4,x3,k1,x4,k2,g0,g2,x1,k3,a5,x2,k4,a6⟩:=hW
  have ec:=evc c
  have ef:=evf c
  dsimp only [AL13,LL13,VL1E,nth,EqAt,look,OpGoal] at hEq ⊢
  first
  | exact ⟨by first | exact hEq.1 | exact hEq.2.1 | exact hEq.2.2.1 | exact hEq.2.2.2.1,.inr ⟨.inl rfl,rfl⟩⟩
  | exact ⟨by first | exact hEq.1 | exact hEq.2.1 | exact hEq.2.2.1 | exact hEq.2.2.2.1,.inr ⟨.inr rfl,rfl⟩⟩
  | ((try refine ⟨by first | exact hEq.1 | exact hEq.2.1 | exact hEq.2.2.1 | exact hEq.2.2.2.1,.inl ⟨rfl,?_⟩⟩);first | (refine od_static Tryz.call43 k1 ?_;simp only [List.map_toArray,List.map_cons,List.map_nil,hEq];done) | (refine od_static Tryz.call42 k2 ?_;simp only [List.map_toArray,List.map_cons,List.map_nil,hEq];done) | (refine od_static Tryz.call44 k3 ?_;simp only [List.map_toArray,List.map_cons,List.map_nil,hEq];done) | (refine od_static Tryz.call44 k4 ?_;simp only [List.map_toArray,List.map_cons,List.map_nil,hEq];done) | (refine .inl fun pos af=>?_;(clear k1 k2 k3 k4;dsimp only [Sig.oper];generalize c.eval=ρ at *;go_simp;done)) | (refine .inl fun pos af=>?_;clear k1 k2 k3 k4;dsimp only [Sig.oper];generalize c.eval=ρ at *;go_simp;simp only [decide_eq_true_eq,decide_eq_false_iff_not] at *;omega))))
 exact below_zero
end Go.Proofs.YteddjlbfbpecjaaGreatDoor
