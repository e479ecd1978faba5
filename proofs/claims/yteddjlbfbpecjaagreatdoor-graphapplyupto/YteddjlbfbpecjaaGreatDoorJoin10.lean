/- A statement that reads and calls, in whatever order. -/
import Derived.Test.YteddjlbfbpecjaaGreatDoorJoin2
import Derived.Test.YteddjlbfbpecjaaGreatDoorJoin1
import Derived.Test.YteddjlbfbpecjaaGreatDoorJoin9
import Derived.Test.YteddjlbfbpecjaaGreatDoorJoin7
import Derived.Shelf.Small.Strs
import Derived.Ground.NamesProg
import Derived.Ground.Names2Prog
import Derived.Shelf.Slices.Clone
import Derived.Test.YteddjlbfbpecjaaGreatDoorProg
namespace Go.Proofs.YteddjlbfbpecjaaGreatDoor
section
open Go.RowKit Go.WideShapes Go.Shelf
set_option linter.all false
noncomputable def Jb8  : Array Oper:=Jg Tryz.f33 5
def Je7  : List Sig:=[⟨18,.move (.tmp 1),4,none⟩,⟨19,.unOp .not 4 (.tmp 18),4,none⟩,⟨20,.move (.tmp 19),4,none⟩,⟨21,.move (.tmp 0),31,some (2,true)⟩,⟨22,.nilCheck (.tmp 21),0,some (2,true)⟩,⟨23,.fieldAddr 74 (.tmp 22) 1,0,some (2,true)⟩,⟨24,.load 72 (.tmp 23),72,some (2,true)⟩,⟨25,.move (.tmp 2),2,some (2,true)⟩,⟨26,.lookup 72 (.tmp 24) (.tmp 25) false,100,some (2,true)⟩,⟨27,.call { callee:=.builtin .len,args:=#[.tmp 26],argTypes:=#[100] },3,some (2,true)⟩,⟨28,.move (.tmp 0),31,some (2,true)⟩,⟨29,.nilCheck (.tmp 28),0,some (2,true)⟩,⟨30,.fieldAddr 74 (.tmp 29) 2,0,some (2,true)⟩,⟨31,.load 72 (.tmp 30),72,some (2,true)⟩,⟨32,.move (.tmp 2),2,some (2,true)⟩,⟨33,.lookup 72 (.tmp 31) (.tmp 32) false,100,some (2,true)⟩,⟨34,.call { callee:=.builtin .len,args:=#[.tmp 33],argTypes:=#[100] },3,some (2,true)⟩,⟨35,.binOp .add 3 (.tmp 27) (.tmp 34) 3,3,some (2,true)⟩,⟨36,.binOp .gtr 3 (.tmp 35) (.const (.int .i64 0)) 3,4,some (2,true)⟩,⟨37,.pick (.tmp 20) (.tmp 36) (.const (.bool false)),4,none⟩,⟨17,.assign (.tmp 37),4,none⟩]
theorem Je8  : Jq Jb8=Je7.map some:=by kernel_rfl
def Jgd  : List (List Nat):=[[],[0],[1],[2],[2,3],[2,4],[2,5],[2],[2,6,7],[2,8],[2],[2,10],[2,11],[2,12],[2],[2,13,14],[2,15],[2,9,16],[2,17],[2,18],[19]]
def Jge (p:GP) (id:Int) (fa ta:Option Addr) (fl fc tl tc:Nat) (b:Bool):List Value:=[.bool false,.bool true,.bool true,.pointer (some ⟨p.g,0,none⟩),.pointer (some ⟨p.g,0,none⟩),.pointer (some ⟨p.g,4,none⟩),.map (some p.f),.int .i64 id,.slice fa fl fc,.int .i64 (fl:Int),.pointer (some ⟨p.g,0,none⟩),.pointer (some ⟨p.g,0,none⟩),.pointer (some ⟨p.g,5,none⟩),.map (some p.t),.int .i64 id,.slice ta tl tc,.int .i64 (tl:Int),.int .i64 ((fl:Int)+(tl:Int)),.bool b,.bool b,.bool b]
structure Ztt (p:GP) (id:Int) (fa ta:Option Addr) (fl fc tl tc:Nat) (b:Bool) (c:Act):Prop where
 t0:c.eval (.tmp 0)=.pointer (some ⟨p.g,0,none⟩)
 t1:c.eval (.tmp 1)=.bool false
 t2:c.eval (.tmp 2)=.int .i64 id
structure Zpa (p:GP) (id:Int) (fa ta:Option Addr) (fl fc tl tc:Nat) (b:Bool) (w:World):Prop where
 c4:w.cell? ⟨p.g,4,none⟩=some (.map (some p.f))
 c5:w.cell? ⟨p.g,5,none⟩=some (.map (some p.t))
 l4:(Instr.lookup 72 (.map (some p.f)) (.int .i64 id) false).run Tryz.prog w=.ok (.slice fa fl fc) w
 l5:(Instr.lookup 72 (.map (some p.t)) (.int .i64 id) false).run Tryz.prog w=.ok (.slice ta tl tc) w
 kw:IntKind.i64.wrap ((fl:Int)+(tl:Int))=(fl:Int)+(tl:Int)
 kg:decide ((0:Int)<(fl:Int)+(tl:Int))=b
set_option maxRecDepth 100000 in
set_option maxHeartbeats 4000000 in
theorem Zl0 (p:GP) (id:Int) (fa ta:Option Addr) (fl fc tl tc:Nat) (b:Bool) (Q:Exit→Act→World→Prop) (base:Act) (w0:World) (hsz:base.tmps.size=60) (hb:Ztt p id fa ta fl fc tl tc b base)
  (hW:∀ w,Below w0.heap.size w0 w→Zpa p id fa ta fl fc tl tc b w) (hQ:∀ c w,Zae Jb8 base c→Below w0.heap.size w0 w→c.eval (.tmp 17)=.bool b→Q .normal c w):(Code.region 5 Jb8 true).wp Tryz.prog Q base w0:=by
 refine Zr (B:=Ztt p id fa ta fl fc tl tc b) (T:=Zpa p id fa ta fl fc tl tc b) (n:=21) (k:=20) Je7 Jgd (Jge p id fa ta fl fc tl tc b) Je8 rfl (by kernel_rfl) (by kernel_rfl) (by kernel_rfl) (by rw [hsz];kernel_rfl) (fun c hS=>⟨(Zc hS (by kernel_rfl)).trans hb.t0,(Zc hS (by kernel_rfl)).trans hb.t1,(Zc hS (by kernel_rfl)).trans hb.t2⟩) hW ?_ (by decide) rfl rfl hQ
 clear hsz hb hW hQ
 iterate 21 (refine Zd ?_ (by
  intro c w hb hW hEq
  obtain ⟨t0,t1,t2⟩:=hb
  obtain ⟨c4,c5,l4,l5,kw,kg⟩:=hW
  have ec:=evc c
  have ef:=evf c
  dsimp only [Jgd,Je7,Jge,nth,Zcm,Zbd,Jl] at hEq ⊢
  first
  | exact ⟨by first | exact hEq.1 | exact hEq.2.1 | exact hEq.2.2.1 | exact hEq.2.2.2.1,.inr ⟨by first | exact .inl rfl | exact .inr rfl,rfl⟩⟩
  | ((try refine ⟨by first | exact hEq.1 | exact hEq.2.1 | exact hEq.2.2.1 | exact hEq.2.2.2.1,.inl ⟨rfl,?_⟩⟩);first | (refine .inl fun pos af=>?_;(dsimp only [Sig.oper];generalize c.eval=ρ at *;go_simp;done)))))
 exact Zj
end
section
open Go.RowKit Go.Shelf
set_option maxHeartbeats 8000000
set_option maxRecDepth 100000
set_option linter.all false
attribute [local go_sem] Oper.semAt_some
def Zrn (b:Nat) (es:List (Int × Value)) (k:Int) (a:Option Addr) (n c:Nat):Prop:=∀ W,MI W b es→(Instr.lookup 72 (.map (some b)) (.int .i64 k) false).run Tryz.prog W=.ok (.slice a n c) W
theorem Zk2 {w:World} {p:GP} {nn nr:Int} {N R F T:List (Int × Value)} (h:GS w p nn nr N R F T) (hN:Zg1 N) (hR:Zg1 R) (hn:∀ q ∈ N,Zgk q.2) (hr:∀ q ∈ R,Zrp q.2) (id:Int) (hid:I64 id) (hid1:Zdy id N=true)
  (fa ta:Option Addr) (fl fc tl tc:Nat) (lf:Zrn p.f F id fa fl fc) (lt:Zrn p.t T id ta tl tc) (hpos:0<fl+tl) (hfl:fl≤2000000) (htl:tl≤2000000) :
  Calls Tryz.prog 33 #[p.val,.bool false,.int .i64 id] w fun e w'=>e=.returned (.int .i64 150)∧Below w.heap.size w w':=by
 have HG:=Zb h
 have HTh:=Zb (Zcq h)
 have HH:=Zb (Zem h hN hR hn hr id hid true hid1)
 have HLF:=Zb lf
 have HLT:=Zb lt
 clear h hN hR hn hr hid1 lf lt
 unfold GP.val at HTh ⊢
 go_enter Tryz.func33,Tryz.ntmps33
 go_wp2_with fail
 refine HTh.out.mono ?_
 rintro e w1 ⟨rfl,hw1⟩
 rw [hw1]
 clear hw1 HTh
 go_wp2_with fail
 refine HH.out.mono ?_
 rintro e w2 ⟨rfl,hb2⟩
 have HB2:=Zb hb2
 have HG2:=Zb (HG.out.below hb2)
 clear hb2 HH
 go_upto_region 5 with fail
 show (Code.region 5 Jb8 true).wp _ _ _ _
 refine Zl0 p id fa ta fl fc tl tc true _ _ _ rfl ⟨rfl,rfl,rfl⟩ ?_ ?_
 ·intro W hW
  exact ⟨(hW.cell (p:=⟨p.g,4,none⟩) HG2.out.obj.lt).trans HG2.out.c4,(hW.cell (p:=⟨p.g,5,none⟩) HG2.out.obj.lt).trans HG2.out.c5,HLF.out W (HG2.out.f.below hW (Nat.le_refl _)),HLT.out W (HG2.out.t.below hW (Nat.le_refl _)),by rw [IntKind.wrap_i64];omega,by simp;omega⟩
 intro c W3 hS hB3 e17
 rw [Zao hS [18,19,20,21,22,23,24,25,26,27,28,29,30,31,32,33,34,35,36,37,17] (by kernel_rfl)]
 obtain ⟨y18,q18⟩:∃ y,c.eval (.tmp 18)=y:=⟨_,rfl⟩
 obtain ⟨y19,q19⟩:∃ y,c.eval (.tmp 19)=y:=⟨_,rfl⟩
 obtain ⟨y20,q20⟩:∃ y,c.eval (.tmp 20)=y:=⟨_,rfl⟩
 obtain ⟨y21,q21⟩:∃ y,c.eval (.tmp 21)=y:=⟨_,rfl⟩
 obtain ⟨y22,q22⟩:∃ y,c.eval (.tmp 22)=y:=⟨_,rfl⟩
 obtain ⟨y23,q23⟩:∃ y,c.eval (.tmp 23)=y:=⟨_,rfl⟩
 obtain ⟨y24,q24⟩:∃ y,c.eval (.tmp 24)=y:=⟨_,rfl⟩
 obtain ⟨y25,q25⟩:∃ y,c.eval (.tmp 25)=y:=⟨_,rfl⟩
 obtain ⟨y26,q26⟩:∃ y,c.eval (.tmp 26)=y:=⟨_,rfl⟩
 obtain ⟨y27,q27⟩:∃ y,c.eval (.tmp 27)=y:=⟨_,rfl⟩
 obtain ⟨y28,q28⟩:∃ y,c.eval (.tmp 28)=y:=⟨_,rfl⟩
 obtain ⟨y29,q29⟩:∃ y,c.eval (.tmp 29)=y:=⟨_,rfl⟩
 obtain ⟨y30,q30⟩:∃ y,c.eval (.tmp 30)=y:=⟨_,rfl⟩
 obtain ⟨y31,q31⟩:∃ y,c.eval (.tmp 31)=y:=⟨_,rfl⟩
 obtain ⟨y32,q32⟩:∃ y,c.eval (.tmp 32)=y:=⟨_,rfl⟩
 obtain ⟨y33,q33⟩:∃ y,c.eval (.tmp 33)=y:=⟨_,rfl⟩
 obtain ⟨y34,q34⟩:∃ y,c.eval (.tmp 34)=y:=⟨_,rfl⟩
 obtain ⟨y35,q35⟩:∃ y,c.eval (.tmp 35)=y:=⟨_,rfl⟩
 obtain ⟨y36,q36⟩:∃ y,c.eval (.tmp 36)=y:=⟨_,rfl⟩
 obtain ⟨y37,q37⟩:∃ y,c.eval (.tmp 37)=y:=⟨_,rfl⟩
 obtain ⟨y17,q17⟩:∃ y,c.eval (.tmp 17)=y:=⟨_,rfl⟩
 simp only [List.foldl_cons,List.foldl_nil,q18,q19,q20,q21,q22,q23,q24,q25,q26,q27,q28,q29,q30,q31,q32,q33,q34,q35,q36,q37,q17]
 rw [e17] at q17
 subst q17
 clear q18 q19 q20 q21 q22 q23 q24 q25 q26 q27 q28 q29 q30 q31 q32 q33 q34 q35 q36 q37
 simp only [List.setIfInBounds_toArray,List.set_cons_succ,List.set_cons_zero]
 clear e17 hS
 have HB3:=Zb (Za HB2.out hB3)
 clear hB3
 go_wp2_with fail
 go_ret
 exact ⟨rfl,HB3.out⟩
theorem Zvn {w:World} {p:GP} {nn nr:Int} {N R F T:List (Int × Value)} (h:GS w p nn nr N R F T) (B:Nat) (hok:p.Ok B) (hB:B≤w.heap.size) (hN:Zg1 N) (hR:Zg1 R) (hn:∀ q ∈ N,Zgk q.2) (hr:∀ q ∈ R,Zrp q.2) (id:Int) (hid:I64 id) (hid1:Zdy id N=true)
  (fa ta:Option Addr) (fl fc tl tc:Nat) (lf:Zrn p.f F id fa fl fc) (lt:Zrn p.t T id ta tl tc) (hfl:fl=0) (htl:tl=0) (j:Nat) (v0:Value) (hj:N[j]?=some (id,v0)) (huj:∀ a q,N[a]?=some q→q.1=id→a=j) :
  Calls Tryz.prog 33 #[p.val,.bool false,.int .i64 id] w fun e w'=>e=.returned (.int .i64 0)∧GS w' p nn nr (N.eraseIdx j) R F T∧Below B w w':=by
 have HG:=Zb h
 have HTh:=Zb (Zcq h)
 have HH:=Zb (Zem h hN hR hn hr id hid true hid1)
 have HLF:=Zb lf
 have HLT:=Zb lt
 have HOK:=Zb hok
 have HJ:=Zb (And.intro hj huj)
 clear h hN hR hn hr hid1 lf lt hok hj huj
 unfold GP.val at HTh ⊢
 go_enter Tryz.func33,Tryz.ntmps33
 go_wp2_with fail
 refine HTh.out.mono ?_
 rintro e w1 ⟨rfl,hw1⟩
 rw [hw1]
 clear hw1 HTh
 go_wp2_with fail
 refine HH.out.mono ?_
 rintro e w2 ⟨rfl,hb2⟩
 have HB2:=Zb hb2
 have HG2:=Zb (HG.out.below hb2)
 clear hb2 HH
 go_upto_region 5 with fail
 show (Code.region 5 Jb8 true).wp _ _ _ _
 refine Zl0 p id fa ta fl fc tl tc false _ _ _ rfl ⟨rfl,rfl,rfl⟩ ?_ ?_
 ·intro W hW
  exact ⟨(hW.cell (p:=⟨p.g,4,none⟩) HG2.out.obj.lt).trans HG2.out.c4,(hW.cell (p:=⟨p.g,5,none⟩) HG2.out.obj.lt).trans HG2.out.c5,HLF.out W (HG2.out.f.below hW (Nat.le_refl _)),HLT.out W (HG2.out.t.below hW (Nat.le_refl _)),by rw [IntKind.wrap_i64];omega,by simp;omega⟩
 intro c W3 hS hB3 e17
 rw [Zao hS [18,19,20,21,22,23,24,25,26,27,28,29,30,31,32,33,34,35,36,37,17] (by kernel_rfl)]
 obtain ⟨y18,q18⟩:∃ y,c.eval (.tmp 18)=y:=⟨_,rfl⟩
 obtain ⟨y19,q19⟩:∃ y,c.eval (.tmp 19)=y:=⟨_,rfl⟩
 obtain ⟨y20,q20⟩:∃ y,c.eval (.tmp 20)=y:=⟨_,rfl⟩
 obtain ⟨y21,q21⟩:∃ y,c.eval (.tmp 21)=y:=⟨_,rfl⟩
 obtain ⟨y22,q22⟩:∃ y,c.eval (.tmp 22)=y:=⟨_,rfl⟩
 obtain ⟨y23,q23⟩:∃ y,c.eval (.tmp 23)=y:=⟨_,rfl⟩
 obtain ⟨y24,q24⟩:∃ y,c.eval (.tmp 24)=y:=⟨_,rfl⟩
 obtain ⟨y25,q25⟩:∃ y,c.eval (.tmp 25)=y:=⟨_,rfl⟩
 obtain ⟨y26,q26⟩:∃ y,c.eval (.tmp 26)=y:=⟨_,rfl⟩
 obtain ⟨y27,q27⟩:∃ y,c.eval (.tmp 27)=y:=⟨_,rfl⟩
 obtain ⟨y28,q28⟩:∃ y,c.eval (.tmp 28)=y:=⟨_,rfl⟩
 obtain ⟨y29,q29⟩:∃ y,c.eval (.tmp 29)=y:=⟨_,rfl⟩
 obtain ⟨y30,q30⟩:∃ y,c.eval (.tmp 30)=y:=⟨_,rfl⟩
 obtain ⟨y31,q31⟩:∃ y,c.eval (.tmp 31)=y:=⟨_,rfl⟩
 obtain ⟨y32,q32⟩:∃ y,c.eval (.tmp 32)=y:=⟨_,rfl⟩
 obtain ⟨y33,q33⟩:∃ y,c.eval (.tmp 33)=y:=⟨_,rfl⟩
 obtain ⟨y34,q34⟩:∃ y,c.eval (.tmp 34)=y:=⟨_,rfl⟩
 obtain ⟨y35,q35⟩:∃ y,c.eval (.tmp 35)=y:=⟨_,rfl⟩
 obtain ⟨y36,q36⟩:∃ y,c.eval (.tmp 36)=y:=⟨_,rfl⟩
 obtain ⟨y37,q37⟩:∃ y,c.eval (.tmp 37)=y:=⟨_,rfl⟩
 obtain ⟨y17,q17⟩:∃ y,c.eval (.tmp 17)=y:=⟨_,rfl⟩
 simp only [List.foldl_cons,List.foldl_nil,q18,q19,q20,q21,q22,q23,q24,q25,q26,q27,q28,q29,q30,q31,q32,q33,q34,q35,q36,q37,q17]
 rw [e17] at q17
 subst q17
 clear q18 q19 q20 q21 q22 q23 q24 q25 q26 q27 q28 q29 q30 q31 q32 q33 q34 q35 q36 q37
 simp only [List.setIfInBounds_toArray,List.set_cons_succ,List.set_cons_zero]
 clear e17 hS
 have HB3:=Zb (Za HB2.out hB3)
 have HG3:=Zb (HG.out.below HB3.out)
 clear hB3 HB2 HG2
 obtain ⟨o1,o2,o3,o4,o5,n1,n2,n3,n4,n5,n6,n7,n8,n9,n10⟩:=HOK.out
 obtain ⟨w4,hdel,hm4,hs4,ho4,hb4⟩:=Zp4 (ty:=0) Tryz.underlying68' HG3.out.n j id v0 hid HJ.out.1 HJ.out.2
 have HG4:Hid (GS w4 p nn nr (N.eraseIdx j) R F T):=⟨HG3.out.obj.keep (ho4 _ n1),hm4,HG3.out.r.block (ho4 _ (Ne.symm n5)),HG3.out.f.block (ho4 _ (Ne.symm n6)),HG3.out.t.block (ho4 _ (Ne.symm n7))⟩
 have HB4:Hid (Below B w w4):=(HB3.out.mono hB).trans (hb4.mono o2)
 have c0:=HG3.out.c0
 clear hm4 hs4 ho4 hb4
 go_wp2_with fail
 go_ret
 exact ⟨rfl,HG4.out,HB4.out⟩
theorem Ja2 {w:World} {p:GP} {nn nr:Int} {N R F T:List (Int × Value)} (h:GS w p nn nr N R F T) (hN:Zg1 N) (hR:Zg1 R) (hn:∀ q ∈ N,Zgk q.2) (hr:∀ q ∈ R,Zrp q.2) (k:Int) (hk:I64 k) (b:Bool) (hb:Zdy k R=b) :
  Calls Tryz.prog 91 #[.pointer (some ⟨p.g,0,none⟩),.bool true,.int .i64 k] w fun e w'=>e=.returned (.bool b)∧Below w.heap.size w w':=by
 have:=Zuf h hN hR hn hr true k hk
 simpa [hb,GP.val] using this
theorem Zym {w:World} {p:GP} {nn nr:Int} {N R F T:List (Int × Value)} (h:GS w p nn nr N R F T) (B:Nat) (hok:p.Ok B) (hB:B≤w.heap.size) (hN:Zg1 N) (hR:Zg1 R) (hn:∀ q ∈ N,Zgk q.2) (hr:∀ q ∈ R,Zrp q.2) (id f t:Int) (s:ByteArray) (pa:Option Addr) (pn pc:Nat) (hid:I64 id) (hf:I64 f) (ht:I64 t) (hid1:Zdy id R=true)
  (F' T':List (Int × Value)) (m:Nat) (hm:R[m]?=some (id,.agg #[.int .i64 id,.int .i64 f,.int .i64 t,.string s,.slice pa pn pc])) (hum:∀ a q,R[a]?=some q→q.1=id→a=m)
  (hdet:∀ W,Below w.heap.size w W→Calls Tryz.prog 92 #[p.val,.agg #[.int .i64 id,.int .i64 f,.int .i64 t,.string s,.slice pa pn pc]] W fun e w'=>e=.returned (.tuple #[])∧GS w' p nn nr N R F' T'∧Below B W w') :
  Calls Tryz.prog 33 #[p.val,.bool true,.int .i64 id] w fun e w'=>e=.returned (.int .i64 0)∧GS w' p nn nr N (R.eraseIdx m) F' T'∧Below B w w':=by
 have HG:=Zb h
 have HTh:=Zb (Zcq h)
 have HH:=Zb (Ja2 h hN hR hn hr id hid true hid1)
 have HOK:=Zb hok
 have HJ:=Zb (And.intro hm hum)
 have HDe:=Zb hdet
 have HHit:Hid (∀ W,MI W p.r R→(Instr.lookup 69 (.map (some p.r)) (.int .i64 id) false).run Tryz.prog W=.ok (.agg #[.int .i64 id,.int .i64 f,.int .i64 t,.string s,.slice pa pn pc]) W):=fun W hW =>
  (Zis (z:=.agg #[.int .i64 0,.int .i64 0,.int .i64 0,.string ⟨#[]⟩,.slice none 0 0]) Tryz.underlying69' hW id _ hid (List.mem_of_getElem? hm) (fun q hq e=>hR q hq _ (List.mem_of_getElem? hm) e)).2
 clear h hN hR hn hr hid1 hok hm hum hdet
 unfold GP.val at HDe
 unfold GP.val at HTh ⊢
 go_enter Tryz.func33,Tryz.ntmps33
 go_wp2_with fail
 refine HTh.out.mono ?_
 rintro e w1 ⟨rfl,hw1⟩
 rw [hw1]
 clear hw1 HTh
 go_wp2_with fail
 refine HH.out.mono ?_
 rintro e w2 ⟨rfl,hb2⟩
 have HB2:=Zb hb2
 have HG2:=Zb (HG.out.below hb2)
 clear hb2 HH
 have hq5:Hid (Below w.heap.size w w2):=HB2
 go_upto_region 5 with fail
 go_quiet (fail)
 obtain ⟨w3,hw3⟩:∃ w3,w2.drewN nq=w3:=⟨_,rfl⟩
 have hd3:Below w2.heap.size w2 w3:=by rw [← hw3];exact ⟨rfl,rfl,rfl,Nat.le_refl _,fun _ _=>rfl⟩
 have HG3:=Zb (HG2.out.below hd3)
 have HB3:=Zb (Za HB2.out hd3)
 rw [hw3]
 clear HG2 HB2 hq5 hd3 hw3
 have c1:=HG3.out.c1
 have lk:=HHit.out w3 HG3.out.r
 go_wp2_with fail
 refine (HDe.out w3 HB3.out).mono ?_
 rintro e w4 ⟨rfl,hg4,hb4⟩
 have HG4:=Zb hg4
 have HB4:=Zb ((HB3.out.mono hB).trans hb4)
 clear hg4 hb4 c1 lk
 obtain ⟨o1,o2,o3,o4,o5,n1,n2,n3,n4,n5,n6,n7,n8,n9,n10⟩:=HOK.out
 obtain ⟨w5,hdel,hm5,hs5,ho5,hb5⟩:=Zp4 (ty:=0) Tryz.underlying69' HG4.out.r m id _ hid HJ.out.1 HJ.out.2
 have HG5:Hid (GS w5 p nn nr N (R.eraseIdx m) F' T'):=⟨HG4.out.obj.keep (ho5 _ n2),HG4.out.n.block (ho5 _ n5),hm5,HG4.out.f.block (ho5 _ (Ne.symm n8)),HG4.out.t.block (ho5 _ (Ne.symm n9))⟩
 have HB5:Hid (Below B w w5):=HB4.out.trans (hb5.mono o3)
 have c1:=HG4.out.c1
 clear hm5 hs5 ho5 hb5
 go_wp2_with fail
 go_ret
 exact ⟨rfl,HG5.out,HB5.out⟩
end
section
open Go.RowKit Go.Shelf
set_option linter.all false
attribute [local go_sem] Oper.semAt_some
def Zx (ks:List ByteArray):Int:=(ks.map fun k=>(k.size:Int)).sum
def Zk.bytes (t:Zk):Int:=t.text.size+Zx t.keys
def Zcr  : Int→List (Int × Zk)→Bool
 | _,[]=>false
 | a,(d,t)::r=>decide (64<d∨65536<t.kids.length∨1048576<a+t.bytes)||Zcr (a+t.bytes) r
def Ja (l:List (Int × Zk)):Int:=(l.map fun x=>x.2.bytes).sum
theorem Zqn (l:List (Int × Zk)):∀ (a d:Int) (t:Zk),Zcr a (l++[(d,t)])=(Zcr a l||decide (64<d∨65536<t.kids.length∨1048576<a+Ja l+t.bytes)):=by
 induction l with
 | nil=>intro a d t;simp [Zcr,Ja]
 | cons x r ih =>
  intro a d t
  obtain ⟨e,u⟩:=x
  simp only [List.cons_append,Zcr,ih,Ja,List.map_cons,List.sum_cons,Bool.or_assoc]
  congr 2
  rw [show a+(u.bytes+(r.map fun x=>x.2.bytes).sum)+t.bytes=a+u.bytes+(r.map fun x=>x.2.bytes).sum+t.bytes from by omega]
  rfl
theorem Zd3 {p l:List (Int × Zk)} (h:p <+: l):∀ a,Zcr a p=true→Zcr a l=true:=by
 obtain ⟨r,rfl⟩:=h
 induction p with
 | nil=>intro a h;simp [Zcr] at h
 | cons x p ih =>
  intro a h
  obtain ⟨d,t⟩:=x
  simp only [List.cons_append,Zcr,Bool.or_eq_true] at h ⊢
  exact h.imp id (ih _)
theorem Jt (ks:List ByteArray):0≤Zx ks:=by
 induction ks with
 | nil=>simp [Zx]
 | cons k r ih=>simp only [Zx,List.map_cons,List.sum_cons] at ih ⊢;omega
theorem Zls (t:Zk):0≤t.bytes:=by have:=Jt t.keys;unfold Zk.bytes;omega
theorem Zbi (a b:List (Int × Zk)):Ja (a++b)=Ja a+Ja b:=by simp [Ja]
theorem Ze7 (d k:Int) (b:Bool) (n:Int) (s:ByteArray) (ks:List ByteArray) (ts:List Zk):Ja [(d,.mk k b n s ks ts)]=s.size+Zx ks:=by simp [Ja,Zk.bytes,Zk.text,Zk.keys]
theorem Zc6 (l:List (Int × Zk)):0≤Ja l:=by
 induction l with
 | nil=>simp [Ja]
 | cons x r ih=>have:=Zls x.2;simp only [Ja,List.map_cons,List.sum_cons] at ih ⊢;omega
theorem Ziz {p l:List (Int × Zk)} (h:p <+: l):Ja p≤Ja l:=by
 obtain ⟨r,rfl⟩:=h
 have:=Zc6 r
 rw [Zbi];omega
theorem Zfs (ks:List ByteArray) (j:Nat) (h:j<ks.length):Zx (ks.take (j+1))=Zx (ks.take j)+(ks.getD j ⟨#[]⟩).size:=by
 rw [List.take_add_one,List.getD_eq_getElem?_getD,List.getElem?_eq_getElem h];simp only [Zx,Option.toList_some,List.map_append,List.sum_append,List.map_cons,List.map_nil,List.sum_cons,List.sum_nil,Option.getD_some];omega
theorem Zdq (ks:List ByteArray) (j:Nat):Zx (ks.take j)≤Zx ks:=by
 have h:Zx ks=Zx (ks.take j)+Zx (ks.drop j):=by
  have:=congrArg Zx (List.take_append_drop j ks)
  rw [← this];simp [Zx,-List.take_append_drop]
 have:=Jt (ks.drop j);omega
set_option maxRecDepth 100000 in
set_option maxHeartbeats 1000000 in
theorem Zsv {F:Fence} (hd:F.depth=none) (hro:F.round=none) (h48:F.fn 207) (h45:F.fn 204) (h57:F.fn 236) (h58:F.fn 237) (hex:∀ f,F.fn f→∃ fn,Tryz.prog.funcs[f]?=some fn) (m:Nat) (v:Value) (T:Zk) (w:World)
  (hv:Zaw w.heap.size w v T) (hh:T.height<100000000) (hb:Ja (T.pre 1)<4611686018427387904) :
  CallsIn F m Tryz.prog 207 #[v] w fun e w'=>Below w.heap.size w w'∧((Zcr 0 (T.pre 1)=false∧∃ x,e=.returned x)∨(Zcr 0 (T.pre 1)=true∧e=.panicked [{ v:=.iface 28 (.int .i64 3),recovered:=false }])):=by
 obtain ⟨k,b,n,s,ks,ts⟩:=T
 have hv0:=hv
 simp only [Zaw] at hv
 obtain ⟨ka,kc,la,lc,rfl,⟨hs1,hs2,hs3,hs4,hs5⟩,hk,ht⟩:=hv
 refine callsIn_of_wp_marks Tryz.func207 rfl h48 ?_ hro
 simp only [Tryz.ntmps207,List.size_toArray,List.length_cons,List.length_nil,Nat.reduceAdd,Nat.reduceSub,Array.replicate_succ,Array.replicate_zero,List.push_toArray,List.append_toArray,List.nil_append,List.cons_append]
 gi_wp2_with (gi_at_call 204;refine (Zjf h45 hro _ _ _ _ _ _ _ _ _ _ _ _).mono ?_;rintro e w' ⟨rfl,rfl⟩)
 refine Zkq hro hd (gf:=236) (lb:=#[.pointer (some ⟨w.heap.size+1+1,0,none⟩)]) rfl h57 (enters_of Tryz.func236 (by kernel_rfl) rfl) ?_
 intro fn hfn
 generalize hrec:Loop.mk _ _ _ _ _ _ _ _=rec
 simp only [World.size_alloc]
 generalize hW0:World.alloc _ (Obj.loop rec)=W0
 have hsz:W0.heap.size=w.heap.size+5:=by rw [← hW0];simp
 have b1:W0.heap[w.heap.size+1]?=some (.cells #[.int .i64 0] 3 (0,0)):=by rw [← hW0];simp only [Jr,World.size_alloc];repeat (first | rw [if_pos trivial] | rw [if_pos (by omega)] | rw [if_neg (by omega)])
 have b2:W0.heap[w.heap.size+2]?=some (.cells #[.int .i64 k,.bool b,.int .i64 n,.string s,.slice ka ks.length kc,.slice la ts.length lc] 60 (0,0)):=by rw [← hW0];simp only [Jr,World.size_alloc];repeat (first | rw [if_pos trivial] | rw [if_pos (by omega)] | rw [if_neg (by omega)])
 have b3:W0.heap[w.heap.size+3]?=some (.deferred (some [])):=by rw [← hW0];simp only [Jr,World.size_alloc];repeat (first | rw [if_pos trivial] | rw [if_pos (by omega)] | rw [if_neg (by omega)])
 have b4:W0.heap[w.heap.size+4]?=some (.loop rec):=by rw [← hW0];simp only [Jr,World.size_alloc];repeat (first | rw [if_pos trivial] | rw [if_pos (by omega)] | rw [if_neg (by omega)])
 have hbl:Below w.heap.size w W0:=by
  rw [← hW0];exact (((((Below.refl _ w).alloc (Nat.le_refl _) _).alloc (by simp) _).alloc (by simp;omega) _).alloc (by simp;omega) _).alloc (by simp;omega) _
 clear hW0
 have R:Zpb F (w.heap.size+4) w.heap.size (w.heap.size+5) w ((Zk.mk k b n s ks ts).pre 1)
   (fun pre W=>W.heap[w.heap.size+4]?=some (.loop rec)∧W.heap[w.heap.size+3]?=some (.deferred (some []))∧W.heap[w.heap.size+1]?=some (.cells #[.int .i64 (Ja pre)] 3 (0,0)) ∧
    Below w.heap.size w W∧w.heap.size+5≤W.heap.size∧Zcr 0 pre=false)
   (fun _=>False)
   (fun ch W=>ch=[{ v:=.iface 28 (.int .i64 3),recovered:=false }]∧W.heap[w.heap.size+3]?=some (.deferred (some []))∧Below w.heap.size w W∧Zcr 0 ((Zk.mk k b n s ks ts).pre 1)=true):=by
  refine ⟨?_,?_,?_⟩
  ·rintro pre W ⟨_,_,_,h4,h5,_⟩
   exact ⟨h4,by omega,h5⟩
  ·rintro pre W W' ⟨h1,h2,h3,h4,h5,h6⟩ hb
   exact ⟨(hb.block _ (by omega)).trans h1,(hb.block _ (by omega)).trans h2,(hb.block _ (by omega)).trans h3,h4.trans (hb.mono (by omega)),by have:=hb.size;omega,h6⟩
  ·rintro m' pre d ⟨k',b',n',s',ks',us⟩ v W ⟨h1,h2,h3,h4,h5,h6⟩ hlv hpre
   simp only [Zaw] at hlv
   obtain ⟨ka',kc',la',lc',rfl,⟨g1,g2,g3,g4,g5⟩,hk',ht'⟩:=hlv
   have ea:=congrArg Loop.assign hrec
   have eb:=congrArg Loop.body hrec
   have et:=congrArg Loop.tmps hrec
   have ep:=congrArg Loop.params hrec
   have es:=congrArg Loop.state hrec
   have ef:=congrArg Loop.fn hrec
   have hr0:Zkp rec=rec:=by rw [← hrec];rfl
   dsimp only at ea eb et ep es ef
   clear hrec
   refine Zfd (by rw [← ef];exact hfn) ea eb et ep h1 es.symm (by rw [← ep];rfl) ?_
   clear ea eb et ep es
   gi_wp2_with fail
   refine ⟨(Below.heap_alloc _ _ _ (by omega)).trans h1,?_⟩
   unfold maxLen at g1 g3 g5
   generalize hW2:World.putObj _ _ _=W2
   have a1:W2.heap[w.heap.size+4]?=some (.loop (Zd6 rec)):=by rw [← hW2];refine World.putObj_heap_same ?_;simp;omega
   have a2:Boxed W2 (w.heap.size+1) 3 (.int .i64 (Ja pre)):=by rw [← hW2];show _=_;rw [World.putObj_heap_other (by omega),Below.heap_alloc _ _ _ (by omega)];exact h3
   have a3:W2.heap[w.heap.size+3]?=some (.deferred (some [])):=by rw [← hW2,World.putObj_heap_other (by omega),Below.heap_alloc _ _ _ (by omega)];exact h2
   have a4:W2.heap[W.heap.size]?=some (.cells #[.int .i64 k',.bool b',.int .i64 n',.string s',.slice ka' ks'.length kc',.slice la' us.length lc'] 60 (0,0)):=by
    rw [← hW2];exact (World.putObj_heap_other (by omega)).trans (World.alloc_heap_new _ _)
   have a5:Below w.heap.size w W2:=by rw [← hW2];exact (But.putObj _ _).below ((h4.alloc (by omega) _)) (by omega)
   have a6:W2.heap.size=W.heap.size+1:=by rw [← hW2];simp
   have a7:Zci (w.heap.size+5) W W2:=⟨by omega,fun i hi hl=>by rw [← hW2];exact (World.putObj_heap_other (by omega)).trans (Below.heap_alloc _ _ _ hl)⟩
   clear hW2 h1 h2 h3
   have cb:=a2.cell
   have fb:=a2.frozen
   have x3:W2.cell? ⟨W.heap.size,3,none⟩=some (.string s'):=by unfold World.cell?;simp only [a4];rfl
   have x4:W2.cell? ⟨W.heap.size,4,none⟩=some (.slice ka' ks'.length kc'):=by unfold World.cell?;simp only [a4];rfl
   have hne:¬ (W.heap.size=w.heap.size+1):=by omega
   have hnb:=Zc6 pre
   have hbb:=Ziz hpre
   rw [Zbi,Ze7] at hbb
   have hkb:=Jt ks'
   gi_wp2_with fail
   gi_loopw [19] (fun i wr=>∃ j:Nat,j≤ks'.length∧i=.int .i64 j∧But (w.heap.size+1) W2 wr∧Boxed wr (w.heap.size+1) 3 (.int .i64 (Ja pre+s'.size+Zx (ks'.take j)))) (fun i _=>ks'.length - (intOf i).toNat)
   case atStart=>exact ⟨0,Nat.zero_le _,rfl,(But.refl _ _).setCell (p:=⟨w.heap.size+1,0,none⟩) rfl _,by simpa [Zx] using a2.set _⟩
   case round =>
    obtain ⟨j,hj,rfl,hbut,hbx⟩:=hrel
    have kj:=Jt (ks'.take j)
    have kl:=Zdq ks' j
    have cb':=hbx.cell
    have fb':=hbx.frozen
    clear cb fb x3 x4
    by_cases hlt:j<ks'.length
    ·obtain ⟨bk,off,rfl,hbk,hkey⟩:=hk'.resolve_left (by intro e;subst e;simp at hlt)
     have hc:=hkey j hlt
     have hck:wr.cell? ⟨bk,off+j,none⟩=some (.string (ks'.getD j ⟨#[]⟩)):=((hbut.cell (p:=⟨bk,off+j,none⟩) (by show bk≠_;omega)).trans (a5.cell (p:=⟨bk,off+j,none⟩) hbk)).trans hc.1
     have HS:Hid (Zx (ks'.take (j+1))=Zx (ks'.take j)+(ks'.getD j ⟨#[]⟩).size):=Zfs ks' j hlt
     have kl2:=Zdq ks' (j+1)
     rw [HS.out] at kl2
     have hsz:=hc.2
     unfold maxLen at hsz
     generalize ks'.getD j ⟨#[]⟩=kx at *
     clear hkey hc
     gi_wp2_with fail
     go_roundw
     case rel=>exact ⟨j+1,by omega,by go_num,hbut.setCell (p:=⟨w.heap.size+1,0,none⟩) rfl _,by rw [HS.out,← Int.add_assoc];exact hbx.set _⟩
     case measure=>simp [intOf];omega
    ·rw [List.take_of_length_le (by omega)] at hbx kj kl cb'
     have x5:wr.cell? ⟨W.heap.size,5,none⟩=some (.slice la' us.length lc'):=(hbut.cell (p:=⟨W.heap.size,5,none⟩) (by show W.heap.size≠_;omega)).trans (by unfold World.cell?;simp only [a4];rfl)
     have HH:Hid (Zcr 0 (pre++[(d,.mk k' b' n' s' ks' us)])=decide (64<d∨65536<us.length∨1048576<Ja pre+s'.size+Zx ks')):=by
      show _=_
      rw [Zqn,h6];simp [Zk.kids,Zk.bytes,Zk.text,Zk.keys,Int.add_assoc]
     have HB:Hid (Ja (pre++[(d,.mk k' b' n' s' ks' us)])=Ja pre+s'.size+Zx ks'):=by show _=_;rw [Zbi,Ze7];omega
     have HW:Hid (wr.heap[w.heap.size+4]?=some (.loop (Zd6 rec))):=(hbut.block _ (by omega)).trans a1
     have HD:Hid (wr.heap[w.heap.size+3]?=some (.deferred (some []))):=(hbut.block _ (by omega)).trans a3
     have HBel:Below w.heap.size w wr:=hbut.below a5 (by omega)
     have hs2:=hbut.size
     clear h6 a1 a2 a3 a4
     have HX:Hid (∃ fn,Tryz.prog.funcs[rec.fn]?=some fn):=hex _ (by rw [← ef];exact hfn)
     by_cases q1:64<d
     ·gi_wp2_with fail
      have HP:=Zd3 hpre 0 (HH.out.trans (by simp [q1]))
      first | exact ⟨rfl,HX.out,.inr (.inr ⟨_,rfl,rfl,HD.out,HBel,HP⟩)⟩ | exact ⟨rfl,HX.out,.inr ⟨_,rfl,rfl,HD.out,HBel,HP⟩⟩
     ·by_cases q2:65536<us.length
      ·have q2':(65536:Int)<us.length:=by omega
       gi_wp2_with fail
       have HP:=Zd3 hpre 0 (HH.out.trans (by simp [q2]))
       first | exact ⟨rfl,HX.out,.inr (.inr ⟨_,rfl,rfl,HD.out,HBel,HP⟩)⟩ | exact ⟨rfl,HX.out,.inr ⟨_,rfl,rfl,HD.out,HBel,HP⟩⟩
      ·have q2':¬ (65536:Int)<us.length:=by omega
       by_cases q3:1048576<Ja pre+s'.size+Zx ks'
       ·gi_wp2_with fail
        have HP:=Zd3 hpre 0 (HH.out.trans (by simp [q3]))
        first | exact ⟨rfl,HX.out,.inr (.inr ⟨_,rfl,rfl,HD.out,HBel,HP⟩)⟩ | exact ⟨rfl,HX.out,.inr ⟨_,rfl,rfl,HD.out,HBel,HP⟩⟩
       ·gi_wp2_with fail
        have hlt4:w.heap.size+4<wr.heap.size:=by omega
        refine ⟨HW.out,.inl ⟨rfl,⟨?_,?_,?_,?_,?_,?_⟩,?_⟩⟩
        ·rw [hr0];exact World.putObj_heap_same hlt4
        ·rw [World.putObj_heap_other (by omega)];exact HD.out
        ·rw [World.putObj_heap_other (by omega),HB.out];exact hbx
        ·exact (But.putObj _ _).below HBel (by omega)
        ·rw [World.putObj_size];omega
        ·exact HH.out.trans (by simp [q1,q2,q3])
        ·refine a7.trans ⟨by rw [World.putObj_size];omega,fun i hi hl=>?_⟩
         rw [World.putObj_heap_other (by omega)];exact hbut.block i (by omega)
 refine (Zh2 hd h57 h58 hro R (m - 1) (w.heap.size+1+1) W0 hv0 ⟨b4,b3,b1,hbl,by omega,rfl⟩ (by simp only [Zk.height] at hh;omega)
  (by unfold World.cell?;simp only [b2];rfl) (by unfold World.cell?;simp only [b2];rfl) (by unfold World.cell?;simp only [b2];rfl) (by unfold World.cell?;simp only [b2];rfl) (by unfold World.cell?;simp only [b2];rfl) (by unfold World.cell?;simp only [b2];rfl)).mono ?_
 rintro e W' (⟨⟨x,rfl⟩,⟨h1,h2,h3,h4,h5,h6⟩ | hx⟩ | ⟨ch,rfl,rfl,h2,h4,h6⟩)
 ·have hp:rec.pending=none:=by rw [← hrec]
  have hst:rec.state≠.busy:=by rw [← hrec];simp
  clear hrec
  refine ⟨rec,h1,hst,?_⟩
  simp only [hp]
  show LeavesInM _ _ _ _ _ _ [_] _ _
  refine ⟨by simp,.inl ⟨_,_,rfl,run_takeDeferred ((World.putObj_heap_other (by omega)).trans h2),?_⟩⟩
  refine ⟨_,by simp [results,Tryz.results207,go_sem];rfl,?_⟩
  exact ⟨(But.putObj _ _).below ((But.putObj _ _).below h4 (by omega)) (by omega),.inl ⟨h6,_,rfl⟩⟩
 ·exact hx.elim
 ·show LeavesInM _ _ _ _ _ _ [_] _ _
  refine ⟨by simp,.inl ⟨_,_,rfl,run_takeDeferred h2,?_⟩⟩
  exact ⟨(But.putObj _ _).below h4 (by omega),.inr ⟨h6,rfl⟩⟩
end
section
open Go.Shelf
open Go.Shelf
def Tryz.lays106_ren  : Go.Shelf.Ren:=⟨fun | 106=>135 | 213=>173 | 265=>216 | n=>n,fun | 9=>9 | 3=>3 | n=>n,fun | n=>n⟩
theorem Tryz.lays106  : Go.Proofs.Lays.n106 Tryz.prog Tryz.lays106_ren:={
 mixed:=by kernel_rfl
 f106:=Tryz.func135.trans (congrArg some (by kernel_rfl))
 f213:=Tryz.func173.trans (congrArg some (by kernel_rfl))
 f265:=Tryz.func216.trans (congrArg some (by kernel_rfl))
 t3:=Tryz.underlying3
 a3:=Tryz.isAgg3
 z3:=Tryz.sizeOf3
 v3:=Tryz.zeroValue3
 t9:=Tryz.underlying9
 a9:=Tryz.isAgg9
 z9:=Tryz.sizeOf9
 v9:=Tryz.zeroValue9 }
open Go.RowKit in
theorem Tryz.strings_Compare (a b:ByteArray) (w:World) :
  Calls Tryz.prog 135 #[.string a,.string b] w fun e w'=>e=.returned (.int .i64 (Lib.compareBytes a.data.toList b.data.toList))∧w'=w:=Any.strings_Compare Tryz.lays106 a b w
def Tryz.laysNm216_ren  : Go.Shelf.Ren:=⟨fun | 16=>99 | n=>n,fun | 24=>44 | 9=>9 | 4=>4 | n=>n,fun | n=>n⟩
theorem Tryz.laysNm216  : Go.Proofs.Lays2.n16 Tryz.prog Tryz.laysNm216_ren:={
 mixed:=by kernel_rfl
 f16:=Tryz.func99.trans (congrArg some (by kernel_rfl))
 t4:=Tryz.underlying4
 a4:=Tryz.isAgg4
 z4:=Tryz.sizeOf4
 v4:=Tryz.zeroValue4
 t9:=Tryz.underlying9
 a9:=Tryz.isAgg9
 z9:=Tryz.sizeOf9
 v9:=Tryz.zeroValue9
 t24:=Tryz.underlying44
 a24:=Tryz.isAgg44
 z24:=Tryz.sizeOf44
 v24:=Tryz.zeroValue44
 i9:=by kernel_rfl }
open Go.RowKit Go.Lib in
theorem Tryz.slices_Clone_string (b off n c:Nat) (zs:List ByteArray) (w:World) (hz:n≤zs.length) (hbig:n*16≤140737488355328) (hc:∀ j,j<zs.length→w.cell? ⟨b,off+j,none⟩=some (.string (zs.getD j ByteArray.empty))) :
  Calls Tryz.prog 99 #[.slice (some ⟨b,off,none⟩) n c] w fun e w'=>∃ v',e=.returned v'∧w'.ownsRow w.heap.size 9 1 v' n ((zs.take n).map (Value.string))∧v'≠.slice none 0 0∧Below w.heap.size w w':=Any.slices_Clone_string Tryz.laysNm216 b off n c zs w hz hbig hc
open Go.RowKit Go.Lib in
theorem Tryz.slices_Clone_string_nil (n c:Nat) (w:World) :
  Calls Tryz.prog 99 #[.slice none n c] w fun e w'=>e=.returned (.slice none 0 0)∧w'=w:=Any.slices_Clone_string_nil Tryz.laysNm216 n c w
open Go.RowKit Go.Lib in
theorem Tryz.slices_Clone_string_zero (a:Addr) (c:Nat) (w:World) :
  Calls Tryz.prog 99 #[.slice (some a) 0 c] w fun e w'=>∃ v',e=.returned v'∧w'.ownsRow w.heap.size 9 1 v' 0 []∧v'≠.slice none 0 0∧Below w.heap.size w w':=Any.slices_Clone_string_zero Tryz.laysNm216 a c w
end
