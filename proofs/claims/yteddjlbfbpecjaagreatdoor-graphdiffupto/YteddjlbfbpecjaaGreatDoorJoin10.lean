import Derived.Test.YteddjlbfbpecjaaGreatDoorJoin9
import Derived.Ground.NamesProg
import Derived.Ground.Names2Prog
import Derived.Shelf.Slices.Clone
namespace Go.Proofs.YteddjlbfbpecjaaGreatDoor
set_option maxHeartbeats 8000000
set_option maxRecDepth 100000
set_option linter.all false
section
open Go.RowKit Go.WideShapes Go.Shelf
noncomputable def Je6  : Array Oper:=Zy Tryz.f33 5
def Jim  : List Sig:=[⟨18,.move (.tmp 1),4,none⟩,⟨19,.unOp .not 4 (.tmp 18),4,none⟩,⟨20,.move (.tmp 19),4,none⟩,⟨21,.move (.tmp 0),31,some (2,true)⟩,⟨22,.nilCheck (.tmp 21),0,some (2,true)⟩,⟨23,.fieldAddr 74 (.tmp 22) 1,0,some (2,true)⟩,⟨24,.load 72 (.tmp 23),72,some (2,true)⟩,⟨25,.move (.tmp 2),2,some (2,true)⟩,⟨26,.lookup 72 (.tmp 24) (.tmp 25) false,100,some (2,true)⟩,⟨27,.call { callee:=.builtin .len,args:=#[.tmp 26],argTypes:=#[100] },3,some (2,true)⟩,⟨28,.move (.tmp 0),31,some (2,true)⟩,⟨29,.nilCheck (.tmp 28),0,some (2,true)⟩,⟨30,.fieldAddr 74 (.tmp 29) 2,0,some (2,true)⟩,⟨31,.load 72 (.tmp 30),72,some (2,true)⟩,⟨32,.move (.tmp 2),2,some (2,true)⟩,⟨33,.lookup 72 (.tmp 31) (.tmp 32) false,100,some (2,true)⟩,⟨34,.call { callee:=.builtin .len,args:=#[.tmp 33],argTypes:=#[100] },3,some (2,true)⟩,⟨35,.binOp .add 3 (.tmp 27) (.tmp 34) 3,3,some (2,true)⟩,⟨36,.binOp .gtr 3 (.tmp 35) (.const (.int .i64 0)) 3,4,some (2,true)⟩,⟨37,.pick (.tmp 20) (.tmp 36) (.const (.bool false)),4,none⟩,⟨17,.assign (.tmp 37),4,none⟩]
theorem Jin  : Jh Je6=Jim.map some:=by kernel_rfl
def Jkf  : List (List Nat):=[[],[0],[1],[2],[2,3],[2,4],[2,5],[2],[2,6,7],[2,8],[2],[2,10],[2,11],[2,12],[2],[2,13,14],[2,15],[2,9,16],[2,17],[2,18],[19]]
def Jkg (p:GP) (id:Int) (i j:Option Addr) (a h d e:Nat) (b:Bool):List Value:=[.bool false,.bool true,.bool true,.pointer (some ⟨p.g,0,none⟩),.pointer (some ⟨p.g,0,none⟩),.pointer (some ⟨p.g,4,none⟩),.map (some p.f),.int .i64 id,.slice i a h,.int .i64 (a:Int),.pointer (some ⟨p.g,0,none⟩),.pointer (some ⟨p.g,0,none⟩),.pointer (some ⟨p.g,5,none⟩),.map (some p.t),.int .i64 id,.slice j d e,.int .i64 (d:Int),.int .i64 ((a:Int)+(d:Int)),.bool b,.bool b,.bool b]
structure Zwe (p:GP) (id:Int) (i j:Option Addr) (a h d e:Nat) (b:Bool) (c:Act):Prop where
 t0:c.eval (.tmp 0)=.pointer (some ⟨p.g,0,none⟩)
 t1:c.eval (.tmp 1)=.bool false
 t2:c.eval (.tmp 2)=.int .i64 id
structure Zrf (p:GP) (id:Int) (i j:Option Addr) (a h d e:Nat) (b:Bool) (w:World):Prop where
 c4:w.cell? ⟨p.g,4,none⟩=some (.map (some p.f))
 c5:w.cell? ⟨p.g,5,none⟩=some (.map (some p.t))
 l4:(Instr.lookup 72 (.map (some p.f)) (.int .i64 id) false).run Tryz.prog w=.ok (.slice i a h) w
 l5:(Instr.lookup 72 (.map (some p.t)) (.int .i64 id) false).run Tryz.prog w=.ok (.slice j d e) w
 kw:IntKind.i64.wrap ((a:Int)+(d:Int))=(a:Int)+(d:Int)
 kg:decide ((0:Int)<(a:Int)+(d:Int))=b
set_option maxRecDepth 100000 in
set_option maxHeartbeats 4000000 in
theorem Znt (p:GP) (id:Int) (i j:Option Addr) (a h d e:Nat) (b:Bool) (Q:Exit->Act->World->Prop) (base:Act) (o:World) (m:base.tmps.size=60) (l:Zwe p id i j a h d e b base)
  (q:∀ w,Below o.heap.size o w->Zrf p id i j a h d e b w) (s:∀ c w,Zaf Je6 base c->Below o.heap.size o w->c.eval (.tmp 17)=.bool b->Q .normal c w):(Code.region 5 Je6 true).wp Tryz.prog Q base o:=by
 refine Zn (B:=Zwe p id i j a h d e b) (T:=Zrf p id i j a h d e b) (n:=21) (k:=20) Jim Jkf (Jkg p id i j a h d e b) Jin rfl (by kernel_rfl) (by kernel_rfl) (by kernel_rfl) (by rw [m];kernel_rfl) (fun c r=>⟨(Zc r (by kernel_rfl)).trans l.t0,(Zc r (by kernel_rfl)).trans l.t1,(Zc r (by kernel_rfl)).trans l.t2⟩) q ?_ (by decide) rfl rfl s
 clear m l q s
 iterate 21 (refine Zd ?_ (by
  intro c w l q hEq
  obtain ⟨t0,t1,t2⟩:=l
  obtain ⟨c4,c5,l4,l5,kw,kg⟩:=q
  have u:=evc c
  have x:=evf c
  dsimp only [Jkf,Jim,Jkg,nth,Zbm,Za2,Jc] at hEq |-
  first
  | exact ⟨by simp only [hEq],.inr ⟨by first | exact .inl rfl | exact .inr rfl,rfl⟩⟩
  | ((try refine ⟨by simp only [hEq],.inl ⟨rfl,?_⟩⟩);first | (refine .inl fun pos v=>?_;(dsimp only [Sig.oper];generalize c.eval=ρ at *;go_simp;done)))))
 exact Zf
end
section
open Go.RowKit Go.Shelf
attribute [local go_sem] Oper.semAt_some
def Zt8 (b:Nat) (es:List (Int × Value)) (k:Int) (a:Option Addr) (n c:Nat):Prop:=∀ W,MI W b es->(Instr.lookup 72 (.map (some b)) (.int .i64 k) false).run Tryz.prog W=.ok (.slice a n c) W
theorem Zmm {w:World} {p:GP} {nn nr:Int} {N R F T:List (Int × Value)} (h:GS w p nn nr N R F T) (hN:Zhn N) (hR:Zhn R) (hn:∀ q ∈ N,Zg0 q.2) (hr:∀ q ∈ R,Zub q.2) (id:Int) (v:I64 id) (i:Zd8 id N=true)
  (fa ta:Option Addr) (fl fc tl tc:Nat) (lf:Zt8 p.f F id fa fl fc) (lt:Zt8 p.t T id ta tl tc) (g1:0<fl+tl) (d5:fl<=2000000) (e8:tl<=2000000) :
  Calls Tryz.prog 33 #[p.val,.bool false,.int .i64 id] w fun e w'=>e=.returned (.int .i64 150)/\Below w.heap.size w w':=by
 have HG:=Zb h
 have o:=Zb (Zcw h)
 have HH:=Zb (Zew h hN hR hn hr id v true i)
 have b8:=Zb lf
 have b4:=Zb lt
 clear h hN hR hn hr i lf lt
 unfold GP.val at o |-
 go_enter Tryz.func33,Tryz.ntmps33
 go_wp2_with fail
 refine o.out.mono ?_
 rintro e w1 ⟨rfl,A⟩
 rw [A]
 clear A o
 go_wp2_with fail
 refine HH.out.mono ?_
 rintro e w2 ⟨rfl,l⟩
 have C:=Zb l
 have d:=Zb (HG.out.below l)
 clear l HH
 go_upto_region 5 with fail
 show (Code.region 5 Je6 true).wp _ _ _ _
 refine Znt p id fa ta fl fc tl tc true _ _ _ rfl ⟨rfl,rfl,rfl⟩ ?_ ?_
 ·intro W hW
  exact ⟨(hW.cell (p:=⟨p.g,4,none⟩) d.out.obj.lt).trans d.out.c4,(hW.cell (p:=⟨p.g,5,none⟩) d.out.obj.lt).trans d.out.c5,b8.out W (d.out.f.below hW (Nat.le_refl _)),b4.out W (d.out.t.below hW (Nat.le_refl _)),by rw [IntKind.wrap_i64];omega,by simp;omega⟩
 intro c W3 hS a1 G
 rw [Zba hS [18,19,20,21,22,23,24,25,26,27,28,29,30,31,32,33,34,35,36,37,17] (by kernel_rfl)]
 obtain ⟨f2,I⟩:∃ y,c.eval (.tmp 18)=y:=⟨_,rfl⟩
 obtain ⟨f4,a9⟩:∃ y,c.eval (.tmp 19)=y:=⟨_,rfl⟩
 obtain ⟨d4,H⟩:∃ y,c.eval (.tmp 20)=y:=⟨_,rfl⟩
 obtain ⟨e7,Q⟩:∃ y,c.eval (.tmp 21)=y:=⟨_,rfl⟩
 obtain ⟨f7,O⟩:∃ y,c.eval (.tmp 22)=y:=⟨_,rfl⟩
 obtain ⟨g0,a6⟩:∃ y,c.eval (.tmp 23)=y:=⟨_,rfl⟩
 obtain ⟨e5,L⟩:∃ y,c.eval (.tmp 24)=y:=⟨_,rfl⟩
 obtain ⟨d9,X⟩:∃ y,c.eval (.tmp 25)=y:=⟨_,rfl⟩
 obtain ⟨d7,b1⟩:∃ y,c.eval (.tmp 26)=y:=⟨_,rfl⟩
 obtain ⟨f6,a7⟩:∃ y,c.eval (.tmp 27)=y:=⟨_,rfl⟩
 obtain ⟨e6,a3⟩:∃ y,c.eval (.tmp 28)=y:=⟨_,rfl⟩
 obtain ⟨e1,Y⟩:∃ y,c.eval (.tmp 29)=y:=⟨_,rfl⟩
 obtain ⟨e3,S⟩:∃ y,c.eval (.tmp 30)=y:=⟨_,rfl⟩
 obtain ⟨e2,V⟩:∃ y,c.eval (.tmp 31)=y:=⟨_,rfl⟩
 obtain ⟨f0,K⟩:∃ y,c.eval (.tmp 32)=y:=⟨_,rfl⟩
 obtain ⟨f8,a8⟩:∃ y,c.eval (.tmp 33)=y:=⟨_,rfl⟩
 obtain ⟨d2,a5⟩:∃ y,c.eval (.tmp 34)=y:=⟨_,rfl⟩
 obtain ⟨f3,a2⟩:∃ y,c.eval (.tmp 35)=y:=⟨_,rfl⟩
 obtain ⟨d3,a0⟩:∃ y,c.eval (.tmp 36)=y:=⟨_,rfl⟩
 obtain ⟨d8,M⟩:∃ y,c.eval (.tmp 37)=y:=⟨_,rfl⟩
 obtain ⟨e4,E⟩:∃ y,c.eval (.tmp 17)=y:=⟨_,rfl⟩
 simp only [List.foldl_cons,List.foldl_nil,I,a9,H,Q,O,a6,L,X,b1,a7,a3,Y,S,V,K,a8,a5,a2,a0,M,E]
 rw [G] at E
 subst E
 clear I a9 H Q O a6 L X b1 a7 a3 Y S V K a8 a5 a2 a0 M
 simp only [List.setIfInBounds_toArray,List.set_cons_succ,List.set_cons_zero]
 clear G hS
 have D:=Zb (Za C.out a1)
 clear a1
 go_wp2_with fail
 go_ret
 exact ⟨rfl,D.out⟩
theorem Zyt {w:World} {p:GP} {nn nr:Int} {N R F T:List (Int × Value)} (h:GS w p nn nr N R F T) (B:Nat) (a4:p.Ok B) (hB:B<=w.heap.size) (hN:Zhn N) (hR:Zhn R) (hn:∀ q ∈ N,Zg0 q.2) (hr:∀ q ∈ R,Zub q.2) (id:Int) (v:I64 id) (i:Zd8 id N=true)
  (fa ta:Option Addr) (fl fc tl tc:Nat) (lf:Zt8 p.f F id fa fl fc) (lt:Zt8 p.t T id ta tl tc) (d5:fl=0) (e8:tl=0) (j:Nat) (v0:Value) (hj:N[j]?=some (id,v0)) (c3:∀ a q,N[a]?=some q->q.1=id->a=j) :
  Calls Tryz.prog 33 #[p.val,.bool false,.int .i64 id] w fun e w'=>e=.returned (.int .i64 0)/\GS w' p nn nr (N.eraseIdx j) R F T/\Below B w w':=by
 have HG:=Zb h
 have o:=Zb (Zcw h)
 have HH:=Zb (Zew h hN hR hn hr id v true i)
 have b8:=Zb lf
 have b4:=Zb lt
 have b6:=Zb a4
 have HJ:=Zb (And.intro hj c3)
 clear h hN hR hn hr i lf lt a4 hj c3
 unfold GP.val at o |-
 go_enter Tryz.func33,Tryz.ntmps33
 go_wp2_with fail
 refine o.out.mono ?_
 rintro e w1 ⟨rfl,A⟩
 rw [A]
 clear A o
 go_wp2_with fail
 refine HH.out.mono ?_
 rintro e w2 ⟨rfl,l⟩
 have C:=Zb l
 have d:=Zb (HG.out.below l)
 clear l HH
 go_upto_region 5 with fail
 show (Code.region 5 Je6 true).wp _ _ _ _
 refine Znt p id fa ta fl fc tl tc false _ _ _ rfl ⟨rfl,rfl,rfl⟩ ?_ ?_
 ·intro W hW
  exact ⟨(hW.cell (p:=⟨p.g,4,none⟩) d.out.obj.lt).trans d.out.c4,(hW.cell (p:=⟨p.g,5,none⟩) d.out.obj.lt).trans d.out.c5,b8.out W (d.out.f.below hW (Nat.le_refl _)),b4.out W (d.out.t.below hW (Nat.le_refl _)),by rw [IntKind.wrap_i64];omega,by simp;omega⟩
 intro c W3 hS a1 G
 rw [Zba hS [18,19,20,21,22,23,24,25,26,27,28,29,30,31,32,33,34,35,36,37,17] (by kernel_rfl)]
 obtain ⟨f2,I⟩:∃ y,c.eval (.tmp 18)=y:=⟨_,rfl⟩
 obtain ⟨f4,a9⟩:∃ y,c.eval (.tmp 19)=y:=⟨_,rfl⟩
 obtain ⟨d4,H⟩:∃ y,c.eval (.tmp 20)=y:=⟨_,rfl⟩
 obtain ⟨e7,Q⟩:∃ y,c.eval (.tmp 21)=y:=⟨_,rfl⟩
 obtain ⟨f7,O⟩:∃ y,c.eval (.tmp 22)=y:=⟨_,rfl⟩
 obtain ⟨g0,a6⟩:∃ y,c.eval (.tmp 23)=y:=⟨_,rfl⟩
 obtain ⟨e5,L⟩:∃ y,c.eval (.tmp 24)=y:=⟨_,rfl⟩
 obtain ⟨d9,X⟩:∃ y,c.eval (.tmp 25)=y:=⟨_,rfl⟩
 obtain ⟨d7,b1⟩:∃ y,c.eval (.tmp 26)=y:=⟨_,rfl⟩
 obtain ⟨f6,a7⟩:∃ y,c.eval (.tmp 27)=y:=⟨_,rfl⟩
 obtain ⟨e6,a3⟩:∃ y,c.eval (.tmp 28)=y:=⟨_,rfl⟩
 obtain ⟨e1,Y⟩:∃ y,c.eval (.tmp 29)=y:=⟨_,rfl⟩
 obtain ⟨e3,S⟩:∃ y,c.eval (.tmp 30)=y:=⟨_,rfl⟩
 obtain ⟨e2,V⟩:∃ y,c.eval (.tmp 31)=y:=⟨_,rfl⟩
 obtain ⟨f0,K⟩:∃ y,c.eval (.tmp 32)=y:=⟨_,rfl⟩
 obtain ⟨f8,a8⟩:∃ y,c.eval (.tmp 33)=y:=⟨_,rfl⟩
 obtain ⟨d2,a5⟩:∃ y,c.eval (.tmp 34)=y:=⟨_,rfl⟩
 obtain ⟨f3,a2⟩:∃ y,c.eval (.tmp 35)=y:=⟨_,rfl⟩
 obtain ⟨d3,a0⟩:∃ y,c.eval (.tmp 36)=y:=⟨_,rfl⟩
 obtain ⟨d8,M⟩:∃ y,c.eval (.tmp 37)=y:=⟨_,rfl⟩
 obtain ⟨e4,E⟩:∃ y,c.eval (.tmp 17)=y:=⟨_,rfl⟩
 simp only [List.foldl_cons,List.foldl_nil,I,a9,H,Q,O,a6,L,X,b1,a7,a3,Y,S,V,K,a8,a5,a2,a0,M,E]
 rw [G] at E
 subst E
 clear I a9 H Q O a6 L X b1 a7 a3 Y S V K a8 a5 a2 a0 M
 simp only [List.setIfInBounds_toArray,List.set_cons_succ,List.set_cons_zero]
 clear G hS
 have D:=Zb (Za C.out a1)
 have u:=Zb (HG.out.below D.out)
 clear a1 C d
 obtain ⟨o1,o2,o3,o4,o5,n1,n2,n3,n4,n5,n6,n7,n8,n9,f5⟩:=b6.out
 obtain ⟨w4,c2,d1,f1,U,b0⟩:=Zsk (ty:=0) Tryz.underlying68' u.out.n j id v0 v HJ.out.1 HJ.out.2
 have x:Hid (GS w4 p nn nr (N.eraseIdx j) R F T):=⟨u.out.obj.keep (U _ n1),d1,u.out.r.block (U _ (Ne.symm n5)),u.out.f.block (U _ (Ne.symm n6)),u.out.t.block (U _ (Ne.symm n7))⟩
 have b5:Hid (Below B w w4):=(D.out.mono hB).trans (b0.mono o2)
 have c0:=u.out.c0
 clear d1 f1 U b0
 go_wp2_with fail
 go_ret
 exact ⟨rfl,x.out,b5.out⟩
theorem Jdy {w:World} {p:GP} {nn nr:Int} {N R F T:List (Int × Value)} (h:GS w p nn nr N R F T) (hN:Zhn N) (hR:Zhn R) (hn:∀ q ∈ N,Zg0 q.2) (hr:∀ q ∈ R,Zub q.2) (k:Int) (hk:I64 k) (b:Bool) (hb:Zd8 k R=b) :
  Calls Tryz.prog 91 #[.pointer (some ⟨p.g,0,none⟩),.bool true,.int .i64 k] w fun e w'=>e=.returned (.bool b)/\Below w.heap.size w w':=by
 have:=Zw9 h hN hR hn hr true k hk
 simpa [hb,GP.val] using this
theorem Jbm {w:World} {p:GP} {nn nr:Int} {N R F T:List (Int × Value)} (h:GS w p nn nr N R F T) (B:Nat) (a4:p.Ok B) (hB:B<=w.heap.size) (hN:Zhn N) (hR:Zhn R) (hn:∀ q ∈ N,Zg0 q.2) (hr:∀ q ∈ R,Zub q.2) (id f t:Int) (s:ByteArray) (pa:Option Addr) (pn pc:Nat) (v:I64 id) (hf:I64 f) (ht:I64 t) (i:Zd8 id R=true)
  (F' T':List (Int × Value)) (m:Nat) (hm:R[m]?=some (id,.agg #[.int .i64 id,.int .i64 f,.int .i64 t,.string s,.slice pa pn pc])) (c9:∀ a q,R[a]?=some q->q.1=id->a=m)
  (b2:∀ W,Below w.heap.size w W->Calls Tryz.prog 92 #[p.val,.agg #[.int .i64 id,.int .i64 f,.int .i64 t,.string s,.slice pa pn pc]] W fun e w'=>e=.returned (.tuple #[])/\GS w' p nn nr N R F' T'/\Below B W w') :
  Calls Tryz.prog 33 #[p.val,.bool true,.int .i64 id] w fun e w'=>e=.returned (.int .i64 0)/\GS w' p nn nr N (R.eraseIdx m) F' T'/\Below B w w':=by
 have HG:=Zb h
 have o:=Zb (Zcw h)
 have HH:=Zb (Jdy h hN hR hn hr id v true i)
 have b6:=Zb a4
 have HJ:=Zb (And.intro hm c9)
 have c8:=Zb b2
 have c7:Hid (∀ W,MI W p.r R->(Instr.lookup 69 (.map (some p.r)) (.int .i64 id) false).run Tryz.prog W=.ok (.agg #[.int .i64 id,.int .i64 f,.int .i64 t,.string s,.slice pa pn pc]) W):=fun W hW =>
  (Zk7 (z:=.agg #[.int .i64 0,.int .i64 0,.int .i64 0,.string ⟨#[]⟩,.slice none 0 0]) Tryz.underlying69' hW id _ v (List.mem_of_getElem? hm) (fun q hq e=>hR q hq _ (List.mem_of_getElem? hm) e)).2
 clear h hN hR hn hr i a4 hm c9 b2
 unfold GP.val at c8
 unfold GP.val at o |-
 go_enter Tryz.func33,Tryz.ntmps33
 go_wp2_with fail
 refine o.out.mono ?_
 rintro e w1 ⟨rfl,A⟩
 rw [A]
 clear A o
 go_wp2_with fail
 refine HH.out.mono ?_
 rintro e w2 ⟨rfl,l⟩
 have C:=Zb l
 have d:=Zb (HG.out.below l)
 clear l HH
 have d6:Hid (Below w.heap.size w w2):=C
 go_upto_region 5 with fail
 go_quiet (fail)
 obtain ⟨w3,b7⟩:∃ w3,w2.drewN nq=w3:=⟨_,rfl⟩
 have b3:Below w2.heap.size w2 w3:=by rw [<- b7];exact ⟨rfl,rfl,rfl,Nat.le_refl _,fun _ _=>rfl⟩
 have u:=Zb (d.out.below b3)
 have D:=Zb (Za C.out b3)
 rw [b7]
 clear d C d6 b3 b7
 have c1:=u.out.c1
 have lk:=c7.out w3 u.out.r
 go_wp2_with fail
 refine (c8.out w3 D.out).mono ?_
 rintro e w4 ⟨rfl,d0,b0⟩
 have x:=Zb d0
 have b5:=Zb ((D.out.mono hB).trans b0)
 clear d0 b0 c1 lk
 obtain ⟨o1,o2,o3,o4,o5,n1,n2,n3,n4,n5,n6,n7,n8,n9,f5⟩:=b6.out
 obtain ⟨w5,c2,c6,e0,P,b9⟩:=Zsk (ty:=0) Tryz.underlying69' x.out.r m id _ v HJ.out.1 HJ.out.2
 have f9:Hid (GS w5 p nn nr N (R.eraseIdx m) F' T'):=⟨x.out.obj.keep (P _ n2),x.out.n.block (P _ n5),c6,x.out.f.block (P _ (Ne.symm n8)),x.out.t.block (P _ (Ne.symm n9))⟩
 have e9:Hid (Below B w w5):=b5.out.trans (b9.mono o3)
 have c1:=x.out.c1
 clear c6 e0 P b9
 go_wp2_with fail
 go_ret
 exact ⟨rfl,f9.out,e9.out⟩
end
section
open Go.RowKit Go.Shelf
attribute [local go_sem] Oper.semAt_some
def Zx (ks:List ByteArray):Int:=(ks.map fun k=>(k.size:Int)).sum
def Zi.bytes (t:Zi):Int:=t.text.size+Zx t.keys
def Zcx  : Int->List (Int × Zi)->Bool
 | _,[]=>false
 | a,(d,t)::r=>decide (64<d\/65536<t.kids.length\/1048576<a+t.bytes)||Zcx (a+t.bytes) r
def Jb (l:List (Int × Zi)):Int:=(l.map fun x=>x.2.bytes).sum
theorem Zs3 (l:List (Int × Zi)):∀ (a d:Int) (t:Zi),Zcx a (l++[(d,t)])=(Zcx a l||decide (64<d\/65536<t.kids.length\/1048576<a+Jb l+t.bytes)):=by
 induction l with
 | nil=>intro a d t;simp [Zcx,Jb]
 | cons x r ih =>
  intro a d t
  obtain ⟨e,u⟩:=x
  simp only [List.cons_append,Zcx,ih,Jb,List.map_cons,List.sum_cons,Bool.or_assoc]
  congr 2
  rw [show a+(u.bytes+(r.map fun x=>x.2.bytes).sum)+t.bytes=a+u.bytes+(r.map fun x=>x.2.bytes).sum+t.bytes from by omega]
  rfl
theorem Zef {p l:List (Int × Zi)} (h:p <+: l):∀ a,Zcx a p=true->Zcx a l=true:=by
 obtain ⟨r,rfl⟩:=h
 induction p with
 | nil=>intro a h;simp [Zcx] at h
 | cons x p ih =>
  intro a h
  obtain ⟨d,t⟩:=x
  simp only [List.cons_append,Zcx,Bool.or_eq_true] at h |-
  exact h.imp id (ih _)
theorem Jz (ks:List ByteArray):0<=Zx ks:=by
 induction ks with
 | nil=>simp [Zx]
 | cons k r ih=>simp only [Zx,List.map_cons,List.sum_cons] at ih |-;omega
theorem Zng (t:Zi):0<=t.bytes:=by have:=Jz t.keys;unfold Zi.bytes;omega
theorem Zbl (a b:List (Int × Zi)):Jb (a++b)=Jb a+Jb b:=by simp [Jb]
theorem Zfj (d k:Int) (b:Bool) (n:Int) (s:ByteArray) (ks:List ByteArray) (ts:List Zi):Jb [(d,.mk k b n s ks ts)]=s.size+Zx ks:=by simp [Jb,Zi.bytes,Zi.text,Zi.keys]
theorem Zdg (l:List (Int × Zi)):0<=Jb l:=by
 induction l with
 | nil=>simp [Jb]
 | cons x r ih=>have:=Zng x.2;simp only [Jb,List.map_cons,List.sum_cons] at ih |-;omega
theorem Zjx {p l:List (Int × Zi)} (h:p <+: l):Jb p<=Jb l:=by
 obtain ⟨r,rfl⟩:=h
 have:=Zdg r
 rw [Zbl];omega
theorem Zf3 (ks:List ByteArray) (j:Nat) (h:j<ks.length):Zx (ks.take (j+1))=Zx (ks.take j)+(ks.getD j ⟨#[]⟩).size:=by
 rw [List.take_add_one,List.getD_eq_getElem?_getD,List.getElem?_eq_getElem h];simp only [Zx,Option.toList_some,List.map_append,List.sum_append,List.map_cons,List.map_nil,List.sum_cons,List.sum_nil,Option.getD_some];omega
theorem Zd0 (ks:List ByteArray) (j:Nat):Zx (ks.take j)<=Zx ks:=by
 have h:Zx ks=Zx (ks.take j)+Zx (ks.drop j):=by
  have:=congrArg Zx (List.take_append_drop j ks)
  rw [<- this];simp [Zx,-List.take_append_drop]
 have:=Jz (ks.drop j);omega
set_option maxRecDepth 100000 in
set_option maxHeartbeats 1000000 in
theorem Zvg {F:Fence} (hd:F.depth=none) (D:F.round=none) (b9:F.fn 207) (c6:F.fn 204) (Q:F.fn 236) (c4:F.fn 237) (c8:∀ f,F.fn f->∃ fn,Tryz.prog.funcs[f]?=some fn) (m:Nat) (v:Value) (T:Zi) (w:World)
  (hv:Zaw w.heap.size w v T) (hh:T.height<100000000) (N:Jb (T.pre 1)<4611686018427387904) :
  CallsIn F m Tryz.prog 207 #[v] w fun e w'=>Below w.heap.size w w'/\((Zcx 0 (T.pre 1)=false/\∃ x,e=.returned x)\/(Zcx 0 (T.pre 1)=true/\e=.panicked [{ v:=.iface 28 (.int .i64 3),recovered:=false }])):=by
 obtain ⟨k,b,n,s,ks,ts⟩:=T
 have b5:=hv
 simp only [Zaw] at hv
 obtain ⟨ka,kc,la,lc,rfl,⟨d6,c3,d5,c9,d2⟩,hk,ht⟩:=hv
 refine callsIn_of_wp_marks Tryz.func207 rfl b9 ?_ D
 simp only [Tryz.ntmps207,List.size_toArray,List.length_cons,List.length_nil,Nat.reduceAdd,Nat.reduceSub,Array.replicate_succ,Array.replicate_zero,List.push_toArray,List.append_toArray,List.nil_append,List.cons_append]
 gi_wp2_with (gi_at_call 204;refine (Zkl c6 D _ _ _ _ _ _ _ _ _ _ _ _).mono ?_;rintro e w' ⟨rfl,rfl⟩)
 refine Zl7 D hd (gf:=236) (lb:=#[.pointer (some ⟨w.heap.size+1+1,0,none⟩)]) rfl Q (enters_of Tryz.func236 (by kernel_rfl) rfl) ?_
 intro fn a9
 generalize g:Loop.mk _ _ _ _ _ _ _ _=rec
 simp only [World.size_alloc]
 generalize z:World.alloc _ (Obj.loop rec)=W0
 have a8:W0.heap.size=w.heap.size+5:=by rw [<- z];simp
 have b1:W0.heap[w.heap.size+1]?=some (.cells #[.int .i64 0] 3 (0,0)):=by rw [<- z];simp only [Jv,World.size_alloc];repeat (first | rw [if_pos trivial] | rw [if_pos (by omega)] | rw [if_neg (by omega)])
 have P:W0.heap[w.heap.size+2]?=some (.cells #[.int .i64 k,.bool b,.int .i64 n,.string s,.slice ka ks.length kc,.slice la ts.length lc] 60 (0,0)):=by rw [<- z];simp only [Jv,World.size_alloc];repeat (first | rw [if_pos trivial] | rw [if_pos (by omega)] | rw [if_neg (by omega)])
 have b3:W0.heap[w.heap.size+3]?=some (.deferred (some [])):=by rw [<- z];simp only [Jv,World.size_alloc];repeat (first | rw [if_pos trivial] | rw [if_pos (by omega)] | rw [if_neg (by omega)])
 have b4:W0.heap[w.heap.size+4]?=some (.loop rec):=by rw [<- z];simp only [Jv,World.size_alloc];repeat (first | rw [if_pos trivial] | rw [if_pos (by omega)] | rw [if_neg (by omega)])
 have c5:Below w.heap.size w W0:=by
  rw [<- z];exact (((((Below.refl _ w).alloc (Nat.le_refl _) _).alloc (by simp) _).alloc (by simp;omega) _).alloc (by simp;omega) _).alloc (by simp;omega) _
 clear z
 have R:Zrg F (w.heap.size+4) w.heap.size (w.heap.size+5) w ((Zi.mk k b n s ks ts).pre 1)
   (fun pre W=>W.heap[w.heap.size+4]?=some (.loop rec)/\W.heap[w.heap.size+3]?=some (.deferred (some []))/\W.heap[w.heap.size+1]?=some (.cells #[.int .i64 (Jb pre)] 3 (0,0)) /\
    Below w.heap.size w W/\w.heap.size+5<=W.heap.size/\Zcx 0 pre=false)
   (fun _=>False)
   (fun ch W=>ch=[{ v:=.iface 28 (.int .i64 3),recovered:=false }]/\W.heap[w.heap.size+3]?=some (.deferred (some []))/\Below w.heap.size w W/\Zcx 0 ((Zi.mk k b n s ks ts).pre 1)=true):=by
  refine ⟨?_,?_,?_⟩
  ·rintro pre W ⟨_,_,_,E,h5,_⟩
   exact ⟨E,by omega,h5⟩
  ·rintro pre W W' ⟨h1,h2,h3,E,h5,I⟩ N
   exact ⟨(N.block _ (by omega)).trans h1,(N.block _ (by omega)).trans h2,(N.block _ (by omega)).trans h3,E.trans (N.mono (by omega)),by have:=N.size;omega,I⟩
  ·rintro m' pre d ⟨k',b',n',H,c,G⟩ v W ⟨h1,h2,h3,E,h5,I⟩ S B
   simp only [Zaw] at S
   obtain ⟨V,U,X,Y,rfl,⟨g1,g2,g3,g4,g5⟩,b6,d8⟩:=S
   have ea:=congrArg Loop.assign g
   have eb:=congrArg Loop.body g
   have et:=congrArg Loop.tmps g
   have ep:=congrArg Loop.params g
   have es:=congrArg Loop.state g
   have ef:=congrArg Loop.fn g
   have b7:Zl6 rec=rec:=by rw [<- g];rfl
   dsimp only at ea eb et ep es ef
   clear g
   refine Zfp (by rw [<- ef];exact a9) ea eb et ep h1 es.symm (by rw [<- ep];rfl) ?_
   clear ea eb et ep es
   gi_wp2_with fail
   refine ⟨(Below.heap_alloc _ _ _ (by omega)).trans h1,?_⟩
   unfold maxLen at g1 g3 g5
   generalize y:World.putObj _ _ _=W2
   have a1:W2.heap[w.heap.size+4]?=some (.loop (Zej rec)):=by rw [<- y];refine World.putObj_heap_same ?_;simp;omega
   have a2:Boxed W2 (w.heap.size+1) 3 (.int .i64 (Jb pre)):=by rw [<- y];show _=_;rw [World.putObj_heap_other (by omega),Below.heap_alloc _ _ _ (by omega)];exact h3
   have a3:W2.heap[w.heap.size+3]?=some (.deferred (some [])):=by rw [<- y,World.putObj_heap_other (by omega),Below.heap_alloc _ _ _ (by omega)];exact h2
   have a4:W2.heap[W.heap.size]?=some (.cells #[.int .i64 k',.bool b',.int .i64 n',.string H,.slice V c.length U,.slice X G.length Y] 60 (0,0)):=by
    rw [<- y];exact (World.putObj_heap_other (by omega)).trans (World.alloc_heap_new _ _)
   have a5:Below w.heap.size w W2:=by rw [<- y];exact (But.putObj _ _).below ((E.alloc (by omega) _)) (by omega)
   have a6:W2.heap.size=W.heap.size+1:=by rw [<- y];simp
   have a7:Zcp (w.heap.size+5) W W2:=⟨by omega,fun i hi hl=>by rw [<- y];exact (World.putObj_heap_other (by omega)).trans (Below.heap_alloc _ _ _ hl)⟩
   clear y h1 h2 h3
   have cb:=a2.cell
   have fb:=a2.frozen
   have x3:W2.cell? ⟨W.heap.size,3,none⟩=some (.string H):=by unfold World.cell?;simp only [a4];rfl
   have x4:W2.cell? ⟨W.heap.size,4,none⟩=some (.slice V c.length U):=by unfold World.cell?;simp only [a4];rfl
   have d3:¬ (W.heap.size=w.heap.size+1):=by omega
   have d7:=Zdg pre
   have c2:=Zjx B
   rw [Zbl,Zfj] at c2
   have d4:=Jz c
   gi_wp2_with fail
   gi_loopw [19] (fun i wr=>∃ j:Nat,j<=c.length/\i=.int .i64 j/\But (w.heap.size+1) W2 wr/\Boxed wr (w.heap.size+1) 3 (.int .i64 (Jb pre+H.size+Zx (c.take j)))) (fun i _=>c.length - (intOf i).toNat)
   case atStart=>exact ⟨0,Nat.zero_le _,rfl,(But.refl _ _).setCell (p:=⟨w.heap.size+1,0,none⟩) rfl _,by simpa [Zx] using a2.set _⟩
   case round =>
    obtain ⟨j,hj,rfl,o,C⟩:=hrel
    have kj:=Jz (c.take j)
    have kl:=Zd0 c j
    have b0:=C.cell
    have d1:=C.frozen
    clear cb fb x3 x4
    by_cases hlt:j<c.length
    ·obtain ⟨bk,off,rfl,b8,K⟩:=b6.resolve_left (by intro e;subst e;simp at hlt)
     have hc:=K j hlt
     have d0:wr.cell? ⟨bk,off+j,none⟩=some (.string (c.getD j ⟨#[]⟩)):=((o.cell (p:=⟨bk,off+j,none⟩) (by show bk≠_;omega)).trans (a5.cell (p:=⟨bk,off+j,none⟩) b8)).trans hc.1
     have HS:Hid (Zx (c.take (j+1))=Zx (c.take j)+(c.getD j ⟨#[]⟩).size):=Zf3 c j hlt
     have c7:=Zd0 c (j+1)
     rw [HS.out] at c7
     have a8:=hc.2
     unfold maxLen at a8
     generalize c.getD j ⟨#[]⟩=kx at *
     clear K hc
     gi_wp2_with fail
     go_roundw
     case rel=>exact ⟨j+1,by omega,by go_num,o.setCell (p:=⟨w.heap.size+1,0,none⟩) rfl _,by rw [HS.out,<- Int.add_assoc];exact C.set _⟩
     case measure=>simp [intOf];omega
    ·rw [List.take_of_length_le (by omega)] at C kj kl b0
     have x5:wr.cell? ⟨W.heap.size,5,none⟩=some (.slice X G.length Y):=(o.cell (p:=⟨W.heap.size,5,none⟩) (by show W.heap.size≠_;omega)).trans (by unfold World.cell?;simp only [a4];rfl)
     have HH:Hid (Zcx 0 (pre++[(d,.mk k' b' n' H c G)])=decide (64<d\/65536<G.length\/1048576<Jb pre+H.size+Zx c)):=by
      show _=_
      rw [Zs3,I];simp [Zi.kids,Zi.bytes,Zi.text,Zi.keys,Int.add_assoc]
     have HB:Hid (Jb (pre++[(d,.mk k' b' n' H c G)])=Jb pre+H.size+Zx c):=by show _=_;rw [Zbl,Zfj];omega
     have HW:Hid (wr.heap[w.heap.size+4]?=some (.loop (Zej rec))):=(o.block _ (by omega)).trans a1
     have M:Hid (wr.heap[w.heap.size+3]?=some (.deferred (some []))):=(o.block _ (by omega)).trans a3
     have q:Below w.heap.size w wr:=o.below a5 (by omega)
     have c3:=o.size
     clear I a1 a2 a3 a4
     have O:Hid (∃ fn,Tryz.prog.funcs[rec.fn]?=some fn):=c8 _ (by rw [<- ef];exact a9)
     by_cases q1:64<d
     ·gi_wp2_with fail
      have L:=Zef B 0 (HH.out.trans (by simp [q1]))
      first | exact ⟨rfl,O.out,.inr (.inr ⟨_,rfl,rfl,M.out,q,L⟩)⟩ | exact ⟨rfl,O.out,.inr ⟨_,rfl,rfl,M.out,q,L⟩⟩
     ·by_cases q2:65536<G.length
      ·have c1:(65536:Int)<G.length:=by omega
       gi_wp2_with fail
       have L:=Zef B 0 (HH.out.trans (by simp [q2]))
       first | exact ⟨rfl,O.out,.inr (.inr ⟨_,rfl,rfl,M.out,q,L⟩)⟩ | exact ⟨rfl,O.out,.inr ⟨_,rfl,rfl,M.out,q,L⟩⟩
      ·have c1:¬ (65536:Int)<G.length:=by omega
       by_cases q3:1048576<Jb pre+H.size+Zx c
       ·gi_wp2_with fail
        have L:=Zef B 0 (HH.out.trans (by simp [q3]))
        first | exact ⟨rfl,O.out,.inr (.inr ⟨_,rfl,rfl,M.out,q,L⟩)⟩ | exact ⟨rfl,O.out,.inr ⟨_,rfl,rfl,M.out,q,L⟩⟩
       ·gi_wp2_with fail
        have a0:w.heap.size+4<wr.heap.size:=by omega
        refine ⟨HW.out,.inl ⟨rfl,⟨?_,?_,?_,?_,?_,?_⟩,?_⟩⟩
        ·rw [b7];exact World.putObj_heap_same a0
        ·rw [World.putObj_heap_other (by omega)];exact M.out
        ·rw [World.putObj_heap_other (by omega),HB.out];exact C
        ·exact (But.putObj _ _).below q (by omega)
        ·rw [World.putObj_size];omega
        ·exact HH.out.trans (by simp [q1,q2,q3])
        ·refine a7.trans ⟨by rw [World.putObj_size];omega,fun i hi hl=>?_⟩
         rw [World.putObj_heap_other (by omega)];exact o.block i (by omega)
 refine (Ziz hd Q c4 D R (m - 1) (w.heap.size+1+1) W0 b5 ⟨b4,b3,b1,c5,by omega,rfl⟩ (by simp only [Zi.height] at hh;omega)
  (by unfold World.cell?;simp only [P];rfl) (by unfold World.cell?;simp only [P];rfl) (by unfold World.cell?;simp only [P];rfl) (by unfold World.cell?;simp only [P];rfl) (by unfold World.cell?;simp only [P];rfl) (by unfold World.cell?;simp only [P];rfl)).mono ?_
 rintro e W' (⟨⟨x,rfl⟩,⟨h1,h2,h3,E,h5,I⟩ | hx⟩ | ⟨ch,rfl,rfl,h2,E,I⟩)
 ·have hp:rec.pending=none:=by rw [<- g]
  have c0:rec.state≠.busy:=by rw [<- g];simp
  clear g
  refine ⟨rec,h1,c0,?_⟩
  simp only [hp]
  show LeavesInM _ _ _ _ _ _ [_] _ _
  refine ⟨by simp,.inl ⟨_,_,rfl,run_takeDeferred ((World.putObj_heap_other (by omega)).trans h2),?_⟩⟩
  refine ⟨_,by simp [results,Tryz.results207,go_sem];rfl,?_⟩
  exact ⟨(But.putObj _ _).below ((But.putObj _ _).below E (by omega)) (by omega),.inl ⟨I,_,rfl⟩⟩
 ·exact hx.elim
 ·show LeavesInM _ _ _ _ _ _ [_] _ _
  refine ⟨by simp,.inl ⟨_,_,rfl,run_takeDeferred h2,?_⟩⟩
  exact ⟨(But.putObj _ _).below E (by omega),.inr ⟨I,rfl⟩⟩
end
section
open Go.Shelf
open Go.Shelf
def Tryz.lays106_ren  : Go.Shelf.Ren:=⟨fun | 106=>135 | 213=>173 | 265=>216 | n=>n,fun | 9=>9 | 3=>3 | n=>n,fun | n=>n⟩
theorem Tryz.lays106  : Go.Proofs.Lays.n106 Tryz.prog Tryz.lays106_ren:={
 mixed:=by kernel_rfl
 f106:=Tryz.func135.trans (congrArg some (by kernel_rfl))
 f213:=Tryz.func173.trans (congrArg some (by kernel_rfl))
 f265:=Tryz.func216.trans (congrArg some (by kernel_rfl))
 t3:=Tryz.underlying3
 a3:=Tryz.isAgg3
 z3:=Tryz.sizeOf3
 v3:=Tryz.zeroValue3
 t9:=Tryz.underlying9
 a9:=Tryz.isAgg9
 z9:=Tryz.sizeOf9
 v9:=Tryz.zeroValue9 }
open Go.RowKit in
theorem Tryz.strings_Compare (a b:ByteArray) (w:World) :
  Calls Tryz.prog 135 #[.string a,.string b] w fun e w'=>e=.returned (.int .i64 (Lib.compareBytes a.data.toList b.data.toList))/\w'=w:=Any.strings_Compare Tryz.lays106 a b w
def Tryz.laysNm216_ren  : Go.Shelf.Ren:=⟨fun | 16=>99 | n=>n,fun | 24=>44 | 9=>9 | 4=>4 | n=>n,fun | n=>n⟩
theorem Tryz.laysNm216  : Go.Proofs.Lays2.n16 Tryz.prog Tryz.laysNm216_ren:={
 mixed:=by kernel_rfl
 f16:=Tryz.func99.trans (congrArg some (by kernel_rfl))
 t4:=Tryz.underlying4
 a4:=Tryz.isAgg4
 z4:=Tryz.sizeOf4
 v4:=Tryz.zeroValue4
 t9:=Tryz.underlying9
 a9:=Tryz.isAgg9
 z9:=Tryz.sizeOf9
 v9:=Tryz.zeroValue9
 t24:=Tryz.underlying44
 a24:=Tryz.isAgg44
 z24:=Tryz.sizeOf44
 v24:=Tryz.zeroValue44
 i9:=by kernel_rfl }
open Go.RowKit Go.Lib in
theorem Tryz.slices_Clone_string (b off n c:Nat) (g:List ByteArray) (w:World) (h:n<=g.length) (f:n*16<=140737488355328) (i:∀ j,j<g.length->w.cell? ⟨b,off+j,none⟩=some (.string (g.getD j ByteArray.empty))) :
  Calls Tryz.prog 99 #[.slice (some ⟨b,off,none⟩) n c] w fun e w'=>∃ d,e=.returned d/\w'.ownsRow w.heap.size 9 1 d n ((g.take n).map (Value.string))/\d≠.slice none 0 0/\Below w.heap.size w w':=Any.slices_Clone_string Tryz.laysNm216 b off n c g w h f i
open Go.RowKit Go.Lib in
theorem Tryz.slices_Clone_string_nil (n c:Nat) (w:World) :
  Calls Tryz.prog 99 #[.slice none n c] w fun e w'=>e=.returned (.slice none 0 0)/\w'=w:=Any.slices_Clone_string_nil Tryz.laysNm216 n c w
open Go.RowKit Go.Lib in
theorem Tryz.slices_Clone_string_zero (a:Addr) (c:Nat) (w:World) :
  Calls Tryz.prog 99 #[.slice (some a) 0 c] w fun e w'=>∃ d,e=.returned d/\w'.ownsRow w.heap.size 9 1 d 0 []/\d≠.slice none 0 0/\Below w.heap.size w w':=Any.slices_Clone_string_zero Tryz.laysNm216 a c w
end
