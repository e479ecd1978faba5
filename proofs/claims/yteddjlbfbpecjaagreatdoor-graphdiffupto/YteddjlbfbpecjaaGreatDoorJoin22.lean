import Derived.Test.YteddjlbfbpecjaaGreatDoorJoin21
namespace Go.Proofs.YteddjlbfbpecjaaGreatDoor
set_option maxRecDepth 100000
set_option linter.all false
section
open Go.RowKit Go.WideShapes Go.Shelf
noncomputable def RM1  : Array Oper:=Zy Tryz.f110 1
def Jdr (i:Nat):List Nat:=([[],[0],[1],[2],[3],[3,4],[3,5],[3,6],[7],[8],[8,9],[8,10],[8,11],[12],[13],[13,14],[13,15],[13,16],[17],[17,18],[17,19],[13,17,20],[13,21],[22],[22,23],[22,24],[13,22,25],[13,26],[27],[28],[28,29],[28,30],[28,31],[28,32],[33],[34],[34,35],[34,36],[34,37],[38],[38,39],[38,40],[38],[38,42],[38,43],[38,41,44],[34,38,45],[34,46]]:List (List Nat)).getD i []
def Zft (p:Nat) (k:Int) (b:Bool) (n:Int) (s:ByteArray) (ka:Option Addr) (kl kc:Nat) (la:Option Addr) (ll lc:Nat) (x2 x6 x7 x10 x11 x12 x16 x20 x21 x25 x26 x27 x31 x32 x33 x37 x45 x46 x47:Bool):List (Value->World->Prop) :=
 [eqv (.pointer (some ⟨p,0,none⟩)),eqv (.int .i64 k),eqv (.bool x2),eqv (.bool x2),eqv (gv (!x2) (.pointer (some ⟨p,0,none⟩))),eqv (gv (!x2) (.int .i64 k)),eqv (gv (!x2) (.bool x6)),eqv (.bool x7),eqv (.bool x7),eqv (gv (!x7) (.agg #[.int .i64 k,.bool b,.int .i64 n,.string s,.slice ka kl kc,.slice la ll lc])),eqv (gv (!x7) (.bool x10)),eqv (gv (!x7) (.bool x11)),eqv (.bool x12),eqv (.bool x12),eqv (gv (!x12) (.pointer (some ⟨p,0,none⟩))),eqv (gv (!x12) (.int .i64 k)),eqv (gv (!x12) (.bool x16)),eqv (gv (!x12) (.bool x16)),eqv (gv (!x12&&!x16) (.pointer (some ⟨p,0,none⟩))),eqv (gv (!x12&&!x16) (.int .i64 k)),eqv (gv (!x12&&!x16) (.bool x20)),eqv (gv (!x12) (.bool x21)),eqv (gv (!x12) (.bool x21)),eqv (gv (!x12&&x21) (.pointer (some ⟨p,2,none⟩))),eqv (gv (!x12&&x21) (.int .i64 n)),eqv (gv (!x12&&x21) (.bool x25)),eqv (gv (!x12) (.bool x26)),eqv (.bool x27),eqv (.bool x27),eqv (gv (!x27) (.pointer (some ⟨p,3,none⟩))),eqv (gv (!x27) (.string s)),eqv (gv (!x27) (.bool x31)),eqv (gv (!x27) (.bool x32)),eqv (.bool x33),eqv (.bool x33),eqv (gv (!x33) (.pointer (some ⟨p,0,none⟩))),eqv (gv (!x33) (.int .i64 k)),eqv (gv (!x33) (.bool x37)),eqv (gv (!x33) (.bool x37)),eqv (gv (!x33&&x37) (.pointer (some ⟨p,4,none⟩))),eqv (gv (!x33&&x37) (.slice ka kl kc)),eqv (gv (!x33&&x37) (.int .i64 (kl:Int))),eqv (gv (!x33&&x37) (.pointer (some ⟨p,5,none⟩))),eqv (gv (!x33&&x37) (.slice la ll lc)),eqv (gv (!x33&&x37) (.int .i64 (ll:Int))),eqv (gv (!x33&&x37) (.bool x45)),eqv (gv (!x33) (.bool x46)),eqv (.bool x47)]
structure Zyp (p:Nat) (k:Int) (b:Bool) (n:Int) (s:ByteArray) (ka:Option Addr) (kl kc:Nat) (la:Option Addr) (ll lc:Nat) (x2 x6 x7 x10 x11 x12 x16 x20 x21 x25 x26 x27 x31 x32 x33 x37 x45 x46 x47:Bool) (c:Act):Prop where
 t1:c.eval (.tmp 1)=.pointer (some ⟨p,0,none⟩)
structure Zp7 (p:Nat) (k:Int) (b:Bool) (n:Int) (s:ByteArray) (ka:Option Addr) (kl kc:Nat) (la:Option Addr) (ll lc:Nat) (x2 x6 x7 x10 x11 x12 x16 x20 x21 x25 x26 x27 x31 x32 x33 x37 x45 x46 x47:Bool) (w:World):Prop where
 c0:w.cell? ⟨p,0,none⟩=some (.int .i64 k)
 c1:w.cell? ⟨p,1,none⟩=some (.bool b)
 c2:w.cell? ⟨p,2,none⟩=some (.int .i64 n)
 c3:w.cell? ⟨p,3,none⟩=some (.string s)
 c4:w.cell? ⟨p,4,none⟩=some (.slice ka kl kc)
 c5:w.cell? ⟨p,5,none⟩=some (.slice la ll lc)
 small:s.size<=140737488355328
def Jm (p:Nat) (k:Int) (b:Bool) (n:Int) (s:ByteArray) (ka:Option Addr) (kl kc:Nat) (la:Option Addr) (ll lc:Nat) (x2 x6 x7 x10 x11 x12 x16 x20 x21 x25 x26 x27 x31 x32 x33 x37 x45 x46 x47:Bool) (Q:Exit->Act->World->Prop) (i:Nat):Prop:=∀ (c:Act) (w:World),Zyp p k b n s ka kl kc la ll lc x2 x6 x7 x10 x11 x12 x16 x20 x21 x25 x26 x27 x31 x32 x33 x37 x45 x46 x47 c->Zp7 p k b n s ka kl kc la ll lc x2 x6 x7 x10 x11 x12 x16 x20 x21 x25 x26 x27 x31 x32 x33 x37 x45 x46 x47 w->(∀ j ∈ Jdr i,Zg (Zft p k b n s ka kl kc la ll lc x2 x6 x7 x10 x11 x12 x16 x20 x21 x25 x26 x27 x31 x32 x33 x37 x45 x46 x47) j (val RM1 c j) w)->Zbp Tryz.prog RM1 Q (Zg (Zft p k b n s ka kl kc la ll lc x2 x6 x7 x10 x11 x12 x16 x20 x21 x25 x26 x27 x31 x32 x33 x37 x45 x46 x47)) i c w
theorem Zt3 {i:Nat} {o:Oper} {c:Act} (a:RM1[i]?=some o) (h:o.guard=none):Region.wanted o (yielded RM1 c.tmps)=true:=Zz h
section
variable {p:Nat} {k:Int} {b:Bool} {n:Int} {s:ByteArray} {ka:Option Addr} {kl kc:Nat} {la:Option Addr} {ll lc:Nat} {x2 x6 x7 x10 x11 x12 x16 x20 x21 x25 x26 x27 x31 x32 x33 x37 x45 x46 x47:Bool} {Q:Exit->Act->World->Prop}
theorem Jji  : Jm p k b n s ka kl kc la ll lc x2 x6 x7 x10 x11 x12 x16 x20 x21 x25 x26 x27 x31 x32 x33 x37 x45 x46 x47 Q 0:=by
 intro c w m l g
 have a:RM1[0]?=some (⟨some 5,.fieldAddr 60 (.tmp 1) 0,0, "ref.go:66",#[],none⟩:Oper):=by kernel_rfl
 have e1:=m.t1
 have d:=Zt3 (c:=c) a rfl
 have t:=evc c
 have ef:=evf c
 have r:=d
 refine Ze a r (v:=.pointer (some ⟨p,0,none⟩)) ?_ rfl (Below.refl _ _)
 generalize c.eval=ρ at *
 clear g m l d r a
 go_simp
theorem Jjj  : Jm p k b n s ka kl kc la ll lc x2 x6 x7 x10 x11 x12 x16 x20 x21 x25 x26 x27 x31 x32 x33 x37 x45 x46 x47 Q 1:=by
 intro c w m l g
 have a:RM1[1]?=some (⟨some 6,.load 57 (.tmp 5),57, "ref.go:66",#[⟨0,.data⟩],none⟩:Oper):=by kernel_rfl
 have e5:c.eval (.tmp 5)=.pointer (some ⟨p,0,none⟩):=Zm (by kernel_rfl) rfl (g 0 (by decide))
 have d:=Zt3 (c:=c) a rfl
 have R:=l.c0
 have t:=evc c
 have ef:=evf c
 have r:=d
 refine Ze a r (v:=.int .i64 k) ?_ rfl (Below.refl _ _)
 generalize c.eval=ρ at *
 clear g m l d r a
 go_simp
theorem Jjk (u:x2=decide (k<0)):Jm p k b n s ka kl kc la ll lc x2 x6 x7 x10 x11 x12 x16 x20 x21 x25 x26 x27 x31 x32 x33 x37 x45 x46 x47 Q 2:=by
 intro c w m l g
 have a:RM1[2]?=some (⟨some 7,.binOp .lss 57 (.tmp 6) (.const (Value.int .i64 0)) 57,4, "ref.go:66",#[⟨1,.data⟩],none⟩:Oper):=by kernel_rfl
 have e6:c.eval (.tmp 6)=.int .i64 k:=Zm (by kernel_rfl) rfl (g 1 (by decide))
 have d:=Zt3 (c:=c) a rfl
 have t:=evc c
 have ef:=evf c
 have r:=d
 refine Ze a r (v:=.bool x2) ?_ rfl (Below.refl _ _)
 generalize c.eval=ρ at *
 clear g m l d r a
 go_simp
theorem Jjl  : Jm p k b n s ka kl kc la ll lc x2 x6 x7 x10 x11 x12 x16 x20 x21 x25 x26 x27 x31 x32 x33 x37 x45 x46 x47 Q 3:=by
 intro c w m l g
 have a:RM1[3]?=some (⟨some 8,.move (.tmp 7),4, "ref.go:66",#[⟨2,.data⟩],none⟩:Oper):=by kernel_rfl
 have e7:c.eval (.tmp 7)=.bool x2:=Zm (by kernel_rfl) rfl (g 2 (by decide))
 have d:=Zt3 (c:=c) a rfl
 have t:=evc c
 have ef:=evf c
 have r:=d
 refine Ze a r (v:=.bool x2) ?_ rfl (Below.refl _ _)
 generalize c.eval=ρ at *
 clear g m l d r a
 go_simp
theorem Jjm  : Jm p k b n s ka kl kc la ll lc x2 x6 x7 x10 x11 x12 x16 x20 x21 x25 x26 x27 x31 x32 x33 x37 x45 x46 x47 Q 4:=by
 intro c w m l g
 have a:RM1[4]?=some (⟨some 9,.fieldAddr 60 (.tmp 1) 0,0, "ref.go:66",#[⟨3,.guard⟩],some (3,false)⟩:Oper):=by kernel_rfl
 have e1:=m.t1
 have q:val RM1 c 3=gv (true) (.bool x2):=g 3 (by decide)
 have d:=wgv a (want:=false) rfl q
 have t:=evc c
 have ef:=evf c
 cases x2
 all_goals
  first
   | exact Zq a (d.trans rfl) rfl
   | (refine Ze a (d.trans rfl) (v:=.pointer (some ⟨p,0,none⟩)) ?_ rfl (Below.refl _ _)
      generalize c.eval=ρ at *
      clear g m l d a q
      go_simp)
theorem Jjn  : Jm p k b n s ka kl kc la ll lc x2 x6 x7 x10 x11 x12 x16 x20 x21 x25 x26 x27 x31 x32 x33 x37 x45 x46 x47 Q 5:=by
 intro c w m l g
 have a:RM1[5]?=some (⟨some 10,.load 57 (.tmp 9),57, "ref.go:66",#[⟨4,.data⟩,⟨3,.guard⟩],some (3,false)⟩:Oper):=by kernel_rfl
 have e9:c.eval (.tmp 9)=gv (!x2) (.pointer (some ⟨p,0,none⟩)):=Zm (by kernel_rfl) rfl (g 4 (by decide))
 have q:val RM1 c 3=gv (true) (.bool x2):=g 3 (by decide)
 have d:=wgv a (want:=false) rfl q
 have R:=l.c0
 have t:=evc c
 have ef:=evf c
 cases x2
 all_goals
  try (dsimp only [gv,not,and,or,cond] at e9)
  first
   | exact Zq a (d.trans rfl) rfl
   | (refine Ze a (d.trans rfl) (v:=.int .i64 k) ?_ rfl (Below.refl _ _)
      generalize c.eval=ρ at *
      clear g m l d a q
      go_simp)
theorem Jjo (u:x6=decide (7<k)):Jm p k b n s ka kl kc la ll lc x2 x6 x7 x10 x11 x12 x16 x20 x21 x25 x26 x27 x31 x32 x33 x37 x45 x46 x47 Q 6:=by
 intro c w m l g
 have a:RM1[6]?=some (⟨some 11,.binOp .gtr 57 (.tmp 10) (.const (Value.int .i64 7)) 57,4, "ref.go:66",#[⟨5,.data⟩,⟨3,.guard⟩],some (3,false)⟩:Oper):=by kernel_rfl
 have b0:c.eval (.tmp 10)=gv (!x2) (.int .i64 k):=Zm (by kernel_rfl) rfl (g 5 (by decide))
 have q:val RM1 c 3=gv (true) (.bool x2):=g 3 (by decide)
 have d:=wgv a (want:=false) rfl q
 have t:=evc c
 have ef:=evf c
 cases x2
 all_goals
  try (dsimp only [gv,not,and,or,cond] at b0)
  first
   | exact Zq a (d.trans rfl) rfl
   | (refine Ze a (d.trans rfl) (v:=.bool x6) ?_ rfl (Below.refl _ _)
      generalize c.eval=ρ at *
      clear g m l d a q
      go_simp)
theorem Jjp (u:x7=(x2||x6)):Jm p k b n s ka kl kc la ll lc x2 x6 x7 x10 x11 x12 x16 x20 x21 x25 x26 x27 x31 x32 x33 x37 x45 x46 x47 Q 7:=by
 intro c w m l g
 have a:RM1[7]?=some (⟨some 12,.pick (.tmp 8) (.const (Value.bool true)) (.tmp 11),4, "ref.go:66",#[⟨3,.data⟩,⟨6,.data⟩],none⟩:Oper):=by kernel_rfl
 have e8:c.eval (.tmp 8)=.bool x2:=Zm (by kernel_rfl) rfl (g 3 (by decide))
 have W:c.eval (.tmp 11)=gv (!x2) (.bool x6):=Zm (by kernel_rfl) rfl (g 6 (by decide))
 have d:=Zt3 (c:=c) a rfl
 have t:=evc c
 have ef:=evf c
 cases x2<;>cases x6
 all_goals
  try (dsimp only [gv,not,and,or,cond] at e8 W)
  first
   | exact Zq a (d.trans rfl) rfl
   | (refine Ze a (d.trans rfl) (v:=.bool x7) ?_ rfl (Below.refl _ _)
      generalize c.eval=ρ at *
      clear g m l d a
      go_simp)
theorem Jjq  : Jm p k b n s ka kl kc la ll lc x2 x6 x7 x10 x11 x12 x16 x20 x21 x25 x26 x27 x31 x32 x33 x37 x45 x46 x47 Q 8:=by
 intro c w m l g
 have a:RM1[8]?=some (⟨some 13,.move (.tmp 12),4, "ref.go:66",#[⟨7,.data⟩,⟨3,.chain⟩],none⟩:Oper):=by kernel_rfl
 have f7:c.eval (.tmp 12)=.bool x7:=Zm (by kernel_rfl) rfl (g 7 (by decide))
 have d:=Zt3 (c:=c) a rfl
 have t:=evc c
 have ef:=evf c
 have r:=d
 refine Ze a r (v:=.bool x7) ?_ rfl (Below.refl _ _)
 generalize c.eval=ρ at *
 clear g m l d r a
 go_simp
theorem Jjr  : Jm p k b n s ka kl kc la ll lc x2 x6 x7 x10 x11 x12 x16 x20 x21 x25 x26 x27 x31 x32 x33 x37 x45 x46 x47 Q 9:=by
 intro c w m l g
 have a:RM1[9]?=some (⟨some 14,.load 60 (.tmp 1),60, "ref.go:66",#[⟨8,.guard⟩],some (8,false)⟩:Oper):=by kernel_rfl
 have e1:=m.t1
 have q:val RM1 c 8=gv (true) (.bool x7):=g 8 (by decide)
 have d:=wgv a (want:=false) rfl q
 have f5:=l.c0
 have f1:=l.c1
 have f4:=l.c2
 have f3:=l.c3
 have f0:=l.c4
 have f6:=l.c5
 have t:=evc c
 have ef:=evf c
 cases x7
 all_goals
  first
   | exact Zq a (d.trans rfl) rfl
   | (refine Ze a (d.trans rfl) (v:=.agg #[.int .i64 k,.bool b,.int .i64 n,.string s,.slice ka kl kc,.slice la ll lc]) ?_ rfl (Below.refl _ _)
      generalize c.eval=ρ at *
      clear g m l d a q
      go_simp)
theorem Jgm (u:x10=rbareB k b n s kl ll):Jm p k b n s ka kl kc la ll lc x2 x6 x7 x10 x11 x12 x16 x20 x21 x25 x26 x27 x31 x32 x33 x37 x45 x46 x47 Q 10:=by
 intro c w m l g
 have a:RM1[10]?=some (⟨some 15,.call { callee:=.value (.func 153),args:=#[.tmp 14],argTypes:=#[60] },4, "ref.go:66",#[⟨9,.data⟩,⟨8,.chain⟩,⟨8,.guard⟩],some (8,false)⟩:Oper):=by kernel_rfl
 have X:c.eval (.tmp 14)=gv (!x7) (.agg #[.int .i64 k,.bool b,.int .i64 n,.string s,.slice ka kl kc,.slice la ll lc]):=Zm (by kernel_rfl) rfl (g 9 (by decide))
 have q:val RM1 c 8=gv (true) (.bool x7):=g 8 (by decide)
 have d:=wgv a (want:=false) rfl q
 have t:=evc c
 have ef:=evf c
 cases x7
 all_goals
  try (dsimp only [gv,not,and,or,cond] at X)
  first
   | exact Zq a (d.trans rfl) rfl
   | (refine Zc2 a (d.trans rfl) (f:=153) (args:=#[.agg #[.int .i64 k,.bool b,.int .i64 n,.string s,.slice ka kl kc,.slice la ll lc]]) ?_ ((Zxy k b n s ka kl kc la ll lc w).mono fun e w' ⟨h1,h2⟩=>⟨_,h1,congrArg Value.bool u.symm,h2⟩)
      generalize c.eval=ρ at *
      clear g m l d a q
      go_simp)
theorem Jgn (u:x11=!x10):Jm p k b n s ka kl kc la ll lc x2 x6 x7 x10 x11 x12 x16 x20 x21 x25 x26 x27 x31 x32 x33 x37 x45 x46 x47 Q 11:=by
 intro c w m l g
 have a:RM1[11]?=some (⟨some 16,.unOp .not 4 (.tmp 15),4, "ref.go:66",#[⟨10,.data⟩,⟨8,.guard⟩],some (8,false)⟩:Oper):=by kernel_rfl
 have a2:c.eval (.tmp 15)=gv (!x7) (.bool x10):=Zm (by kernel_rfl) rfl (g 10 (by decide))
 have q:val RM1 c 8=gv (true) (.bool x7):=g 8 (by decide)
 have d:=wgv a (want:=false) rfl q
 have t:=evc c
 have ef:=evf c
 cases x7
 all_goals
  try (dsimp only [gv,not,and,or,cond] at a2)
  first
   | exact Zq a (d.trans rfl) rfl
   | (refine Ze a (d.trans rfl) (v:=.bool x11) ?_ rfl (Below.refl _ _)
      generalize c.eval=ρ at *
      clear g m l d a q
      go_simp)
theorem Jgo (u:x12=(x7||x11)):Jm p k b n s ka kl kc la ll lc x2 x6 x7 x10 x11 x12 x16 x20 x21 x25 x26 x27 x31 x32 x33 x37 x45 x46 x47 Q 12:=by
 intro c w m l g
 have a:RM1[12]?=some (⟨some 17,.pick (.tmp 13) (.const (Value.bool true)) (.tmp 16),4, "ref.go:66",#[⟨8,.data⟩,⟨11,.data⟩],none⟩:Oper):=by kernel_rfl
 have b9:c.eval (.tmp 13)=.bool x7:=Zm (by kernel_rfl) rfl (g 8 (by decide))
 have a0:c.eval (.tmp 16)=gv (!x7) (.bool x11):=Zm (by kernel_rfl) rfl (g 11 (by decide))
 have d:=Zt3 (c:=c) a rfl
 have t:=evc c
 have ef:=evf c
 cases x7<;>cases x11
 all_goals
  try (dsimp only [gv,not,and,or,cond] at b9 a0)
  first
   | exact Zq a (d.trans rfl) rfl
   | (refine Ze a (d.trans rfl) (v:=.bool x12) ?_ rfl (Below.refl _ _)
      generalize c.eval=ρ at *
      clear g m l d a
      go_simp)
theorem Jgp  : Jm p k b n s ka kl kc la ll lc x2 x6 x7 x10 x11 x12 x16 x20 x21 x25 x26 x27 x31 x32 x33 x37 x45 x46 x47 Q 13:=by
 intro c w m l g
 have a:RM1[13]?=some (⟨some 18,.move (.tmp 17),4, "ref.go:66",#[⟨12,.data⟩,⟨10,.chain⟩],none⟩:Oper):=by kernel_rfl
 have e3:c.eval (.tmp 17)=.bool x12:=Zm (by kernel_rfl) rfl (g 12 (by decide))
 have d:=Zt3 (c:=c) a rfl
 have t:=evc c
 have ef:=evf c
 have r:=d
 refine Ze a r (v:=.bool x12) ?_ rfl (Below.refl _ _)
 generalize c.eval=ρ at *
 clear g m l d r a
 go_simp
theorem Jgq  : Jm p k b n s ka kl kc la ll lc x2 x6 x7 x10 x11 x12 x16 x20 x21 x25 x26 x27 x31 x32 x33 x37 x45 x46 x47 Q 14:=by
 intro c w m l g
 have a:RM1[14]?=some (⟨some 19,.fieldAddr 60 (.tmp 1) 0,0, "ref.go:66",#[⟨13,.guard⟩],some (13,false)⟩:Oper):=by kernel_rfl
 have e1:=m.t1
 have q:val RM1 c 13=gv (true) (.bool x12):=g 13 (by decide)
 have d:=wgv a (want:=false) rfl q
 have t:=evc c
 have ef:=evf c
 cases x12
 all_goals
  first
   | exact Zq a (d.trans rfl) rfl
   | (refine Ze a (d.trans rfl) (v:=.pointer (some ⟨p,0,none⟩)) ?_ rfl (Below.refl _ _)
      generalize c.eval=ρ at *
      clear g m l d a q
      go_simp)
theorem Jgr  : Jm p k b n s ka kl kc la ll lc x2 x6 x7 x10 x11 x12 x16 x20 x21 x25 x26 x27 x31 x32 x33 x37 x45 x46 x47 Q 15:=by
 intro c w m l g
 have a:RM1[15]?=some (⟨some 20,.load 57 (.tmp 19),57, "ref.go:66",#[⟨14,.data⟩,⟨13,.guard⟩],some (13,false)⟩:Oper):=by kernel_rfl
 have d3:c.eval (.tmp 19)=gv (!x12) (.pointer (some ⟨p,0,none⟩)):=Zm (by kernel_rfl) rfl (g 14 (by decide))
 have q:val RM1 c 13=gv (true) (.bool x12):=g 13 (by decide)
 have d:=wgv a (want:=false) rfl q
 have R:=l.c0
 have t:=evc c
 have ef:=evf c
 cases x12
 all_goals
  try (dsimp only [gv,not,and,or,cond] at d3)
  first
   | exact Zq a (d.trans rfl) rfl
   | (refine Ze a (d.trans rfl) (v:=.int .i64 k) ?_ rfl (Below.refl _ _)
      generalize c.eval=ρ at *
      clear g m l d a q
      go_simp)
theorem Jgs (u:x16=(k==6)):Jm p k b n s ka kl kc la ll lc x2 x6 x7 x10 x11 x12 x16 x20 x21 x25 x26 x27 x31 x32 x33 x37 x45 x46 x47 Q 16:=by
 intro c w m l g
 have a:RM1[16]?=some (⟨some 21,.binOp .eql 57 (.tmp 20) (.const (Value.int .i64 6)) 57,4, "ref.go:66",#[⟨15,.data⟩,⟨13,.guard⟩],some (13,false)⟩:Oper):=by kernel_rfl
 have c8:c.eval (.tmp 20)=gv (!x12) (.int .i64 k):=Zm (by kernel_rfl) rfl (g 15 (by decide))
 have q:val RM1 c 13=gv (true) (.bool x12):=g 13 (by decide)
 have d:=wgv a (want:=false) rfl q
 have t:=evc c
 have ef:=evf c
 cases x12
 all_goals
  try (dsimp only [gv,not,and,or,cond] at c8)
  first
   | exact Zq a (d.trans rfl) rfl
   | (refine Ze a (d.trans rfl) (v:=.bool x16) ?_ rfl (Below.refl _ _)
      generalize c.eval=ρ at *
      clear g m l d a q
      go_simp)
theorem Jgt  : Jm p k b n s ka kl kc la ll lc x2 x6 x7 x10 x11 x12 x16 x20 x21 x25 x26 x27 x31 x32 x33 x37 x45 x46 x47 Q 17:=by
 intro c w m l g
 have a:RM1[17]?=some (⟨some 22,.move (.tmp 21),4, "ref.go:66",#[⟨16,.data⟩,⟨13,.chain⟩,⟨13,.guard⟩],some (13,false)⟩:Oper):=by kernel_rfl
 have a7:c.eval (.tmp 21)=gv (!x12) (.bool x16):=Zm (by kernel_rfl) rfl (g 16 (by decide))
 have q:val RM1 c 13=gv (true) (.bool x12):=g 13 (by decide)
 have d:=wgv a (want:=false) rfl q
 have t:=evc c
 have ef:=evf c
 cases x12
 all_goals
  try (dsimp only [gv,not,and,or,cond] at a7)
  first
   | exact Zq a (d.trans rfl) rfl
   | (refine Ze a (d.trans rfl) (v:=.bool x16) ?_ rfl (Below.refl _ _)
      generalize c.eval=ρ at *
      clear g m l d a q
      go_simp)
theorem Jgu  : Jm p k b n s ka kl kc la ll lc x2 x6 x7 x10 x11 x12 x16 x20 x21 x25 x26 x27 x31 x32 x33 x37 x45 x46 x47 Q 18:=by
 intro c w m l g
 have a:RM1[18]?=some (⟨some 23,.fieldAddr 60 (.tmp 1) 0,0, "ref.go:66",#[⟨17,.guard⟩],some (17,false)⟩:Oper):=by kernel_rfl
 have e1:=m.t1
 have q:val RM1 c 17=gv (!x12) (.bool x16):=g 17 (by decide)
 have d:=wgv a (want:=false) rfl q
 have t:=evc c
 have ef:=evf c
 cases x12<;>cases x16
 all_goals
  first
   | exact Zq a (d.trans rfl) rfl
   | (refine Ze a (d.trans rfl) (v:=.pointer (some ⟨p,0,none⟩)) ?_ rfl (Below.refl _ _)
      generalize c.eval=ρ at *
      clear g m l d a q
      go_simp)
theorem Jgv  : Jm p k b n s ka kl kc la ll lc x2 x6 x7 x10 x11 x12 x16 x20 x21 x25 x26 x27 x31 x32 x33 x37 x45 x46 x47 Q 19:=by
 intro c w m l g
 have a:RM1[19]?=some (⟨some 24,.load 57 (.tmp 23),57, "ref.go:66",#[⟨18,.data⟩,⟨17,.guard⟩],some (17,false)⟩:Oper):=by kernel_rfl
 have b5:c.eval (.tmp 23)=gv (!x12&&!x16) (.pointer (some ⟨p,0,none⟩)):=Zm (by kernel_rfl) rfl (g 18 (by decide))
 have q:val RM1 c 17=gv (!x12) (.bool x16):=g 17 (by decide)
 have d:=wgv a (want:=false) rfl q
 have R:=l.c0
 have t:=evc c
 have ef:=evf c
 cases x12<;>cases x16
 all_goals
  try (dsimp only [gv,not,and,or,cond] at b5)
  first
   | exact Zq a (d.trans rfl) rfl
   | (refine Ze a (d.trans rfl) (v:=.int .i64 k) ?_ rfl (Below.refl _ _)
      generalize c.eval=ρ at *
      clear g m l d a q
      go_simp)
theorem Jgw (u:x20=(k==7)):Jm p k b n s ka kl kc la ll lc x2 x6 x7 x10 x11 x12 x16 x20 x21 x25 x26 x27 x31 x32 x33 x37 x45 x46 x47 Q 20:=by
 intro c w m l g
 have a:RM1[20]?=some (⟨some 25,.binOp .eql 57 (.tmp 24) (.const (Value.int .i64 7)) 57,4, "ref.go:66",#[⟨19,.data⟩,⟨17,.guard⟩],some (17,false)⟩:Oper):=by kernel_rfl
 have Y:c.eval (.tmp 24)=gv (!x12&&!x16) (.int .i64 k):=Zm (by kernel_rfl) rfl (g 19 (by decide))
 have q:val RM1 c 17=gv (!x12) (.bool x16):=g 17 (by decide)
 have d:=wgv a (want:=false) rfl q
 have t:=evc c
 have ef:=evf c
 cases x12<;>cases x16
 all_goals
  try (dsimp only [gv,not,and,or,cond] at Y)
  first
   | exact Zq a (d.trans rfl) rfl
   | (refine Ze a (d.trans rfl) (v:=.bool x20) ?_ rfl (Below.refl _ _)
      generalize c.eval=ρ at *
      clear g m l d a q
      go_simp)
theorem Jgx (u:x21=(x16||x20)):Jm p k b n s ka kl kc la ll lc x2 x6 x7 x10 x11 x12 x16 x20 x21 x25 x26 x27 x31 x32 x33 x37 x45 x46 x47 Q 21:=by
 intro c w m l g
 have a:RM1[21]?=some (⟨some 26,.pick (.tmp 22) (.const (Value.bool true)) (.tmp 25),4, "ref.go:66",#[⟨17,.data⟩,⟨20,.data⟩,⟨13,.guard⟩],some (13,false)⟩:Oper):=by kernel_rfl
 have b7:c.eval (.tmp 22)=gv (!x12) (.bool x16):=Zm (by kernel_rfl) rfl (g 17 (by decide))
 have b1:c.eval (.tmp 25)=gv (!x12&&!x16) (.bool x20):=Zm (by kernel_rfl) rfl (g 20 (by decide))
 have q:val RM1 c 13=gv (true) (.bool x12):=g 13 (by decide)
 have d:=wgv a (want:=false) rfl q
 have t:=evc c
 have ef:=evf c
 cases x12<;>cases x16<;>cases x20
 all_goals
  try (dsimp only [gv,not,and,or,cond] at b7 b1)
  first
   | exact Zq a (d.trans rfl) rfl
   | (refine Ze a (d.trans rfl) (v:=.bool x21) ?_ rfl (Below.refl _ _)
      generalize c.eval=ρ at *
      clear g m l d a q
      go_simp)
theorem Jgy  : Jm p k b n s ka kl kc la ll lc x2 x6 x7 x10 x11 x12 x16 x20 x21 x25 x26 x27 x31 x32 x33 x37 x45 x46 x47 Q 22:=by
 intro c w m l g
 have a:RM1[22]?=some (⟨some 27,.move (.tmp 26),4, "ref.go:66",#[⟨21,.data⟩,⟨17,.chain⟩,⟨13,.guard⟩],some (13,false)⟩:Oper):=by kernel_rfl
 have a8:c.eval (.tmp 26)=gv (!x12) (.bool x21):=Zm (by kernel_rfl) rfl (g 21 (by decide))
 have q:val RM1 c 13=gv (true) (.bool x12):=g 13 (by decide)
 have d:=wgv a (want:=false) rfl q
 have t:=evc c
 have ef:=evf c
 cases x12
 all_goals
  try (dsimp only [gv,not,and,or,cond] at a8)
  first
   | exact Zq a (d.trans rfl) rfl
   | (refine Ze a (d.trans rfl) (v:=.bool x21) ?_ rfl (Below.refl _ _)
      generalize c.eval=ρ at *
      clear g m l d a q
      go_simp)
theorem Jgz  : Jm p k b n s ka kl kc la ll lc x2 x6 x7 x10 x11 x12 x16 x20 x21 x25 x26 x27 x31 x32 x33 x37 x45 x46 x47 Q 23:=by
 intro c w m l g
 have a:RM1[23]?=some (⟨some 28,.fieldAddr 60 (.tmp 1) 2,0, "ref.go:66",#[⟨22,.guard⟩],some (22,true)⟩:Oper):=by kernel_rfl
 have e1:=m.t1
 have q:val RM1 c 22=gv (!x12) (.bool x21):=g 22 (by decide)
 have d:=wgv a (want:=true) rfl q
 have t:=evc c
 have ef:=evf c
 cases x12<;>cases x21
 all_goals
  first
   | exact Zq a (d.trans rfl) rfl
   | (refine Ze a (d.trans rfl) (v:=.pointer (some ⟨p,2,none⟩)) ?_ rfl (Below.refl _ _)
      generalize c.eval=ρ at *
      clear g m l d a q
      go_simp)
theorem Jg0  : Jm p k b n s ka kl kc la ll lc x2 x6 x7 x10 x11 x12 x16 x20 x21 x25 x26 x27 x31 x32 x33 x37 x45 x46 x47 Q 24:=by
 intro c w m l g
 have a:RM1[24]?=some (⟨some 29,.load 2 (.tmp 28),2, "ref.go:66",#[⟨23,.data⟩,⟨22,.guard⟩],some (22,true)⟩:Oper):=by kernel_rfl
 have e0:c.eval (.tmp 28)=gv (!x12&&x21) (.pointer (some ⟨p,2,none⟩)):=Zm (by kernel_rfl) rfl (g 23 (by decide))
 have q:val RM1 c 22=gv (!x12) (.bool x21):=g 22 (by decide)
 have d:=wgv a (want:=true) rfl q
 have R:=l.c2
 have t:=evc c
 have ef:=evf c
 cases x12<;>cases x21
 all_goals
  try (dsimp only [gv,not,and,or,cond] at e0)
  first
   | exact Zq a (d.trans rfl) rfl
   | (refine Ze a (d.trans rfl) (v:=.int .i64 n) ?_ rfl (Below.refl _ _)
      generalize c.eval=ρ at *
      clear g m l d a q
      go_simp)
theorem Jg1 (u:x25=decide (n<0)):Jm p k b n s ka kl kc la ll lc x2 x6 x7 x10 x11 x12 x16 x20 x21 x25 x26 x27 x31 x32 x33 x37 x45 x46 x47 Q 25:=by
 intro c w m l g
 have a:RM1[25]?=some (⟨some 30,.binOp .lss 2 (.tmp 29) (.const (Value.int .i64 0)) 2,4, "ref.go:66",#[⟨24,.data⟩,⟨22,.guard⟩],some (22,true)⟩:Oper):=by kernel_rfl
 have b2:c.eval (.tmp 29)=gv (!x12&&x21) (.int .i64 n):=Zm (by kernel_rfl) rfl (g 24 (by decide))
 have q:val RM1 c 22=gv (!x12) (.bool x21):=g 22 (by decide)
 have d:=wgv a (want:=true) rfl q
 have t:=evc c
 have ef:=evf c
 cases x12<;>cases x21
 all_goals
  try (dsimp only [gv,not,and,or,cond] at b2)
  first
   | exact Zq a (d.trans rfl) rfl
   | (refine Ze a (d.trans rfl) (v:=.bool x25) ?_ rfl (Below.refl _ _)
      generalize c.eval=ρ at *
      clear g m l d a q
      go_simp)
theorem Jg2 (u:x26=(x21&&x25)):Jm p k b n s ka kl kc la ll lc x2 x6 x7 x10 x11 x12 x16 x20 x21 x25 x26 x27 x31 x32 x33 x37 x45 x46 x47 Q 26:=by
 intro c w m l g
 have a:RM1[26]?=some (⟨some 31,.pick (.tmp 27) (.tmp 30) (.const (Value.bool false)),4, "ref.go:66",#[⟨22,.data⟩,⟨25,.data⟩,⟨13,.guard⟩],some (13,false)⟩:Oper):=by kernel_rfl
 have a9:c.eval (.tmp 27)=gv (!x12) (.bool x21):=Zm (by kernel_rfl) rfl (g 22 (by decide))
 have e2:c.eval (.tmp 30)=gv (!x12&&x21) (.bool x25):=Zm (by kernel_rfl) rfl (g 25 (by decide))
 have q:val RM1 c 13=gv (true) (.bool x12):=g 13 (by decide)
 have d:=wgv a (want:=false) rfl q
 have t:=evc c
 have ef:=evf c
 cases x12<;>cases x21<;>cases x25
 all_goals
  try (dsimp only [gv,not,and,or,cond] at a9 e2)
  first
   | exact Zq a (d.trans rfl) rfl
   | (refine Ze a (d.trans rfl) (v:=.bool x26) ?_ rfl (Below.refl _ _)
      generalize c.eval=ρ at *
      clear g m l d a q
      go_simp)
theorem Jg3 (u:x27=(x12||x26)):Jm p k b n s ka kl kc la ll lc x2 x6 x7 x10 x11 x12 x16 x20 x21 x25 x26 x27 x31 x32 x33 x37 x45 x46 x47 Q 27:=by
 intro c w m l g
 have a:RM1[27]?=some (⟨some 32,.pick (.tmp 18) (.const (Value.bool true)) (.tmp 31),4, "ref.go:66",#[⟨13,.data⟩,⟨26,.data⟩],none⟩:Oper):=by kernel_rfl
 have a4:c.eval (.tmp 18)=.bool x12:=Zm (by kernel_rfl) rfl (g 13 (by decide))
 have a5:c.eval (.tmp 31)=gv (!x12) (.bool x26):=Zm (by kernel_rfl) rfl (g 26 (by decide))
 have d:=Zt3 (c:=c) a rfl
 have t:=evc c
 have ef:=evf c
 cases x12<;>cases x26
 all_goals
  try (dsimp only [gv,not,and,or,cond] at a4 a5)
  first
   | exact Zq a (d.trans rfl) rfl
   | (refine Ze a (d.trans rfl) (v:=.bool x27) ?_ rfl (Below.refl _ _)
      generalize c.eval=ρ at *
      clear g m l d a
      go_simp)
theorem Jg4  : Jm p k b n s ka kl kc la ll lc x2 x6 x7 x10 x11 x12 x16 x20 x21 x25 x26 x27 x31 x32 x33 x37 x45 x46 x47 Q 28:=by
 intro c w m l g
 have a:RM1[28]?=some (⟨some 33,.move (.tmp 32),4, "ref.go:66",#[⟨27,.data⟩,⟨22,.chain⟩],none⟩:Oper):=by kernel_rfl
 have f2:c.eval (.tmp 32)=.bool x27:=Zm (by kernel_rfl) rfl (g 27 (by decide))
 have d:=Zt3 (c:=c) a rfl
 have t:=evc c
 have ef:=evf c
 have r:=d
 refine Ze a r (v:=.bool x27) ?_ rfl (Below.refl _ _)
 generalize c.eval=ρ at *
 clear g m l d r a
 go_simp
theorem Jg5  : Jm p k b n s ka kl kc la ll lc x2 x6 x7 x10 x11 x12 x16 x20 x21 x25 x26 x27 x31 x32 x33 x37 x45 x46 x47 Q 29:=by
 intro c w m l g
 have a:RM1[29]?=some (⟨some 34,.fieldAddr 60 (.tmp 1) 3,0, "ref.go:66",#[⟨28,.guard⟩],some (28,false)⟩:Oper):=by kernel_rfl
 have e1:=m.t1
 have q:val RM1 c 28=gv (true) (.bool x27):=g 28 (by decide)
 have d:=wgv a (want:=false) rfl q
 have t:=evc c
 have ef:=evf c
 cases x27
 all_goals
  first
   | exact Zq a (d.trans rfl) rfl
   | (refine Ze a (d.trans rfl) (v:=.pointer (some ⟨p,3,none⟩)) ?_ rfl (Below.refl _ _)
      generalize c.eval=ρ at *
      clear g m l d a q
      go_simp)
theorem Jg6  : Jm p k b n s ka kl kc la ll lc x2 x6 x7 x10 x11 x12 x16 x20 x21 x25 x26 x27 x31 x32 x33 x37 x45 x46 x47 Q 30:=by
 intro c w m l g
 have a:RM1[30]?=some (⟨some 35,.load 9 (.tmp 34),9, "ref.go:66",#[⟨29,.data⟩,⟨28,.guard⟩],some (28,false)⟩:Oper):=by kernel_rfl
 have d0:c.eval (.tmp 34)=gv (!x27) (.pointer (some ⟨p,3,none⟩)):=Zm (by kernel_rfl) rfl (g 29 (by decide))
 have q:val RM1 c 28=gv (true) (.bool x27):=g 28 (by decide)
 have d:=wgv a (want:=false) rfl q
 have R:=l.c3
 have t:=evc c
 have ef:=evf c
 cases x27
 all_goals
  try (dsimp only [gv,not,and,or,cond] at d0)
  first
   | exact Zq a (d.trans rfl) rfl
   | (refine Ze a (d.trans rfl) (v:=.string s) ?_ rfl (Below.refl _ _)
      generalize c.eval=ρ at *
      clear g m l d a q
      go_simp)
theorem Jg7 (u:x31=Lib.validD s.data.toList):Jm p k b n s ka kl kc la ll lc x2 x6 x7 x10 x11 x12 x16 x20 x21 x25 x26 x27 x31 x32 x33 x37 x45 x46 x47 Q 31:=by
 intro c w m l g
 have a:RM1[31]?=some (⟨some 36,.call { callee:=.value (.func 104),args:=#[.tmp 35],argTypes:=#[9] },4, "ref.go:66",#[⟨30,.data⟩,⟨28,.chain⟩,⟨28,.guard⟩],some (28,false)⟩:Oper):=by kernel_rfl
 have d1:c.eval (.tmp 35)=gv (!x27) (.string s):=Zm (by kernel_rfl) rfl (g 30 (by decide))
 have q:val RM1 c 28=gv (true) (.bool x27):=g 28 (by decide)
 have d:=wgv a (want:=false) rfl q
 have t:=evc c
 have ef:=evf c
 cases x27
 all_goals
  try (dsimp only [gv,not,and,or,cond] at d1)
  first
   | exact Zq a (d.trans rfl) rfl
   | (refine Zc2 a (d.trans rfl) (f:=104) (args:=#[.string s]) ?_ ((Zpn s w l.small).mono fun e w' ⟨h1,h2⟩=>⟨_,h1,congrArg Value.bool u.symm,by subst h2;exact Below.refl _ _⟩)
      generalize c.eval=ρ at *
      clear g m l d a q
      go_simp)
theorem Jg8 (u:x32=!x31):Jm p k b n s ka kl kc la ll lc x2 x6 x7 x10 x11 x12 x16 x20 x21 x25 x26 x27 x31 x32 x33 x37 x45 x46 x47 Q 32:=by
 intro c w m l g
 have a:RM1[32]?=some (⟨some 37,.unOp .not 4 (.tmp 36),4, "ref.go:66",#[⟨31,.data⟩,⟨28,.guard⟩],some (28,false)⟩:Oper):=by kernel_rfl
 have c7:c.eval (.tmp 36)=gv (!x27) (.bool x31):=Zm (by kernel_rfl) rfl (g 31 (by decide))
 have q:val RM1 c 28=gv (true) (.bool x27):=g 28 (by decide)
 have d:=wgv a (want:=false) rfl q
 have t:=evc c
 have ef:=evf c
 cases x27
 all_goals
  try (dsimp only [gv,not,and,or,cond] at c7)
  first
   | exact Zq a (d.trans rfl) rfl
   | (refine Ze a (d.trans rfl) (v:=.bool x32) ?_ rfl (Below.refl _ _)
      generalize c.eval=ρ at *
      clear g m l d a q
      go_simp)
theorem Jg9 (u:x33=(x27||x32)):Jm p k b n s ka kl kc la ll lc x2 x6 x7 x10 x11 x12 x16 x20 x21 x25 x26 x27 x31 x32 x33 x37 x45 x46 x47 Q 33:=by
 intro c w m l g
 have a:RM1[33]?=some (⟨some 38,.pick (.tmp 33) (.const (Value.bool true)) (.tmp 37),4, "ref.go:66",#[⟨28,.data⟩,⟨32,.data⟩],none⟩:Oper):=by kernel_rfl
 have b4:c.eval (.tmp 33)=.bool x27:=Zm (by kernel_rfl) rfl (g 28 (by decide))
 have c9:c.eval (.tmp 37)=gv (!x27) (.bool x32):=Zm (by kernel_rfl) rfl (g 32 (by decide))
 have d:=Zt3 (c:=c) a rfl
 have t:=evc c
 have ef:=evf c
 cases x27<;>cases x32
 all_goals
  try (dsimp only [gv,not,and,or,cond] at b4 c9)
  first
   | exact Zq a (d.trans rfl) rfl
   | (refine Ze a (d.trans rfl) (v:=.bool x33) ?_ rfl (Below.refl _ _)
      generalize c.eval=ρ at *
      clear g m l d a
      go_simp)
theorem Jha  : Jm p k b n s ka kl kc la ll lc x2 x6 x7 x10 x11 x12 x16 x20 x21 x25 x26 x27 x31 x32 x33 x37 x45 x46 x47 Q 34:=by
 intro c w m l g
 have a:RM1[34]?=some (⟨some 39,.move (.tmp 38),4, "ref.go:66",#[⟨33,.data⟩,⟨31,.chain⟩],none⟩:Oper):=by kernel_rfl
 have e4:c.eval (.tmp 38)=.bool x33:=Zm (by kernel_rfl) rfl (g 33 (by decide))
 have d:=Zt3 (c:=c) a rfl
 have t:=evc c
 have ef:=evf c
 have r:=d
 refine Ze a r (v:=.bool x33) ?_ rfl (Below.refl _ _)
 generalize c.eval=ρ at *
 clear g m l d r a
 go_simp
theorem Jhb  : Jm p k b n s ka kl kc la ll lc x2 x6 x7 x10 x11 x12 x16 x20 x21 x25 x26 x27 x31 x32 x33 x37 x45 x46 x47 Q 35:=by
 intro c w m l g
 have a:RM1[35]?=some (⟨some 40,.fieldAddr 60 (.tmp 1) 0,0, "ref.go:66",#[⟨34,.guard⟩],some (34,false)⟩:Oper):=by kernel_rfl
 have e1:=m.t1
 have q:val RM1 c 34=gv (true) (.bool x33):=g 34 (by decide)
 have d:=wgv a (want:=false) rfl q
 have t:=evc c
 have ef:=evf c
 cases x33
 all_goals
  first
   | exact Zq a (d.trans rfl) rfl
   | (refine Ze a (d.trans rfl) (v:=.pointer (some ⟨p,0,none⟩)) ?_ rfl (Below.refl _ _)
      generalize c.eval=ρ at *
      clear g m l d a q
      go_simp)
theorem Jhc  : Jm p k b n s ka kl kc la ll lc x2 x6 x7 x10 x11 x12 x16 x20 x21 x25 x26 x27 x31 x32 x33 x37 x45 x46 x47 Q 36:=by
 intro c w m l g
 have a:RM1[36]?=some (⟨some 41,.load 57 (.tmp 40),57, "ref.go:66",#[⟨35,.data⟩,⟨34,.guard⟩],some (34,false)⟩:Oper):=by kernel_rfl
 have d4:c.eval (.tmp 40)=gv (!x33) (.pointer (some ⟨p,0,none⟩)):=Zm (by kernel_rfl) rfl (g 35 (by decide))
 have q:val RM1 c 34=gv (true) (.bool x33):=g 34 (by decide)
 have d:=wgv a (want:=false) rfl q
 have R:=l.c0
 have t:=evc c
 have ef:=evf c
 cases x33
 all_goals
  try (dsimp only [gv,not,and,or,cond] at d4)
  first
   | exact Zq a (d.trans rfl) rfl
   | (refine Ze a (d.trans rfl) (v:=.int .i64 k) ?_ rfl (Below.refl _ _)
      generalize c.eval=ρ at *
      clear g m l d a q
      go_simp)
theorem Jhd (u:x37=(k==5)):Jm p k b n s ka kl kc la ll lc x2 x6 x7 x10 x11 x12 x16 x20 x21 x25 x26 x27 x31 x32 x33 x37 x45 x46 x47 Q 37:=by
 intro c w m l g
 have a:RM1[37]?=some (⟨some 42,.binOp .eql 57 (.tmp 41) (.const (Value.int .i64 5)) 57,4, "ref.go:66",#[⟨36,.data⟩,⟨34,.guard⟩],some (34,false)⟩:Oper):=by kernel_rfl
 have a3:c.eval (.tmp 41)=gv (!x33) (.int .i64 k):=Zm (by kernel_rfl) rfl (g 36 (by decide))
 have q:val RM1 c 34=gv (true) (.bool x33):=g 34 (by decide)
 have d:=wgv a (want:=false) rfl q
 have t:=evc c
 have ef:=evf c
 cases x33
 all_goals
  try (dsimp only [gv,not,and,or,cond] at a3)
  first
   | exact Zq a (d.trans rfl) rfl
   | (refine Ze a (d.trans rfl) (v:=.bool x37) ?_ rfl (Below.refl _ _)
      generalize c.eval=ρ at *
      clear g m l d a q
      go_simp)
theorem Jhe  : Jm p k b n s ka kl kc la ll lc x2 x6 x7 x10 x11 x12 x16 x20 x21 x25 x26 x27 x31 x32 x33 x37 x45 x46 x47 Q 38:=by
 intro c w m l g
 have a:RM1[38]?=some (⟨some 43,.move (.tmp 42),4, "ref.go:66",#[⟨37,.data⟩,⟨34,.chain⟩,⟨34,.guard⟩],some (34,false)⟩:Oper):=by kernel_rfl
 have d6:c.eval (.tmp 42)=gv (!x33) (.bool x37):=Zm (by kernel_rfl) rfl (g 37 (by decide))
 have q:val RM1 c 34=gv (true) (.bool x33):=g 34 (by decide)
 have d:=wgv a (want:=false) rfl q
 have t:=evc c
 have ef:=evf c
 cases x33
 all_goals
  try (dsimp only [gv,not,and,or,cond] at d6)
  first
   | exact Zq a (d.trans rfl) rfl
   | (refine Ze a (d.trans rfl) (v:=.bool x37) ?_ rfl (Below.refl _ _)
      generalize c.eval=ρ at *
      clear g m l d a q
      go_simp)
theorem Jhf  : Jm p k b n s ka kl kc la ll lc x2 x6 x7 x10 x11 x12 x16 x20 x21 x25 x26 x27 x31 x32 x33 x37 x45 x46 x47 Q 39:=by
 intro c w m l g
 have a:RM1[39]?=some (⟨some 44,.fieldAddr 60 (.tmp 1) 4,0, "ref.go:66",#[⟨38,.guard⟩],some (38,true)⟩:Oper):=by kernel_rfl
 have e1:=m.t1
 have q:val RM1 c 38=gv (!x33) (.bool x37):=g 38 (by decide)
 have d:=wgv a (want:=true) rfl q
 have t:=evc c
 have ef:=evf c
 cases x33<;>cases x37
 all_goals
  first
   | exact Zq a (d.trans rfl) rfl
   | (refine Ze a (d.trans rfl) (v:=.pointer (some ⟨p,4,none⟩)) ?_ rfl (Below.refl _ _)
      generalize c.eval=ρ at *
      clear g m l d a q
      go_simp)
theorem Jhg  : Jm p k b n s ka kl kc la ll lc x2 x6 x7 x10 x11 x12 x16 x20 x21 x25 x26 x27 x31 x32 x33 x37 x45 x46 x47 Q 40:=by
 intro c w m l g
 have a:RM1[40]?=some (⟨some 45,.load 44 (.tmp 44),44, "ref.go:66",#[⟨39,.data⟩,⟨38,.guard⟩],some (38,true)⟩:Oper):=by kernel_rfl
 have c6:c.eval (.tmp 44)=gv (!x33&&x37) (.pointer (some ⟨p,4,none⟩)):=Zm (by kernel_rfl) rfl (g 39 (by decide))
 have q:val RM1 c 38=gv (!x33) (.bool x37):=g 38 (by decide)
 have d:=wgv a (want:=true) rfl q
 have R:=l.c4
 have t:=evc c
 have ef:=evf c
 cases x33<;>cases x37
 all_goals
  try (dsimp only [gv,not,and,or,cond] at c6)
  first
   | exact Zq a (d.trans rfl) rfl
   | (refine Ze a (d.trans rfl) (v:=.slice ka kl kc) ?_ rfl (Below.refl _ _)
      generalize c.eval=ρ at *
      clear g m l d a q
      go_simp)
theorem Jhh  : Jm p k b n s ka kl kc la ll lc x2 x6 x7 x10 x11 x12 x16 x20 x21 x25 x26 x27 x31 x32 x33 x37 x45 x46 x47 Q 41:=by
 intro c w m l g
 have a:RM1[41]?=some (⟨some 46,.call { callee:=.builtin .len,args:=#[.tmp 45],argTypes:=#[44] },3, "ref.go:66",#[⟨40,.data⟩,⟨38,.guard⟩],some (38,true)⟩:Oper):=by kernel_rfl
 have d9:c.eval (.tmp 45)=gv (!x33&&x37) (.slice ka kl kc):=Zm (by kernel_rfl) rfl (g 40 (by decide))
 have q:val RM1 c 38=gv (!x33) (.bool x37):=g 38 (by decide)
 have d:=wgv a (want:=true) rfl q
 have t:=evc c
 have ef:=evf c
 cases x33<;>cases x37
 all_goals
  try (dsimp only [gv,not,and,or,cond] at d9)
  first
   | exact Zq a (d.trans rfl) rfl
   | (refine Ze a (d.trans rfl) (v:=.int .i64 (kl:Int)) ?_ rfl (Below.refl _ _)
      generalize c.eval=ρ at *
      clear g m l d a q
      go_simp)
theorem Jhi  : Jm p k b n s ka kl kc la ll lc x2 x6 x7 x10 x11 x12 x16 x20 x21 x25 x26 x27 x31 x32 x33 x37 x45 x46 x47 Q 42:=by
 intro c w m l g
 have a:RM1[42]?=some (⟨some 47,.fieldAddr 60 (.tmp 1) 5,0, "ref.go:66",#[⟨38,.guard⟩],some (38,true)⟩:Oper):=by kernel_rfl
 have e1:=m.t1
 have q:val RM1 c 38=gv (!x33) (.bool x37):=g 38 (by decide)
 have d:=wgv a (want:=true) rfl q
 have t:=evc c
 have ef:=evf c
 cases x33<;>cases x37
 all_goals
  first
   | exact Zq a (d.trans rfl) rfl
   | (refine Ze a (d.trans rfl) (v:=.pointer (some ⟨p,5,none⟩)) ?_ rfl (Below.refl _ _)
      generalize c.eval=ρ at *
      clear g m l d a q
      go_simp)
theorem Jhj  : Jm p k b n s ka kl kc la ll lc x2 x6 x7 x10 x11 x12 x16 x20 x21 x25 x26 x27 x31 x32 x33 x37 x45 x46 x47 Q 43:=by
 intro c w m l g
 have a:RM1[43]?=some (⟨some 48,.load 58 (.tmp 47),58, "ref.go:66",#[⟨42,.data⟩,⟨38,.guard⟩],some (38,true)⟩:Oper):=by kernel_rfl
 have a6:c.eval (.tmp 47)=gv (!x33&&x37) (.pointer (some ⟨p,5,none⟩)):=Zm (by kernel_rfl) rfl (g 42 (by decide))
 have q:val RM1 c 38=gv (!x33) (.bool x37):=g 38 (by decide)
 have d:=wgv a (want:=true) rfl q
 have R:=l.c5
 have t:=evc c
 have ef:=evf c
 cases x33<;>cases x37
 all_goals
  try (dsimp only [gv,not,and,or,cond] at a6)
  first
   | exact Zq a (d.trans rfl) rfl
   | (refine Ze a (d.trans rfl) (v:=.slice la ll lc) ?_ rfl (Below.refl _ _)
      generalize c.eval=ρ at *
      clear g m l d a q
      go_simp)
theorem Jhk  : Jm p k b n s ka kl kc la ll lc x2 x6 x7 x10 x11 x12 x16 x20 x21 x25 x26 x27 x31 x32 x33 x37 x45 x46 x47 Q 44:=by
 intro c w m l g
 have a:RM1[44]?=some (⟨some 49,.call { callee:=.builtin .len,args:=#[.tmp 48],argTypes:=#[58] },3, "ref.go:66",#[⟨43,.data⟩,⟨38,.guard⟩],some (38,true)⟩:Oper):=by kernel_rfl
 have d5:c.eval (.tmp 48)=gv (!x33&&x37) (.slice la ll lc):=Zm (by kernel_rfl) rfl (g 43 (by decide))
 have q:val RM1 c 38=gv (!x33) (.bool x37):=g 38 (by decide)
 have d:=wgv a (want:=true) rfl q
 have t:=evc c
 have ef:=evf c
 cases x33<;>cases x37
 all_goals
  try (dsimp only [gv,not,and,or,cond] at d5)
  first
   | exact Zq a (d.trans rfl) rfl
   | (refine Ze a (d.trans rfl) (v:=.int .i64 (ll:Int)) ?_ rfl (Below.refl _ _)
      generalize c.eval=ρ at *
      clear g m l d a q
      go_simp)
theorem Jhl (u:x45=((kl:Int) != (ll:Int))):Jm p k b n s ka kl kc la ll lc x2 x6 x7 x10 x11 x12 x16 x20 x21 x25 x26 x27 x31 x32 x33 x37 x45 x46 x47 Q 45:=by
 intro c w m l g
 have a:RM1[45]?=some (⟨some 50,.binOp .neq 3 (.tmp 46) (.tmp 49) 3,4, "ref.go:66",#[⟨41,.data⟩,⟨44,.data⟩,⟨38,.guard⟩],some (38,true)⟩:Oper):=by kernel_rfl
 have d7:c.eval (.tmp 46)=gv (!x33&&x37) (.int .i64 (kl:Int)):=Zm (by kernel_rfl) rfl (g 41 (by decide))
 have b3:c.eval (.tmp 49)=gv (!x33&&x37) (.int .i64 (ll:Int)):=Zm (by kernel_rfl) rfl (g 44 (by decide))
 have q:val RM1 c 38=gv (!x33) (.bool x37):=g 38 (by decide)
 have d:=wgv a (want:=true) rfl q
 have t:=evc c
 have ef:=evf c
 cases x33<;>cases x37
 all_goals
  try (dsimp only [gv,not,and,or,cond] at d7 b3)
  first
   | exact Zq a (d.trans rfl) rfl
   | (refine Ze a (d.trans rfl) (v:=.bool x45) ?_ rfl (Below.refl _ _)
      generalize c.eval=ρ at *
      clear g m l d a q
      go_simp)
theorem Jhm (u:x46=(x37&&x45)):Jm p k b n s ka kl kc la ll lc x2 x6 x7 x10 x11 x12 x16 x20 x21 x25 x26 x27 x31 x32 x33 x37 x45 x46 x47 Q 46:=by
 intro c w m l g
 have a:RM1[46]?=some (⟨some 51,.pick (.tmp 43) (.tmp 50) (.const (Value.bool false)),4, "ref.go:66",#[⟨38,.data⟩,⟨45,.data⟩,⟨34,.guard⟩],some (34,false)⟩:Oper):=by kernel_rfl
 have d8:c.eval (.tmp 43)=gv (!x33) (.bool x37):=Zm (by kernel_rfl) rfl (g 38 (by decide))
 have b8:c.eval (.tmp 50)=gv (!x33&&x37) (.bool x45):=Zm (by kernel_rfl) rfl (g 45 (by decide))
 have q:val RM1 c 34=gv (true) (.bool x33):=g 34 (by decide)
 have d:=wgv a (want:=false) rfl q
 have t:=evc c
 have ef:=evf c
 cases x33<;>cases x37<;>cases x45
 all_goals
  try (dsimp only [gv,not,and,or,cond] at d8 b8)
  first
   | exact Zq a (d.trans rfl) rfl
   | (refine Ze a (d.trans rfl) (v:=.bool x46) ?_ rfl (Below.refl _ _)
      generalize c.eval=ρ at *
      clear g m l d a q
      go_simp)
theorem Jhn (u:x47=(x33||x46)):Jm p k b n s ka kl kc la ll lc x2 x6 x7 x10 x11 x12 x16 x20 x21 x25 x26 x27 x31 x32 x33 x37 x45 x46 x47 Q 47:=by
 intro c w m l g
 have a:RM1[47]?=some (⟨some 52,.pick (.tmp 39) (.const (Value.bool true)) (.tmp 51),4, "ref.go:66",#[⟨34,.data⟩,⟨46,.data⟩],none⟩:Oper):=by kernel_rfl
 have b6:c.eval (.tmp 39)=.bool x33:=Zm (by kernel_rfl) rfl (g 34 (by decide))
 have a1:c.eval (.tmp 51)=gv (!x33) (.bool x46):=Zm (by kernel_rfl) rfl (g 46 (by decide))
 have d:=Zt3 (c:=c) a rfl
 have t:=evc c
 have ef:=evf c
 cases x33<;>cases x46
 all_goals
  try (dsimp only [gv,not,and,or,cond] at b6 a1)
  first
   | exact Zq a (d.trans rfl) rfl
   | (refine Ze a (d.trans rfl) (v:=.bool x47) ?_ rfl (Below.refl _ _)
      generalize c.eval=ρ at *
      clear g m l d a
      go_simp)
theorem Jbk (p:Nat) (k:Int) (b:Bool) (n:Int) (s:ByteArray) (ka:Option Addr) (kl kc:Nat) (la:Option Addr) (ll lc:Nat) (x2 x6 x7 x10 x11 x12 x16 x20 x21 x25 x26 x27 x31 x32 x33 x37 x45 x46 x47:Bool):∀ pr ∈ Zft p k b n s ka kl kc la ll lc x2 x6 x7 x10 x11 x12 x16 x20 x21 x25 x26 x27 x31 x32 x33 x37 x45 x46 x47,Zct pr:=by
 unfold Zft
 repeat' (first | exact List.forall_mem_nil _ | refine List.forall_mem_cons.2 ⟨by first | exact Zal _ | exact Zd6 _,?_⟩)
end
theorem Jjs (p:Nat) (k:Int) (b:Bool) (n:Int) (s:ByteArray) (ka:Option Addr) (kl kc:Nat) (la:Option Addr) (ll lc:Nat) (x2 x6 x7 x10 x11 x12 x16 x20 x21 x25 x26 x27 x31 x32 x33 x37 x45 x46 x47:Bool) (Q:Exit->Act->World->Prop) (T:x2=decide (k<0)) (U:x6=decide (7<k)) (S:x7=(x2||x6)) (C:x10=rbareB k b n s kl ll) (L:x11=!x10) (K:x12=(x7||x11)) (G:x16=(k==6)) (y:x20=(k==7)) (I:x21=(x16||x20)) (D:x25=decide (n<0)) (O:x26=(x21&&x25)) (B:x27=(x12||x26)) (M:x31=Lib.validD s.data.toList) (x:x32=!x31) (H:x33=(x27||x32)) (N:x37=(k==5)) (P:x45=((kl:Int) != (ll:Int))) (E:x46=(x37&&x45)) (z:x47=(x33||x46)):∀ i,i<48->(fun i=>∀ c w,Zyp p k b n s ka kl kc la ll lc x2 x6 x7 x10 x11 x12 x16 x20 x21 x25 x26 x27 x31 x32 x33 x37 x45 x46 x47 c->Zp7 p k b n s ka kl kc la ll lc x2 x6 x7 x10 x11 x12 x16 x20 x21 x25 x26 x27 x31 x32 x33 x37 x45 x46 x47 w->(∀ j ∈ Jdr i,Zg (Zft p k b n s ka kl kc la ll lc x2 x6 x7 x10 x11 x12 x16 x20 x21 x25 x26 x27 x31 x32 x33 x37 x45 x46 x47) j (val RM1 c j) w)->Zbp Tryz.prog RM1 Q (Zg (Zft p k b n s ka kl kc la ll lc x2 x6 x7 x10 x11 x12 x16 x20 x21 x25 x26 x27 x31 x32 x33 x37 x45 x46 x47)) i c w) i:=by
 refine Zd ?_ (Jhn z)
 refine Zd ?_ (Jhm E)
 refine Zd ?_ (Jhl P)
 refine Zd ?_ (Jhk)
 refine Zd ?_ (Jhj)
 refine Zd ?_ (Jhi)
 refine Zd ?_ (Jhh)
 refine Zd ?_ (Jhg)
 refine Zd ?_ (Jhf)
 refine Zd ?_ (Jhe)
 refine Zd ?_ (Jhd N)
 refine Zd ?_ (Jhc)
 refine Zd ?_ (Jhb)
 refine Zd ?_ (Jha)
 refine Zd ?_ (Jg9 H)
 refine Zd ?_ (Jg8 x)
 refine Zd ?_ (Jg7 M)
 refine Zd ?_ (Jg6)
 refine Zd ?_ (Jg5)
 refine Zd ?_ (Jg4)
 refine Zd ?_ (Jg3 B)
 refine Zd ?_ (Jg2 O)
 refine Zd ?_ (Jg1 D)
 refine Zd ?_ (Jg0)
 refine Zd ?_ (Jgz)
 refine Zd ?_ (Jgy)
 refine Zd ?_ (Jgx I)
 refine Zd ?_ (Jgw y)
 refine Zd ?_ (Jgv)
 refine Zd ?_ (Jgu)
 refine Zd ?_ (Jgt)
 refine Zd ?_ (Jgs G)
 refine Zd ?_ (Jgr)
 refine Zd ?_ (Jgq)
 refine Zd ?_ (Jgp)
 refine Zd ?_ (Jgo K)
 refine Zd ?_ (Jgn L)
 refine Zd ?_ (Jgm C)
 refine Zd ?_ (Jjr)
 refine Zd ?_ (Jjq)
 refine Zd ?_ (Jjp S)
 refine Zd ?_ (Jjo U)
 refine Zd ?_ (Jjn)
 refine Zd ?_ (Jjm)
 refine Zd ?_ (Jjl)
 refine Zd ?_ (Jjk T)
 refine Zd ?_ (Jjj)
 refine Zd ?_ (Jji)
 exact Zf
theorem Jbl (p:Nat) (k:Int) (b:Bool) (n:Int) (s:ByteArray) (ka:Option Addr) (kl kc:Nat) (la:Option Addr) (ll lc:Nat) (x2 x6 x7 x10 x11 x12 x16 x20 x21 x25 x26 x27 x31 x32 x33 x37 x45 x46 x47:Bool) (Q:Exit->Act->World->Prop) (base:Act) (V:World) (T:x2=decide (k<0)) (U:x6=decide (7<k)) (S:x7=(x2||x6)) (C:x10=rbareB k b n s kl ll) (L:x11=!x10) (K:x12=(x7||x11)) (G:x16=(k==6)) (y:x20=(k==7)) (I:x21=(x16||x20)) (D:x25=decide (n<0)) (O:x26=(x21&&x25)) (B:x27=(x12||x26)) (M:x31=Lib.validD s.data.toList) (x:x32=!x31) (H:x33=(x27||x32)) (N:x37=(k==5)) (P:x45=((kl:Int) != (ll:Int))) (E:x46=(x37&&x45)) (z:x47=(x33||x46)) (d2:base.tmps.size=99) (m:Zyp p k b n s ka kl kc la ll lc x2 x6 x7 x10 x11 x12 x16 x20 x21 x25 x26 x27 x31 x32 x33 x37 x45 x46 x47 base)
  (l:∀ w,Below V.heap.size V w->Zp7 p k b n s ka kl kc la ll lc x2 x6 x7 x10 x11 x12 x16 x20 x21 x25 x26 x27 x31 x32 x33 x37 x45 x46 x47 w) (hQ:∀ c w,Zaf RM1 base c->Below V.heap.size V w->c.eval (.tmp 52)=.bool x47->Q .normal c w):(Code.region 1 RM1 false).wp Tryz.prog Q base V:=by
 refine Zqg (A:=Jdr) (F:=Zg (Zft p k b n s ka kl kc la ll lc x2 x6 x7 x10 x11 x12 x16 x20 x21 x25 x26 x27 x31 x32 x33 x37 x45 x46 x47)) (by rw [d2];kernel_rfl) (fun i v w w'=>Jk (Jbk p k b n s ka kl kc la ll lc x2 x6 x7 x10 x11 x12 x16 x20 x21 x25 x26 x27 x31 x32 x33 x37 x45 x46 x47) i v w w') ?_ ?_
 ·intro i hi c w hS hB g
  exact Jjs p k b n s ka kl kc la ll lc x2 x6 x7 x10 x11 x12 x16 x20 x21 x25 x26 x27 x31 x32 x33 x37 x45 x46 x47 Q T U S C L K G y I D O B M x H N P E z i (by rwa [show RM1.size=48 by kernel_rfl] at hi) c w ⟨(Zc hS (by kernel_rfl)).trans m.t1⟩ (l w hB) g
 ·intro c w hS hB g
  exact hQ c w hS hB (Jw (p:=eqv (.bool x47)) (by kernel_rfl) rfl (g 47 (by rw [show RM1.size=48 by kernel_rfl];omega)))
end
section
open Go.RowKit Go.WideShapes Go.Shelf
noncomputable def RM6  : Array Oper:=Zy Tryz.f110 6
def Zja (i:Nat):List Nat:=([[],[0],[],[1,2],[3],[4],[5],[6],[7],[7,8],[7,9],[10],[10,11],[10],[10,13],[10,12,14],[10,15],[10],[10,17],[10],[10,18,19],[10,20],[10,16,21],[7,10,22],[7,23]]:List (List Nat)).getD i []
def Zam (p kb ko kl kc j:Nat) (y z:ByteArray) (x5 x6 x9 x22 x23 x24:Bool):List (Value->World->Prop) :=
 [eqv (.pointer (some ⟨p,4,none⟩)),eqv (.slice (some ⟨kb,ko,none⟩) kl kc),eqv (.int .i64 (j:Int)),eqv (.pointer (some ⟨kb,ko+j,none⟩)),eqv (.string y),eqv (.bool x5),eqv (.bool x6),eqv (.bool x6),eqv (gv (!x6) (.int .i64 (j:Int))),eqv (gv (!x6) (.bool x9)),eqv (gv (!x6) (.bool x9)),eqv (gv (!x6&&x9) (.pointer (some ⟨p,4,none⟩))),eqv (gv (!x6&&x9) (.slice (some ⟨kb,ko,none⟩) kl kc)),eqv (gv (!x6&&x9) (.int .i64 (j:Int))),eqv (gv (!x6&&x9) (.int .i64 ((j:Int) - 1))),eqv (gv (!x6&&x9) (.pointer (some ⟨kb,ko+(j - 1),none⟩))),eqv (gv (!x6&&x9) (.string z)),eqv (gv (!x6&&x9) (.pointer (some ⟨p,4,none⟩))),eqv (gv (!x6&&x9) (.slice (some ⟨kb,ko,none⟩) kl kc)),eqv (gv (!x6&&x9) (.int .i64 (j:Int))),eqv (gv (!x6&&x9) (.pointer (some ⟨kb,ko+j,none⟩))),eqv (gv (!x6&&x9) (.string y)),eqv (gv (!x6&&x9) (.bool x22)),eqv (gv (!x6) (.bool x23)),eqv (.bool x24)]
structure Zel (p kb ko kl kc j:Nat) (y z:ByteArray) (x5 x6 x9 x22 x23 x24:Bool) (c:Act):Prop where
 t1:c.eval (.tmp 1)=.pointer (some ⟨p,0,none⟩)
 t3:c.eval (.tmp 3)=.int .i64 (j:Int)
structure Zcz (p kb ko kl kc j:Nat) (y z:ByteArray) (x5 x6 x9 x22 x23 x24:Bool) (w:World):Prop where
 c4:w.cell? ⟨p,4,none⟩=some (.slice (some ⟨kb,ko,none⟩) kl kc)
 ky:w.cell? ⟨kb,ko+j,none⟩=some (.string y)
 kz:0<j->w.cell? ⟨kb,ko+(j - 1),none⟩=some (.string z)
 small:y.size<=140737488355328
 lt:j<kl
 le:kl<=9223372036854775807
def Zcm (p kb ko kl kc j:Nat) (y z:ByteArray) (x5 x6 x9 x22 x23 x24:Bool) (Q:Exit->Act->World->Prop) (i:Nat):Prop:=∀ (c:Act) (w:World),Zel p kb ko kl kc j y z x5 x6 x9 x22 x23 x24 c->Zcz p kb ko kl kc j y z x5 x6 x9 x22 x23 x24 w->(∀ q0 ∈ Zja i,Zg (Zam p kb ko kl kc j y z x5 x6 x9 x22 x23 x24) q0 (val RM6 c q0) w)->Zbp Tryz.prog RM6 Q (Zg (Zam p kb ko kl kc j y z x5 x6 x9 x22 x23 x24)) i c w
theorem Jas {i:Nat} {o:Oper} {c:Act} (a:RM6[i]?=some o) (h:o.guard=none):Region.wanted o (yielded RM6 c.tmps)=true:=Zz h
section
variable (p kb ko kl kc j:Nat) (y z:ByteArray) (x5 x6 x9 x22 x23 x24:Bool) (Q:Exit->Act->World->Prop)
theorem Ji4  : Zcm p kb ko kl kc j y z x5 x6 x9 x22 x23 x24 Q 0:=by
 intro c w k g b
 have a:RM6[0]?=some (⟨some 60,.fieldAddr 60 (.tmp 1) 4,0, "ref.go:70",#[],none⟩:Oper):=by kernel_rfl
 have e1:=k.t1
 have d:=Jas (c:=c) a rfl
 have n:=evc c
 have ef:=evf c
 have m:=d
 refine Ze a m (v:=.pointer (some ⟨p,4,none⟩)) ?_ rfl (Below.refl _ _)
 generalize c.eval=ρ at *
 clear b k g d m a
 go_simp
theorem Ji5  : Zcm p kb ko kl kc j y z x5 x6 x9 x22 x23 x24 Q 1:=by
 intro c w k g b
 have a:RM6[1]?=some (⟨some 61,.load 44 (.tmp 60),44, "ref.go:70",#[⟨0,.data⟩],none⟩:Oper):=by kernel_rfl
 have a9:c.eval (.tmp 60)=.pointer (some ⟨p,4,none⟩):=Zm (by kernel_rfl) rfl (b 0 (by decide))
 have d:=Jas (c:=c) a rfl
 have I:=g.c4
 have n:=evc c
 have ef:=evf c
 have m:=d
 refine Ze a m (v:=.slice (some ⟨kb,ko,none⟩) kl kc) ?_ rfl (Below.refl _ _)
 generalize c.eval=ρ at *
 clear b k g d m a
 go_simp
theorem Ji6  : Zcm p kb ko kl kc j y z x5 x6 x9 x22 x23 x24 Q 2:=by
 intro c w k g b
 have a:RM6[2]?=some (⟨some 62,.move (.tmp 3),3, "ref.go:70",#[],none⟩:Oper):=by kernel_rfl
 have e3:=k.t3
 have d:=Jas (c:=c) a rfl
 have n:=evc c
 have ef:=evf c
 have m:=d
 refine Ze a m (v:=.int .i64 (j:Int)) ?_ rfl (Below.refl _ _)
 generalize c.eval=ρ at *
 clear b k g d m a
 go_simp
theorem Ji7  : Zcm p kb ko kl kc j y z x5 x6 x9 x22 x23 x24 Q 3:=by
 intro c w k g b
 have a:RM6[3]?=some (⟨some 63,.indexAddr 44 (.tmp 61) (.tmp 62),0, "ref.go:70",#[⟨1,.data⟩,⟨2,.data⟩],none⟩:Oper):=by kernel_rfl
 have a7:c.eval (.tmp 61)=.slice (some ⟨kb,ko,none⟩) kl kc:=Zm (by kernel_rfl) rfl (b 1 (by decide))
 have b0:c.eval (.tmp 62)=.int .i64 (j:Int):=Zm (by kernel_rfl) rfl (b 2 (by decide))
 have d:=Jas (c:=c) a rfl
 have B:=g.lt
 have G:=g.le
 have n:=evc c
 have ef:=evf c
 have m:=d
 refine Ze a m (v:=.pointer (some ⟨kb,ko+j,none⟩)) ?_ rfl (Below.refl _ _)
 generalize c.eval=ρ at *
 clear b k g d m a
 go_simp
theorem Ji8  : Zcm p kb ko kl kc j y z x5 x6 x9 x22 x23 x24 Q 4:=by
 intro c w k g b
 have a:RM6[4]?=some (⟨some 64,.load 9 (.tmp 63),9, "ref.go:70",#[⟨3,.data⟩],none⟩:Oper):=by kernel_rfl
 have b2:c.eval (.tmp 63)=.pointer (some ⟨kb,ko+j,none⟩):=Zm (by kernel_rfl) rfl (b 3 (by decide))
 have d:=Jas (c:=c) a rfl
 have I:=g.ky
 have n:=evc c
 have ef:=evf c
 have m:=d
 refine Ze a m (v:=.string y) ?_ rfl (Below.refl _ _)
 generalize c.eval=ρ at *
 clear b k g d m a
 go_simp
theorem Ji9 (p kb ko kl kc j:Nat) (y z:ByteArray) (x5 x6 x9 x22 x23 x24:Bool) (Q:Exit->Act->World->Prop) (c:Act) (w:World) (x:x5=Lib.validD y.data.toList) (k:Zel p kb ko kl kc j y z x5 x6 x9 x22 x23 x24 c) (g:Zcz p kb ko kl kc j y z x5 x6 x9 x22 x23 x24 w) (b:∀ q0 ∈ Zja 5,Zg (Zam p kb ko kl kc j y z x5 x6 x9 x22 x23 x24) q0 (val RM6 c q0) w) :
  Zbp Tryz.prog RM6 Q (Zg (Zam p kb ko kl kc j y z x5 x6 x9 x22 x23 x24)) 5 c w:=by
 have a:RM6[5]?=some (⟨some 65,.call { callee:=.value (.func 104),args:=#[.tmp 64],argTypes:=#[9] },4, "ref.go:70",#[⟨4,.data⟩],none⟩:Oper):=by kernel_rfl
 have a8:c.eval (.tmp 64)=.string y:=Zm (by kernel_rfl) rfl (b 4 (by decide))
 have d:=Jas (c:=c) a rfl
 have n:=evc c
 have ef:=evf c
 have m:=d
 refine Zc2 a m (f:=104) (args:=#[.string y]) ?_ ((Zpn y w g.small).mono fun e w' ⟨h1,h2⟩=>⟨_,h1,congrArg Value.bool x.symm,by subst h2;exact Below.refl _ _⟩)
 generalize c.eval=ρ at *
 clear b k g d a
 go_simp
theorem Jja (p kb ko kl kc j:Nat) (y z:ByteArray) (x5 x6 x9 x22 x23 x24:Bool) (Q:Exit->Act->World->Prop) (c:Act) (w:World) (x:x6=!x5) (k:Zel p kb ko kl kc j y z x5 x6 x9 x22 x23 x24 c) (g:Zcz p kb ko kl kc j y z x5 x6 x9 x22 x23 x24 w) (b:∀ q0 ∈ Zja 6,Zg (Zam p kb ko kl kc j y z x5 x6 x9 x22 x23 x24) q0 (val RM6 c q0) w) :
  Zbp Tryz.prog RM6 Q (Zg (Zam p kb ko kl kc j y z x5 x6 x9 x22 x23 x24)) 6 c w:=by
 have a:RM6[6]?=some (⟨some 66,.unOp .not 4 (.tmp 65),4, "ref.go:70",#[⟨5,.data⟩],none⟩:Oper):=by kernel_rfl
 have a6:c.eval (.tmp 65)=.bool x5:=Zm (by kernel_rfl) rfl (b 5 (by decide))
 have d:=Jas (c:=c) a rfl
 have n:=evc c
 have ef:=evf c
 have m:=d
 refine Ze a m (v:=.bool x6) ?_ rfl (Below.refl _ _)
 generalize c.eval=ρ at *
 clear b k g d m a
 go_simp
theorem Jjb  : Zcm p kb ko kl kc j y z x5 x6 x9 x22 x23 x24 Q 7:=by
 intro c w k g b
 have a:RM6[7]?=some (⟨some 67,.move (.tmp 66),4, "ref.go:70",#[⟨6,.data⟩,⟨5,.chain⟩],none⟩:Oper):=by kernel_rfl
 have b1:c.eval (.tmp 66)=.bool x6:=Zm (by kernel_rfl) rfl (b 6 (by decide))
 have d:=Jas (c:=c) a rfl
 have n:=evc c
 have ef:=evf c
 have m:=d
 refine Ze a m (v:=.bool x6) ?_ rfl (Below.refl _ _)
 generalize c.eval=ρ at *
 clear b k g d m a
 go_simp
theorem Jjc  : Zcm p kb ko kl kc j y z x5 x6 x9 x22 x23 x24 Q 8:=by
 intro c w k g b
 have a:RM6[8]?=some (⟨some 68,.move (.tmp 3),3, "ref.go:70",#[⟨7,.guard⟩],some (7,false)⟩:Oper):=by kernel_rfl
 have e3:=k.t3
 have l:val RM6 c 7=gv (true) (.bool x6):=b 7 (by decide)
 have d:=wgv a (want:=false) rfl l
 have n:=evc c
 have ef:=evf c
 cases x6
 all_goals
  first
   | exact Zq a (d.trans rfl) rfl
   | (refine Ze a (d.trans rfl) (v:=.int .i64 (j:Int)) ?_ rfl (Below.refl _ _)
      generalize c.eval=ρ at *
      clear b k g d a l
      go_simp)
theorem Jjd (p kb ko kl kc j:Nat) (y z:ByteArray) (x5 x6 x9 x22 x23 x24:Bool) (Q:Exit->Act->World->Prop) (c:Act) (w:World) (x:x9=decide (0<(j:Int))) (k:Zel p kb ko kl kc j y z x5 x6 x9 x22 x23 x24 c) (g:Zcz p kb ko kl kc j y z x5 x6 x9 x22 x23 x24 w) (b:∀ q0 ∈ Zja 9,Zg (Zam p kb ko kl kc j y z x5 x6 x9 x22 x23 x24) q0 (val RM6 c q0) w) :
  Zbp Tryz.prog RM6 Q (Zg (Zam p kb ko kl kc j y z x5 x6 x9 x22 x23 x24)) 9 c w:=by
 have a:RM6[9]?=some (⟨some 69,.binOp .gtr 3 (.tmp 68) (.const (Value.int .i64 0)) 3,4, "ref.go:70",#[⟨8,.data⟩,⟨7,.guard⟩],some (7,false)⟩:Oper):=by kernel_rfl
 have a0:c.eval (.tmp 68)=gv (!x6) (.int .i64 (j:Int)):=Zm (by kernel_rfl) rfl (b 8 (by decide))
 have l:val RM6 c 7=gv (true) (.bool x6):=b 7 (by decide)
 have d:=wgv a (want:=false) rfl l
 have n:=evc c
 have ef:=evf c
 cases x6
 all_goals
  try (dsimp only [gv,not,and,or,cond] at a0)
  first
   | exact Zq a (d.trans rfl) rfl
   | (refine Ze a (d.trans rfl) (v:=.bool x9) ?_ rfl (Below.refl _ _)
      generalize c.eval=ρ at *
      clear b k g d a l
      go_simp)
theorem Jfz  : Zcm p kb ko kl kc j y z x5 x6 x9 x22 x23 x24 Q 10:=by
 intro c w k g b
 have a:RM6[10]?=some (⟨some 70,.move (.tmp 69),4, "ref.go:70",#[⟨9,.data⟩,⟨7,.chain⟩,⟨7,.guard⟩],some (7,false)⟩:Oper):=by kernel_rfl
 have S:c.eval (.tmp 69)=gv (!x6) (.bool x9):=Zm (by kernel_rfl) rfl (b 9 (by decide))
 have l:val RM6 c 7=gv (true) (.bool x6):=b 7 (by decide)
 have d:=wgv a (want:=false) rfl l
 have n:=evc c
 have ef:=evf c
 cases x6
 all_goals
  try (dsimp only [gv,not,and,or,cond] at S)
  first
   | exact Zq a (d.trans rfl) rfl
   | (refine Ze a (d.trans rfl) (v:=.bool x9) ?_ rfl (Below.refl _ _)
      generalize c.eval=ρ at *
      clear b k g d a l
      go_simp)
theorem Jf0  : Zcm p kb ko kl kc j y z x5 x6 x9 x22 x23 x24 Q 11:=by
 intro c w k g b
 have a:RM6[11]?=some (⟨some 71,.fieldAddr 60 (.tmp 1) 4,0, "ref.go:70",#[⟨10,.guard⟩],some (10,true)⟩:Oper):=by kernel_rfl
 have e1:=k.t1
 have l:val RM6 c 10=gv (!x6) (.bool x9):=b 10 (by decide)
 have d:=wgv a (want:=true) rfl l
 have n:=evc c
 have ef:=evf c
 cases x6<;>cases x9
 all_goals
  first
   | exact Zq a (d.trans rfl) rfl
   | (refine Ze a (d.trans rfl) (v:=.pointer (some ⟨p,4,none⟩)) ?_ rfl (Below.refl _ _)
      generalize c.eval=ρ at *
      clear b k g d a l
      go_simp)
theorem Jf1  : Zcm p kb ko kl kc j y z x5 x6 x9 x22 x23 x24 Q 12:=by
 intro c w k g b
 have a:RM6[12]?=some (⟨some 72,.load 44 (.tmp 71),44, "ref.go:70",#[⟨11,.data⟩,⟨10,.guard⟩],some (10,true)⟩:Oper):=by kernel_rfl
 have O:c.eval (.tmp 71)=gv (!x6&&x9) (.pointer (some ⟨p,4,none⟩)):=Zm (by kernel_rfl) rfl (b 11 (by decide))
 have l:val RM6 c 10=gv (!x6) (.bool x9):=b 10 (by decide)
 have d:=wgv a (want:=true) rfl l
 have I:=g.c4
 have n:=evc c
 have ef:=evf c
 cases x6<;>cases x9
 all_goals
  try (dsimp only [gv,not,and,or,cond] at O)
  first
   | exact Zq a (d.trans rfl) rfl
   | (refine Ze a (d.trans rfl) (v:=.slice (some ⟨kb,ko,none⟩) kl kc) ?_ rfl (Below.refl _ _)
      generalize c.eval=ρ at *
      clear b k g d a l
      go_simp)
theorem Jf2  : Zcm p kb ko kl kc j y z x5 x6 x9 x22 x23 x24 Q 13:=by
 intro c w k g b
 have a:RM6[13]?=some (⟨some 73,.move (.tmp 3),3, "ref.go:70",#[⟨10,.guard⟩],some (10,true)⟩:Oper):=by kernel_rfl
 have e3:=k.t3
 have l:val RM6 c 10=gv (!x6) (.bool x9):=b 10 (by decide)
 have d:=wgv a (want:=true) rfl l
 have n:=evc c
 have ef:=evf c
 cases x6<;>cases x9
 all_goals
  first
   | exact Zq a (d.trans rfl) rfl
   | (refine Ze a (d.trans rfl) (v:=.int .i64 (j:Int)) ?_ rfl (Below.refl _ _)
      generalize c.eval=ρ at *
      clear b k g d a l
      go_simp)
theorem Jf3  : Zcm p kb ko kl kc j y z x5 x6 x9 x22 x23 x24 Q 14:=by
 intro c w k g b
 have a:RM6[14]?=some (⟨some 74,.binOp .sub 3 (.tmp 73) (.const (Value.int .i64 1)) 3,3, "ref.go:70",#[⟨13,.data⟩,⟨10,.guard⟩],some (10,true)⟩:Oper):=by kernel_rfl
 have W:c.eval (.tmp 73)=gv (!x6&&x9) (.int .i64 (j:Int)):=Zm (by kernel_rfl) rfl (b 13 (by decide))
 have l:val RM6 c 10=gv (!x6) (.bool x9):=b 10 (by decide)
 have d:=wgv a (want:=true) rfl l
 have B:=g.lt
 have G:=g.le
 have n:=evc c
 have ef:=evf c
 cases x6<;>cases x9
 all_goals
  try (dsimp only [gv,not,and,or,cond] at W)
  first
   | exact Zq a (d.trans rfl) rfl
   | (refine Ze a (d.trans rfl) (v:=.int .i64 ((j:Int) - 1)) ?_ rfl (Below.refl _ _)
      generalize c.eval=ρ at *
      clear b k g d a l
      go_simp
      rw [IntKind.wrap_i64];omega)
theorem Jf4 (p kb ko kl kc j:Nat) (y z:ByteArray) (x5 x6 x9 x22 x23 x24:Bool) (Q:Exit->Act->World->Prop) (c:Act) (w:World) (x:x9=true->0<j) (k:Zel p kb ko kl kc j y z x5 x6 x9 x22 x23 x24 c) (g:Zcz p kb ko kl kc j y z x5 x6 x9 x22 x23 x24 w) (b:∀ q0 ∈ Zja 15,Zg (Zam p kb ko kl kc j y z x5 x6 x9 x22 x23 x24) q0 (val RM6 c q0) w) :
  Zbp Tryz.prog RM6 Q (Zg (Zam p kb ko kl kc j y z x5 x6 x9 x22 x23 x24)) 15 c w:=by
 have a:RM6[15]?=some (⟨some 75,.indexAddr 44 (.tmp 72) (.tmp 74),0, "ref.go:70",#[⟨12,.data⟩,⟨14,.data⟩,⟨10,.guard⟩],some (10,true)⟩:Oper):=by kernel_rfl
 have X:c.eval (.tmp 72)=gv (!x6&&x9) (.slice (some ⟨kb,ko,none⟩) kl kc):=Zm (by kernel_rfl) rfl (b 12 (by decide))
 have T:c.eval (.tmp 74)=gv (!x6&&x9) (.int .i64 ((j:Int) - 1)):=Zm (by kernel_rfl) rfl (b 14 (by decide))
 have l:val RM6 c 10=gv (!x6) (.bool x9):=b 10 (by decide)
 have d:=wgv a (want:=true) rfl l
 have B:=g.lt
 have G:=g.le
 have n:=evc c
 have ef:=evf c
 cases x6<;>cases x9
 all_goals
  try (dsimp only [gv,not,and,or,cond] at X T)
  first
   | exact Zq a (d.trans rfl) rfl
   | (refine Ze a (d.trans rfl) (v:=.pointer (some ⟨kb,ko+(j - 1),none⟩)) ?_ rfl (Below.refl _ _)
      have hj:=x rfl
      generalize c.eval=ρ at *
      clear b k g d a l
      go_simp
      intro h;exfalso;omega)
theorem Jf5 (p kb ko kl kc j:Nat) (y z:ByteArray) (x5 x6 x9 x22 x23 x24:Bool) (Q:Exit->Act->World->Prop) (c:Act) (w:World) (x:x9=true->0<j) (k:Zel p kb ko kl kc j y z x5 x6 x9 x22 x23 x24 c) (g:Zcz p kb ko kl kc j y z x5 x6 x9 x22 x23 x24 w) (b:∀ q0 ∈ Zja 16,Zg (Zam p kb ko kl kc j y z x5 x6 x9 x22 x23 x24) q0 (val RM6 c q0) w) :
  Zbp Tryz.prog RM6 Q (Zg (Zam p kb ko kl kc j y z x5 x6 x9 x22 x23 x24)) 16 c w:=by
 have a:RM6[16]?=some (⟨some 76,.load 9 (.tmp 75),9, "ref.go:70",#[⟨15,.data⟩,⟨10,.guard⟩],some (10,true)⟩:Oper):=by kernel_rfl
 have M:c.eval (.tmp 75)=gv (!x6&&x9) (.pointer (some ⟨kb,ko+(j - 1),none⟩)):=Zm (by kernel_rfl) rfl (b 15 (by decide))
 have l:val RM6 c 10=gv (!x6) (.bool x9):=b 10 (by decide)
 have d:=wgv a (want:=true) rfl l
 have n:=evc c
 have ef:=evf c
 cases x6<;>cases x9
 all_goals
  try (dsimp only [gv,not,and,or,cond] at M)
  first
   | exact Zq a (d.trans rfl) rfl
   | (refine Ze a (d.trans rfl) (v:=.string z) ?_ rfl (Below.refl _ _)
      have I:=g.kz (x rfl)
      generalize c.eval=ρ at *
      clear b k g d a l
      go_simp)
theorem Jf6  : Zcm p kb ko kl kc j y z x5 x6 x9 x22 x23 x24 Q 17:=by
 intro c w k g b
 have a:RM6[17]?=some (⟨some 77,.fieldAddr 60 (.tmp 1) 4,0, "ref.go:70",#[⟨10,.guard⟩],some (10,true)⟩:Oper):=by kernel_rfl
 have e1:=k.t1
 have l:val RM6 c 10=gv (!x6) (.bool x9):=b 10 (by decide)
 have d:=wgv a (want:=true) rfl l
 have n:=evc c
 have ef:=evf c
 cases x6<;>cases x9
 all_goals
  first
   | exact Zq a (d.trans rfl) rfl
   | (refine Ze a (d.trans rfl) (v:=.pointer (some ⟨p,4,none⟩)) ?_ rfl (Below.refl _ _)
      generalize c.eval=ρ at *
      clear b k g d a l
      go_simp)
theorem Jf7  : Zcm p kb ko kl kc j y z x5 x6 x9 x22 x23 x24 Q 18:=by
 intro c w k g b
 have a:RM6[18]?=some (⟨some 78,.load 44 (.tmp 77),44, "ref.go:70",#[⟨17,.data⟩,⟨10,.guard⟩],some (10,true)⟩:Oper):=by kernel_rfl
 have N:c.eval (.tmp 77)=gv (!x6&&x9) (.pointer (some ⟨p,4,none⟩)):=Zm (by kernel_rfl) rfl (b 17 (by decide))
 have l:val RM6 c 10=gv (!x6) (.bool x9):=b 10 (by decide)
 have d:=wgv a (want:=true) rfl l
 have I:=g.c4
 have n:=evc c
 have ef:=evf c
 cases x6<;>cases x9
 all_goals
  try (dsimp only [gv,not,and,or,cond] at N)
  first
   | exact Zq a (d.trans rfl) rfl
   | (refine Ze a (d.trans rfl) (v:=.slice (some ⟨kb,ko,none⟩) kl kc) ?_ rfl (Below.refl _ _)
      generalize c.eval=ρ at *
      clear b k g d a l
      go_simp)
theorem Jf8  : Zcm p kb ko kl kc j y z x5 x6 x9 x22 x23 x24 Q 19:=by
 intro c w k g b
 have a:RM6[19]?=some (⟨some 79,.move (.tmp 3),3, "ref.go:70",#[⟨10,.guard⟩],some (10,true)⟩:Oper):=by kernel_rfl
 have e3:=k.t3
 have l:val RM6 c 10=gv (!x6) (.bool x9):=b 10 (by decide)
 have d:=wgv a (want:=true) rfl l
 have n:=evc c
 have ef:=evf c
 cases x6<;>cases x9
 all_goals
  first
   | exact Zq a (d.trans rfl) rfl
   | (refine Ze a (d.trans rfl) (v:=.int .i64 (j:Int)) ?_ rfl (Below.refl _ _)
      generalize c.eval=ρ at *
      clear b k g d a l
      go_simp)
theorem Jf9  : Zcm p kb ko kl kc j y z x5 x6 x9 x22 x23 x24 Q 20:=by
 intro c w k g b
 have a:RM6[20]?=some (⟨some 80,.indexAddr 44 (.tmp 78) (.tmp 79),0, "ref.go:70",#[⟨18,.data⟩,⟨19,.data⟩,⟨10,.guard⟩],some (10,true)⟩:Oper):=by kernel_rfl
 have P:c.eval (.tmp 78)=gv (!x6&&x9) (.slice (some ⟨kb,ko,none⟩) kl kc):=Zm (by kernel_rfl) rfl (b 18 (by decide))
 have a2:c.eval (.tmp 79)=gv (!x6&&x9) (.int .i64 (j:Int)):=Zm (by kernel_rfl) rfl (b 19 (by decide))
 have l:val RM6 c 10=gv (!x6) (.bool x9):=b 10 (by decide)
 have d:=wgv a (want:=true) rfl l
 have B:=g.lt
 have G:=g.le
 have n:=evc c
 have ef:=evf c
 cases x6<;>cases x9
 all_goals
  try (dsimp only [gv,not,and,or,cond] at P a2)
  first
   | exact Zq a (d.trans rfl) rfl
   | (refine Ze a (d.trans rfl) (v:=.pointer (some ⟨kb,ko+j,none⟩)) ?_ rfl (Below.refl _ _)
      generalize c.eval=ρ at *
      clear b k g d a l
      go_simp)
theorem Jga  : Zcm p kb ko kl kc j y z x5 x6 x9 x22 x23 x24 Q 21:=by
 intro c w k g b
 have a:RM6[21]?=some (⟨some 81,.load 9 (.tmp 80),9, "ref.go:70",#[⟨20,.data⟩,⟨10,.guard⟩],some (10,true)⟩:Oper):=by kernel_rfl
 have R:c.eval (.tmp 80)=gv (!x6&&x9) (.pointer (some ⟨kb,ko+j,none⟩)):=Zm (by kernel_rfl) rfl (b 20 (by decide))
 have l:val RM6 c 10=gv (!x6) (.bool x9):=b 10 (by decide)
 have d:=wgv a (want:=true) rfl l
 have I:=g.ky
 have n:=evc c
 have ef:=evf c
 cases x6<;>cases x9
 all_goals
  try (dsimp only [gv,not,and,or,cond] at R)
  first
   | exact Zq a (d.trans rfl) rfl
   | (refine Ze a (d.trans rfl) (v:=.string y) ?_ rfl (Below.refl _ _)
      generalize c.eval=ρ at *
      clear b k g d a l
      go_simp)
theorem Jgb (p kb ko kl kc j:Nat) (y z:ByteArray) (x5 x6 x9 x22 x23 x24:Bool) (Q:Exit->Act->World->Prop) (c:Act) (w:World) (x:x22=!Op.bytesLess z.toList y.toList) (k:Zel p kb ko kl kc j y z x5 x6 x9 x22 x23 x24 c) (g:Zcz p kb ko kl kc j y z x5 x6 x9 x22 x23 x24 w) (b:∀ q0 ∈ Zja 22,Zg (Zam p kb ko kl kc j y z x5 x6 x9 x22 x23 x24) q0 (val RM6 c q0) w) :
  Zbp Tryz.prog RM6 Q (Zg (Zam p kb ko kl kc j y z x5 x6 x9 x22 x23 x24)) 22 c w:=by
 have a:RM6[22]?=some (⟨some 82,.binOp .geq 9 (.tmp 76) (.tmp 81) 9,4, "ref.go:70",#[⟨16,.data⟩,⟨21,.data⟩,⟨10,.guard⟩],some (10,true)⟩:Oper):=by kernel_rfl
 have U:c.eval (.tmp 76)=gv (!x6&&x9) (.string z):=Zm (by kernel_rfl) rfl (b 16 (by decide))
 have L:c.eval (.tmp 81)=gv (!x6&&x9) (.string y):=Zm (by kernel_rfl) rfl (b 21 (by decide))
 have l:val RM6 c 10=gv (!x6) (.bool x9):=b 10 (by decide)
 have d:=wgv a (want:=true) rfl l
 have n:=evc c
 have ef:=evf c
 cases x6<;>cases x9
 all_goals
  try (dsimp only [gv,not,and,or,cond] at U L)
  first
   | exact Zq a (d.trans rfl) rfl
   | (refine Ze a (d.trans rfl) (v:=.bool x22) ?_ rfl (Below.refl _ _)
      generalize c.eval=ρ at *
      clear b k g d a l
      go_simp)
theorem Jgc (p kb ko kl kc j:Nat) (y z:ByteArray) (x5 x6 x9 x22 x23 x24:Bool) (Q:Exit->Act->World->Prop) (c:Act) (w:World) (x:x23=(x9&&x22)) (k:Zel p kb ko kl kc j y z x5 x6 x9 x22 x23 x24 c) (g:Zcz p kb ko kl kc j y z x5 x6 x9 x22 x23 x24 w) (b:∀ q0 ∈ Zja 23,Zg (Zam p kb ko kl kc j y z x5 x6 x9 x22 x23 x24) q0 (val RM6 c q0) w) :
  Zbp Tryz.prog RM6 Q (Zg (Zam p kb ko kl kc j y z x5 x6 x9 x22 x23 x24)) 23 c w:=by
 have a:RM6[23]?=some (⟨some 83,.pick (.tmp 70) (.tmp 82) (.const (Value.bool false)),4, "ref.go:70",#[⟨10,.data⟩,⟨22,.data⟩,⟨7,.guard⟩],some (7,false)⟩:Oper):=by kernel_rfl
 have Y:c.eval (.tmp 70)=gv (!x6) (.bool x9):=Zm (by kernel_rfl) rfl (b 10 (by decide))
 have a5:c.eval (.tmp 82)=gv (!x6&&x9) (.bool x22):=Zm (by kernel_rfl) rfl (b 22 (by decide))
 have l:val RM6 c 7=gv (true) (.bool x6):=b 7 (by decide)
 have d:=wgv a (want:=false) rfl l
 have n:=evc c
 have ef:=evf c
 cases x6<;>cases x9<;>cases x22
 all_goals
  try (dsimp only [gv,not,and,or,cond] at Y a5)
  first
   | exact Zq a (d.trans rfl) rfl
   | (refine Ze a (d.trans rfl) (v:=.bool x23) ?_ rfl (Below.refl _ _)
      generalize c.eval=ρ at *
      clear b k g d a l
      go_simp)
theorem Jgd (p kb ko kl kc j:Nat) (y z:ByteArray) (x5 x6 x9 x22 x23 x24:Bool) (Q:Exit->Act->World->Prop) (c:Act) (w:World) (x:x24=(x6||x23)) (k:Zel p kb ko kl kc j y z x5 x6 x9 x22 x23 x24 c) (g:Zcz p kb ko kl kc j y z x5 x6 x9 x22 x23 x24 w) (b:∀ q0 ∈ Zja 24,Zg (Zam p kb ko kl kc j y z x5 x6 x9 x22 x23 x24) q0 (val RM6 c q0) w) :
  Zbp Tryz.prog RM6 Q (Zg (Zam p kb ko kl kc j y z x5 x6 x9 x22 x23 x24)) 24 c w:=by
 have a:RM6[24]?=some (⟨some 84,.pick (.tmp 67) (.const (Value.bool true)) (.tmp 83),4, "ref.go:70",#[⟨7,.data⟩,⟨23,.data⟩],none⟩:Oper):=by kernel_rfl
 have a3:c.eval (.tmp 67)=.bool x6:=Zm (by kernel_rfl) rfl (b 7 (by decide))
 have a4:c.eval (.tmp 83)=gv (!x6) (.bool x23):=Zm (by kernel_rfl) rfl (b 23 (by decide))
 have d:=Jas (c:=c) a rfl
 have n:=evc c
 have ef:=evf c
 cases x6<;>cases x23
 all_goals
  try (dsimp only [gv,not,and,or,cond] at a3 a4)
  first
   | exact Zq a (d.trans rfl) rfl
   | (refine Ze a (d.trans rfl) (v:=.bool x24) ?_ rfl (Below.refl _ _)
      generalize c.eval=ρ at *
      clear b k g d a
      go_simp)
end
theorem Jat (p kb ko kl kc j:Nat) (y z:ByteArray) (x5 x6 x9 x22 x23 x24:Bool):∀ pr ∈ Zam p kb ko kl kc j y z x5 x6 x9 x22 x23 x24,Zct pr:=by
 unfold Zam
 repeat' (first | exact List.forall_mem_nil _ | refine List.forall_mem_cons.2 ⟨by first | exact Zal _ | exact Zd6 _,?_⟩)
theorem Jje (p kb ko kl kc j:Nat) (y z:ByteArray) (x5 x6 x9 x22 x23 x24:Bool) (Q:Exit->Act->World->Prop) (C:x5=Lib.validD y.data.toList) (E:x6=!x5) (D:x9=decide (0<(j:Int))) (u:x9=true->0<j) (q:x9=true->0<j) (t:x22=!Op.bytesLess z.toList y.toList) (s:x23=(x9&&x22)) (r:x24=(x6||x23)):∀ i,i<25->(fun i=>∀ c w,Zel p kb ko kl kc j y z x5 x6 x9 x22 x23 x24 c->Zcz p kb ko kl kc j y z x5 x6 x9 x22 x23 x24 w->(∀ q0 ∈ Zja i,Zg (Zam p kb ko kl kc j y z x5 x6 x9 x22 x23 x24) q0 (val RM6 c q0) w)->Zbp Tryz.prog RM6 Q (Zg (Zam p kb ko kl kc j y z x5 x6 x9 x22 x23 x24)) i c w) i:=by
 refine Zd ?_ (fun c w=>Jgd p kb ko kl kc j y z x5 x6 x9 x22 x23 x24 Q c w r)
 refine Zd ?_ (fun c w=>Jgc p kb ko kl kc j y z x5 x6 x9 x22 x23 x24 Q c w s)
 refine Zd ?_ (fun c w=>Jgb p kb ko kl kc j y z x5 x6 x9 x22 x23 x24 Q c w t)
 refine Zd ?_ (fun c w=>Jga p kb ko kl kc j y z x5 x6 x9 x22 x23 x24 Q c w)
 refine Zd ?_ (fun c w=>Jf9 p kb ko kl kc j y z x5 x6 x9 x22 x23 x24 Q c w)
 refine Zd ?_ (fun c w=>Jf8 p kb ko kl kc j y z x5 x6 x9 x22 x23 x24 Q c w)
 refine Zd ?_ (fun c w=>Jf7 p kb ko kl kc j y z x5 x6 x9 x22 x23 x24 Q c w)
 refine Zd ?_ (fun c w=>Jf6 p kb ko kl kc j y z x5 x6 x9 x22 x23 x24 Q c w)
 refine Zd ?_ (fun c w=>Jf5 p kb ko kl kc j y z x5 x6 x9 x22 x23 x24 Q c w q)
 refine Zd ?_ (fun c w=>Jf4 p kb ko kl kc j y z x5 x6 x9 x22 x23 x24 Q c w u)
 refine Zd ?_ (fun c w=>Jf3 p kb ko kl kc j y z x5 x6 x9 x22 x23 x24 Q c w)
 refine Zd ?_ (fun c w=>Jf2 p kb ko kl kc j y z x5 x6 x9 x22 x23 x24 Q c w)
 refine Zd ?_ (fun c w=>Jf1 p kb ko kl kc j y z x5 x6 x9 x22 x23 x24 Q c w)
 refine Zd ?_ (fun c w=>Jf0 p kb ko kl kc j y z x5 x6 x9 x22 x23 x24 Q c w)
 refine Zd ?_ (fun c w=>Jfz p kb ko kl kc j y z x5 x6 x9 x22 x23 x24 Q c w)
 refine Zd ?_ (fun c w=>Jjd p kb ko kl kc j y z x5 x6 x9 x22 x23 x24 Q c w D)
 refine Zd ?_ (fun c w=>Jjc p kb ko kl kc j y z x5 x6 x9 x22 x23 x24 Q c w)
 refine Zd ?_ (fun c w=>Jjb p kb ko kl kc j y z x5 x6 x9 x22 x23 x24 Q c w)
 refine Zd ?_ (fun c w=>Jja p kb ko kl kc j y z x5 x6 x9 x22 x23 x24 Q c w E)
 refine Zd ?_ (fun c w=>Ji9 p kb ko kl kc j y z x5 x6 x9 x22 x23 x24 Q c w C)
 refine Zd ?_ (fun c w=>Ji8 p kb ko kl kc j y z x5 x6 x9 x22 x23 x24 Q c w)
 refine Zd ?_ (fun c w=>Ji7 p kb ko kl kc j y z x5 x6 x9 x22 x23 x24 Q c w)
 refine Zd ?_ (fun c w=>Ji6 p kb ko kl kc j y z x5 x6 x9 x22 x23 x24 Q c w)
 refine Zd ?_ (fun c w=>Ji5 p kb ko kl kc j y z x5 x6 x9 x22 x23 x24 Q c w)
 refine Zd ?_ (fun c w=>Ji4 p kb ko kl kc j y z x5 x6 x9 x22 x23 x24 Q c w)
 exact Zf
theorem Jau (p kb ko kl kc j:Nat) (y z:ByteArray) (x5 x6 x9 x22 x23 x24:Bool) (Q:Exit->Act->World->Prop) (base:Act) (H:World) (C:x5=Lib.validD y.data.toList) (E:x6=!x5) (D:x9=decide (0<(j:Int))) (u:x9=true->0<j) (q:x9=true->0<j) (t:x22=!Op.bytesLess z.toList y.toList) (s:x23=(x9&&x22)) (r:x24=(x6||x23)) (a1:base.tmps.size=99) (k:Zel p kb ko kl kc j y z x5 x6 x9 x22 x23 x24 base)
  (g:∀ w,Below H.heap.size H w->Zcz p kb ko kl kc j y z x5 x6 x9 x22 x23 x24 w) (hQ:∀ c w,Zaf RM6 base c->Below H.heap.size H w->c.eval (.tmp 84)=.bool x24->Q .normal c w):(Code.region 6 RM6 true).wp Tryz.prog Q base H:=by
 refine Zk9 (A:=Zja) (F:=Zg (Zam p kb ko kl kc j y z x5 x6 x9 x22 x23 x24)) (by kernel_rfl) (by rw [a1];kernel_rfl) (fun i v w w'=>Jk (Jat p kb ko kl kc j y z x5 x6 x9 x22 x23 x24) i v w w') ?_ ?_
 ·intro i hi c w K V b
  exact Jje p kb ko kl kc j y z x5 x6 x9 x22 x23 x24 Q C E D u q t s r i (by rwa [show RM6.size=25 by kernel_rfl] at hi) c w ⟨(Zc K (by kernel_rfl)).trans k.t1,(Zc K (by kernel_rfl)).trans k.t3⟩ (g w V) b
 ·intro c w K V b
  exact hQ c w K V (Jw (p:=eqv (.bool x24)) (by kernel_rfl) rfl (b 24 (by rw [show RM6.size=25 by kernel_rfl];omega)))
end
section
open Go.RowKit Go.WideShapes Go.Shelf
theorem Zip {w w1:World} {A:Array Value} (l:Below (w.alloc (.cells A 60)).heap.size (w.alloc (.cells A 60)) w1):Below w.heap.size w w1/\(∀ i v,A[i]?=some v->w1.cell? ⟨w.heap.size,i,none⟩=some v) :=
 ⟨Zfe l,fun i v d=>(l.cell (p:=⟨w.heap.size,i,none⟩) (by simp)).trans (Zaj _ _ _ _ _ d)⟩
theorem Zlp  : ∀ (a b:List UInt8),Op.bytesLess a b=decide (Lib.compareBytes a b<0)
 | [],[]=>rfl
 | [],_::_=>rfl
 | _::_,[]=>rfl
 | a::r,b::t=>by
  rw [Op.bytesLess,Lib.compareBytes,Zlp r t]
  by_cases h:a<b
  ·simp [h]
  ·by_cases g:b<a
   ·have:(a==b)=false:=by
     rw [beq_eq_false_iff_ne]
     intro e;subst e
     exact absurd g h
    simp [h,g,this]
   ·have:(a==b)=true:=by
     rw [beq_iff_eq]
     have h1:¬ a.toNat<b.toNat:=h
     have h2:¬ b.toNat<a.toNat:=g
     exact UInt8.toNat_inj.1 (by omega)
    simp [h,g,this]
def badB (k:Int) (b:Bool) (n:Int) (s:ByteArray) (kl ll:Nat):Bool :=
 ((((decide (k<0)||decide (7<k))||!rbareB k b n s kl ll)||(((k==6)||(k==7))&&decide (n<0)))||!Lib.validD s.data.toList)||((k==5)&&((kl:Int) != (ll:Int)))
mutual
def Ziq  : Zi->Bool
 | .mk k b n s ks ts=>!badB k b n s ks.length ts.length&&(Zbz ks&&mayL ts)
def mayL  : List Zi->Bool
 | []=>true
 | t::ts=>Ziq t&&mayL ts
end
theorem Zhr  : ∀ (ts:List Zi),mayL ts=ts.all Ziq
 | []=>rfl
 | t::ts=>by rw [mayL,Zhr ts];rfl
theorem Zs5 {ts:List Zi} {t:Zi} {i:Nat} (h:ts[i]?=some t) (hf:Ziq t=false):mayL ts=false:=by
 rw [Zhr,List.all_eq_false]
 exact ⟨t,List.mem_of_getElem? h,by simp [hf]⟩
theorem Zvi {ts:List Zi} (h:∀ (i:Nat) (t:Zi),ts[i]?=some t->Ziq t=true):mayL ts=true:=by
 rw [Zhr,List.all_eq_true]
 intro t S
 obtain ⟨i,d⟩:=List.mem_iff_getElem?.1 S
 exact h i t d
theorem Zvj {ks:List ByteArray} {j:Nat} {y z:ByteArray} (P:ks.getD j ⟨#[]⟩=y) (hz:ks.getD (j - 1) ⟨#[]⟩=z) {x:Bool}
  (E:x=(!Lib.validD y.data.toList||(decide (0<(j:Int))&&!Op.bytesLess z.toList y.toList))):risesAt ks j=!x:=by
 unfold risesAt
 rw [E,P,hz,ByteArray.toList_eq,ByteArray.toList_eq,Zlp]
 have e1:decide (0<(j:Int))=decide (0<j):=by simp
 have e2:(!decide (Lib.compareBytes z.data.toList y.data.toList<0))=decide (0<=Lib.compareBytes z.data.toList y.data.toList):=by
  by_cases h:Lib.compareBytes z.data.toList y.data.toList<0
  ·simp [h,show ¬ (0<=Lib.compareBytes z.data.toList y.data.toList) by omega]
  ·simp [h,show 0<=Lib.compareBytes z.data.toList y.data.toList by omega]
 rw [e1,e2]
 simp [Bool.not_or,Bool.not_and]
def Zzn (ks:List ByteArray) (j:Nat):Prop:=∀ i,i<j->risesAt ks i=true
theorem Zzn.snoc {ks:List ByteArray} {j:Nat} (h:Zzn ks j) (hj:risesAt ks j=true):Zzn ks (j+1):=fun i d=>by
 rcases Nat.lt_or_eq_of_le (Nat.le_of_lt_succ d) with h' | rfl
 ·exact h i h'
 ·exact hj
def Jev (ts:List Zi) (p:Nat):Prop:=∀ (i:Nat) (t:Zi),i<p->ts[i]?=some t->Ziq t=true
theorem Jev.snoc {ts:List Zi} {p:Nat} {t:Zi} (h:Jev ts p) (hp:ts[p]?=some t) (S:Ziq t=true):Jev ts (p+1):=fun i u d hu=>by
 rcases Nat.lt_or_eq_of_le (Nat.le_of_lt_succ d) with h' | rfl
 ·exact h i u h' hu
 ·rw [hp] at hu;cases hu;exact S
set_option maxRecDepth 100000 in
set_option maxHeartbeats 4000000 in
theorem Jco  : ∀ (T:Zi) (B:Nat) (v:Value) (w:World),B<=w.heap.size->Zaw B w v T->Zln T ->
  Calls Tryz.prog 110 #[v] w fun e w'=>e=.returned (.bool (Ziq T))/\Below w.heap.size w w':=by
 refine Zi.ind ?_
 intro k x n s ks ts ih B v w hB hv a3
 simp only [Zaw] at hv
 simp only [Zln] at a3
 obtain ⟨s1,s2,s3,s4,s5⟩:=a3
 obtain ⟨ka,kc,la,lc,rfl,⟨d6,d9,d5,d7,c7⟩,hk,S⟩:=hv
 unfold maxLen at d6 d5 c7
 obtain ⟨F,O⟩:∃ F,w.alloc (.cells #[.int .i64 k,.bool x,.int .i64 n,.string s,.slice ka ks.length kc,.slice la ts.length lc] 60)=F:=⟨_,rfl⟩
 have Q:Hid (∀ W,Below F.heap.size F W->Below w.heap.size w W/\(W.cell? ⟨w.heap.size,0,none⟩=some (.int .i64 k)/\W.cell? ⟨w.heap.size,1,none⟩=some (.bool x)/\W.cell? ⟨w.heap.size,2,none⟩=some (.int .i64 n)/\W.cell? ⟨w.heap.size,3,none⟩=some (.string s)/\W.cell? ⟨w.heap.size,4,none⟩=some (.slice ka ks.length kc)/\W.cell? ⟨w.heap.size,5,none⟩=some (.slice la ts.length lc))):=fun W l=>by
  rw [<- O] at l
  obtain ⟨h1,h2⟩:=Zip l
  exact ⟨h1,h2 0 _ rfl,h2 1 _ rfl,h2 2 _ rfl,h2 3 _ rfl,h2 4 _ rfl,h2 5 _ rfl⟩
 have HM:Hid (Ziq (.mk k x n s ks ts)=(!badB k x n s ks.length ts.length&&(Zbz ks&&mayL ts))):=by show _=_;rw [Ziq]
 have d2:=Zb O
 have b4:=Zb ih
 have b8:=Zb hk
 have d1:=Zb S
 have d0:=Zb s4
 have c9:=Zb s5
 generalize Ziq (.mk k x n s ks ts)=res at *
 clear ih hk S s4 s5 O
 go_enter Tryz.func110,Tryz.ntmps110
 go_upto_region 1 with fail
 rw [d2.out]
 show (Code.region 1 RM1 false).wp _ _ _ _
 refine Jbl w.heap.size k x n s ka ks.length kc la ts.length lc ((decide (k<0))) ((decide (7<k))) ((((decide (k<0))||(decide (7<k))))) ((rbareB k x n s ks.length ts.length)) ((!(rbareB k x n s ks.length ts.length))) ((((((decide (k<0))||(decide (7<k))))||(!(rbareB k x n s ks.length ts.length))))) (((k==6))) (((k==7))) (((((k==6))||((k==7))))) ((decide (n<0))) (((((((k==6))||((k==7))))&&(decide (n<0))))) ((((((((decide (k<0))||(decide (7<k))))||(!(rbareB k x n s ks.length ts.length))))||((((((k==6))||((k==7))))&&(decide (n<0))))))) ((Lib.validD s.data.toList)) ((!(Lib.validD s.data.toList))) ((((((((((decide (k<0))||(decide (7<k))))||(!(rbareB k x n s ks.length ts.length))))||((((((k==6))||((k==7))))&&(decide (n<0))))))||(!(Lib.validD s.data.toList))))) (((k==5))) ((((ks.length:Int) != (ts.length:Int)))) (((((k==5))&&(((ks.length:Int) != (ts.length:Int)))))) ((((((((((((decide (k<0))||(decide (7<k))))||(!(rbareB k x n s ks.length ts.length))))||((((((k==6))||((k==7))))&&(decide (n<0))))))||(!(Lib.validD s.data.toList))))||((((k==5))&&(((ks.length:Int) != (ts.length:Int)))))))) _ _ _ rfl rfl rfl rfl rfl rfl rfl rfl rfl rfl rfl rfl rfl rfl rfl rfl rfl rfl rfl rfl ⟨rfl⟩ (fun W l=>by obtain ⟨_,h0,h1,h2,h3,h4,h5⟩:=Q.out W l;exact ⟨h0,h1,h2,h3,h4,h5,s1⟩) ?_
 intro c W K M f
 have D:badB k x n s ks.length ts.length=((((((((((((decide (k<0))||(decide (7<k))))||(!(rbareB k x n s ks.length ts.length))))||((((((k==6))||((k==7))))&&(decide (n<0))))))||(!(Lib.validD s.data.toList))))||((((k==5))&&(((ks.length:Int) != (ts.length:Int)))))))):=rfl
 rw [<- D] at f
 clear D
 generalize badB k x n s ks.length ts.length=bad at *
 have o:c=⟨#[.agg #[.int .i64 k,.bool x,.int .i64 n,.string s,.slice ka ks.length kc,.slice la ts.length lc],.pointer (some ⟨w.heap.size,0,none⟩),.bool false,undef,undef,c.eval (.tmp 5),c.eval (.tmp 6),c.eval (.tmp 7),c.eval (.tmp 8),c.eval (.tmp 9),c.eval (.tmp 10),c.eval (.tmp 11),c.eval (.tmp 12),c.eval (.tmp 13),c.eval (.tmp 14),c.eval (.tmp 15),c.eval (.tmp 16),c.eval (.tmp 17),c.eval (.tmp 18),c.eval (.tmp 19),c.eval (.tmp 20),c.eval (.tmp 21),c.eval (.tmp 22),c.eval (.tmp 23),c.eval (.tmp 24),c.eval (.tmp 25),c.eval (.tmp 26),c.eval (.tmp 27),c.eval (.tmp 28),c.eval (.tmp 29),c.eval (.tmp 30),c.eval (.tmp 31),c.eval (.tmp 32),c.eval (.tmp 33),c.eval (.tmp 34),c.eval (.tmp 35),c.eval (.tmp 36),c.eval (.tmp 37),c.eval (.tmp 38),c.eval (.tmp 39),c.eval (.tmp 40),c.eval (.tmp 41),c.eval (.tmp 42),c.eval (.tmp 43),c.eval (.tmp 44),c.eval (.tmp 45),c.eval (.tmp 46),c.eval (.tmp 47),c.eval (.tmp 48),c.eval (.tmp 49),c.eval (.tmp 50),c.eval (.tmp 51),c.eval (.tmp 52),undef,undef,undef,undef,undef,undef,undef,undef,undef,undef,undef,undef,undef,undef,undef,undef,undef,undef,undef,undef,undef,undef,undef,undef,undef,undef,undef,undef,undef,undef,undef,undef,undef,undef,undef,undef,undef,undef,undef,undef,undef,undef,undef,undef,undef,undef],[]⟩:=(Zmt K).trans (by kernel_rfl)
 rw [f] at o
 generalize c.eval (.tmp 5)=y5,c.eval (.tmp 6)=y6,c.eval (.tmp 7)=y7,c.eval (.tmp 8)=y8,c.eval (.tmp 9)=y9,c.eval (.tmp 10)=y10,c.eval (.tmp 11)=y11,c.eval (.tmp 12)=y12,c.eval (.tmp 13)=y13,c.eval (.tmp 14)=y14,c.eval (.tmp 15)=y15,c.eval (.tmp 16)=y16,c.eval (.tmp 17)=y17,c.eval (.tmp 18)=y18,c.eval (.tmp 19)=y19,c.eval (.tmp 20)=y20,c.eval (.tmp 21)=y21,c.eval (.tmp 22)=y22,c.eval (.tmp 23)=y23,c.eval (.tmp 24)=y24,c.eval (.tmp 25)=y25,c.eval (.tmp 26)=y26,c.eval (.tmp 27)=y27,c.eval (.tmp 28)=y28,c.eval (.tmp 29)=y29,c.eval (.tmp 30)=y30,c.eval (.tmp 31)=y31,c.eval (.tmp 32)=y32,c.eval (.tmp 33)=y33,c.eval (.tmp 34)=y34,c.eval (.tmp 35)=y35,c.eval (.tmp 36)=y36,c.eval (.tmp 37)=y37,c.eval (.tmp 38)=y38,c.eval (.tmp 39)=y39,c.eval (.tmp 40)=y40,c.eval (.tmp 41)=y41,c.eval (.tmp 42)=y42,c.eval (.tmp 43)=y43,c.eval (.tmp 44)=y44,c.eval (.tmp 45)=y45,c.eval (.tmp 46)=y46,c.eval (.tmp 47)=y47,c.eval (.tmp 48)=y48,c.eval (.tmp 49)=y49,c.eval (.tmp 50)=y50,c.eval (.tmp 51)=y51 at o
 clear K f
 subst o
 have b9:=Zb M
 have b5:=Zb (Q.out W M).1
 clear M
 cases bad
 case true =>
  go_wp2_with fail
  go_ret
  exact ⟨by rw [HM.out];rfl,b5.out⟩
 go_wp2_with fail
 go_loopw [3] (fun i wr=>∃ j:Nat,j<=ks.length/\i=.int .i64 j/\Below F.heap.size F wr/\Zzn ks j) (fun i _=>ks.length - (intOf i).toNat)
 case atStart=>exact ⟨0,Nat.zero_le _,rfl,b9.out,fun i d=>absurd d (Nat.not_lt_zero _)⟩
 case round =>
  obtain ⟨j,hj,rfl,I,a1⟩:=hrel
  obtain ⟨b1,q0,q1,q2,q3,q4,q5⟩:=Q.out wr I
  have L:=Zb I
  have a7:=Zb a1
  have b7:=Zb b1
  clear I a1 b1 q0 q1 q2 q3 q5
  by_cases hja:j<ks.length
  ·obtain ⟨R,off,rfl,d8,m⟩:=(b8.out.below (b7.out.mono hB)).resolve_left (by intro e;subst e;simp at hja)
   obtain ⟨y,P⟩:∃ y,ks.getD j ⟨#[]⟩=y:=⟨_,rfl⟩
   obtain ⟨z,hz⟩:∃ z,ks.getD (j - 1) ⟨#[]⟩=z:=⟨_,rfl⟩
   have a8:=Zb (P▸(m j hja).1)
   have b0:Hid (0<j->wr.cell? ⟨R,off+(j - 1),none⟩=some (.string z)):=fun h=>hz▸(m (j - 1) (by omega)).1
   have c8:Hid (y.size<=140737488355328):=by
    show _<=_
    rw [<- P,List.getD_eq_getElem?_getD,List.getElem?_eq_getElem hja]
    exact d0.out _ (List.getElem_mem hja)
   have a9:Hid (∀ x:Bool,x=(!Lib.validD y.data.toList||(decide (0<(j:Int))&&!Op.bytesLess z.toList y.toList))->risesAt ks j=!x):=fun x h=>Zvj P hz h
   clear m P hz
   go_upto_region 6 with fail
   show (Code.region 6 RM6 true).wp _ _ _ _
   refine Jau w.heap.size R off ks.length kc j y z ((Lib.validD y.data.toList)) ((!(Lib.validD y.data.toList))) ((decide (0<(j:Int)))) ((!Op.bytesLess z.toList y.toList)) ((((decide (0<(j:Int)))&&(!Op.bytesLess z.toList y.toList)))) ((((!(Lib.validD y.data.toList))||(((decide (0<(j:Int)))&&(!Op.bytesLess z.toList y.toList)))))) _ _ _ rfl rfl rfl (fun h=>by simpa using h) (fun h=>by simpa using h) rfl rfl rfl rfl ⟨rfl,rfl⟩ (fun W l=>⟨Zag l (Nat.le_refl _) q4,Zag l (Nat.le_refl _) a8.out,fun h=>Zag l (Nat.le_refl _) (b0.out h),c8.out,hja,by omega⟩) ?_
   intro c Wr K a4 f
   have U:=Zb (L.out.trans (a4.mono L.out.size))
   have c6:=Zb (Q.out _ U.out).1
   clear a4 a8 b0 q4
   have X:=Zb (a9.out _ rfl)
   rw [show ((((!(Lib.validD y.data.toList))||(((decide (0<(j:Int)))&&(!Op.bytesLess z.toList y.toList))))))=!risesAt ks j by rw [X.out];simp] at f
   clear a9 X
   obtain ⟨rz,N⟩:∃ rz,risesAt ks j=rz:=⟨_,rfl⟩
   rw [N] at f
   have b3:=Zb N
   clear N
   cases rz
   case false =>
    simp only [Bool.not_false] at f
    have o:c=⟨#[.agg #[.int .i64 k,.bool x,.int .i64 n,.string s,.slice (some ⟨R,off,none⟩) ks.length kc,.slice la ts.length lc],.pointer (some ⟨w.heap.size,0,none⟩),u2,.int .i64 (j:Int),undef,y5,y6,y7,y8,y9,y10,y11,y12,y13,y14,y15,y16,y17,y18,y19,y20,y21,y22,y23,y24,y25,y26,y27,y28,y29,y30,y31,y32,y33,y34,y35,y36,y37,y38,y39,y40,y41,y42,y43,y44,y45,y46,y47,y48,y49,y50,y51,.bool false,.int .i64 (j:Int),.pointer (some ⟨w.heap.size,4,none⟩),.slice (some ⟨R,off,none⟩) ks.length kc,.int .i64 (ks.length:Int),.bool true,u58,u59,c.eval (.tmp 60),c.eval (.tmp 61),c.eval (.tmp 62),c.eval (.tmp 63),c.eval (.tmp 64),c.eval (.tmp 65),c.eval (.tmp 66),c.eval (.tmp 67),c.eval (.tmp 68),c.eval (.tmp 69),c.eval (.tmp 70),c.eval (.tmp 71),c.eval (.tmp 72),c.eval (.tmp 73),c.eval (.tmp 74),c.eval (.tmp 75),c.eval (.tmp 76),c.eval (.tmp 77),c.eval (.tmp 78),c.eval (.tmp 79),c.eval (.tmp 80),c.eval (.tmp 81),c.eval (.tmp 82),c.eval (.tmp 83),c.eval (.tmp 84),undef,undef,undef,undef,undef,undef,undef,undef,undef,undef,undef,undef,undef,undef],[]⟩:=(Zmt K).trans (by kernel_rfl)
    rw [f] at o
    generalize c.eval (.tmp 60)=y60,c.eval (.tmp 61)=y61,c.eval (.tmp 62)=y62,c.eval (.tmp 63)=y63,c.eval (.tmp 64)=y64,c.eval (.tmp 65)=y65,c.eval (.tmp 66)=y66,c.eval (.tmp 67)=y67,c.eval (.tmp 68)=y68,c.eval (.tmp 69)=y69,c.eval (.tmp 70)=y70,c.eval (.tmp 71)=y71,c.eval (.tmp 72)=y72,c.eval (.tmp 73)=y73,c.eval (.tmp 74)=y74,c.eval (.tmp 75)=y75,c.eval (.tmp 76)=y76,c.eval (.tmp 77)=y77,c.eval (.tmp 78)=y78,c.eval (.tmp 79)=y79,c.eval (.tmp 80)=y80,c.eval (.tmp 81)=y81,c.eval (.tmp 82)=y82,c.eval (.tmp 83)=y83 at o
    clear K f
    subst o
    go_wp2_with fail
    go_ret
    exact ⟨by rw [HM.out,Zek hja b3.out];rfl,c6.out⟩
   case true =>
    simp only [Bool.not_true] at f
    have o:c=⟨#[.agg #[.int .i64 k,.bool x,.int .i64 n,.string s,.slice (some ⟨R,off,none⟩) ks.length kc,.slice la ts.length lc],.pointer (some ⟨w.heap.size,0,none⟩),u2,.int .i64 (j:Int),undef,y5,y6,y7,y8,y9,y10,y11,y12,y13,y14,y15,y16,y17,y18,y19,y20,y21,y22,y23,y24,y25,y26,y27,y28,y29,y30,y31,y32,y33,y34,y35,y36,y37,y38,y39,y40,y41,y42,y43,y44,y45,y46,y47,y48,y49,y50,y51,.bool false,.int .i64 (j:Int),.pointer (some ⟨w.heap.size,4,none⟩),.slice (some ⟨R,off,none⟩) ks.length kc,.int .i64 (ks.length:Int),.bool true,u58,u59,c.eval (.tmp 60),c.eval (.tmp 61),c.eval (.tmp 62),c.eval (.tmp 63),c.eval (.tmp 64),c.eval (.tmp 65),c.eval (.tmp 66),c.eval (.tmp 67),c.eval (.tmp 68),c.eval (.tmp 69),c.eval (.tmp 70),c.eval (.tmp 71),c.eval (.tmp 72),c.eval (.tmp 73),c.eval (.tmp 74),c.eval (.tmp 75),c.eval (.tmp 76),c.eval (.tmp 77),c.eval (.tmp 78),c.eval (.tmp 79),c.eval (.tmp 80),c.eval (.tmp 81),c.eval (.tmp 82),c.eval (.tmp 83),c.eval (.tmp 84),undef,undef,undef,undef,undef,undef,undef,undef,undef,undef,undef,undef,undef,undef],[]⟩:=(Zmt K).trans (by kernel_rfl)
    rw [f] at o
    generalize c.eval (.tmp 60)=y60,c.eval (.tmp 61)=y61,c.eval (.tmp 62)=y62,c.eval (.tmp 63)=y63,c.eval (.tmp 64)=y64,c.eval (.tmp 65)=y65,c.eval (.tmp 66)=y66,c.eval (.tmp 67)=y67,c.eval (.tmp 68)=y68,c.eval (.tmp 69)=y69,c.eval (.tmp 70)=y70,c.eval (.tmp 71)=y71,c.eval (.tmp 72)=y72,c.eval (.tmp 73)=y73,c.eval (.tmp 74)=y74,c.eval (.tmp 75)=y75,c.eval (.tmp 76)=y76,c.eval (.tmp 77)=y77,c.eval (.tmp 78)=y78,c.eval (.tmp 79)=y79,c.eval (.tmp 80)=y80,c.eval (.tmp 81)=y81,c.eval (.tmp 82)=y82,c.eval (.tmp 83)=y83 at o
    clear K f
    subst o
    go_wp2_with fail
    go_roundw
    case rel=>exact ⟨j+1,by omega,by go_num,U.out,a7.out.snoc b3.out⟩
    case measure=>simp [intOf];omega
  ·have a5:Hid (Zbz ks=true):=Zfq fun i d=>a7.out i (by omega)
   go_wp2_with fail
   clear q4
   go_loopw [4] (fun i wr=>∃ p:Nat,p<=ts.length/\i=.int .i64 p/\Below F.heap.size F wr/\Jev ts p) (fun i _=>ts.length - (intOf i).toNat)
   case atStart=>exact ⟨0,Nat.zero_le _,rfl,L.out,fun i t d _=>absurd d (Nat.not_lt_zero _)⟩
   case round =>
    obtain ⟨p,hp,rfl,C,Y⟩:=hrel
    obtain ⟨G,q0,q1,q2,q3,q4,q5⟩:=Q.out _ C
    have H:=Zb C
    have q:=Zb G
    have V:=Zb Y
    clear C Y G q0 q1 q2 q3 q4
    by_cases hlt:p<ts.length
    ·obtain ⟨bl,off,rfl,d3,a2⟩:=d1.out.resolve_left (by intro e;subst e;simp at hlt)
     obtain ⟨⟨p0,p1,p2,p3,p4,p5⟩,E⟩:∃ t,ts[p]?=some t:=⟨_,List.getElem?_eq_getElem hlt⟩
     obtain ⟨ja,jc,jl,jd,⟨c0,c1,c2,c3,c4,c5⟩,b2⟩:=(a2.below (q.out.mono hB) d3).cells E
     have HC:=Zb (b4.out _ (List.mem_of_getElem? E) B _ wr (Nat.le_trans hB q.out.size) b2 (c9.out.mem (List.mem_of_getElem? E)))
     have HF:=Zb (@Zs5 ts _ p E)
     have d4:=Zb (fun h=>@Jev.snoc ts p _ V.out E h)
     clear a2 b2 E
     generalize Ziq (.mk p0 p1 p2 p3 p4 p5)=mt at *
     go_wp2_with fail
     refine HC.out.mono ?_;rintro e w' ⟨rfl,a0⟩
     have a6:=Zb (H.out.trans (a0.mono H.out.size))
     clear a0 c0 c1 c2 c3 c4 c5 q5
     cases mt
     ·go_wp2_with fail
      go_ret
      exact ⟨by rw [HM.out,a5.out,HF.out (by simp)];rfl,(Q.out _ a6.out).1⟩
     ·go_wp2_with fail
      go_roundw
      case rel=>exact ⟨p+1,by omega,by go_num,a6.out,d4.out (by simp)⟩
      case measure=>simp [intOf];omega
    ·have b6:Hid (mayL ts=true):=Zvi fun i t d=>V.out i t (by have:=(List.getElem?_eq_some_iff.1 d).1;omega) d
     go_wp2_with fail
     go_ret
     exact ⟨by rw [HM.out,a5.out,b6.out];rfl,q.out⟩
end
