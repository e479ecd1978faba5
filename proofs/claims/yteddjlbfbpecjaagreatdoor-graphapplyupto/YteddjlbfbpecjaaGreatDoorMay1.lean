/- The document's May, its first test: operation by operation. -/
import Derived.Test.YteddjlbfbpecjaaGreatDoorJoin1
import Derived.Test.YteddjlbfbpecjaaGreatDoorJoin21
namespace Go.Proofs.YteddjlbfbpecjaaGreatDoor
open Go.RowKit Go.WideShapes Go.Shelf
set_option maxRecDepth 100000
set_option linter.all false
noncomputable def RM1  : Array Oper:=Jg Tryz.f110 1
def Jav (i:Nat):List Nat:=([[],[0],[1],[2],[3],[3,4],[3,5],[3,6],[7],[8],[8,9],[8,10],[8,11],[12],[13],[13,14],[13,15],[13,16],[17],[17,18],[17,19],[13,17,20],[13,21],[22],[22,23],[22,24],[13,22,25],[13,26],[27],[28],[28,29],[28,30],[28,31],[28,32],[33],[34],[34,35],[34,36],[34,37],[38],[38,39],[38,40],[38],[38,42],[38,43],[38,41,44],[34,38,45],[34,46]]:List (List Nat)).getD i []
def Zfi (p:Nat) (k:Int) (b:Bool) (n:Int) (s:ByteArray) (ka:Option Addr) (kl kc:Nat) (la:Option Addr) (ll lc:Nat) (x2 x6 x7 x10 x11 x12 x16 x20 x21 x25 x26 x27 x31 x32 x33 x37 x45 x46 x47:Bool):List (Value→World→Prop) :=
 [eqv (.pointer (some ⟨p,0,none⟩)),eqv (.int .i64 k),eqv (.bool x2),eqv (.bool x2),eqv (gv (!x2) (.pointer (some ⟨p,0,none⟩))),eqv (gv (!x2) (.int .i64 k)),eqv (gv (!x2) (.bool x6)),eqv (.bool x7),eqv (.bool x7),eqv (gv (!x7) (.agg #[.int .i64 k,.bool b,.int .i64 n,.string s,.slice ka kl kc,.slice la ll lc])),eqv (gv (!x7) (.bool x10)),eqv (gv (!x7) (.bool x11)),eqv (.bool x12),eqv (.bool x12),eqv (gv (!x12) (.pointer (some ⟨p,0,none⟩))),eqv (gv (!x12) (.int .i64 k)),eqv (gv (!x12) (.bool x16)),eqv (gv (!x12) (.bool x16)),eqv (gv (!x12&&!x16) (.pointer (some ⟨p,0,none⟩))),eqv (gv (!x12&&!x16) (.int .i64 k)),eqv (gv (!x12&&!x16) (.bool x20)),eqv (gv (!x12) (.bool x21)),eqv (gv (!x12) (.bool x21)),eqv (gv (!x12&&x21) (.pointer (some ⟨p,2,none⟩))),eqv (gv (!x12&&x21) (.int .i64 n)),eqv (gv (!x12&&x21) (.bool x25)),eqv (gv (!x12) (.bool x26)),eqv (.bool x27),eqv (.bool x27),eqv (gv (!x27) (.pointer (some ⟨p,3,none⟩))),eqv (gv (!x27) (.string s)),eqv (gv (!x27) (.bool x31)),eqv (gv (!x27) (.bool x32)),eqv (.bool x33),eqv (.bool x33),eqv (gv (!x33) (.pointer (some ⟨p,0,none⟩))),eqv (gv (!x33) (.int .i64 k)),eqv (gv (!x33) (.bool x37)),eqv (gv (!x33) (.bool x37)),eqv (gv (!x33&&x37) (.pointer (some ⟨p,4,none⟩))),eqv (gv (!x33&&x37) (.slice ka kl kc)),eqv (gv (!x33&&x37) (.int .i64 (kl:Int))),eqv (gv (!x33&&x37) (.pointer (some ⟨p,5,none⟩))),eqv (gv (!x33&&x37) (.slice la ll lc)),eqv (gv (!x33&&x37) (.int .i64 (ll:Int))),eqv (gv (!x33&&x37) (.bool x45)),eqv (gv (!x33) (.bool x46)),eqv (.bool x47)]
structure Zvj (p:Nat) (k:Int) (b:Bool) (n:Int) (s:ByteArray) (ka:Option Addr) (kl kc:Nat) (la:Option Addr) (ll lc:Nat) (x2 x6 x7 x10 x11 x12 x16 x20 x21 x25 x26 x27 x31 x32 x33 x37 x45 x46 x47:Bool) (c:Act):Prop where
 t1:c.eval (.tmp 1)=.pointer (some ⟨p,0,none⟩)
structure Zn8 (p:Nat) (k:Int) (b:Bool) (n:Int) (s:ByteArray) (ka:Option Addr) (kl kc:Nat) (la:Option Addr) (ll lc:Nat) (x2 x6 x7 x10 x11 x12 x16 x20 x21 x25 x26 x27 x31 x32 x33 x37 x45 x46 x47:Bool) (w:World):Prop where
 c0:w.cell? ⟨p,0,none⟩=some (.int .i64 k)
 c1:w.cell? ⟨p,1,none⟩=some (.bool b)
 c2:w.cell? ⟨p,2,none⟩=some (.int .i64 n)
 c3:w.cell? ⟨p,3,none⟩=some (.string s)
 c4:w.cell? ⟨p,4,none⟩=some (.slice ka kl kc)
 c5:w.cell? ⟨p,5,none⟩=some (.slice la ll lc)
 small:s.size≤140737488355328
def Jm (p:Nat) (k:Int) (b:Bool) (n:Int) (s:ByteArray) (ka:Option Addr) (kl kc:Nat) (la:Option Addr) (ll lc:Nat) (x2 x6 x7 x10 x11 x12 x16 x20 x21 x25 x26 x27 x31 x32 x33 x37 x45 x46 x47:Bool) (Q:Exit→Act→World→Prop) (i:Nat):Prop:=∀ (c:Act) (w:World),Zvj p k b n s ka kl kc la ll lc x2 x6 x7 x10 x11 x12 x16 x20 x21 x25 x26 x27 x31 x32 x33 x37 x45 x46 x47 c→Zn8 p k b n s ka kl kc la ll lc x2 x6 x7 x10 x11 x12 x16 x20 x21 x25 x26 x27 x31 x32 x33 x37 x45 x46 x47 w→(∀ j ∈ Jav i,Zf (Zfi p k b n s ka kl kc la ll lc x2 x6 x7 x10 x11 x12 x16 x20 x21 x25 x26 x27 x31 x32 x33 x37 x45 x46 x47) j (val RM1 c j) w)→Zak Tryz.prog RM1 Q (Zf (Zfi p k b n s ka kl kc la ll lc x2 x6 x7 x10 x11 x12 x16 x20 x21 x25 x26 x27 x31 x32 x33 x37 x45 x46 x47)) i c w
theorem Zrh {i:Nat} {o:Oper} {c:Act} (ho:RM1[i]?=some o) (h:o.guard=none):Region.wanted o (yielded RM1 c.tmps)=true:=Zn h
section
variable {p:Nat} {k:Int} {b:Bool} {n:Int} {s:ByteArray} {ka:Option Addr} {kl kc:Nat} {la:Option Addr} {ll lc:Nat} {x2 x6 x7 x10 x11 x12 x16 x20 x21 x25 x26 x27 x31 x32 x33 x37 x45 x46 x47:Bool} {Q:Exit→Act→World→Prop}
theorem Jfp  : Jm p k b n s ka kl kc la ll lc x2 x6 x7 x10 x11 x12 x16 x20 x21 x25 x26 x27 x31 x32 x33 x37 x45 x46 x47 Q 0:=by
 intro c w hb hW hF
 have ho:RM1[0]?=some (⟨some 5,.fieldAddr 60 (.tmp 1) 0,0, "ref.go:66",#[],none⟩:Oper):=by kernel_rfl
 have e1:=hb.t1
 have hw:=Zrh (c:=c) ho rfl
 have ec:=evc c
 have ef:=evf c
 have hw0:=hw
 refine Ze ho hw0 (v:=.pointer (some ⟨p,0,none⟩)) ?_ rfl (Below.refl _ _)
 generalize c.eval=ρ at *
 clear hF hb hW hw hw0 ho
 go_simp
theorem Jfq  : Jm p k b n s ka kl kc la ll lc x2 x6 x7 x10 x11 x12 x16 x20 x21 x25 x26 x27 x31 x32 x33 x37 x45 x46 x47 Q 1:=by
 intro c w hb hW hF
 have ho:RM1[1]?=some (⟨some 6,.load 57 (.tmp 5),57, "ref.go:66",#[⟨0,.data⟩],none⟩:Oper):=by kernel_rfl
 have e5:c.eval (.tmp 5)=.pointer (some ⟨p,0,none⟩):=Zi (by kernel_rfl) rfl (hF 0 (by decide))
 have hw:=Zrh (c:=c) ho rfl
 have hc:=hW.c0
 have ec:=evc c
 have ef:=evf c
 have hw0:=hw
 refine Ze ho hw0 (v:=.int .i64 k) ?_ rfl (Below.refl _ _)
 generalize c.eval=ρ at *
 clear hF hb hW hw hw0 ho
 go_simp
theorem Jfr (hr:x2=decide (k<0)):Jm p k b n s ka kl kc la ll lc x2 x6 x7 x10 x11 x12 x16 x20 x21 x25 x26 x27 x31 x32 x33 x37 x45 x46 x47 Q 2:=by
 intro c w hb hW hF
 have ho:RM1[2]?=some (⟨some 7,.binOp .lss 57 (.tmp 6) (.const (Value.int .i64 0)) 57,4, "ref.go:66",#[⟨1,.data⟩],none⟩:Oper):=by kernel_rfl
 have e6:c.eval (.tmp 6)=.int .i64 k:=Zi (by kernel_rfl) rfl (hF 1 (by decide))
 have hw:=Zrh (c:=c) ho rfl
 have ec:=evc c
 have ef:=evf c
 have hw0:=hw
 refine Ze ho hw0 (v:=.bool x2) ?_ rfl (Below.refl _ _)
 generalize c.eval=ρ at *
 clear hF hb hW hw hw0 ho
 go_simp
theorem Jfs  : Jm p k b n s ka kl kc la ll lc x2 x6 x7 x10 x11 x12 x16 x20 x21 x25 x26 x27 x31 x32 x33 x37 x45 x46 x47 Q 3:=by
 intro c w hb hW hF
 have ho:RM1[3]?=some (⟨some 8,.move (.tmp 7),4, "ref.go:66",#[⟨2,.data⟩],none⟩:Oper):=by kernel_rfl
 have e7:c.eval (.tmp 7)=.bool x2:=Zi (by kernel_rfl) rfl (hF 2 (by decide))
 have hw:=Zrh (c:=c) ho rfl
 have ec:=evc c
 have ef:=evf c
 have hw0:=hw
 refine Ze ho hw0 (v:=.bool x2) ?_ rfl (Below.refl _ _)
 generalize c.eval=ρ at *
 clear hF hb hW hw hw0 ho
 go_simp
theorem Jft  : Jm p k b n s ka kl kc la ll lc x2 x6 x7 x10 x11 x12 x16 x20 x21 x25 x26 x27 x31 x32 x33 x37 x45 x46 x47 Q 4:=by
 intro c w hb hW hF
 have ho:RM1[4]?=some (⟨some 9,.fieldAddr 60 (.tmp 1) 0,0, "ref.go:66",#[⟨3,.guard⟩],some (3,false)⟩:Oper):=by kernel_rfl
 have e1:=hb.t1
 have hg:val RM1 c 3=gv (true) (.bool x2):=hF 3 (by decide)
 have hw:=wgv ho (want:=false) rfl hg
 have ec:=evc c
 have ef:=evf c
 cases x2
 all_goals
  first
   | exact Zo ho (hw.trans rfl) rfl
   | (refine Ze ho (hw.trans rfl) (v:=.pointer (some ⟨p,0,none⟩)) ?_ rfl (Below.refl _ _)
      generalize c.eval=ρ at *
      clear hF hb hW hw ho hg
      go_simp)
theorem Jfu  : Jm p k b n s ka kl kc la ll lc x2 x6 x7 x10 x11 x12 x16 x20 x21 x25 x26 x27 x31 x32 x33 x37 x45 x46 x47 Q 5:=by
 intro c w hb hW hF
 have ho:RM1[5]?=some (⟨some 10,.load 57 (.tmp 9),57, "ref.go:66",#[⟨4,.data⟩,⟨3,.guard⟩],some (3,false)⟩:Oper):=by kernel_rfl
 have e9:c.eval (.tmp 9)=gv (!x2) (.pointer (some ⟨p,0,none⟩)):=Zi (by kernel_rfl) rfl (hF 4 (by decide))
 have hg:val RM1 c 3=gv (true) (.bool x2):=hF 3 (by decide)
 have hw:=wgv ho (want:=false) rfl hg
 have hc:=hW.c0
 have ec:=evc c
 have ef:=evf c
 cases x2
 all_goals
  try (dsimp only [gv,not,and,or,cond] at e9)
  first
   | exact Zo ho (hw.trans rfl) rfl
   | (refine Ze ho (hw.trans rfl) (v:=.int .i64 k) ?_ rfl (Below.refl _ _)
      generalize c.eval=ρ at *
      clear hF hb hW hw ho hg
      go_simp)
theorem Jfv (hr:x6=decide (7<k)):Jm p k b n s ka kl kc la ll lc x2 x6 x7 x10 x11 x12 x16 x20 x21 x25 x26 x27 x31 x32 x33 x37 x45 x46 x47 Q 6:=by
 intro c w hb hW hF
 have ho:RM1[6]?=some (⟨some 11,.binOp .gtr 57 (.tmp 10) (.const (Value.int .i64 7)) 57,4, "ref.go:66",#[⟨5,.data⟩,⟨3,.guard⟩],some (3,false)⟩:Oper):=by kernel_rfl
 have e10:c.eval (.tmp 10)=gv (!x2) (.int .i64 k):=Zi (by kernel_rfl) rfl (hF 5 (by decide))
 have hg:val RM1 c 3=gv (true) (.bool x2):=hF 3 (by decide)
 have hw:=wgv ho (want:=false) rfl hg
 have ec:=evc c
 have ef:=evf c
 cases x2
 all_goals
  try (dsimp only [gv,not,and,or,cond] at e10)
  first
   | exact Zo ho (hw.trans rfl) rfl
   | (refine Ze ho (hw.trans rfl) (v:=.bool x6) ?_ rfl (Below.refl _ _)
      generalize c.eval=ρ at *
      clear hF hb hW hw ho hg
      go_simp)
theorem Jfw (hr:x7=(x2||x6)):Jm p k b n s ka kl kc la ll lc x2 x6 x7 x10 x11 x12 x16 x20 x21 x25 x26 x27 x31 x32 x33 x37 x45 x46 x47 Q 7:=by
 intro c w hb hW hF
 have ho:RM1[7]?=some (⟨some 12,.pick (.tmp 8) (.const (Value.bool true)) (.tmp 11),4, "ref.go:66",#[⟨3,.data⟩,⟨6,.data⟩],none⟩:Oper):=by kernel_rfl
 have e8:c.eval (.tmp 8)=.bool x2:=Zi (by kernel_rfl) rfl (hF 3 (by decide))
 have e11:c.eval (.tmp 11)=gv (!x2) (.bool x6):=Zi (by kernel_rfl) rfl (hF 6 (by decide))
 have hw:=Zrh (c:=c) ho rfl
 have ec:=evc c
 have ef:=evf c
 cases x2<;>cases x6
 all_goals
  try (dsimp only [gv,not,and,or,cond] at e8 e11)
  first
   | exact Zo ho (hw.trans rfl) rfl
   | (refine Ze ho (hw.trans rfl) (v:=.bool x7) ?_ rfl (Below.refl _ _)
      generalize c.eval=ρ at *
      clear hF hb hW hw ho
      go_simp)
theorem Jfx  : Jm p k b n s ka kl kc la ll lc x2 x6 x7 x10 x11 x12 x16 x20 x21 x25 x26 x27 x31 x32 x33 x37 x45 x46 x47 Q 8:=by
 intro c w hb hW hF
 have ho:RM1[8]?=some (⟨some 13,.move (.tmp 12),4, "ref.go:66",#[⟨7,.data⟩,⟨3,.chain⟩],none⟩:Oper):=by kernel_rfl
 have e12:c.eval (.tmp 12)=.bool x7:=Zi (by kernel_rfl) rfl (hF 7 (by decide))
 have hw:=Zrh (c:=c) ho rfl
 have ec:=evc c
 have ef:=evf c
 have hw0:=hw
 refine Ze ho hw0 (v:=.bool x7) ?_ rfl (Below.refl _ _)
 generalize c.eval=ρ at *
 clear hF hb hW hw hw0 ho
 go_simp
theorem Jfy  : Jm p k b n s ka kl kc la ll lc x2 x6 x7 x10 x11 x12 x16 x20 x21 x25 x26 x27 x31 x32 x33 x37 x45 x46 x47 Q 9:=by
 intro c w hb hW hF
 have ho:RM1[9]?=some (⟨some 14,.load 60 (.tmp 1),60, "ref.go:66",#[⟨8,.guard⟩],some (8,false)⟩:Oper):=by kernel_rfl
 have e1:=hb.t1
 have hg:val RM1 c 8=gv (true) (.bool x7):=hF 8 (by decide)
 have hw:=wgv ho (want:=false) rfl hg
 have hc0:=hW.c0
 have hc1:=hW.c1
 have hc2:=hW.c2
 have hc3:=hW.c3
 have hc4:=hW.c4
 have hc5:=hW.c5
 have ec:=evc c
 have ef:=evf c
 cases x7
 all_goals
  first
   | exact Zo ho (hw.trans rfl) rfl
   | (refine Ze ho (hw.trans rfl) (v:=.agg #[.int .i64 k,.bool b,.int .i64 n,.string s,.slice ka kl kc,.slice la ll lc]) ?_ rfl (Below.refl _ _)
      generalize c.eval=ρ at *
      clear hF hb hW hw ho hg
      go_simp)
theorem Jdb (hr:x10=rbareB k b n s kl ll):Jm p k b n s ka kl kc la ll lc x2 x6 x7 x10 x11 x12 x16 x20 x21 x25 x26 x27 x31 x32 x33 x37 x45 x46 x47 Q 10:=by
 intro c w hb hW hF
 have ho:RM1[10]?=some (⟨some 15,.call { callee:=.value (.func 153),args:=#[.tmp 14],argTypes:=#[60] },4, "ref.go:66",#[⟨9,.data⟩,⟨8,.chain⟩,⟨8,.guard⟩],some (8,false)⟩:Oper):=by kernel_rfl
 have e14:c.eval (.tmp 14)=gv (!x7) (.agg #[.int .i64 k,.bool b,.int .i64 n,.string s,.slice ka kl kc,.slice la ll lc]):=Zi (by kernel_rfl) rfl (hF 9 (by decide))
 have hg:val RM1 c 8=gv (true) (.bool x7):=hF 8 (by decide)
 have hw:=wgv ho (want:=false) rfl hg
 have ec:=evc c
 have ef:=evf c
 cases x7
 all_goals
  try (dsimp only [gv,not,and,or,cond] at e14)
  first
   | exact Zo ho (hw.trans rfl) rfl
   | (refine Zcd ho (hw.trans rfl) (f:=153) (args:=#[.agg #[.int .i64 k,.bool b,.int .i64 n,.string s,.slice ka kl kc,.slice la ll lc]]) ?_ ((Zu2 k b n s ka kl kc la ll lc w).mono fun e w' ⟨h1,h2⟩=>⟨_,h1,congrArg Value.bool hr.symm,h2⟩)
      generalize c.eval=ρ at *
      clear hF hb hW hw ho hg
      go_simp)
theorem Jdc (hr:x11=!x10):Jm p k b n s ka kl kc la ll lc x2 x6 x7 x10 x11 x12 x16 x20 x21 x25 x26 x27 x31 x32 x33 x37 x45 x46 x47 Q 11:=by
 intro c w hb hW hF
 have ho:RM1[11]?=some (⟨some 16,.unOp .not 4 (.tmp 15),4, "ref.go:66",#[⟨10,.data⟩,⟨8,.guard⟩],some (8,false)⟩:Oper):=by kernel_rfl
 have e15:c.eval (.tmp 15)=gv (!x7) (.bool x10):=Zi (by kernel_rfl) rfl (hF 10 (by decide))
 have hg:val RM1 c 8=gv (true) (.bool x7):=hF 8 (by decide)
 have hw:=wgv ho (want:=false) rfl hg
 have ec:=evc c
 have ef:=evf c
 cases x7
 all_goals
  try (dsimp only [gv,not,and,or,cond] at e15)
  first
   | exact Zo ho (hw.trans rfl) rfl
   | (refine Ze ho (hw.trans rfl) (v:=.bool x11) ?_ rfl (Below.refl _ _)
      generalize c.eval=ρ at *
      clear hF hb hW hw ho hg
      go_simp)
theorem Jdd (hr:x12=(x7||x11)):Jm p k b n s ka kl kc la ll lc x2 x6 x7 x10 x11 x12 x16 x20 x21 x25 x26 x27 x31 x32 x33 x37 x45 x46 x47 Q 12:=by
 intro c w hb hW hF
 have ho:RM1[12]?=some (⟨some 17,.pick (.tmp 13) (.const (Value.bool true)) (.tmp 16),4, "ref.go:66",#[⟨8,.data⟩,⟨11,.data⟩],none⟩:Oper):=by kernel_rfl
 have e13:c.eval (.tmp 13)=.bool x7:=Zi (by kernel_rfl) rfl (hF 8 (by decide))
 have e16:c.eval (.tmp 16)=gv (!x7) (.bool x11):=Zi (by kernel_rfl) rfl (hF 11 (by decide))
 have hw:=Zrh (c:=c) ho rfl
 have ec:=evc c
 have ef:=evf c
 cases x7<;>cases x11
 all_goals
  try (dsimp only [gv,not,and,or,cond] at e13 e16)
  first
   | exact Zo ho (hw.trans rfl) rfl
   | (refine Ze ho (hw.trans rfl) (v:=.bool x12) ?_ rfl (Below.refl _ _)
      generalize c.eval=ρ at *
      clear hF hb hW hw ho
      go_simp)
theorem Jde  : Jm p k b n s ka kl kc la ll lc x2 x6 x7 x10 x11 x12 x16 x20 x21 x25 x26 x27 x31 x32 x33 x37 x45 x46 x47 Q 13:=by
 intro c w hb hW hF
 have ho:RM1[13]?=some (⟨some 18,.move (.tmp 17),4, "ref.go:66",#[⟨12,.data⟩,⟨10,.chain⟩],none⟩:Oper):=by kernel_rfl
 have e17:c.eval (.tmp 17)=.bool x12:=Zi (by kernel_rfl) rfl (hF 12 (by decide))
 have hw:=Zrh (c:=c) ho rfl
 have ec:=evc c
 have ef:=evf c
 have hw0:=hw
 refine Ze ho hw0 (v:=.bool x12) ?_ rfl (Below.refl _ _)
 generalize c.eval=ρ at *
 clear hF hb hW hw hw0 ho
 go_simp
theorem Jdf  : Jm p k b n s ka kl kc la ll lc x2 x6 x7 x10 x11 x12 x16 x20 x21 x25 x26 x27 x31 x32 x33 x37 x45 x46 x47 Q 14:=by
 intro c w hb hW hF
 have ho:RM1[14]?=some (⟨some 19,.fieldAddr 60 (.tmp 1) 0,0, "ref.go:66",#[⟨13,.guard⟩],some (13,false)⟩:Oper):=by kernel_rfl
 have e1:=hb.t1
 have hg:val RM1 c 13=gv (true) (.bool x12):=hF 13 (by decide)
 have hw:=wgv ho (want:=false) rfl hg
 have ec:=evc c
 have ef:=evf c
 cases x12
 all_goals
  first
   | exact Zo ho (hw.trans rfl) rfl
   | (refine Ze ho (hw.trans rfl) (v:=.pointer (some ⟨p,0,none⟩)) ?_ rfl (Below.refl _ _)
      generalize c.eval=ρ at *
      clear hF hb hW hw ho hg
      go_simp)
theorem Jdg  : Jm p k b n s ka kl kc la ll lc x2 x6 x7 x10 x11 x12 x16 x20 x21 x25 x26 x27 x31 x32 x33 x37 x45 x46 x47 Q 15:=by
 intro c w hb hW hF
 have ho:RM1[15]?=some (⟨some 20,.load 57 (.tmp 19),57, "ref.go:66",#[⟨14,.data⟩,⟨13,.guard⟩],some (13,false)⟩:Oper):=by kernel_rfl
 have e19:c.eval (.tmp 19)=gv (!x12) (.pointer (some ⟨p,0,none⟩)):=Zi (by kernel_rfl) rfl (hF 14 (by decide))
 have hg:val RM1 c 13=gv (true) (.bool x12):=hF 13 (by decide)
 have hw:=wgv ho (want:=false) rfl hg
 have hc:=hW.c0
 have ec:=evc c
 have ef:=evf c
 cases x12
 all_goals
  try (dsimp only [gv,not,and,or,cond] at e19)
  first
   | exact Zo ho (hw.trans rfl) rfl
   | (refine Ze ho (hw.trans rfl) (v:=.int .i64 k) ?_ rfl (Below.refl _ _)
      generalize c.eval=ρ at *
      clear hF hb hW hw ho hg
      go_simp)
theorem Jdh (hr:x16=(k==6)):Jm p k b n s ka kl kc la ll lc x2 x6 x7 x10 x11 x12 x16 x20 x21 x25 x26 x27 x31 x32 x33 x37 x45 x46 x47 Q 16:=by
 intro c w hb hW hF
 have ho:RM1[16]?=some (⟨some 21,.binOp .eql 57 (.tmp 20) (.const (Value.int .i64 6)) 57,4, "ref.go:66",#[⟨15,.data⟩,⟨13,.guard⟩],some (13,false)⟩:Oper):=by kernel_rfl
 have e20:c.eval (.tmp 20)=gv (!x12) (.int .i64 k):=Zi (by kernel_rfl) rfl (hF 15 (by decide))
 have hg:val RM1 c 13=gv (true) (.bool x12):=hF 13 (by decide)
 have hw:=wgv ho (want:=false) rfl hg
 have ec:=evc c
 have ef:=evf c
 cases x12
 all_goals
  try (dsimp only [gv,not,and,or,cond] at e20)
  first
   | exact Zo ho (hw.trans rfl) rfl
   | (refine Ze ho (hw.trans rfl) (v:=.bool x16) ?_ rfl (Below.refl _ _)
      generalize c.eval=ρ at *
      clear hF hb hW hw ho hg
      go_simp)
theorem Jdi  : Jm p k b n s ka kl kc la ll lc x2 x6 x7 x10 x11 x12 x16 x20 x21 x25 x26 x27 x31 x32 x33 x37 x45 x46 x47 Q 17:=by
 intro c w hb hW hF
 have ho:RM1[17]?=some (⟨some 22,.move (.tmp 21),4, "ref.go:66",#[⟨16,.data⟩,⟨13,.chain⟩,⟨13,.guard⟩],some (13,false)⟩:Oper):=by kernel_rfl
 have e21:c.eval (.tmp 21)=gv (!x12) (.bool x16):=Zi (by kernel_rfl) rfl (hF 16 (by decide))
 have hg:val RM1 c 13=gv (true) (.bool x12):=hF 13 (by decide)
 have hw:=wgv ho (want:=false) rfl hg
 have ec:=evc c
 have ef:=evf c
 cases x12
 all_goals
  try (dsimp only [gv,not,and,or,cond] at e21)
  first
   | exact Zo ho (hw.trans rfl) rfl
   | (refine Ze ho (hw.trans rfl) (v:=.bool x16) ?_ rfl (Below.refl _ _)
      generalize c.eval=ρ at *
      clear hF hb hW hw ho hg
      go_simp)
theorem Jdj  : Jm p k b n s ka kl kc la ll lc x2 x6 x7 x10 x11 x12 x16 x20 x21 x25 x26 x27 x31 x32 x33 x37 x45 x46 x47 Q 18:=by
 intro c w hb hW hF
 have ho:RM1[18]?=some (⟨some 23,.fieldAddr 60 (.tmp 1) 0,0, "ref.go:66",#[⟨17,.guard⟩],some (17,false)⟩:Oper):=by kernel_rfl
 have e1:=hb.t1
 have hg:val RM1 c 17=gv (!x12) (.bool x16):=hF 17 (by decide)
 have hw:=wgv ho (want:=false) rfl hg
 have ec:=evc c
 have ef:=evf c
 cases x12<;>cases x16
 all_goals
  first
   | exact Zo ho (hw.trans rfl) rfl
   | (refine Ze ho (hw.trans rfl) (v:=.pointer (some ⟨p,0,none⟩)) ?_ rfl (Below.refl _ _)
      generalize c.eval=ρ at *
      clear hF hb hW hw ho hg
      go_simp)
theorem Jdk  : Jm p k b n s ka kl kc la ll lc x2 x6 x7 x10 x11 x12 x16 x20 x21 x25 x26 x27 x31 x32 x33 x37 x45 x46 x47 Q 19:=by
 intro c w hb hW hF
 have ho:RM1[19]?=some (⟨some 24,.load 57 (.tmp 23),57, "ref.go:66",#[⟨18,.data⟩,⟨17,.guard⟩],some (17,false)⟩:Oper):=by kernel_rfl
 have e23:c.eval (.tmp 23)=gv (!x12&&!x16) (.pointer (some ⟨p,0,none⟩)):=Zi (by kernel_rfl) rfl (hF 18 (by decide))
 have hg:val RM1 c 17=gv (!x12) (.bool x16):=hF 17 (by decide)
 have hw:=wgv ho (want:=false) rfl hg
 have hc:=hW.c0
 have ec:=evc c
 have ef:=evf c
 cases x12<;>cases x16
 all_goals
  try (dsimp only [gv,not,and,or,cond] at e23)
  first
   | exact Zo ho (hw.trans rfl) rfl
   | (refine Ze ho (hw.trans rfl) (v:=.int .i64 k) ?_ rfl (Below.refl _ _)
      generalize c.eval=ρ at *
      clear hF hb hW hw ho hg
      go_simp)
theorem Jdl (hr:x20=(k==7)):Jm p k b n s ka kl kc la ll lc x2 x6 x7 x10 x11 x12 x16 x20 x21 x25 x26 x27 x31 x32 x33 x37 x45 x46 x47 Q 20:=by
 intro c w hb hW hF
 have ho:RM1[20]?=some (⟨some 25,.binOp .eql 57 (.tmp 24) (.const (Value.int .i64 7)) 57,4, "ref.go:66",#[⟨19,.data⟩,⟨17,.guard⟩],some (17,false)⟩:Oper):=by kernel_rfl
 have e24:c.eval (.tmp 24)=gv (!x12&&!x16) (.int .i64 k):=Zi (by kernel_rfl) rfl (hF 19 (by decide))
 have hg:val RM1 c 17=gv (!x12) (.bool x16):=hF 17 (by decide)
 have hw:=wgv ho (want:=false) rfl hg
 have ec:=evc c
 have ef:=evf c
 cases x12<;>cases x16
 all_goals
  try (dsimp only [gv,not,and,or,cond] at e24)
  first
   | exact Zo ho (hw.trans rfl) rfl
   | (refine Ze ho (hw.trans rfl) (v:=.bool x20) ?_ rfl (Below.refl _ _)
      generalize c.eval=ρ at *
      clear hF hb hW hw ho hg
      go_simp)
theorem Jdm (hr:x21=(x16||x20)):Jm p k b n s ka kl kc la ll lc x2 x6 x7 x10 x11 x12 x16 x20 x21 x25 x26 x27 x31 x32 x33 x37 x45 x46 x47 Q 21:=by
 intro c w hb hW hF
 have ho:RM1[21]?=some (⟨some 26,.pick (.tmp 22) (.const (Value.bool true)) (.tmp 25),4, "ref.go:66",#[⟨17,.data⟩,⟨20,.data⟩,⟨13,.guard⟩],some (13,false)⟩:Oper):=by kernel_rfl
 have e22:c.eval (.tmp 22)=gv (!x12) (.bool x16):=Zi (by kernel_rfl) rfl (hF 17 (by decide))
 have e25:c.eval (.tmp 25)=gv (!x12&&!x16) (.bool x20):=Zi (by kernel_rfl) rfl (hF 20 (by decide))
 have hg:val RM1 c 13=gv (true) (.bool x12):=hF 13 (by decide)
 have hw:=wgv ho (want:=false) rfl hg
 have ec:=evc c
 have ef:=evf c
 cases x12<;>cases x16<;>cases x20
 all_goals
  try (dsimp only [gv,not,and,or,cond] at e22 e25)
  first
   | exact Zo ho (hw.trans rfl) rfl
   | (refine Ze ho (hw.trans rfl) (v:=.bool x21) ?_ rfl (Below.refl _ _)
      generalize c.eval=ρ at *
      clear hF hb hW hw ho hg
      go_simp)
theorem Jdn  : Jm p k b n s ka kl kc la ll lc x2 x6 x7 x10 x11 x12 x16 x20 x21 x25 x26 x27 x31 x32 x33 x37 x45 x46 x47 Q 22:=by
 intro c w hb hW hF
 have ho:RM1[22]?=some (⟨some 27,.move (.tmp 26),4, "ref.go:66",#[⟨21,.data⟩,⟨17,.chain⟩,⟨13,.guard⟩],some (13,false)⟩:Oper):=by kernel_rfl
 have e26:c.eval (.tmp 26)=gv (!x12) (.bool x21):=Zi (by kernel_rfl) rfl (hF 21 (by decide))
 have hg:val RM1 c 13=gv (true) (.bool x12):=hF 13 (by decide)
 have hw:=wgv ho (want:=false) rfl hg
 have ec:=evc c
 have ef:=evf c
 cases x12
 all_goals
  try (dsimp only [gv,not,and,or,cond] at e26)
  first
   | exact Zo ho (hw.trans rfl) rfl
   | (refine Ze ho (hw.trans rfl) (v:=.bool x21) ?_ rfl (Below.refl _ _)
      generalize c.eval=ρ at *
      clear hF hb hW hw ho hg
      go_simp)
theorem Jdo  : Jm p k b n s ka kl kc la ll lc x2 x6 x7 x10 x11 x12 x16 x20 x21 x25 x26 x27 x31 x32 x33 x37 x45 x46 x47 Q 23:=by
 intro c w hb hW hF
 have ho:RM1[23]?=some (⟨some 28,.fieldAddr 60 (.tmp 1) 2,0, "ref.go:66",#[⟨22,.guard⟩],some (22,true)⟩:Oper):=by kernel_rfl
 have e1:=hb.t1
 have hg:val RM1 c 22=gv (!x12) (.bool x21):=hF 22 (by decide)
 have hw:=wgv ho (want:=true) rfl hg
 have ec:=evc c
 have ef:=evf c
 cases x12<;>cases x21
 all_goals
  first
   | exact Zo ho (hw.trans rfl) rfl
   | (refine Ze ho (hw.trans rfl) (v:=.pointer (some ⟨p,2,none⟩)) ?_ rfl (Below.refl _ _)
      generalize c.eval=ρ at *
      clear hF hb hW hw ho hg
      go_simp)
theorem Jdp  : Jm p k b n s ka kl kc la ll lc x2 x6 x7 x10 x11 x12 x16 x20 x21 x25 x26 x27 x31 x32 x33 x37 x45 x46 x47 Q 24:=by
 intro c w hb hW hF
 have ho:RM1[24]?=some (⟨some 29,.load 2 (.tmp 28),2, "ref.go:66",#[⟨23,.data⟩,⟨22,.guard⟩],some (22,true)⟩:Oper):=by kernel_rfl
 have e28:c.eval (.tmp 28)=gv (!x12&&x21) (.pointer (some ⟨p,2,none⟩)):=Zi (by kernel_rfl) rfl (hF 23 (by decide))
 have hg:val RM1 c 22=gv (!x12) (.bool x21):=hF 22 (by decide)
 have hw:=wgv ho (want:=true) rfl hg
 have hc:=hW.c2
 have ec:=evc c
 have ef:=evf c
 cases x12<;>cases x21
 all_goals
  try (dsimp only [gv,not,and,or,cond] at e28)
  first
   | exact Zo ho (hw.trans rfl) rfl
   | (refine Ze ho (hw.trans rfl) (v:=.int .i64 n) ?_ rfl (Below.refl _ _)
      generalize c.eval=ρ at *
      clear hF hb hW hw ho hg
      go_simp)
theorem Jdq (hr:x25=decide (n<0)):Jm p k b n s ka kl kc la ll lc x2 x6 x7 x10 x11 x12 x16 x20 x21 x25 x26 x27 x31 x32 x33 x37 x45 x46 x47 Q 25:=by
 intro c w hb hW hF
 have ho:RM1[25]?=some (⟨some 30,.binOp .lss 2 (.tmp 29) (.const (Value.int .i64 0)) 2,4, "ref.go:66",#[⟨24,.data⟩,⟨22,.guard⟩],some (22,true)⟩:Oper):=by kernel_rfl
 have e29:c.eval (.tmp 29)=gv (!x12&&x21) (.int .i64 n):=Zi (by kernel_rfl) rfl (hF 24 (by decide))
 have hg:val RM1 c 22=gv (!x12) (.bool x21):=hF 22 (by decide)
 have hw:=wgv ho (want:=true) rfl hg
 have ec:=evc c
 have ef:=evf c
 cases x12<;>cases x21
 all_goals
  try (dsimp only [gv,not,and,or,cond] at e29)
  first
   | exact Zo ho (hw.trans rfl) rfl
   | (refine Ze ho (hw.trans rfl) (v:=.bool x25) ?_ rfl (Below.refl _ _)
      generalize c.eval=ρ at *
      clear hF hb hW hw ho hg
      go_simp)
theorem Jdr (hr:x26=(x21&&x25)):Jm p k b n s ka kl kc la ll lc x2 x6 x7 x10 x11 x12 x16 x20 x21 x25 x26 x27 x31 x32 x33 x37 x45 x46 x47 Q 26:=by
 intro c w hb hW hF
 have ho:RM1[26]?=some (⟨some 31,.pick (.tmp 27) (.tmp 30) (.const (Value.bool false)),4, "ref.go:66",#[⟨22,.data⟩,⟨25,.data⟩,⟨13,.guard⟩],some (13,false)⟩:Oper):=by kernel_rfl
 have e27:c.eval (.tmp 27)=gv (!x12) (.bool x21):=Zi (by kernel_rfl) rfl (hF 22 (by decide))
 have e30:c.eval (.tmp 30)=gv (!x12&&x21) (.bool x25):=Zi (by kernel_rfl) rfl (hF 25 (by decide))
 have hg:val RM1 c 13=gv (true) (.bool x12):=hF 13 (by decide)
 have hw:=wgv ho (want:=false) rfl hg
 have ec:=evc c
 have ef:=evf c
 cases x12<;>cases x21<;>cases x25
 all_goals
  try (dsimp only [gv,not,and,or,cond] at e27 e30)
  first
   | exact Zo ho (hw.trans rfl) rfl
   | (refine Ze ho (hw.trans rfl) (v:=.bool x26) ?_ rfl (Below.refl _ _)
      generalize c.eval=ρ at *
      clear hF hb hW hw ho hg
      go_simp)
theorem Jds (hr:x27=(x12||x26)):Jm p k b n s ka kl kc la ll lc x2 x6 x7 x10 x11 x12 x16 x20 x21 x25 x26 x27 x31 x32 x33 x37 x45 x46 x47 Q 27:=by
 intro c w hb hW hF
 have ho:RM1[27]?=some (⟨some 32,.pick (.tmp 18) (.const (Value.bool true)) (.tmp 31),4, "ref.go:66",#[⟨13,.data⟩,⟨26,.data⟩],none⟩:Oper):=by kernel_rfl
 have e18:c.eval (.tmp 18)=.bool x12:=Zi (by kernel_rfl) rfl (hF 13 (by decide))
 have e31:c.eval (.tmp 31)=gv (!x12) (.bool x26):=Zi (by kernel_rfl) rfl (hF 26 (by decide))
 have hw:=Zrh (c:=c) ho rfl
 have ec:=evc c
 have ef:=evf c
 cases x12<;>cases x26
 all_goals
  try (dsimp only [gv,not,and,or,cond] at e18 e31)
  first
   | exact Zo ho (hw.trans rfl) rfl
   | (refine Ze ho (hw.trans rfl) (v:=.bool x27) ?_ rfl (Below.refl _ _)
      generalize c.eval=ρ at *
      clear hF hb hW hw ho
      go_simp)
theorem Jdt  : Jm p k b n s ka kl kc la ll lc x2 x6 x7 x10 x11 x12 x16 x20 x21 x25 x26 x27 x31 x32 x33 x37 x45 x46 x47 Q 28:=by
 intro c w hb hW hF
 have ho:RM1[28]?=some (⟨some 33,.move (.tmp 32),4, "ref.go:66",#[⟨27,.data⟩,⟨22,.chain⟩],none⟩:Oper):=by kernel_rfl
 have e32:c.eval (.tmp 32)=.bool x27:=Zi (by kernel_rfl) rfl (hF 27 (by decide))
 have hw:=Zrh (c:=c) ho rfl
 have ec:=evc c
 have ef:=evf c
 have hw0:=hw
 refine Ze ho hw0 (v:=.bool x27) ?_ rfl (Below.refl _ _)
 generalize c.eval=ρ at *
 clear hF hb hW hw hw0 ho
 go_simp
theorem Jdu  : Jm p k b n s ka kl kc la ll lc x2 x6 x7 x10 x11 x12 x16 x20 x21 x25 x26 x27 x31 x32 x33 x37 x45 x46 x47 Q 29:=by
 intro c w hb hW hF
 have ho:RM1[29]?=some (⟨some 34,.fieldAddr 60 (.tmp 1) 3,0, "ref.go:66",#[⟨28,.guard⟩],some (28,false)⟩:Oper):=by kernel_rfl
 have e1:=hb.t1
 have hg:val RM1 c 28=gv (true) (.bool x27):=hF 28 (by decide)
 have hw:=wgv ho (want:=false) rfl hg
 have ec:=evc c
 have ef:=evf c
 cases x27
 all_goals
  first
   | exact Zo ho (hw.trans rfl) rfl
   | (refine Ze ho (hw.trans rfl) (v:=.pointer (some ⟨p,3,none⟩)) ?_ rfl (Below.refl _ _)
      generalize c.eval=ρ at *
      clear hF hb hW hw ho hg
      go_simp)
theorem Jdv  : Jm p k b n s ka kl kc la ll lc x2 x6 x7 x10 x11 x12 x16 x20 x21 x25 x26 x27 x31 x32 x33 x37 x45 x46 x47 Q 30:=by
 intro c w hb hW hF
 have ho:RM1[30]?=some (⟨some 35,.load 9 (.tmp 34),9, "ref.go:66",#[⟨29,.data⟩,⟨28,.guard⟩],some (28,false)⟩:Oper):=by kernel_rfl
 have e34:c.eval (.tmp 34)=gv (!x27) (.pointer (some ⟨p,3,none⟩)):=Zi (by kernel_rfl) rfl (hF 29 (by decide))
 have hg:val RM1 c 28=gv (true) (.bool x27):=hF 28 (by decide)
 have hw:=wgv ho (want:=false) rfl hg
 have hc:=hW.c3
 have ec:=evc c
 have ef:=evf c
 cases x27
 all_goals
  try (dsimp only [gv,not,and,or,cond] at e34)
  first
   | exact Zo ho (hw.trans rfl) rfl
   | (refine Ze ho (hw.trans rfl) (v:=.string s) ?_ rfl (Below.refl _ _)
      generalize c.eval=ρ at *
      clear hF hb hW hw ho hg
      go_simp)
theorem Jdw (hr:x31=Lib.validD s.data.toList):Jm p k b n s ka kl kc la ll lc x2 x6 x7 x10 x11 x12 x16 x20 x21 x25 x26 x27 x31 x32 x33 x37 x45 x46 x47 Q 31:=by
 intro c w hb hW hF
 have ho:RM1[31]?=some (⟨some 36,.call { callee:=.value (.func 104),args:=#[.tmp 35],argTypes:=#[9] },4, "ref.go:66",#[⟨30,.data⟩,⟨28,.chain⟩,⟨28,.guard⟩],some (28,false)⟩:Oper):=by kernel_rfl
 have e35:c.eval (.tmp 35)=gv (!x27) (.string s):=Zi (by kernel_rfl) rfl (hF 30 (by decide))
 have hg:val RM1 c 28=gv (true) (.bool x27):=hF 28 (by decide)
 have hw:=wgv ho (want:=false) rfl hg
 have ec:=evc c
 have ef:=evf c
 cases x27
 all_goals
  try (dsimp only [gv,not,and,or,cond] at e35)
  first
   | exact Zo ho (hw.trans rfl) rfl
   | (refine Zcd ho (hw.trans rfl) (f:=104) (args:=#[.string s]) ?_ ((Znn s w hW.small).mono fun e w' ⟨h1,h2⟩=>⟨_,h1,congrArg Value.bool hr.symm,by subst h2;exact Below.refl _ _⟩)
      generalize c.eval=ρ at *
      clear hF hb hW hw ho hg
      go_simp)
theorem Jdx (hr:x32=!x31):Jm p k b n s ka kl kc la ll lc x2 x6 x7 x10 x11 x12 x16 x20 x21 x25 x26 x27 x31 x32 x33 x37 x45 x46 x47 Q 32:=by
 intro c w hb hW hF
 have ho:RM1[32]?=some (⟨some 37,.unOp .not 4 (.tmp 36),4, "ref.go:66",#[⟨31,.data⟩,⟨28,.guard⟩],some (28,false)⟩:Oper):=by kernel_rfl
 have e36:c.eval (.tmp 36)=gv (!x27) (.bool x31):=Zi (by kernel_rfl) rfl (hF 31 (by decide))
 have hg:val RM1 c 28=gv (true) (.bool x27):=hF 28 (by decide)
 have hw:=wgv ho (want:=false) rfl hg
 have ec:=evc c
 have ef:=evf c
 cases x27
 all_goals
  try (dsimp only [gv,not,and,or,cond] at e36)
  first
   | exact Zo ho (hw.trans rfl) rfl
   | (refine Ze ho (hw.trans rfl) (v:=.bool x32) ?_ rfl (Below.refl _ _)
      generalize c.eval=ρ at *
      clear hF hb hW hw ho hg
      go_simp)
theorem Jdy (hr:x33=(x27||x32)):Jm p k b n s ka kl kc la ll lc x2 x6 x7 x10 x11 x12 x16 x20 x21 x25 x26 x27 x31 x32 x33 x37 x45 x46 x47 Q 33:=by
 intro c w hb hW hF
 have ho:RM1[33]?=some (⟨some 38,.pick (.tmp 33) (.const (Value.bool true)) (.tmp 37),4, "ref.go:66",#[⟨28,.data⟩,⟨32,.data⟩],none⟩:Oper):=by kernel_rfl
 have e33:c.eval (.tmp 33)=.bool x27:=Zi (by kernel_rfl) rfl (hF 28 (by decide))
 have e37:c.eval (.tmp 37)=gv (!x27) (.bool x32):=Zi (by kernel_rfl) rfl (hF 32 (by decide))
 have hw:=Zrh (c:=c) ho rfl
 have ec:=evc c
 have ef:=evf c
 cases x27<;>cases x32
 all_goals
  try (dsimp only [gv,not,and,or,cond] at e33 e37)
  first
   | exact Zo ho (hw.trans rfl) rfl
   | (refine Ze ho (hw.trans rfl) (v:=.bool x33) ?_ rfl (Below.refl _ _)
      generalize c.eval=ρ at *
      clear hF hb hW hw ho
      go_simp)
theorem Jdz  : Jm p k b n s ka kl kc la ll lc x2 x6 x7 x10 x11 x12 x16 x20 x21 x25 x26 x27 x31 x32 x33 x37 x45 x46 x47 Q 34:=by
 intro c w hb hW hF
 have ho:RM1[34]?=some (⟨some 39,.move (.tmp 38),4, "ref.go:66",#[⟨33,.data⟩,⟨31,.chain⟩],none⟩:Oper):=by kernel_rfl
 have e38:c.eval (.tmp 38)=.bool x33:=Zi (by kernel_rfl) rfl (hF 33 (by decide))
 have hw:=Zrh (c:=c) ho rfl
 have ec:=evc c
 have ef:=evf c
 have hw0:=hw
 refine Ze ho hw0 (v:=.bool x33) ?_ rfl (Below.refl _ _)
 generalize c.eval=ρ at *
 clear hF hb hW hw hw0 ho
 go_simp
theorem Jd0  : Jm p k b n s ka kl kc la ll lc x2 x6 x7 x10 x11 x12 x16 x20 x21 x25 x26 x27 x31 x32 x33 x37 x45 x46 x47 Q 35:=by
 intro c w hb hW hF
 have ho:RM1[35]?=some (⟨some 40,.fieldAddr 60 (.tmp 1) 0,0, "ref.go:66",#[⟨34,.guard⟩],some (34,false)⟩:Oper):=by kernel_rfl
 have e1:=hb.t1
 have hg:val RM1 c 34=gv (true) (.bool x33):=hF 34 (by decide)
 have hw:=wgv ho (want:=false) rfl hg
 have ec:=evc c
 have ef:=evf c
 cases x33
 all_goals
  first
   | exact Zo ho (hw.trans rfl) rfl
   | (refine Ze ho (hw.trans rfl) (v:=.pointer (some ⟨p,0,none⟩)) ?_ rfl (Below.refl _ _)
      generalize c.eval=ρ at *
      clear hF hb hW hw ho hg
      go_simp)
theorem Jd1  : Jm p k b n s ka kl kc la ll lc x2 x6 x7 x10 x11 x12 x16 x20 x21 x25 x26 x27 x31 x32 x33 x37 x45 x46 x47 Q 36:=by
 intro c w hb hW hF
 have ho:RM1[36]?=some (⟨some 41,.load 57 (.tmp 40),57, "ref.go:66",#[⟨35,.data⟩,⟨34,.guard⟩],some (34,false)⟩:Oper):=by kernel_rfl
 have e40:c.eval (.tmp 40)=gv (!x33) (.pointer (some ⟨p,0,none⟩)):=Zi (by kernel_rfl) rfl (hF 35 (by decide))
 have hg:val RM1 c 34=gv (true) (.bool x33):=hF 34 (by decide)
 have hw:=wgv ho (want:=false) rfl hg
 have hc:=hW.c0
 have ec:=evc c
 have ef:=evf c
 cases x33
 all_goals
  try (dsimp only [gv,not,and,or,cond] at e40)
  first
   | exact Zo ho (hw.trans rfl) rfl
   | (refine Ze ho (hw.trans rfl) (v:=.int .i64 k) ?_ rfl (Below.refl _ _)
      generalize c.eval=ρ at *
      clear hF hb hW hw ho hg
      go_simp)
theorem Jd2 (hr:x37=(k==5)):Jm p k b n s ka kl kc la ll lc x2 x6 x7 x10 x11 x12 x16 x20 x21 x25 x26 x27 x31 x32 x33 x37 x45 x46 x47 Q 37:=by
 intro c w hb hW hF
 have ho:RM1[37]?=some (⟨some 42,.binOp .eql 57 (.tmp 41) (.const (Value.int .i64 5)) 57,4, "ref.go:66",#[⟨36,.data⟩,⟨34,.guard⟩],some (34,false)⟩:Oper):=by kernel_rfl
 have e41:c.eval (.tmp 41)=gv (!x33) (.int .i64 k):=Zi (by kernel_rfl) rfl (hF 36 (by decide))
 have hg:val RM1 c 34=gv (true) (.bool x33):=hF 34 (by decide)
 have hw:=wgv ho (want:=false) rfl hg
 have ec:=evc c
 have ef:=evf c
 cases x33
 all_goals
  try (dsimp only [gv,not,and,or,cond] at e41)
  first
   | exact Zo ho (hw.trans rfl) rfl
   | (refine Ze ho (hw.trans rfl) (v:=.bool x37) ?_ rfl (Below.refl _ _)
      generalize c.eval=ρ at *
      clear hF hb hW hw ho hg
      go_simp)
theorem Jd3  : Jm p k b n s ka kl kc la ll lc x2 x6 x7 x10 x11 x12 x16 x20 x21 x25 x26 x27 x31 x32 x33 x37 x45 x46 x47 Q 38:=by
 intro c w hb hW hF
 have ho:RM1[38]?=some (⟨some 43,.move (.tmp 42),4, "ref.go:66",#[⟨37,.data⟩,⟨34,.chain⟩,⟨34,.guard⟩],some (34,false)⟩:Oper):=by kernel_rfl
 have e42:c.eval (.tmp 42)=gv (!x33) (.bool x37):=Zi (by kernel_rfl) rfl (hF 37 (by decide))
 have hg:val RM1 c 34=gv (true) (.bool x33):=hF 34 (by decide)
 have hw:=wgv ho (want:=false) rfl hg
 have ec:=evc c
 have ef:=evf c
 cases x33
 all_goals
  try (dsimp only [gv,not,and,or,cond] at e42)
  first
   | exact Zo ho (hw.trans rfl) rfl
   | (refine Ze ho (hw.trans rfl) (v:=.bool x37) ?_ rfl (Below.refl _ _)
      generalize c.eval=ρ at *
      clear hF hb hW hw ho hg
      go_simp)
theorem Jd4  : Jm p k b n s ka kl kc la ll lc x2 x6 x7 x10 x11 x12 x16 x20 x21 x25 x26 x27 x31 x32 x33 x37 x45 x46 x47 Q 39:=by
 intro c w hb hW hF
 have ho:RM1[39]?=some (⟨some 44,.fieldAddr 60 (.tmp 1) 4,0, "ref.go:66",#[⟨38,.guard⟩],some (38,true)⟩:Oper):=by kernel_rfl
 have e1:=hb.t1
 have hg:val RM1 c 38=gv (!x33) (.bool x37):=hF 38 (by decide)
 have hw:=wgv ho (want:=true) rfl hg
 have ec:=evc c
 have ef:=evf c
 cases x33<;>cases x37
 all_goals
  first
   | exact Zo ho (hw.trans rfl) rfl
   | (refine Ze ho (hw.trans rfl) (v:=.pointer (some ⟨p,4,none⟩)) ?_ rfl (Below.refl _ _)
      generalize c.eval=ρ at *
      clear hF hb hW hw ho hg
      go_simp)
theorem Jd5  : Jm p k b n s ka kl kc la ll lc x2 x6 x7 x10 x11 x12 x16 x20 x21 x25 x26 x27 x31 x32 x33 x37 x45 x46 x47 Q 40:=by
 intro c w hb hW hF
 have ho:RM1[40]?=some (⟨some 45,.load 44 (.tmp 44),44, "ref.go:66",#[⟨39,.data⟩,⟨38,.guard⟩],some (38,true)⟩:Oper):=by kernel_rfl
 have e44:c.eval (.tmp 44)=gv (!x33&&x37) (.pointer (some ⟨p,4,none⟩)):=Zi (by kernel_rfl) rfl (hF 39 (by decide))
 have hg:val RM1 c 38=gv (!x33) (.bool x37):=hF 38 (by decide)
 have hw:=wgv ho (want:=true) rfl hg
 have hc:=hW.c4
 have ec:=evc c
 have ef:=evf c
 cases x33<;>cases x37
 all_goals
  try (dsimp only [gv,not,and,or,cond] at e44)
  first
   | exact Zo ho (hw.trans rfl) rfl
   | (refine Ze ho (hw.trans rfl) (v:=.slice ka kl kc) ?_ rfl (Below.refl _ _)
      generalize c.eval=ρ at *
      clear hF hb hW hw ho hg
      go_simp)
theorem Jd6  : Jm p k b n s ka kl kc la ll lc x2 x6 x7 x10 x11 x12 x16 x20 x21 x25 x26 x27 x31 x32 x33 x37 x45 x46 x47 Q 41:=by
 intro c w hb hW hF
 have ho:RM1[41]?=some (⟨some 46,.call { callee:=.builtin .len,args:=#[.tmp 45],argTypes:=#[44] },3, "ref.go:66",#[⟨40,.data⟩,⟨38,.guard⟩],some (38,true)⟩:Oper):=by kernel_rfl
 have e45:c.eval (.tmp 45)=gv (!x33&&x37) (.slice ka kl kc):=Zi (by kernel_rfl) rfl (hF 40 (by decide))
 have hg:val RM1 c 38=gv (!x33) (.bool x37):=hF 38 (by decide)
 have hw:=wgv ho (want:=true) rfl hg
 have ec:=evc c
 have ef:=evf c
 cases x33<;>cases x37
 all_goals
  try (dsimp only [gv,not,and,or,cond] at e45)
  first
   | exact Zo ho (hw.trans rfl) rfl
   | (refine Ze ho (hw.trans rfl) (v:=.int .i64 (kl:Int)) ?_ rfl (Below.refl _ _)
      generalize c.eval=ρ at *
      clear hF hb hW hw ho hg
      go_simp)
theorem Jd7  : Jm p k b n s ka kl kc la ll lc x2 x6 x7 x10 x11 x12 x16 x20 x21 x25 x26 x27 x31 x32 x33 x37 x45 x46 x47 Q 42:=by
 intro c w hb hW hF
 have ho:RM1[42]?=some (⟨some 47,.fieldAddr 60 (.tmp 1) 5,0, "ref.go:66",#[⟨38,.guard⟩],some (38,true)⟩:Oper):=by kernel_rfl
 have e1:=hb.t1
 have hg:val RM1 c 38=gv (!x33) (.bool x37):=hF 38 (by decide)
 have hw:=wgv ho (want:=true) rfl hg
 have ec:=evc c
 have ef:=evf c
 cases x33<;>cases x37
 all_goals
  first
   | exact Zo ho (hw.trans rfl) rfl
   | (refine Ze ho (hw.trans rfl) (v:=.pointer (some ⟨p,5,none⟩)) ?_ rfl (Below.refl _ _)
      generalize c.eval=ρ at *
      clear hF hb hW hw ho hg
      go_simp)
theorem Jd8  : Jm p k b n s ka kl kc la ll lc x2 x6 x7 x10 x11 x12 x16 x20 x21 x25 x26 x27 x31 x32 x33 x37 x45 x46 x47 Q 43:=by
 intro c w hb hW hF
 have ho:RM1[43]?=some (⟨some 48,.load 58 (.tmp 47),58, "ref.go:66",#[⟨42,.data⟩,⟨38,.guard⟩],some (38,true)⟩:Oper):=by kernel_rfl
 have e47:c.eval (.tmp 47)=gv (!x33&&x37) (.pointer (some ⟨p,5,none⟩)):=Zi (by kernel_rfl) rfl (hF 42 (by decide))
 have hg:val RM1 c 38=gv (!x33) (.bool x37):=hF 38 (by decide)
 have hw:=wgv ho (want:=true) rfl hg
 have hc:=hW.c5
 have ec:=evc c
 have ef:=evf c
 cases x33<;>cases x37
 all_goals
  try (dsimp only [gv,not,and,or,cond] at e47)
  first
   | exact Zo ho (hw.trans rfl) rfl
   | (refine Ze ho (hw.trans rfl) (v:=.slice la ll lc) ?_ rfl (Below.refl _ _)
      generalize c.eval=ρ at *
      clear hF hb hW hw ho hg
      go_simp)
theorem Jd9  : Jm p k b n s ka kl kc la ll lc x2 x6 x7 x10 x11 x12 x16 x20 x21 x25 x26 x27 x31 x32 x33 x37 x45 x46 x47 Q 44:=by
 intro c w hb hW hF
 have ho:RM1[44]?=some (⟨some 49,.call { callee:=.builtin .len,args:=#[.tmp 48],argTypes:=#[58] },3, "ref.go:66",#[⟨43,.data⟩,⟨38,.guard⟩],some (38,true)⟩:Oper):=by kernel_rfl
 have e48:c.eval (.tmp 48)=gv (!x33&&x37) (.slice la ll lc):=Zi (by kernel_rfl) rfl (hF 43 (by decide))
 have hg:val RM1 c 38=gv (!x33) (.bool x37):=hF 38 (by decide)
 have hw:=wgv ho (want:=true) rfl hg
 have ec:=evc c
 have ef:=evf c
 cases x33<;>cases x37
 all_goals
  try (dsimp only [gv,not,and,or,cond] at e48)
  first
   | exact Zo ho (hw.trans rfl) rfl
   | (refine Ze ho (hw.trans rfl) (v:=.int .i64 (ll:Int)) ?_ rfl (Below.refl _ _)
      generalize c.eval=ρ at *
      clear hF hb hW hw ho hg
      go_simp)
theorem Jea (hr:x45=((kl:Int) != (ll:Int))):Jm p k b n s ka kl kc la ll lc x2 x6 x7 x10 x11 x12 x16 x20 x21 x25 x26 x27 x31 x32 x33 x37 x45 x46 x47 Q 45:=by
 intro c w hb hW hF
 have ho:RM1[45]?=some (⟨some 50,.binOp .neq 3 (.tmp 46) (.tmp 49) 3,4, "ref.go:66",#[⟨41,.data⟩,⟨44,.data⟩,⟨38,.guard⟩],some (38,true)⟩:Oper):=by kernel_rfl
 have e46:c.eval (.tmp 46)=gv (!x33&&x37) (.int .i64 (kl:Int)):=Zi (by kernel_rfl) rfl (hF 41 (by decide))
 have e49:c.eval (.tmp 49)=gv (!x33&&x37) (.int .i64 (ll:Int)):=Zi (by kernel_rfl) rfl (hF 44 (by decide))
 have hg:val RM1 c 38=gv (!x33) (.bool x37):=hF 38 (by decide)
 have hw:=wgv ho (want:=true) rfl hg
 have ec:=evc c
 have ef:=evf c
 cases x33<;>cases x37
 all_goals
  try (dsimp only [gv,not,and,or,cond] at e46 e49)
  first
   | exact Zo ho (hw.trans rfl) rfl
   | (refine Ze ho (hw.trans rfl) (v:=.bool x45) ?_ rfl (Below.refl _ _)
      generalize c.eval=ρ at *
      clear hF hb hW hw ho hg
      go_simp)
theorem Jeb (hr:x46=(x37&&x45)):Jm p k b n s ka kl kc la ll lc x2 x6 x7 x10 x11 x12 x16 x20 x21 x25 x26 x27 x31 x32 x33 x37 x45 x46 x47 Q 46:=by
 intro c w hb hW hF
 have ho:RM1[46]?=some (⟨some 51,.pick (.tmp 43) (.tmp 50) (.const (Value.bool false)),4, "ref.go:66",#[⟨38,.data⟩,⟨45,.data⟩,⟨34,.guard⟩],some (34,false)⟩:Oper):=by kernel_rfl
 have e43:c.eval (.tmp 43)=gv (!x33) (.bool x37):=Zi (by kernel_rfl) rfl (hF 38 (by decide))
 have e50:c.eval (.tmp 50)=gv (!x33&&x37) (.bool x45):=Zi (by kernel_rfl) rfl (hF 45 (by decide))
 have hg:val RM1 c 34=gv (true) (.bool x33):=hF 34 (by decide)
 have hw:=wgv ho (want:=false) rfl hg
 have ec:=evc c
 have ef:=evf c
 cases x33<;>cases x37<;>cases x45
 all_goals
  try (dsimp only [gv,not,and,or,cond] at e43 e50)
  first
   | exact Zo ho (hw.trans rfl) rfl
   | (refine Ze ho (hw.trans rfl) (v:=.bool x46) ?_ rfl (Below.refl _ _)
      generalize c.eval=ρ at *
      clear hF hb hW hw ho hg
      go_simp)
theorem Jec (hr:x47=(x33||x46)):Jm p k b n s ka kl kc la ll lc x2 x6 x7 x10 x11 x12 x16 x20 x21 x25 x26 x27 x31 x32 x33 x37 x45 x46 x47 Q 47:=by
 intro c w hb hW hF
 have ho:RM1[47]?=some (⟨some 52,.pick (.tmp 39) (.const (Value.bool true)) (.tmp 51),4, "ref.go:66",#[⟨34,.data⟩,⟨46,.data⟩],none⟩:Oper):=by kernel_rfl
 have e39:c.eval (.tmp 39)=.bool x33:=Zi (by kernel_rfl) rfl (hF 34 (by decide))
 have e51:c.eval (.tmp 51)=gv (!x33) (.bool x46):=Zi (by kernel_rfl) rfl (hF 46 (by decide))
 have hw:=Zrh (c:=c) ho rfl
 have ec:=evc c
 have ef:=evf c
 cases x33<;>cases x46
 all_goals
  try (dsimp only [gv,not,and,or,cond] at e39 e51)
  first
   | exact Zo ho (hw.trans rfl) rfl
   | (refine Ze ho (hw.trans rfl) (v:=.bool x47) ?_ rfl (Below.refl _ _)
      generalize c.eval=ρ at *
      clear hF hb hW hw ho
      go_simp)
theorem Zyk (p:Nat) (k:Int) (b:Bool) (n:Int) (s:ByteArray) (ka:Option Addr) (kl kc:Nat) (la:Option Addr) (ll lc:Nat) (x2 x6 x7 x10 x11 x12 x16 x20 x21 x25 x26 x27 x31 x32 x33 x37 x45 x46 x47:Bool):∀ pr ∈ Zfi p k b n s ka kl kc la ll lc x2 x6 x7 x10 x11 x12 x16 x20 x21 x25 x26 x27 x31 x32 x33 x37 x45 x46 x47,Zbv pr:=by
 unfold Zfi
 repeat' (first | exact List.forall_mem_nil _ | refine List.forall_mem_cons.2 ⟨by first | exact Jb _ | exact Zdu _,?_⟩)
end
theorem Jfz (p:Nat) (k:Int) (b:Bool) (n:Int) (s:ByteArray) (ka:Option Addr) (kl kc:Nat) (la:Option Addr) (ll lc:Nat) (x2 x6 x7 x10 x11 x12 x16 x20 x21 x25 x26 x27 x31 x32 x33 x37 x45 x46 x47:Bool) (Q:Exit→Act→World→Prop) (hr2:x2=decide (k<0)) (hr6:x6=decide (7<k)) (hr7:x7=(x2||x6)) (hr10:x10=rbareB k b n s kl ll) (hr11:x11=!x10) (hr12:x12=(x7||x11)) (hr16:x16=(k==6)) (hr20:x20=(k==7)) (hr21:x21=(x16||x20)) (hr25:x25=decide (n<0)) (hr26:x26=(x21&&x25)) (hr27:x27=(x12||x26)) (hr31:x31=Lib.validD s.data.toList) (hr32:x32=!x31) (hr33:x33=(x27||x32)) (hr37:x37=(k==5)) (hr45:x45=((kl:Int) != (ll:Int))) (hr46:x46=(x37&&x45)) (hr47:x47=(x33||x46)):∀ i,i<48→(fun i=>∀ c w,Zvj p k b n s ka kl kc la ll lc x2 x6 x7 x10 x11 x12 x16 x20 x21 x25 x26 x27 x31 x32 x33 x37 x45 x46 x47 c→Zn8 p k b n s ka kl kc la ll lc x2 x6 x7 x10 x11 x12 x16 x20 x21 x25 x26 x27 x31 x32 x33 x37 x45 x46 x47 w→(∀ j ∈ Jav i,Zf (Zfi p k b n s ka kl kc la ll lc x2 x6 x7 x10 x11 x12 x16 x20 x21 x25 x26 x27 x31 x32 x33 x37 x45 x46 x47) j (val RM1 c j) w)→Zak Tryz.prog RM1 Q (Zf (Zfi p k b n s ka kl kc la ll lc x2 x6 x7 x10 x11 x12 x16 x20 x21 x25 x26 x27 x31 x32 x33 x37 x45 x46 x47)) i c w) i:=by
 refine Zd ?_ (Jec hr47)
 refine Zd ?_ (Jeb hr46)
 refine Zd ?_ (Jea hr45)
 refine Zd ?_ (Jd9)
 refine Zd ?_ (Jd8)
 refine Zd ?_ (Jd7)
 refine Zd ?_ (Jd6)
 refine Zd ?_ (Jd5)
 refine Zd ?_ (Jd4)
 refine Zd ?_ (Jd3)
 refine Zd ?_ (Jd2 hr37)
 refine Zd ?_ (Jd1)
 refine Zd ?_ (Jd0)
 refine Zd ?_ (Jdz)
 refine Zd ?_ (Jdy hr33)
 refine Zd ?_ (Jdx hr32)
 refine Zd ?_ (Jdw hr31)
 refine Zd ?_ (Jdv)
 refine Zd ?_ (Jdu)
 refine Zd ?_ (Jdt)
 refine Zd ?_ (Jds hr27)
 refine Zd ?_ (Jdr hr26)
 refine Zd ?_ (Jdq hr25)
 refine Zd ?_ (Jdp)
 refine Zd ?_ (Jdo)
 refine Zd ?_ (Jdn)
 refine Zd ?_ (Jdm hr21)
 refine Zd ?_ (Jdl hr20)
 refine Zd ?_ (Jdk)
 refine Zd ?_ (Jdj)
 refine Zd ?_ (Jdi)
 refine Zd ?_ (Jdh hr16)
 refine Zd ?_ (Jdg)
 refine Zd ?_ (Jdf)
 refine Zd ?_ (Jde)
 refine Zd ?_ (Jdd hr12)
 refine Zd ?_ (Jdc hr11)
 refine Zd ?_ (Jdb hr10)
 refine Zd ?_ (Jfy)
 refine Zd ?_ (Jfx)
 refine Zd ?_ (Jfw hr7)
 refine Zd ?_ (Jfv hr6)
 refine Zd ?_ (Jfu)
 refine Zd ?_ (Jft)
 refine Zd ?_ (Jfs)
 refine Zd ?_ (Jfr hr2)
 refine Zd ?_ (Jfq)
 refine Zd ?_ (Jfp)
 exact Zj
theorem Zyl (p:Nat) (k:Int) (b:Bool) (n:Int) (s:ByteArray) (ka:Option Addr) (kl kc:Nat) (la:Option Addr) (ll lc:Nat) (x2 x6 x7 x10 x11 x12 x16 x20 x21 x25 x26 x27 x31 x32 x33 x37 x45 x46 x47:Bool) (Q:Exit→Act→World→Prop) (base:Act) (w0:World) (hr2:x2=decide (k<0)) (hr6:x6=decide (7<k)) (hr7:x7=(x2||x6)) (hr10:x10=rbareB k b n s kl ll) (hr11:x11=!x10) (hr12:x12=(x7||x11)) (hr16:x16=(k==6)) (hr20:x20=(k==7)) (hr21:x21=(x16||x20)) (hr25:x25=decide (n<0)) (hr26:x26=(x21&&x25)) (hr27:x27=(x12||x26)) (hr31:x31=Lib.validD s.data.toList) (hr32:x32=!x31) (hr33:x33=(x27||x32)) (hr37:x37=(k==5)) (hr45:x45=((kl:Int) != (ll:Int))) (hr46:x46=(x37&&x45)) (hr47:x47=(x33||x46)) (hsz:base.tmps.size=99) (hb:Zvj p k b n s ka kl kc la ll lc x2 x6 x7 x10 x11 x12 x16 x20 x21 x25 x26 x27 x31 x32 x33 x37 x45 x46 x47 base)
  (hW:∀ w,Below w0.heap.size w0 w→Zn8 p k b n s ka kl kc la ll lc x2 x6 x7 x10 x11 x12 x16 x20 x21 x25 x26 x27 x31 x32 x33 x37 x45 x46 x47 w) (hQ:∀ c w,Zae RM1 base c→Below w0.heap.size w0 w→c.eval (.tmp 52)=.bool x47→Q .normal c w):(Code.region 1 RM1 false).wp Tryz.prog Q base w0:=by
 refine Zoi (A:=Jav) (F:=Zf (Zfi p k b n s ka kl kc la ll lc x2 x6 x7 x10 x11 x12 x16 x20 x21 x25 x26 x27 x31 x32 x33 x37 x45 x46 x47)) (by rw [hsz];kernel_rfl) (fun i v w w'=>Jd (Zyk p k b n s ka kl kc la ll lc x2 x6 x7 x10 x11 x12 x16 x20 x21 x25 x26 x27 x31 x32 x33 x37 x45 x46 x47) i v w w') ?_ ?_
 ·intro i hi c w hS hB hF
  exact Jfz p k b n s ka kl kc la ll lc x2 x6 x7 x10 x11 x12 x16 x20 x21 x25 x26 x27 x31 x32 x33 x37 x45 x46 x47 Q hr2 hr6 hr7 hr10 hr11 hr12 hr16 hr20 hr21 hr25 hr26 hr27 hr31 hr32 hr33 hr37 hr45 hr46 hr47 i (by rwa [show RM1.size=48 by kernel_rfl] at hi) c w ⟨(Zc hS (by kernel_rfl)).trans hb.t1⟩ (hW w hB) hF
 ·intro c w hS hB hF
  exact hQ c w hS hB (Je (p:=eqv (.bool x47)) (by kernel_rfl) rfl (hF 47 (by rw [show RM1.size=48 by kernel_rfl];omega)))
