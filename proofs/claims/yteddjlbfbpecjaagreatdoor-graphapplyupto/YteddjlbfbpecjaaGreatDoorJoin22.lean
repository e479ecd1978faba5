/- The document's May, the test of one key: operation by operation, in whatever order. -/
import Derived.Test.YteddjlbfbpecjaaGreatDoorJoin1
import Derived.Test.YteddjlbfbpecjaaGreatDoorJoin21
import Derived.Test.YteddjlbfbpecjaaGreatDoorMay1
import Derived.Test.YteddjlbfbpecjaaGreatDoorJoin12
import Derived.Test.YteddjlbfbpecjaaGreatDoorJoin15
namespace Go.Proofs.YteddjlbfbpecjaaGreatDoor
section
open Go.RowKit Go.WideShapes Go.Shelf
set_option maxRecDepth 100000
set_option linter.all false
noncomputable def RM6  : Array Oper:=Jg Tryz.f110 6
def Zic (i:Nat):List Nat:=([[],[0],[],[1,2],[3],[4],[5],[6],[7],[7,8],[7,9],[10],[10,11],[10],[10,13],[10,12,14],[10,15],[10],[10,17],[10],[10,18,19],[10,20],[10,16,21],[7,10,22],[7,23]]:List (List Nat)).getD i []
def Zac (p kb ko kl kc j:Nat) (y z:ByteArray) (x5 x6 x9 x22 x23 x24:Bool):List (Value→World→Prop) :=
 [eqv (.pointer (some ⟨p,4,none⟩)),eqv (.slice (some ⟨kb,ko,none⟩) kl kc),eqv (.int .i64 (j:Int)),eqv (.pointer (some ⟨kb,ko+j,none⟩)),eqv (.string y),eqv (.bool x5),eqv (.bool x6),eqv (.bool x6),eqv (gv (!x6) (.int .i64 (j:Int))),eqv (gv (!x6) (.bool x9)),eqv (gv (!x6) (.bool x9)),eqv (gv (!x6&&x9) (.pointer (some ⟨p,4,none⟩))),eqv (gv (!x6&&x9) (.slice (some ⟨kb,ko,none⟩) kl kc)),eqv (gv (!x6&&x9) (.int .i64 (j:Int))),eqv (gv (!x6&&x9) (.int .i64 ((j:Int) - 1))),eqv (gv (!x6&&x9) (.pointer (some ⟨kb,ko+(j - 1),none⟩))),eqv (gv (!x6&&x9) (.string z)),eqv (gv (!x6&&x9) (.pointer (some ⟨p,4,none⟩))),eqv (gv (!x6&&x9) (.slice (some ⟨kb,ko,none⟩) kl kc)),eqv (gv (!x6&&x9) (.int .i64 (j:Int))),eqv (gv (!x6&&x9) (.pointer (some ⟨kb,ko+j,none⟩))),eqv (gv (!x6&&x9) (.string y)),eqv (gv (!x6&&x9) (.bool x22)),eqv (gv (!x6) (.bool x23)),eqv (.bool x24)]
structure Zd9 (p kb ko kl kc j:Nat) (y z:ByteArray) (x5 x6 x9 x22 x23 x24:Bool) (c:Act):Prop where
 t1:c.eval (.tmp 1)=.pointer (some ⟨p,0,none⟩)
 t3:c.eval (.tmp 3)=.int .i64 (j:Int)
structure Zcv (p kb ko kl kc j:Nat) (y z:ByteArray) (x5 x6 x9 x22 x23 x24:Bool) (w:World):Prop where
 c4:w.cell? ⟨p,4,none⟩=some (.slice (some ⟨kb,ko,none⟩) kl kc)
 ky:w.cell? ⟨kb,ko+j,none⟩=some (.string y)
 kz:0<j→w.cell? ⟨kb,ko+(j - 1),none⟩=some (.string z)
 small:y.size≤140737488355328
 lt:j<kl
 le:kl≤9223372036854775807
def Zca (p kb ko kl kc j:Nat) (y z:ByteArray) (x5 x6 x9 x22 x23 x24:Bool) (Q:Exit→Act→World→Prop) (i:Nat):Prop:=∀ (c:Act) (w:World),Zd9 p kb ko kl kc j y z x5 x6 x9 x22 x23 x24 c→Zcv p kb ko kl kc j y z x5 x6 x9 x22 x23 x24 w→(∀ q0 ∈ Zic i,Zf (Zac p kb ko kl kc j y z x5 x6 x9 x22 x23 x24) q0 (val RM6 c q0) w)→Zak Tryz.prog RM6 Q (Zf (Zac p kb ko kl kc j y z x5 x6 x9 x22 x23 x24)) i c w
theorem Zxu {i:Nat} {o:Oper} {c:Act} (ho:RM6[i]?=some o) (h:o.guard=none):Region.wanted o (yielded RM6 c.tmps)=true:=Zn h
section
variable (p kb ko kl kc j:Nat) (y z:ByteArray) (x5 x6 x9 x22 x23 x24:Bool) (Q:Exit→Act→World→Prop)
theorem Jfd  : Zca p kb ko kl kc j y z x5 x6 x9 x22 x23 x24 Q 0:=by
 intro c w hb hW hF
 have ho:RM6[0]?=some (⟨some 60,.fieldAddr 60 (.tmp 1) 4,0, "ref.go:70",#[],none⟩:Oper):=by kernel_rfl
 have e1:=hb.t1
 have hw:=Zxu (c:=c) ho rfl
 have ec:=evc c
 have ef:=evf c
 have hw0:=hw
 refine Ze ho hw0 (v:=.pointer (some ⟨p,4,none⟩)) ?_ rfl (Below.refl _ _)
 generalize c.eval=ρ at *
 clear hF hb hW hw hw0 ho
 go_simp
theorem Jfe  : Zca p kb ko kl kc j y z x5 x6 x9 x22 x23 x24 Q 1:=by
 intro c w hb hW hF
 have ho:RM6[1]?=some (⟨some 61,.load 44 (.tmp 60),44, "ref.go:70",#[⟨0,.data⟩],none⟩:Oper):=by kernel_rfl
 have e60:c.eval (.tmp 60)=.pointer (some ⟨p,4,none⟩):=Zi (by kernel_rfl) rfl (hF 0 (by decide))
 have hw:=Zxu (c:=c) ho rfl
 have hc:=hW.c4
 have ec:=evc c
 have ef:=evf c
 have hw0:=hw
 refine Ze ho hw0 (v:=.slice (some ⟨kb,ko,none⟩) kl kc) ?_ rfl (Below.refl _ _)
 generalize c.eval=ρ at *
 clear hF hb hW hw hw0 ho
 go_simp
theorem Jff  : Zca p kb ko kl kc j y z x5 x6 x9 x22 x23 x24 Q 2:=by
 intro c w hb hW hF
 have ho:RM6[2]?=some (⟨some 62,.move (.tmp 3),3, "ref.go:70",#[],none⟩:Oper):=by kernel_rfl
 have e3:=hb.t3
 have hw:=Zxu (c:=c) ho rfl
 have ec:=evc c
 have ef:=evf c
 have hw0:=hw
 refine Ze ho hw0 (v:=.int .i64 (j:Int)) ?_ rfl (Below.refl _ _)
 generalize c.eval=ρ at *
 clear hF hb hW hw hw0 ho
 go_simp
theorem Jfg  : Zca p kb ko kl kc j y z x5 x6 x9 x22 x23 x24 Q 3:=by
 intro c w hb hW hF
 have ho:RM6[3]?=some (⟨some 63,.indexAddr 44 (.tmp 61) (.tmp 62),0, "ref.go:70",#[⟨1,.data⟩,⟨2,.data⟩],none⟩:Oper):=by kernel_rfl
 have e61:c.eval (.tmp 61)=.slice (some ⟨kb,ko,none⟩) kl kc:=Zi (by kernel_rfl) rfl (hF 1 (by decide))
 have e62:c.eval (.tmp 62)=.int .i64 (j:Int):=Zi (by kernel_rfl) rfl (hF 2 (by decide))
 have hw:=Zxu (c:=c) ho rfl
 have hlt:=hW.lt
 have hle:=hW.le
 have ec:=evc c
 have ef:=evf c
 have hw0:=hw
 refine Ze ho hw0 (v:=.pointer (some ⟨kb,ko+j,none⟩)) ?_ rfl (Below.refl _ _)
 generalize c.eval=ρ at *
 clear hF hb hW hw hw0 ho
 go_simp
theorem Jfh  : Zca p kb ko kl kc j y z x5 x6 x9 x22 x23 x24 Q 4:=by
 intro c w hb hW hF
 have ho:RM6[4]?=some (⟨some 64,.load 9 (.tmp 63),9, "ref.go:70",#[⟨3,.data⟩],none⟩:Oper):=by kernel_rfl
 have e63:c.eval (.tmp 63)=.pointer (some ⟨kb,ko+j,none⟩):=Zi (by kernel_rfl) rfl (hF 3 (by decide))
 have hw:=Zxu (c:=c) ho rfl
 have hc:=hW.ky
 have ec:=evc c
 have ef:=evf c
 have hw0:=hw
 refine Ze ho hw0 (v:=.string y) ?_ rfl (Below.refl _ _)
 generalize c.eval=ρ at *
 clear hF hb hW hw hw0 ho
 go_simp
theorem Jfi (p kb ko kl kc j:Nat) (y z:ByteArray) (x5 x6 x9 x22 x23 x24:Bool) (Q:Exit→Act→World→Prop) (c:Act) (w:World) (hr:x5=Lib.validD y.data.toList) (hb:Zd9 p kb ko kl kc j y z x5 x6 x9 x22 x23 x24 c) (hW:Zcv p kb ko kl kc j y z x5 x6 x9 x22 x23 x24 w) (hF:∀ q0 ∈ Zic 5,Zf (Zac p kb ko kl kc j y z x5 x6 x9 x22 x23 x24) q0 (val RM6 c q0) w) :
  Zak Tryz.prog RM6 Q (Zf (Zac p kb ko kl kc j y z x5 x6 x9 x22 x23 x24)) 5 c w:=by
 have ho:RM6[5]?=some (⟨some 65,.call { callee:=.value (.func 104),args:=#[.tmp 64],argTypes:=#[9] },4, "ref.go:70",#[⟨4,.data⟩],none⟩:Oper):=by kernel_rfl
 have e64:c.eval (.tmp 64)=.string y:=Zi (by kernel_rfl) rfl (hF 4 (by decide))
 have hw:=Zxu (c:=c) ho rfl
 have ec:=evc c
 have ef:=evf c
 have hw0:=hw
 refine Zcd ho hw0 (f:=104) (args:=#[.string y]) ?_ ((Znn y w hW.small).mono fun e w' ⟨h1,h2⟩=>⟨_,h1,congrArg Value.bool hr.symm,by subst h2;exact Below.refl _ _⟩)
 generalize c.eval=ρ at *
 clear hF hb hW hw ho
 go_simp
theorem Jfj (p kb ko kl kc j:Nat) (y z:ByteArray) (x5 x6 x9 x22 x23 x24:Bool) (Q:Exit→Act→World→Prop) (c:Act) (w:World) (hr:x6=!x5) (hb:Zd9 p kb ko kl kc j y z x5 x6 x9 x22 x23 x24 c) (hW:Zcv p kb ko kl kc j y z x5 x6 x9 x22 x23 x24 w) (hF:∀ q0 ∈ Zic 6,Zf (Zac p kb ko kl kc j y z x5 x6 x9 x22 x23 x24) q0 (val RM6 c q0) w) :
  Zak Tryz.prog RM6 Q (Zf (Zac p kb ko kl kc j y z x5 x6 x9 x22 x23 x24)) 6 c w:=by
 have ho:RM6[6]?=some (⟨some 66,.unOp .not 4 (.tmp 65),4, "ref.go:70",#[⟨5,.data⟩],none⟩:Oper):=by kernel_rfl
 have e65:c.eval (.tmp 65)=.bool x5:=Zi (by kernel_rfl) rfl (hF 5 (by decide))
 have hw:=Zxu (c:=c) ho rfl
 have ec:=evc c
 have ef:=evf c
 have hw0:=hw
 refine Ze ho hw0 (v:=.bool x6) ?_ rfl (Below.refl _ _)
 generalize c.eval=ρ at *
 clear hF hb hW hw hw0 ho
 go_simp
theorem Jfk  : Zca p kb ko kl kc j y z x5 x6 x9 x22 x23 x24 Q 7:=by
 intro c w hb hW hF
 have ho:RM6[7]?=some (⟨some 67,.move (.tmp 66),4, "ref.go:70",#[⟨6,.data⟩,⟨5,.chain⟩],none⟩:Oper):=by kernel_rfl
 have e66:c.eval (.tmp 66)=.bool x6:=Zi (by kernel_rfl) rfl (hF 6 (by decide))
 have hw:=Zxu (c:=c) ho rfl
 have ec:=evc c
 have ef:=evf c
 have hw0:=hw
 refine Ze ho hw0 (v:=.bool x6) ?_ rfl (Below.refl _ _)
 generalize c.eval=ρ at *
 clear hF hb hW hw hw0 ho
 go_simp
theorem Jfl  : Zca p kb ko kl kc j y z x5 x6 x9 x22 x23 x24 Q 8:=by
 intro c w hb hW hF
 have ho:RM6[8]?=some (⟨some 68,.move (.tmp 3),3, "ref.go:70",#[⟨7,.guard⟩],some (7,false)⟩:Oper):=by kernel_rfl
 have e3:=hb.t3
 have hg:val RM6 c 7=gv (true) (.bool x6):=hF 7 (by decide)
 have hw:=wgv ho (want:=false) rfl hg
 have ec:=evc c
 have ef:=evf c
 cases x6
 all_goals
  first
   | exact Zo ho (hw.trans rfl) rfl
   | (refine Ze ho (hw.trans rfl) (v:=.int .i64 (j:Int)) ?_ rfl (Below.refl _ _)
      generalize c.eval=ρ at *
      clear hF hb hW hw ho hg
      go_simp)
theorem Jfm (p kb ko kl kc j:Nat) (y z:ByteArray) (x5 x6 x9 x22 x23 x24:Bool) (Q:Exit→Act→World→Prop) (c:Act) (w:World) (hr:x9=decide (0<(j:Int))) (hb:Zd9 p kb ko kl kc j y z x5 x6 x9 x22 x23 x24 c) (hW:Zcv p kb ko kl kc j y z x5 x6 x9 x22 x23 x24 w) (hF:∀ q0 ∈ Zic 9,Zf (Zac p kb ko kl kc j y z x5 x6 x9 x22 x23 x24) q0 (val RM6 c q0) w) :
  Zak Tryz.prog RM6 Q (Zf (Zac p kb ko kl kc j y z x5 x6 x9 x22 x23 x24)) 9 c w:=by
 have ho:RM6[9]?=some (⟨some 69,.binOp .gtr 3 (.tmp 68) (.const (Value.int .i64 0)) 3,4, "ref.go:70",#[⟨8,.data⟩,⟨7,.guard⟩],some (7,false)⟩:Oper):=by kernel_rfl
 have e68:c.eval (.tmp 68)=gv (!x6) (.int .i64 (j:Int)):=Zi (by kernel_rfl) rfl (hF 8 (by decide))
 have hg:val RM6 c 7=gv (true) (.bool x6):=hF 7 (by decide)
 have hw:=wgv ho (want:=false) rfl hg
 have ec:=evc c
 have ef:=evf c
 cases x6
 all_goals
  try (dsimp only [gv,not,and,or,cond] at e68)
  first
   | exact Zo ho (hw.trans rfl) rfl
   | (refine Ze ho (hw.trans rfl) (v:=.bool x9) ?_ rfl (Below.refl _ _)
      generalize c.eval=ρ at *
      clear hF hb hW hw ho hg
      go_simp)
theorem Jco  : Zca p kb ko kl kc j y z x5 x6 x9 x22 x23 x24 Q 10:=by
 intro c w hb hW hF
 have ho:RM6[10]?=some (⟨some 70,.move (.tmp 69),4, "ref.go:70",#[⟨9,.data⟩,⟨7,.chain⟩,⟨7,.guard⟩],some (7,false)⟩:Oper):=by kernel_rfl
 have e69:c.eval (.tmp 69)=gv (!x6) (.bool x9):=Zi (by kernel_rfl) rfl (hF 9 (by decide))
 have hg:val RM6 c 7=gv (true) (.bool x6):=hF 7 (by decide)
 have hw:=wgv ho (want:=false) rfl hg
 have ec:=evc c
 have ef:=evf c
 cases x6
 all_goals
  try (dsimp only [gv,not,and,or,cond] at e69)
  first
   | exact Zo ho (hw.trans rfl) rfl
   | (refine Ze ho (hw.trans rfl) (v:=.bool x9) ?_ rfl (Below.refl _ _)
      generalize c.eval=ρ at *
      clear hF hb hW hw ho hg
      go_simp)
theorem Jcp  : Zca p kb ko kl kc j y z x5 x6 x9 x22 x23 x24 Q 11:=by
 intro c w hb hW hF
 have ho:RM6[11]?=some (⟨some 71,.fieldAddr 60 (.tmp 1) 4,0, "ref.go:70",#[⟨10,.guard⟩],some (10,true)⟩:Oper):=by kernel_rfl
 have e1:=hb.t1
 have hg:val RM6 c 10=gv (!x6) (.bool x9):=hF 10 (by decide)
 have hw:=wgv ho (want:=true) rfl hg
 have ec:=evc c
 have ef:=evf c
 cases x6<;>cases x9
 all_goals
  first
   | exact Zo ho (hw.trans rfl) rfl
   | (refine Ze ho (hw.trans rfl) (v:=.pointer (some ⟨p,4,none⟩)) ?_ rfl (Below.refl _ _)
      generalize c.eval=ρ at *
      clear hF hb hW hw ho hg
      go_simp)
theorem Jcq  : Zca p kb ko kl kc j y z x5 x6 x9 x22 x23 x24 Q 12:=by
 intro c w hb hW hF
 have ho:RM6[12]?=some (⟨some 72,.load 44 (.tmp 71),44, "ref.go:70",#[⟨11,.data⟩,⟨10,.guard⟩],some (10,true)⟩:Oper):=by kernel_rfl
 have e71:c.eval (.tmp 71)=gv (!x6&&x9) (.pointer (some ⟨p,4,none⟩)):=Zi (by kernel_rfl) rfl (hF 11 (by decide))
 have hg:val RM6 c 10=gv (!x6) (.bool x9):=hF 10 (by decide)
 have hw:=wgv ho (want:=true) rfl hg
 have hc:=hW.c4
 have ec:=evc c
 have ef:=evf c
 cases x6<;>cases x9
 all_goals
  try (dsimp only [gv,not,and,or,cond] at e71)
  first
   | exact Zo ho (hw.trans rfl) rfl
   | (refine Ze ho (hw.trans rfl) (v:=.slice (some ⟨kb,ko,none⟩) kl kc) ?_ rfl (Below.refl _ _)
      generalize c.eval=ρ at *
      clear hF hb hW hw ho hg
      go_simp)
theorem Jcr  : Zca p kb ko kl kc j y z x5 x6 x9 x22 x23 x24 Q 13:=by
 intro c w hb hW hF
 have ho:RM6[13]?=some (⟨some 73,.move (.tmp 3),3, "ref.go:70",#[⟨10,.guard⟩],some (10,true)⟩:Oper):=by kernel_rfl
 have e3:=hb.t3
 have hg:val RM6 c 10=gv (!x6) (.bool x9):=hF 10 (by decide)
 have hw:=wgv ho (want:=true) rfl hg
 have ec:=evc c
 have ef:=evf c
 cases x6<;>cases x9
 all_goals
  first
   | exact Zo ho (hw.trans rfl) rfl
   | (refine Ze ho (hw.trans rfl) (v:=.int .i64 (j:Int)) ?_ rfl (Below.refl _ _)
      generalize c.eval=ρ at *
      clear hF hb hW hw ho hg
      go_simp)
theorem Jcs  : Zca p kb ko kl kc j y z x5 x6 x9 x22 x23 x24 Q 14:=by
 intro c w hb hW hF
 have ho:RM6[14]?=some (⟨some 74,.binOp .sub 3 (.tmp 73) (.const (Value.int .i64 1)) 3,3, "ref.go:70",#[⟨13,.data⟩,⟨10,.guard⟩],some (10,true)⟩:Oper):=by kernel_rfl
 have e73:c.eval (.tmp 73)=gv (!x6&&x9) (.int .i64 (j:Int)):=Zi (by kernel_rfl) rfl (hF 13 (by decide))
 have hg:val RM6 c 10=gv (!x6) (.bool x9):=hF 10 (by decide)
 have hw:=wgv ho (want:=true) rfl hg
 have hlt:=hW.lt
 have hle:=hW.le
 have ec:=evc c
 have ef:=evf c
 cases x6<;>cases x9
 all_goals
  try (dsimp only [gv,not,and,or,cond] at e73)
  first
   | exact Zo ho (hw.trans rfl) rfl
   | (refine Ze ho (hw.trans rfl) (v:=.int .i64 ((j:Int) - 1)) ?_ rfl (Below.refl _ _)
      generalize c.eval=ρ at *
      clear hF hb hW hw ho hg
      go_simp
      rw [IntKind.wrap_i64];omega)
theorem Jct (p kb ko kl kc j:Nat) (y z:ByteArray) (x5 x6 x9 x22 x23 x24:Bool) (Q:Exit→Act→World→Prop) (c:Act) (w:World) (hr:x9=true→0<j) (hb:Zd9 p kb ko kl kc j y z x5 x6 x9 x22 x23 x24 c) (hW:Zcv p kb ko kl kc j y z x5 x6 x9 x22 x23 x24 w) (hF:∀ q0 ∈ Zic 15,Zf (Zac p kb ko kl kc j y z x5 x6 x9 x22 x23 x24) q0 (val RM6 c q0) w) :
  Zak Tryz.prog RM6 Q (Zf (Zac p kb ko kl kc j y z x5 x6 x9 x22 x23 x24)) 15 c w:=by
 have ho:RM6[15]?=some (⟨some 75,.indexAddr 44 (.tmp 72) (.tmp 74),0, "ref.go:70",#[⟨12,.data⟩,⟨14,.data⟩,⟨10,.guard⟩],some (10,true)⟩:Oper):=by kernel_rfl
 have e72:c.eval (.tmp 72)=gv (!x6&&x9) (.slice (some ⟨kb,ko,none⟩) kl kc):=Zi (by kernel_rfl) rfl (hF 12 (by decide))
 have e74:c.eval (.tmp 74)=gv (!x6&&x9) (.int .i64 ((j:Int) - 1)):=Zi (by kernel_rfl) rfl (hF 14 (by decide))
 have hg:val RM6 c 10=gv (!x6) (.bool x9):=hF 10 (by decide)
 have hw:=wgv ho (want:=true) rfl hg
 have hlt:=hW.lt
 have hle:=hW.le
 have ec:=evc c
 have ef:=evf c
 cases x6<;>cases x9
 all_goals
  try (dsimp only [gv,not,and,or,cond] at e72 e74)
  first
   | exact Zo ho (hw.trans rfl) rfl
   | (refine Ze ho (hw.trans rfl) (v:=.pointer (some ⟨kb,ko+(j - 1),none⟩)) ?_ rfl (Below.refl _ _)
      have hj:=hr rfl
      generalize c.eval=ρ at *
      clear hF hb hW hw ho hg
      go_simp
      intro h;exfalso;omega)
theorem Jcu (p kb ko kl kc j:Nat) (y z:ByteArray) (x5 x6 x9 x22 x23 x24:Bool) (Q:Exit→Act→World→Prop) (c:Act) (w:World) (hr:x9=true→0<j) (hb:Zd9 p kb ko kl kc j y z x5 x6 x9 x22 x23 x24 c) (hW:Zcv p kb ko kl kc j y z x5 x6 x9 x22 x23 x24 w) (hF:∀ q0 ∈ Zic 16,Zf (Zac p kb ko kl kc j y z x5 x6 x9 x22 x23 x24) q0 (val RM6 c q0) w) :
  Zak Tryz.prog RM6 Q (Zf (Zac p kb ko kl kc j y z x5 x6 x9 x22 x23 x24)) 16 c w:=by
 have ho:RM6[16]?=some (⟨some 76,.load 9 (.tmp 75),9, "ref.go:70",#[⟨15,.data⟩,⟨10,.guard⟩],some (10,true)⟩:Oper):=by kernel_rfl
 have e75:c.eval (.tmp 75)=gv (!x6&&x9) (.pointer (some ⟨kb,ko+(j - 1),none⟩)):=Zi (by kernel_rfl) rfl (hF 15 (by decide))
 have hg:val RM6 c 10=gv (!x6) (.bool x9):=hF 10 (by decide)
 have hw:=wgv ho (want:=true) rfl hg
 have ec:=evc c
 have ef:=evf c
 cases x6<;>cases x9
 all_goals
  try (dsimp only [gv,not,and,or,cond] at e75)
  first
   | exact Zo ho (hw.trans rfl) rfl
   | (refine Ze ho (hw.trans rfl) (v:=.string z) ?_ rfl (Below.refl _ _)
      have hc:=hW.kz (hr rfl)
      generalize c.eval=ρ at *
      clear hF hb hW hw ho hg
      go_simp)
theorem Jcv  : Zca p kb ko kl kc j y z x5 x6 x9 x22 x23 x24 Q 17:=by
 intro c w hb hW hF
 have ho:RM6[17]?=some (⟨some 77,.fieldAddr 60 (.tmp 1) 4,0, "ref.go:70",#[⟨10,.guard⟩],some (10,true)⟩:Oper):=by kernel_rfl
 have e1:=hb.t1
 have hg:val RM6 c 10=gv (!x6) (.bool x9):=hF 10 (by decide)
 have hw:=wgv ho (want:=true) rfl hg
 have ec:=evc c
 have ef:=evf c
 cases x6<;>cases x9
 all_goals
  first
   | exact Zo ho (hw.trans rfl) rfl
   | (refine Ze ho (hw.trans rfl) (v:=.pointer (some ⟨p,4,none⟩)) ?_ rfl (Below.refl _ _)
      generalize c.eval=ρ at *
      clear hF hb hW hw ho hg
      go_simp)
theorem Jcw  : Zca p kb ko kl kc j y z x5 x6 x9 x22 x23 x24 Q 18:=by
 intro c w hb hW hF
 have ho:RM6[18]?=some (⟨some 78,.load 44 (.tmp 77),44, "ref.go:70",#[⟨17,.data⟩,⟨10,.guard⟩],some (10,true)⟩:Oper):=by kernel_rfl
 have e77:c.eval (.tmp 77)=gv (!x6&&x9) (.pointer (some ⟨p,4,none⟩)):=Zi (by kernel_rfl) rfl (hF 17 (by decide))
 have hg:val RM6 c 10=gv (!x6) (.bool x9):=hF 10 (by decide)
 have hw:=wgv ho (want:=true) rfl hg
 have hc:=hW.c4
 have ec:=evc c
 have ef:=evf c
 cases x6<;>cases x9
 all_goals
  try (dsimp only [gv,not,and,or,cond] at e77)
  first
   | exact Zo ho (hw.trans rfl) rfl
   | (refine Ze ho (hw.trans rfl) (v:=.slice (some ⟨kb,ko,none⟩) kl kc) ?_ rfl (Below.refl _ _)
      generalize c.eval=ρ at *
      clear hF hb hW hw ho hg
      go_simp)
theorem Jcx  : Zca p kb ko kl kc j y z x5 x6 x9 x22 x23 x24 Q 19:=by
 intro c w hb hW hF
 have ho:RM6[19]?=some (⟨some 79,.move (.tmp 3),3, "ref.go:70",#[⟨10,.guard⟩],some (10,true)⟩:Oper):=by kernel_rfl
 have e3:=hb.t3
 have hg:val RM6 c 10=gv (!x6) (.bool x9):=hF 10 (by decide)
 have hw:=wgv ho (want:=true) rfl hg
 have ec:=evc c
 have ef:=evf c
 cases x6<;>cases x9
 all_goals
  first
   | exact Zo ho (hw.trans rfl) rfl
   | (refine Ze ho (hw.trans rfl) (v:=.int .i64 (j:Int)) ?_ rfl (Below.refl _ _)
      generalize c.eval=ρ at *
      clear hF hb hW hw ho hg
      go_simp)
theorem Jcy  : Zca p kb ko kl kc j y z x5 x6 x9 x22 x23 x24 Q 20:=by
 intro c w hb hW hF
 have ho:RM6[20]?=some (⟨some 80,.indexAddr 44 (.tmp 78) (.tmp 79),0, "ref.go:70",#[⟨18,.data⟩,⟨19,.data⟩,⟨10,.guard⟩],some (10,true)⟩:Oper):=by kernel_rfl
 have e78:c.eval (.tmp 78)=gv (!x6&&x9) (.slice (some ⟨kb,ko,none⟩) kl kc):=Zi (by kernel_rfl) rfl (hF 18 (by decide))
 have e79:c.eval (.tmp 79)=gv (!x6&&x9) (.int .i64 (j:Int)):=Zi (by kernel_rfl) rfl (hF 19 (by decide))
 have hg:val RM6 c 10=gv (!x6) (.bool x9):=hF 10 (by decide)
 have hw:=wgv ho (want:=true) rfl hg
 have hlt:=hW.lt
 have hle:=hW.le
 have ec:=evc c
 have ef:=evf c
 cases x6<;>cases x9
 all_goals
  try (dsimp only [gv,not,and,or,cond] at e78 e79)
  first
   | exact Zo ho (hw.trans rfl) rfl
   | (refine Ze ho (hw.trans rfl) (v:=.pointer (some ⟨kb,ko+j,none⟩)) ?_ rfl (Below.refl _ _)
      generalize c.eval=ρ at *
      clear hF hb hW hw ho hg
      go_simp)
theorem Jcz  : Zca p kb ko kl kc j y z x5 x6 x9 x22 x23 x24 Q 21:=by
 intro c w hb hW hF
 have ho:RM6[21]?=some (⟨some 81,.load 9 (.tmp 80),9, "ref.go:70",#[⟨20,.data⟩,⟨10,.guard⟩],some (10,true)⟩:Oper):=by kernel_rfl
 have e80:c.eval (.tmp 80)=gv (!x6&&x9) (.pointer (some ⟨kb,ko+j,none⟩)):=Zi (by kernel_rfl) rfl (hF 20 (by decide))
 have hg:val RM6 c 10=gv (!x6) (.bool x9):=hF 10 (by decide)
 have hw:=wgv ho (want:=true) rfl hg
 have hc:=hW.ky
 have ec:=evc c
 have ef:=evf c
 cases x6<;>cases x9
 all_goals
  try (dsimp only [gv,not,and,or,cond] at e80)
  first
   | exact Zo ho (hw.trans rfl) rfl
   | (refine Ze ho (hw.trans rfl) (v:=.string y) ?_ rfl (Below.refl _ _)
      generalize c.eval=ρ at *
      clear hF hb hW hw ho hg
      go_simp)
theorem Jc0 (p kb ko kl kc j:Nat) (y z:ByteArray) (x5 x6 x9 x22 x23 x24:Bool) (Q:Exit→Act→World→Prop) (c:Act) (w:World) (hr:x22=!Op.bytesLess z.toList y.toList) (hb:Zd9 p kb ko kl kc j y z x5 x6 x9 x22 x23 x24 c) (hW:Zcv p kb ko kl kc j y z x5 x6 x9 x22 x23 x24 w) (hF:∀ q0 ∈ Zic 22,Zf (Zac p kb ko kl kc j y z x5 x6 x9 x22 x23 x24) q0 (val RM6 c q0) w) :
  Zak Tryz.prog RM6 Q (Zf (Zac p kb ko kl kc j y z x5 x6 x9 x22 x23 x24)) 22 c w:=by
 have ho:RM6[22]?=some (⟨some 82,.binOp .geq 9 (.tmp 76) (.tmp 81) 9,4, "ref.go:70",#[⟨16,.data⟩,⟨21,.data⟩,⟨10,.guard⟩],some (10,true)⟩:Oper):=by kernel_rfl
 have e76:c.eval (.tmp 76)=gv (!x6&&x9) (.string z):=Zi (by kernel_rfl) rfl (hF 16 (by decide))
 have e81:c.eval (.tmp 81)=gv (!x6&&x9) (.string y):=Zi (by kernel_rfl) rfl (hF 21 (by decide))
 have hg:val RM6 c 10=gv (!x6) (.bool x9):=hF 10 (by decide)
 have hw:=wgv ho (want:=true) rfl hg
 have ec:=evc c
 have ef:=evf c
 cases x6<;>cases x9
 all_goals
  try (dsimp only [gv,not,and,or,cond] at e76 e81)
  first
   | exact Zo ho (hw.trans rfl) rfl
   | (refine Ze ho (hw.trans rfl) (v:=.bool x22) ?_ rfl (Below.refl _ _)
      generalize c.eval=ρ at *
      clear hF hb hW hw ho hg
      go_simp)
theorem Jc1 (p kb ko kl kc j:Nat) (y z:ByteArray) (x5 x6 x9 x22 x23 x24:Bool) (Q:Exit→Act→World→Prop) (c:Act) (w:World) (hr:x23=(x9&&x22)) (hb:Zd9 p kb ko kl kc j y z x5 x6 x9 x22 x23 x24 c) (hW:Zcv p kb ko kl kc j y z x5 x6 x9 x22 x23 x24 w) (hF:∀ q0 ∈ Zic 23,Zf (Zac p kb ko kl kc j y z x5 x6 x9 x22 x23 x24) q0 (val RM6 c q0) w) :
  Zak Tryz.prog RM6 Q (Zf (Zac p kb ko kl kc j y z x5 x6 x9 x22 x23 x24)) 23 c w:=by
 have ho:RM6[23]?=some (⟨some 83,.pick (.tmp 70) (.tmp 82) (.const (Value.bool false)),4, "ref.go:70",#[⟨10,.data⟩,⟨22,.data⟩,⟨7,.guard⟩],some (7,false)⟩:Oper):=by kernel_rfl
 have e70:c.eval (.tmp 70)=gv (!x6) (.bool x9):=Zi (by kernel_rfl) rfl (hF 10 (by decide))
 have e82:c.eval (.tmp 82)=gv (!x6&&x9) (.bool x22):=Zi (by kernel_rfl) rfl (hF 22 (by decide))
 have hg:val RM6 c 7=gv (true) (.bool x6):=hF 7 (by decide)
 have hw:=wgv ho (want:=false) rfl hg
 have ec:=evc c
 have ef:=evf c
 cases x6<;>cases x9<;>cases x22
 all_goals
  try (dsimp only [gv,not,and,or,cond] at e70 e82)
  first
   | exact Zo ho (hw.trans rfl) rfl
   | (refine Ze ho (hw.trans rfl) (v:=.bool x23) ?_ rfl (Below.refl _ _)
      generalize c.eval=ρ at *
      clear hF hb hW hw ho hg
      go_simp)
theorem Jc2 (p kb ko kl kc j:Nat) (y z:ByteArray) (x5 x6 x9 x22 x23 x24:Bool) (Q:Exit→Act→World→Prop) (c:Act) (w:World) (hr:x24=(x6||x23)) (hb:Zd9 p kb ko kl kc j y z x5 x6 x9 x22 x23 x24 c) (hW:Zcv p kb ko kl kc j y z x5 x6 x9 x22 x23 x24 w) (hF:∀ q0 ∈ Zic 24,Zf (Zac p kb ko kl kc j y z x5 x6 x9 x22 x23 x24) q0 (val RM6 c q0) w) :
  Zak Tryz.prog RM6 Q (Zf (Zac p kb ko kl kc j y z x5 x6 x9 x22 x23 x24)) 24 c w:=by
 have ho:RM6[24]?=some (⟨some 84,.pick (.tmp 67) (.const (Value.bool true)) (.tmp 83),4, "ref.go:70",#[⟨7,.data⟩,⟨23,.data⟩],none⟩:Oper):=by kernel_rfl
 have e67:c.eval (.tmp 67)=.bool x6:=Zi (by kernel_rfl) rfl (hF 7 (by decide))
 have e83:c.eval (.tmp 83)=gv (!x6) (.bool x23):=Zi (by kernel_rfl) rfl (hF 23 (by decide))
 have hw:=Zxu (c:=c) ho rfl
 have ec:=evc c
 have ef:=evf c
 cases x6<;>cases x23
 all_goals
  try (dsimp only [gv,not,and,or,cond] at e67 e83)
  first
   | exact Zo ho (hw.trans rfl) rfl
   | (refine Ze ho (hw.trans rfl) (v:=.bool x24) ?_ rfl (Below.refl _ _)
      generalize c.eval=ρ at *
      clear hF hb hW hw ho
      go_simp)
end
theorem Zxv (p kb ko kl kc j:Nat) (y z:ByteArray) (x5 x6 x9 x22 x23 x24:Bool):∀ pr ∈ Zac p kb ko kl kc j y z x5 x6 x9 x22 x23 x24,Zbv pr:=by
 unfold Zac
 repeat' (first | exact List.forall_mem_nil _ | refine List.forall_mem_cons.2 ⟨by first | exact Jb _ | exact Zdu _,?_⟩)
theorem Jfn (p kb ko kl kc j:Nat) (y z:ByteArray) (x5 x6 x9 x22 x23 x24:Bool) (Q:Exit→Act→World→Prop) (hr5:x5=Lib.validD y.data.toList) (hr6:x6=!x5) (hr9:x9=decide (0<(j:Int))) (hr15:x9=true→0<j) (hr16:x9=true→0<j) (hr22:x22=!Op.bytesLess z.toList y.toList) (hr23:x23=(x9&&x22)) (hr24:x24=(x6||x23)):∀ i,i<25→(fun i=>∀ c w,Zd9 p kb ko kl kc j y z x5 x6 x9 x22 x23 x24 c→Zcv p kb ko kl kc j y z x5 x6 x9 x22 x23 x24 w→(∀ q0 ∈ Zic i,Zf (Zac p kb ko kl kc j y z x5 x6 x9 x22 x23 x24) q0 (val RM6 c q0) w)→Zak Tryz.prog RM6 Q (Zf (Zac p kb ko kl kc j y z x5 x6 x9 x22 x23 x24)) i c w) i:=by
 refine Zd ?_ (fun c w=>Jc2 p kb ko kl kc j y z x5 x6 x9 x22 x23 x24 Q c w hr24)
 refine Zd ?_ (fun c w=>Jc1 p kb ko kl kc j y z x5 x6 x9 x22 x23 x24 Q c w hr23)
 refine Zd ?_ (fun c w=>Jc0 p kb ko kl kc j y z x5 x6 x9 x22 x23 x24 Q c w hr22)
 refine Zd ?_ (fun c w=>Jcz p kb ko kl kc j y z x5 x6 x9 x22 x23 x24 Q c w)
 refine Zd ?_ (fun c w=>Jcy p kb ko kl kc j y z x5 x6 x9 x22 x23 x24 Q c w)
 refine Zd ?_ (fun c w=>Jcx p kb ko kl kc j y z x5 x6 x9 x22 x23 x24 Q c w)
 refine Zd ?_ (fun c w=>Jcw p kb ko kl kc j y z x5 x6 x9 x22 x23 x24 Q c w)
 refine Zd ?_ (fun c w=>Jcv p kb ko kl kc j y z x5 x6 x9 x22 x23 x24 Q c w)
 refine Zd ?_ (fun c w=>Jcu p kb ko kl kc j y z x5 x6 x9 x22 x23 x24 Q c w hr16)
 refine Zd ?_ (fun c w=>Jct p kb ko kl kc j y z x5 x6 x9 x22 x23 x24 Q c w hr15)
 refine Zd ?_ (fun c w=>Jcs p kb ko kl kc j y z x5 x6 x9 x22 x23 x24 Q c w)
 refine Zd ?_ (fun c w=>Jcr p kb ko kl kc j y z x5 x6 x9 x22 x23 x24 Q c w)
 refine Zd ?_ (fun c w=>Jcq p kb ko kl kc j y z x5 x6 x9 x22 x23 x24 Q c w)
 refine Zd ?_ (fun c w=>Jcp p kb ko kl kc j y z x5 x6 x9 x22 x23 x24 Q c w)
 refine Zd ?_ (fun c w=>Jco p kb ko kl kc j y z x5 x6 x9 x22 x23 x24 Q c w)
 refine Zd ?_ (fun c w=>Jfm p kb ko kl kc j y z x5 x6 x9 x22 x23 x24 Q c w hr9)
 refine Zd ?_ (fun c w=>Jfl p kb ko kl kc j y z x5 x6 x9 x22 x23 x24 Q c w)
 refine Zd ?_ (fun c w=>Jfk p kb ko kl kc j y z x5 x6 x9 x22 x23 x24 Q c w)
 refine Zd ?_ (fun c w=>Jfj p kb ko kl kc j y z x5 x6 x9 x22 x23 x24 Q c w hr6)
 refine Zd ?_ (fun c w=>Jfi p kb ko kl kc j y z x5 x6 x9 x22 x23 x24 Q c w hr5)
 refine Zd ?_ (fun c w=>Jfh p kb ko kl kc j y z x5 x6 x9 x22 x23 x24 Q c w)
 refine Zd ?_ (fun c w=>Jfg p kb ko kl kc j y z x5 x6 x9 x22 x23 x24 Q c w)
 refine Zd ?_ (fun c w=>Jff p kb ko kl kc j y z x5 x6 x9 x22 x23 x24 Q c w)
 refine Zd ?_ (fun c w=>Jfe p kb ko kl kc j y z x5 x6 x9 x22 x23 x24 Q c w)
 refine Zd ?_ (fun c w=>Jfd p kb ko kl kc j y z x5 x6 x9 x22 x23 x24 Q c w)
 exact Zj
theorem Zxw (p kb ko kl kc j:Nat) (y z:ByteArray) (x5 x6 x9 x22 x23 x24:Bool) (Q:Exit→Act→World→Prop) (base:Act) (w0:World) (hr5:x5=Lib.validD y.data.toList) (hr6:x6=!x5) (hr9:x9=decide (0<(j:Int))) (hr15:x9=true→0<j) (hr16:x9=true→0<j) (hr22:x22=!Op.bytesLess z.toList y.toList) (hr23:x23=(x9&&x22)) (hr24:x24=(x6||x23)) (hsz:base.tmps.size=99) (hb:Zd9 p kb ko kl kc j y z x5 x6 x9 x22 x23 x24 base)
  (hW:∀ w,Below w0.heap.size w0 w→Zcv p kb ko kl kc j y z x5 x6 x9 x22 x23 x24 w) (hQ:∀ c w,Zae RM6 base c→Below w0.heap.size w0 w→c.eval (.tmp 84)=.bool x24→Q .normal c w):(Code.region 6 RM6 true).wp Tryz.prog Q base w0:=by
 refine Zgq (A:=Zic) (F:=Zf (Zac p kb ko kl kc j y z x5 x6 x9 x22 x23 x24)) (by kernel_rfl) (by rw [hsz];kernel_rfl) (fun i v w w'=>Jd (Zxv p kb ko kl kc j y z x5 x6 x9 x22 x23 x24) i v w w') ?_ ?_
 ·intro i hi c w hS hB hF
  exact Jfn p kb ko kl kc j y z x5 x6 x9 x22 x23 x24 Q hr5 hr6 hr9 hr15 hr16 hr22 hr23 hr24 i (by rwa [show RM6.size=25 by kernel_rfl] at hi) c w ⟨(Zc hS (by kernel_rfl)).trans hb.t1,(Zc hS (by kernel_rfl)).trans hb.t3⟩ (hW w hB) hF
 ·intro c w hS hB hF
  exact hQ c w hS hB (Je (p:=eqv (.bool x24)) (by kernel_rfl) rfl (hF 24 (by rw [show RM6.size=25 by kernel_rfl];omega)))
end
section
open Go.RowKit Go.WideShapes Go.Shelf
set_option linter.all false
theorem Zhw {w w1:World} {A:Array Value} (hb:Below (w.alloc (.cells A 60)).heap.size (w.alloc (.cells A 60)) w1):Below w.heap.size w w1∧(∀ i v,A[i]?=some v→w1.cell? ⟨w.heap.size,i,none⟩=some v) :=
 ⟨Ze3 hb,fun i v hi=>(hb.cell (p:=⟨w.heap.size,i,none⟩) (by simp)).trans (Zaf _ _ _ _ _ hi)⟩
theorem Zj9  : ∀ (a b:List UInt8),Op.bytesLess a b=decide (Lib.compareBytes a b<0)
 | [],[]=>rfl
 | [],_::_=>rfl
 | _::_,[]=>rfl
 | a::r,b::t=>by
  rw [Op.bytesLess,Lib.compareBytes,Zj9 r t]
  by_cases h:a<b
  ·simp [h]
  ·by_cases g:b<a
   ·have:(a==b)=false:=by
     rw [beq_eq_false_iff_ne]
     intro e;subst e
     exact absurd g h
    simp [h,g,this]
   ·have:(a==b)=true:=by
     rw [beq_iff_eq]
     have h1:¬ a.toNat<b.toNat:=h
     have h2:¬ b.toNat<a.toNat:=g
     exact UInt8.toNat_inj.1 (by omega)
    simp [h,g,this]
def badB (k:Int) (b:Bool) (n:Int) (s:ByteArray) (kl ll:Nat):Bool :=
 ((((decide (k<0)||decide (7<k))||!rbareB k b n s kl ll)||(((k==6)||(k==7))&&decide (n<0)))||!Lib.validD s.data.toList)||((k==5)&&((kl:Int) != (ll:Int)))
mutual
def Zmz  : Zk→Bool
 | .mk k b n s ks ts=>!badB k b n s ks.length ts.length&&(Zbq ks&&mayL ts)
def mayL  : List Zk→Bool
 | []=>true
 | t::ts=>Zmz t&&mayL ts
end
theorem Zka  : ∀ (ts:List Zk),mayL ts=ts.all Zmz
 | []=>rfl
 | t::ts=>by rw [mayL,Zka ts];rfl
theorem Zqp {ts:List Zk} {t:Zk} {i:Nat} (h:ts[i]?=some t) (hf:Zmz t=false):mayL ts=false:=by
 rw [Zka,List.all_eq_false]
 exact ⟨t,List.mem_of_getElem? h,by simp [hf]⟩
theorem Zsx {ts:List Zk} (h:∀ (i:Nat) (t:Zk),ts[i]?=some t→Zmz t=true):mayL ts=true:=by
 rw [Zka,List.all_eq_true]
 intro t ht
 obtain ⟨i,hi⟩:=List.mem_iff_getElem?.1 ht
 exact h i t hi
theorem Zsy {ks:List ByteArray} {j:Nat} {y z:ByteArray} (hy:ks.getD j ⟨#[]⟩=y) (hz:ks.getD (j - 1) ⟨#[]⟩=z) {x:Bool}
  (hx:x=(!Lib.validD y.data.toList||(decide (0<(j:Int))&&!Op.bytesLess z.toList y.toList))):risesAt ks j=!x:=by
 unfold risesAt
 rw [hx,hy,hz,ByteArray.toList_eq,ByteArray.toList_eq,Zj9]
 have e1:decide (0<(j:Int))=decide (0<j):=by simp
 have e2:(!decide (Lib.compareBytes z.data.toList y.data.toList<0))=decide (0≤Lib.compareBytes z.data.toList y.data.toList):=by
  by_cases h:Lib.compareBytes z.data.toList y.data.toList<0
  ·simp [h,show ¬ (0≤Lib.compareBytes z.data.toList y.data.toList) by omega]
  ·simp [h,show 0≤Lib.compareBytes z.data.toList y.data.toList by omega]
 rw [e1,e2]
 simp [Bool.not_or,Bool.not_and]
def Zwr (ks:List ByteArray) (j:Nat):Prop:=∀ i,i<j→risesAt ks i=true
theorem Zwr.snoc {ks:List ByteArray} {j:Nat} (h:Zwr ks j) (hj:risesAt ks j=true):Zwr ks (j+1):=fun i hi=>by
 rcases Nat.lt_or_eq_of_le (Nat.le_of_lt_succ hi) with h' | rfl
 ·exact h i h'
 ·exact hj
def Jbv (ts:List Zk) (p:Nat):Prop:=∀ (i:Nat) (t:Zk),i<p→ts[i]?=some t→Zmz t=true
theorem Jbv.snoc {ts:List Zk} {p:Nat} {t:Zk} (h:Jbv ts p) (hp:ts[p]?=some t) (ht:Zmz t=true):Jbv ts (p+1):=fun i u hi hu=>by
 rcases Nat.lt_or_eq_of_le (Nat.le_of_lt_succ hi) with h' | rfl
 ·exact h i u h' hu
 ·rw [hp] at hu;cases hu;exact ht
set_option maxRecDepth 100000 in
set_option maxHeartbeats 4000000 in
theorem Zzx  : ∀ (T:Zk) (B:Nat) (v:Value) (w:World),B≤w.heap.size→Zaw B w v T→Zj6 T →
  Calls Tryz.prog 110 #[v] w fun e w'=>e=.returned (.bool (Zmz T))∧Below w.heap.size w w':=by
 refine Zk.ind ?_
 intro k x n s ks ts ih B v w hB hv hSa
 simp only [Zaw] at hv
 simp only [Zj6] at hSa
 obtain ⟨s1,s2,s3,s4,s5⟩:=hSa
 obtain ⟨ka,kc,la,lc,rfl,⟨hs1,hs2,hs3,hs4,hs5⟩,hk,ht⟩:=hv
 unfold maxLen at hs1 hs3 hs5
 obtain ⟨W1,hW1⟩:∃ W1,w.alloc (.cells #[.int .i64 k,.bool x,.int .i64 n,.string s,.slice ka ks.length kc,.slice la ts.length lc] 60)=W1:=⟨_,rfl⟩
 have HX:Hid (∀ W,Below W1.heap.size W1 W→Below w.heap.size w W∧(W.cell? ⟨w.heap.size,0,none⟩=some (.int .i64 k)∧W.cell? ⟨w.heap.size,1,none⟩=some (.bool x)∧W.cell? ⟨w.heap.size,2,none⟩=some (.int .i64 n)∧W.cell? ⟨w.heap.size,3,none⟩=some (.string s)∧W.cell? ⟨w.heap.size,4,none⟩=some (.slice ka ks.length kc)∧W.cell? ⟨w.heap.size,5,none⟩=some (.slice la ts.length lc))):=fun W hb=>by
  rw [← hW1] at hb
  obtain ⟨h1,h2⟩:=Zhw hb
  exact ⟨h1,h2 0 _ rfl,h2 1 _ rfl,h2 2 _ rfl,h2 3 _ rfl,h2 4 _ rfl,h2 5 _ rfl⟩
 have HM:Hid (Zmz (.mk k x n s ks ts)=(!badB k x n s ks.length ts.length&&(Zbq ks&&mayL ts))):=by show _=_;rw [Zmz]
 have HW1:=Zb hW1
 have HIH:=Zb ih
 have HKK:=Zb hk
 have HTT:=Zb ht
 have HS4:=Zb s4
 have HS5:=Zb s5
 generalize Zmz (.mk k x n s ks ts)=res at *
 clear ih hk ht s4 s5 hW1
 go_enter Tryz.func110,Tryz.ntmps110
 go_upto_region 1 with fail
 rw [HW1.out]
 show (Code.region 1 RM1 false).wp _ _ _ _
 refine Zyl w.heap.size k x n s ka ks.length kc la ts.length lc ((decide (k<0))) ((decide (7<k))) ((((decide (k<0))||(decide (7<k))))) ((rbareB k x n s ks.length ts.length)) ((!(rbareB k x n s ks.length ts.length))) ((((((decide (k<0))||(decide (7<k))))||(!(rbareB k x n s ks.length ts.length))))) (((k==6))) (((k==7))) (((((k==6))||((k==7))))) ((decide (n<0))) (((((((k==6))||((k==7))))&&(decide (n<0))))) ((((((((decide (k<0))||(decide (7<k))))||(!(rbareB k x n s ks.length ts.length))))||((((((k==6))||((k==7))))&&(decide (n<0))))))) ((Lib.validD s.data.toList)) ((!(Lib.validD s.data.toList))) ((((((((((decide (k<0))||(decide (7<k))))||(!(rbareB k x n s ks.length ts.length))))||((((((k==6))||((k==7))))&&(decide (n<0))))))||(!(Lib.validD s.data.toList))))) (((k==5))) ((((ks.length:Int) != (ts.length:Int)))) (((((k==5))&&(((ks.length:Int) != (ts.length:Int)))))) ((((((((((((decide (k<0))||(decide (7<k))))||(!(rbareB k x n s ks.length ts.length))))||((((((k==6))||((k==7))))&&(decide (n<0))))))||(!(Lib.validD s.data.toList))))||((((k==5))&&(((ks.length:Int) != (ts.length:Int)))))))) _ _ _ rfl rfl rfl rfl rfl rfl rfl rfl rfl rfl rfl rfl rfl rfl rfl rfl rfl rfl rfl rfl ⟨rfl⟩ (fun W hb=>by obtain ⟨_,h0,h1,h2,h3,h4,h5⟩:=HX.out W hb;exact ⟨h0,h1,h2,h3,h4,h5,s1⟩) ?_
 intro c W hS hB1 he
 have hbad:badB k x n s ks.length ts.length=((((((((((((decide (k<0))||(decide (7<k))))||(!(rbareB k x n s ks.length ts.length))))||((((((k==6))||((k==7))))&&(decide (n<0))))))||(!(Lib.validD s.data.toList))))||((((k==5))&&(((ks.length:Int) != (ts.length:Int)))))))):=rfl
 rw [← hbad] at he
 clear hbad
 generalize badB k x n s ks.length ts.length=bad at *
 have hl:c=⟨#[.agg #[.int .i64 k,.bool x,.int .i64 n,.string s,.slice ka ks.length kc,.slice la ts.length lc],.pointer (some ⟨w.heap.size,0,none⟩),.bool false,undef,undef,c.eval (.tmp 5),c.eval (.tmp 6),c.eval (.tmp 7),c.eval (.tmp 8),c.eval (.tmp 9),c.eval (.tmp 10),c.eval (.tmp 11),c.eval (.tmp 12),c.eval (.tmp 13),c.eval (.tmp 14),c.eval (.tmp 15),c.eval (.tmp 16),c.eval (.tmp 17),c.eval (.tmp 18),c.eval (.tmp 19),c.eval (.tmp 20),c.eval (.tmp 21),c.eval (.tmp 22),c.eval (.tmp 23),c.eval (.tmp 24),c.eval (.tmp 25),c.eval (.tmp 26),c.eval (.tmp 27),c.eval (.tmp 28),c.eval (.tmp 29),c.eval (.tmp 30),c.eval (.tmp 31),c.eval (.tmp 32),c.eval (.tmp 33),c.eval (.tmp 34),c.eval (.tmp 35),c.eval (.tmp 36),c.eval (.tmp 37),c.eval (.tmp 38),c.eval (.tmp 39),c.eval (.tmp 40),c.eval (.tmp 41),c.eval (.tmp 42),c.eval (.tmp 43),c.eval (.tmp 44),c.eval (.tmp 45),c.eval (.tmp 46),c.eval (.tmp 47),c.eval (.tmp 48),c.eval (.tmp 49),c.eval (.tmp 50),c.eval (.tmp 51),c.eval (.tmp 52),undef,undef,undef,undef,undef,undef,undef,undef,undef,undef,undef,undef,undef,undef,undef,undef,undef,undef,undef,undef,undef,undef,undef,undef,undef,undef,undef,undef,undef,undef,undef,undef,undef,undef,undef,undef,undef,undef,undef,undef,undef,undef,undef,undef,undef,undef],[]⟩:=(Zk9 hS).trans (by kernel_rfl)
 rw [he] at hl
 generalize c.eval (.tmp 5)=y5,c.eval (.tmp 6)=y6,c.eval (.tmp 7)=y7,c.eval (.tmp 8)=y8,c.eval (.tmp 9)=y9,c.eval (.tmp 10)=y10,c.eval (.tmp 11)=y11,c.eval (.tmp 12)=y12,c.eval (.tmp 13)=y13,c.eval (.tmp 14)=y14,c.eval (.tmp 15)=y15,c.eval (.tmp 16)=y16,c.eval (.tmp 17)=y17,c.eval (.tmp 18)=y18,c.eval (.tmp 19)=y19,c.eval (.tmp 20)=y20,c.eval (.tmp 21)=y21,c.eval (.tmp 22)=y22,c.eval (.tmp 23)=y23,c.eval (.tmp 24)=y24,c.eval (.tmp 25)=y25,c.eval (.tmp 26)=y26,c.eval (.tmp 27)=y27,c.eval (.tmp 28)=y28,c.eval (.tmp 29)=y29,c.eval (.tmp 30)=y30,c.eval (.tmp 31)=y31,c.eval (.tmp 32)=y32,c.eval (.tmp 33)=y33,c.eval (.tmp 34)=y34,c.eval (.tmp 35)=y35,c.eval (.tmp 36)=y36,c.eval (.tmp 37)=y37,c.eval (.tmp 38)=y38,c.eval (.tmp 39)=y39,c.eval (.tmp 40)=y40,c.eval (.tmp 41)=y41,c.eval (.tmp 42)=y42,c.eval (.tmp 43)=y43,c.eval (.tmp 44)=y44,c.eval (.tmp 45)=y45,c.eval (.tmp 46)=y46,c.eval (.tmp 47)=y47,c.eval (.tmp 48)=y48,c.eval (.tmp 49)=y49,c.eval (.tmp 50)=y50,c.eval (.tmp 51)=y51 at hl
 clear hS he
 subst hl
 have HB1:=Zb hB1
 have HBW:=Zb (HX.out W hB1).1
 clear hB1
 cases bad
 case true =>
  go_wp2_with fail
  go_ret
  exact ⟨by rw [HM.out];rfl,HBW.out⟩
 go_wp2_with fail
 go_loopw [3] (fun i wr=>∃ j:Nat,j≤ks.length∧i=.int .i64 j∧Below W1.heap.size W1 wr∧Zwr ks j) (fun i _=>ks.length - (intOf i).toNat)
 case atStart=>exact ⟨0,Nat.zero_le _,rfl,HB1.out,fun i hi=>absurd hi (Nat.not_lt_zero _)⟩
 case round =>
  obtain ⟨j,hj,rfl,hbr,hri⟩:=hrel
  obtain ⟨hbw,q0,q1,q2,q3,q4,q5⟩:=HX.out wr hbr
  have HBR:=Zb hbr
  have HRI:=Zb hri
  have HBV:=Zb hbw
  clear hbr hri hbw q0 q1 q2 q3 q5
  by_cases hja:j<ks.length
  ·obtain ⟨bk,off,rfl,hbk,hkey⟩:=(HKK.out.below (HBV.out.mono hB)).resolve_left (by intro e;subst e;simp at hja)
   obtain ⟨y,hy⟩:∃ y,ks.getD j ⟨#[]⟩=y:=⟨_,rfl⟩
   obtain ⟨z,hz⟩:∃ z,ks.getD (j - 1) ⟨#[]⟩=z:=⟨_,rfl⟩
   have HK1:=Zb (hy▸(hkey j hja).1)
   have HK2:Hid (0<j→wr.cell? ⟨bk,off+(j - 1),none⟩=some (.string z)):=fun h=>hz▸(hkey (j - 1) (by omega)).1
   have HSZ:Hid (y.size≤140737488355328):=by
    show _≤_
    rw [← hy,List.getD_eq_getElem?_getD,List.getElem?_eq_getElem hja]
    exact HS4.out _ (List.getElem_mem hja)
   have HRS:Hid (∀ x:Bool,x=(!Lib.validD y.data.toList||(decide (0<(j:Int))&&!Op.bytesLess z.toList y.toList))→risesAt ks j=!x):=fun x h=>Zsy hy hz h
   clear hkey hy hz
   go_upto_region 6 with fail
   show (Code.region 6 RM6 true).wp _ _ _ _
   refine Zxw w.heap.size bk off ks.length kc j y z ((Lib.validD y.data.toList)) ((!(Lib.validD y.data.toList))) ((decide (0<(j:Int)))) ((!Op.bytesLess z.toList y.toList)) ((((decide (0<(j:Int)))&&(!Op.bytesLess z.toList y.toList)))) ((((!(Lib.validD y.data.toList))||(((decide (0<(j:Int)))&&(!Op.bytesLess z.toList y.toList)))))) _ _ _ rfl rfl rfl (fun h=>by simpa using h) (fun h=>by simpa using h) rfl rfl rfl rfl ⟨rfl,rfl⟩ (fun W hb=>⟨Jw hb (Nat.le_refl _) q4,Jw hb (Nat.le_refl _) HK1.out,fun h=>Jw hb (Nat.le_refl _) (HK2.out h),HSZ.out,hja,by omega⟩) ?_
   intro c Wr hS hB6 he
   have HB6:=Zb (HBR.out.trans (hB6.mono HBR.out.size))
   have HBX:=Zb (HX.out _ HB6.out).1
   clear hB6 HK1 HK2 q4
   have HR6:=Zb (HRS.out _ rfl)
   rw [show ((((!(Lib.validD y.data.toList))||(((decide (0<(j:Int)))&&(!Op.bytesLess z.toList y.toList))))))=!risesAt ks j by rw [HR6.out];simp] at he
   clear HRS HR6
   obtain ⟨rz,hrz⟩:∃ rz,risesAt ks j=rz:=⟨_,rfl⟩
   rw [hrz] at he
   have HRZ:=Zb hrz
   clear hrz
   cases rz
   case false =>
    simp only [Bool.not_false] at he
    have hl:c=⟨#[.agg #[.int .i64 k,.bool x,.int .i64 n,.string s,.slice (some ⟨bk,off,none⟩) ks.length kc,.slice la ts.length lc],.pointer (some ⟨w.heap.size,0,none⟩),u2,.int .i64 (j:Int),undef,y5,y6,y7,y8,y9,y10,y11,y12,y13,y14,y15,y16,y17,y18,y19,y20,y21,y22,y23,y24,y25,y26,y27,y28,y29,y30,y31,y32,y33,y34,y35,y36,y37,y38,y39,y40,y41,y42,y43,y44,y45,y46,y47,y48,y49,y50,y51,.bool false,.int .i64 (j:Int),.pointer (some ⟨w.heap.size,4,none⟩),.slice (some ⟨bk,off,none⟩) ks.length kc,.int .i64 (ks.length:Int),.bool true,u58,u59,c.eval (.tmp 60),c.eval (.tmp 61),c.eval (.tmp 62),c.eval (.tmp 63),c.eval (.tmp 64),c.eval (.tmp 65),c.eval (.tmp 66),c.eval (.tmp 67),c.eval (.tmp 68),c.eval (.tmp 69),c.eval (.tmp 70),c.eval (.tmp 71),c.eval (.tmp 72),c.eval (.tmp 73),c.eval (.tmp 74),c.eval (.tmp 75),c.eval (.tmp 76),c.eval (.tmp 77),c.eval (.tmp 78),c.eval (.tmp 79),c.eval (.tmp 80),c.eval (.tmp 81),c.eval (.tmp 82),c.eval (.tmp 83),c.eval (.tmp 84),undef,undef,undef,undef,undef,undef,undef,undef,undef,undef,undef,undef,undef,undef],[]⟩:=(Zk9 hS).trans (by kernel_rfl)
    rw [he] at hl
    generalize c.eval (.tmp 60)=y60,c.eval (.tmp 61)=y61,c.eval (.tmp 62)=y62,c.eval (.tmp 63)=y63,c.eval (.tmp 64)=y64,c.eval (.tmp 65)=y65,c.eval (.tmp 66)=y66,c.eval (.tmp 67)=y67,c.eval (.tmp 68)=y68,c.eval (.tmp 69)=y69,c.eval (.tmp 70)=y70,c.eval (.tmp 71)=y71,c.eval (.tmp 72)=y72,c.eval (.tmp 73)=y73,c.eval (.tmp 74)=y74,c.eval (.tmp 75)=y75,c.eval (.tmp 76)=y76,c.eval (.tmp 77)=y77,c.eval (.tmp 78)=y78,c.eval (.tmp 79)=y79,c.eval (.tmp 80)=y80,c.eval (.tmp 81)=y81,c.eval (.tmp 82)=y82,c.eval (.tmp 83)=y83 at hl
    clear hS he
    subst hl
    go_wp2_with fail
    go_ret
    exact ⟨by rw [HM.out,Zd7 hja HRZ.out];rfl,HBX.out⟩
   case true =>
    simp only [Bool.not_true] at he
    have hl:c=⟨#[.agg #[.int .i64 k,.bool x,.int .i64 n,.string s,.slice (some ⟨bk,off,none⟩) ks.length kc,.slice la ts.length lc],.pointer (some ⟨w.heap.size,0,none⟩),u2,.int .i64 (j:Int),undef,y5,y6,y7,y8,y9,y10,y11,y12,y13,y14,y15,y16,y17,y18,y19,y20,y21,y22,y23,y24,y25,y26,y27,y28,y29,y30,y31,y32,y33,y34,y35,y36,y37,y38,y39,y40,y41,y42,y43,y44,y45,y46,y47,y48,y49,y50,y51,.bool false,.int .i64 (j:Int),.pointer (some ⟨w.heap.size,4,none⟩),.slice (some ⟨bk,off,none⟩) ks.length kc,.int .i64 (ks.length:Int),.bool true,u58,u59,c.eval (.tmp 60),c.eval (.tmp 61),c.eval (.tmp 62),c.eval (.tmp 63),c.eval (.tmp 64),c.eval (.tmp 65),c.eval (.tmp 66),c.eval (.tmp 67),c.eval (.tmp 68),c.eval (.tmp 69),c.eval (.tmp 70),c.eval (.tmp 71),c.eval (.tmp 72),c.eval (.tmp 73),c.eval (.tmp 74),c.eval (.tmp 75),c.eval (.tmp 76),c.eval (.tmp 77),c.eval (.tmp 78),c.eval (.tmp 79),c.eval (.tmp 80),c.eval (.tmp 81),c.eval (.tmp 82),c.eval (.tmp 83),c.eval (.tmp 84),undef,undef,undef,undef,undef,undef,undef,undef,undef,undef,undef,undef,undef,undef],[]⟩:=(Zk9 hS).trans (by kernel_rfl)
    rw [he] at hl
    generalize c.eval (.tmp 60)=y60,c.eval (.tmp 61)=y61,c.eval (.tmp 62)=y62,c.eval (.tmp 63)=y63,c.eval (.tmp 64)=y64,c.eval (.tmp 65)=y65,c.eval (.tmp 66)=y66,c.eval (.tmp 67)=y67,c.eval (.tmp 68)=y68,c.eval (.tmp 69)=y69,c.eval (.tmp 70)=y70,c.eval (.tmp 71)=y71,c.eval (.tmp 72)=y72,c.eval (.tmp 73)=y73,c.eval (.tmp 74)=y74,c.eval (.tmp 75)=y75,c.eval (.tmp 76)=y76,c.eval (.tmp 77)=y77,c.eval (.tmp 78)=y78,c.eval (.tmp 79)=y79,c.eval (.tmp 80)=y80,c.eval (.tmp 81)=y81,c.eval (.tmp 82)=y82,c.eval (.tmp 83)=y83 at hl
    clear hS he
    subst hl
    go_wp2_with fail
    go_roundw
    case rel=>exact ⟨j+1,by omega,by go_num,HB6.out,HRI.out.snoc HRZ.out⟩
    case measure=>simp [intOf];omega
  ·have HRT:Hid (Zbq ks=true):=Zfe fun i hi=>HRI.out i (by omega)
   go_wp2_with fail
   clear q4
   go_loopw [4] (fun i wr=>∃ p:Nat,p≤ts.length∧i=.int .i64 p∧Below W1.heap.size W1 wr∧Jbv ts p) (fun i _=>ts.length - (intOf i).toNat)
   case atStart=>exact ⟨0,Nat.zero_le _,rfl,HBR.out,fun i t hi _=>absurd hi (Nat.not_lt_zero _)⟩
   case round =>
    obtain ⟨p,hp,rfl,hbr2,hma⟩:=hrel
    obtain ⟨hbw2,q0,q1,q2,q3,q4,q5⟩:=HX.out _ hbr2
    have HBR2:=Zb hbr2
    have HBW2:=Zb hbw2
    have HMA:=Zb hma
    clear hbr2 hma hbw2 q0 q1 q2 q3 q4
    by_cases hlt:p<ts.length
    ·obtain ⟨bl,off,rfl,hbl,hkk⟩:=HTT.out.resolve_left (by intro e;subst e;simp at hlt)
     obtain ⟨⟨p0,p1,p2,p3,p4,p5⟩,hx⟩:∃ t,ts[p]?=some t:=⟨_,List.getElem?_eq_getElem hlt⟩
     obtain ⟨ja,jc,jl,jd,⟨c0,c1,c2,c3,c4,c5⟩,hlx⟩:=(hkk.below (HBW2.out.mono hB) hbl).cells hx
     have HC:=Zb (HIH.out _ (List.mem_of_getElem? hx) B _ wr (Nat.le_trans hB HBW2.out.size) hlx (HS5.out.mem (List.mem_of_getElem? hx)))
     have HF:=Zb (@Zqp ts _ p hx)
     have HSN:=Zb (fun h=>@Jbv.snoc ts p _ HMA.out hx h)
     clear hkk hlx hx
     generalize Zmz (.mk p0 p1 p2 p3 p4 p5)=mt at *
     go_wp2_with fail
     refine HC.out.mono ?_;rintro e w' ⟨rfl,hk2⟩
     have HB2:=Zb (HBR2.out.trans (hk2.mono HBR2.out.size))
     clear hk2 c0 c1 c2 c3 c4 c5 q5
     cases mt
     ·go_wp2_with fail
      go_ret
      exact ⟨by rw [HM.out,HRT.out,HF.out (by simp)];rfl,(HX.out _ HB2.out).1⟩
     ·go_wp2_with fail
      go_roundw
      case rel=>exact ⟨p+1,by omega,by go_num,HB2.out,HSN.out (by simp)⟩
      case measure=>simp [intOf];omega
    ·have HMT:Hid (mayL ts=true):=Zsx fun i t hi=>HMA.out i t (by have:=(List.getElem?_eq_some_iff.1 hi).1;omega) hi
     go_wp2_with fail
     go_ret
     exact ⟨by rw [HM.out,HRT.out,HMT.out];rfl,HBW2.out⟩
end
