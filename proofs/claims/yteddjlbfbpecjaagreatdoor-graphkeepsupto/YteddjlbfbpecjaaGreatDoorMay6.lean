/- The document's May, the test of one key: operation by operation, in whatever order. -/
import Derived.Test.YteddjlbfbpecjaaGreatDoorJoin1
import Derived.Test.YteddjlbfbpecjaaGreatDoorJoin21
namespace Go.Proofs.YteddjlbfbpecjaaGreatDoor
open Go.RowKit Go.WideShapes Go.Shelf
set_option maxRecDepth 100000
set_option linter.unusedVariables false
set_option linter.unusedSimpArgs false
noncomputable def RM6  : Array Oper:=regionAt Tryz.f110 6
def ancM6 (i:Nat):List Nat:=([[],[0],[],[1,2],[3],[4],[5],[6],[7],[7,8],[7,9],[10],[10,11],[10],[10,13],[10,12,14],[10,15],[10],[10,17],[10],[10,18,19],[10,20],[10,16,21],[7,10,22],[7,23]]:List (List Nat)).getD i []
def factsM6 (p kb ko kl kc j:Nat) (y z:ByteArray) (x5 x6 x9 x22 x23 x24:Bool):List (Value→World→Prop) :=
 [eqv (.pointer (some ⟨p,4,none⟩)),eqv (.slice (some ⟨kb,ko,none⟩) kl kc),eqv (.int .i64 (j:Int)),eqv (.pointer (some ⟨kb,ko+j,none⟩)),eqv (.string y),eqv (.bool x5),eqv (.bool x6),eqv (.bool x6),eqv (gv (!x6) (.int .i64 (j:Int))),eqv (gv (!x6) (.bool x9)),eqv (gv (!x6) (.bool x9)),eqv (gv (!x6&&x9) (.pointer (some ⟨p,4,none⟩))),eqv (gv (!x6&&x9) (.slice (some ⟨kb,ko,none⟩) kl kc)),eqv (gv (!x6&&x9) (.int .i64 (j:Int))),eqv (gv (!x6&&x9) (.int .i64 ((j:Int) - 1))),eqv (gv (!x6&&x9) (.pointer (some ⟨kb,ko+(j - 1),none⟩))),eqv (gv (!x6&&x9) (.string z)),eqv (gv (!x6&&x9) (.pointer (some ⟨p,4,none⟩))),eqv (gv (!x6&&x9) (.slice (some ⟨kb,ko,none⟩) kl kc)),eqv (gv (!x6&&x9) (.int .i64 (j:Int))),eqv (gv (!x6&&x9) (.pointer (some ⟨kb,ko+j,none⟩))),eqv (gv (!x6&&x9) (.string y)),eqv (gv (!x6&&x9) (.bool x22)),eqv (gv (!x6) (.bool x23)),eqv (.bool x24)]
structure BaseM6 (p kb ko kl kc j:Nat) (y z:ByteArray) (x5 x6 x9 x22 x23 x24:Bool) (c:Act):Prop where
 t1:c.eval (.tmp 1)=.pointer (some ⟨p,0,none⟩)
 t3:c.eval (.tmp 3)=.int .i64 (j:Int)
structure WorldM6 (p kb ko kl kc j:Nat) (y z:ByteArray) (x5 x6 x9 x22 x23 x24:Bool) (w:World):Prop where
 c4:w.cell? ⟨p,4,none⟩=some (.slice (some ⟨kb,ko,none⟩) kl kc)
 ky:w.cell? ⟨kb,ko+j,none⟩=some (.string y)
 kz:0<j→w.cell? ⟨kb,ko+(j - 1),none⟩=some (.string z)
 small:y.size≤140737488355328
 lt:j<kl
 le:kl≤9223372036854775807
def stepM6 (p kb ko kl kc j:Nat) (y z:ByteArray) (x5 x6 x9 x22 x23 x24:Bool) (Q:Exit→Act→World→Prop) (i:Nat):Prop:=∀ (c:Act) (w:World),BaseM6 p kb ko kl kc j y z x5 x6 x9 x22 x23 x24 c→WorldM6 p kb ko kl kc j y z x5 x6 x9 x22 x23 x24 w→(∀ q0 ∈ ancM6 i,factsAt (factsM6 p kb ko kl kc j y z x5 x6 x9 x22 x23 x24) q0 (val RM6 c q0) w)→Does Tryz.prog RM6 Q (factsAt (factsM6 p kb ko kl kc j y z x5 x6 x9 x22 x23 x24)) i c w
theorem wnM6 {i:Nat} {o:Oper} {c:Act} (ho:RM6[i]?=some o) (h:o.guard=none):Region.wanted o (yielded RM6 c.tmps)=true:=want_none h
section
variable (p kb ko kl kc j:Nat) (y z:ByteArray) (x5 x6 x9 x22 x23 x24:Bool) (Q:Exit→Act→World→Prop)
theorem oM6_0  : stepM6 p kb ko kl kc j y z x5 x6 x9 x22 x23 x24 Q 0:=by
 intro c w hb hW hF
 have ho:RM6[0]?=some (⟨some 60,.fieldAddr 60 (.tmp 1) 4,0, "ref.go:70",#[],none⟩:Oper):=by kernel_rfl
 have e1:=hb.t1
 have hw:=wnM6 (c:=c) ho rfl
 have ec:=evc c
 have ef:=evf c
 have hw0:=hw
 refine does_value ho hw0 (v:=.pointer (some ⟨p,4,none⟩)) ?_ rfl (Below.refl _ _)
 generalize c.eval=ρ at *
 clear hF hb hW hw hw0 ho
 go_simp
theorem oM6_1  : stepM6 p kb ko kl kc j y z x5 x6 x9 x22 x23 x24 Q 1:=by
 intro c w hb hW hF
 have ho:RM6[1]?=some (⟨some 61,.load 44 (.tmp 60),44, "ref.go:70",#[⟨0,.data⟩],none⟩:Oper):=by kernel_rfl
 have e60:c.eval (.tmp 60)=.pointer (some ⟨p,4,none⟩):=fact_eq (by kernel_rfl) rfl (hF 0 (by decide))
 have hw:=wnM6 (c:=c) ho rfl
 have hc:=hW.c4
 have ec:=evc c
 have ef:=evf c
 have hw0:=hw
 refine does_value ho hw0 (v:=.slice (some ⟨kb,ko,none⟩) kl kc) ?_ rfl (Below.refl _ _)
 generalize c.eval=ρ at *
 clear hF hb hW hw hw0 ho
 go_simp
theorem oM6_2  : stepM6 p kb ko kl kc j y z x5 x6 x9 x22 x23 x24 Q 2:=by
 intro c w hb hW hF
 have ho:RM6[2]?=some (⟨some 62,.move (.tmp 3),3, "ref.go:70",#[],none⟩:Oper):=by kernel_rfl
 have e3:=hb.t3
 have hw:=wnM6 (c:=c) ho rfl
 have ec:=evc c
 have ef:=evf c
 have hw0:=hw
 refine does_value ho hw0 (v:=.int .i64 (j:Int)) ?_ rfl (Below.refl _ _)
 generalize c.eval=ρ at *
 clear hF hb hW hw hw0 ho
 go_simp
theorem oM6_3  : stepM6 p kb ko kl kc j y z x5 x6 x9 x22 x23 x24 Q 3:=by
 intro c w hb hW hF
 have ho:RM6[3]?=some (⟨some 63,.indexAddr 44 (.tmp 61) (.tmp 62),0, "ref.go:70",#[⟨1,.data⟩,⟨2,.data⟩],none⟩:Oper):=by kernel_rfl
 have e61:c.eval (.tmp 61)=.slice (some ⟨kb,ko,none⟩) kl kc:=fact_eq (by kernel_rfl) rfl (hF 1 (by decide))
 have e62:c.eval (.tmp 62)=.int .i64 (j:Int):=fact_eq (by kernel_rfl) rfl (hF 2 (by decide))
 have hw:=wnM6 (c:=c) ho rfl
 have hlt:=hW.lt
 have hle:=hW.le
 have ec:=evc c
 have ef:=evf c
 have hw0:=hw
 refine does_value ho hw0 (v:=.pointer (some ⟨kb,ko+j,none⟩)) ?_ rfl (Below.refl _ _)
 generalize c.eval=ρ at *
 clear hF hb hW hw hw0 ho
 go_simp
theorem oM6_4  : stepM6 p kb ko kl kc j y z x5 x6 x9 x22 x23 x24 Q 4:=by
 intro c w hb hW hF
 have ho:RM6[4]?=some (⟨some 64,.load 9 (.tmp 63),9, "ref.go:70",#[⟨3,.data⟩],none⟩:Oper):=by kernel_rfl
 have e63:c.eval (.tmp 63)=.pointer (some ⟨kb,ko+j,none⟩):=fact_eq (by kernel_rfl) rfl (hF 3 (by decide))
 have hw:=wnM6 (c:=c) ho rfl
 have hc:=hW.ky
 have ec:=evc c
 have ef:=evf c
 have hw0:=hw
 refine does_value ho hw0 (v:=.string y) ?_ rfl (Below.refl _ _)
 generalize c.eval=ρ at *
 clear hF hb hW hw hw0 ho
 go_simp
theorem oM6_5 (p kb ko kl kc j:Nat) (y z:ByteArray) (x5 x6 x9 x22 x23 x24:Bool) (Q:Exit→Act→World→Prop) (c:Act) (w:World) (hr:x5=Lib.validD y.data.toList) (hb:BaseM6 p kb ko kl kc j y z x5 x6 x9 x22 x23 x24 c) (hW:WorldM6 p kb ko kl kc j y z x5 x6 x9 x22 x23 x24 w) (hF:∀ q0 ∈ ancM6 5,factsAt (factsM6 p kb ko kl kc j y z x5 x6 x9 x22 x23 x24) q0 (val RM6 c q0) w) :
  Does Tryz.prog RM6 Q (factsAt (factsM6 p kb ko kl kc j y z x5 x6 x9 x22 x23 x24)) 5 c w:=by
 have ho:RM6[5]?=some (⟨some 65,.call { callee:=.value (.func 104),args:=#[.tmp 64],argTypes:=#[9] },4, "ref.go:70",#[⟨4,.data⟩],none⟩:Oper):=by kernel_rfl
 have e64:c.eval (.tmp 64)=.string y:=fact_eq (by kernel_rfl) rfl (hF 4 (by decide))
 have hw:=wnM6 (c:=c) ho rfl
 have ec:=evc c
 have ef:=evf c
 have hw0:=hw
 refine does_call ho hw0 (f:=104) (args:=#[.string y]) ?_ ((utf_any y w hW.small).mono fun e w' ⟨h1,h2⟩=>⟨_,h1,congrArg Value.bool hr.symm,by subst h2;exact Below.refl _ _⟩)
 generalize c.eval=ρ at *
 clear hF hb hW hw ho
 go_simp
theorem oM6_6 (p kb ko kl kc j:Nat) (y z:ByteArray) (x5 x6 x9 x22 x23 x24:Bool) (Q:Exit→Act→World→Prop) (c:Act) (w:World) (hr:x6=!x5) (hb:BaseM6 p kb ko kl kc j y z x5 x6 x9 x22 x23 x24 c) (hW:WorldM6 p kb ko kl kc j y z x5 x6 x9 x22 x23 x24 w) (hF:∀ q0 ∈ ancM6 6,factsAt (factsM6 p kb ko kl kc j y z x5 x6 x9 x22 x23 x24) q0 (val RM6 c q0) w) :
  Does Tryz.prog RM6 Q (factsAt (factsM6 p kb ko kl kc j y z x5 x6 x9 x22 x23 x24)) 6 c w:=by
 have ho:RM6[6]?=some (⟨some 66,.unOp .not 4 (.tmp 65),4, "ref.go:70",#[⟨5,.data⟩],none⟩:Oper):=by kernel_rfl
 have e65:c.eval (.tmp 65)=.bool x5:=fact_eq (by kernel_rfl) rfl (hF 5 (by decide))
 have hw:=wnM6 (c:=c) ho rfl
 have ec:=evc c
 have ef:=evf c
 have hw0:=hw
 refine does_value ho hw0 (v:=.bool x6) ?_ rfl (Below.refl _ _)
 generalize c.eval=ρ at *
 clear hF hb hW hw hw0 ho
 go_simp
theorem oM6_7  : stepM6 p kb ko kl kc j y z x5 x6 x9 x22 x23 x24 Q 7:=by
 intro c w hb hW hF
 have ho:RM6[7]?=some (⟨some 67,.move (.tmp 66),4, "ref.go:70",#[⟨6,.data⟩,⟨5,.chain⟩],none⟩:Oper):=by kernel_rfl
 have e66:c.eval (.tmp 66)=.bool x6:=fact_eq (by kernel_rfl) rfl (hF 6 (by decide))
 have hw:=wnM6 (c:=c) ho rfl
 have ec:=evc c
 have ef:=evf c
 have hw0:=hw
 refine does_value ho hw0 (v:=.bool x6) ?_ rfl (Below.refl _ _)
 generalize c.eval=ρ at *
 clear hF hb hW hw hw0 ho
 go_simp
theorem oM6_8  : stepM6 p kb ko kl kc j y z x5 x6 x9 x22 x23 x24 Q 8:=by
 intro c w hb hW hF
 have ho:RM6[8]?=some (⟨some 68,.move (.tmp 3),3, "ref.go:70",#[⟨7,.guard⟩],some (7,false)⟩:Oper):=by kernel_rfl
 have e3:=hb.t3
 have hg:val RM6 c 7=gv (true) (.bool x6):=hF 7 (by decide)
 have hw:=wgv ho (want:=false) rfl hg
 have ec:=evc c
 have ef:=evf c
 cases x6
 all_goals
  first
   | exact does_not ho (hw.trans rfl) rfl
   | (refine does_value ho (hw.trans rfl) (v:=.int .i64 (j:Int)) ?_ rfl (Below.refl _ _)
      generalize c.eval=ρ at *
      clear hF hb hW hw ho hg
      go_simp)
theorem oM6_9 (p kb ko kl kc j:Nat) (y z:ByteArray) (x5 x6 x9 x22 x23 x24:Bool) (Q:Exit→Act→World→Prop) (c:Act) (w:World) (hr:x9=decide (0<(j:Int))) (hb:BaseM6 p kb ko kl kc j y z x5 x6 x9 x22 x23 x24 c) (hW:WorldM6 p kb ko kl kc j y z x5 x6 x9 x22 x23 x24 w) (hF:∀ q0 ∈ ancM6 9,factsAt (factsM6 p kb ko kl kc j y z x5 x6 x9 x22 x23 x24) q0 (val RM6 c q0) w) :
  Does Tryz.prog RM6 Q (factsAt (factsM6 p kb ko kl kc j y z x5 x6 x9 x22 x23 x24)) 9 c w:=by
 have ho:RM6[9]?=some (⟨some 69,.binOp .gtr 3 (.tmp 68) (.const (Value.int .i64 0)) 3,4, "ref.go:70",#[⟨8,.data⟩,⟨7,.guard⟩],some (7,false)⟩:Oper):=by kernel_rfl
 have e68:c.eval (.tmp 68)=gv (!x6) (.int .i64 (j:Int)):=fact_eq (by kernel_rfl) rfl (hF 8 (by decide))
 have hg:val RM6 c 7=gv (true) (.bool x6):=hF 7 (by decide)
 have hw:=wgv ho (want:=false) rfl hg
 have ec:=evc c
 have ef:=evf c
 cases x6
 all_goals
  try (dsimp only [gv,not,and,or,cond] at e68)
  first
   | exact does_not ho (hw.trans rfl) rfl
   | (refine does_value ho (hw.trans rfl) (v:=.bool x9) ?_ rfl (Below.refl _ _)
      generalize c.eval=ρ at *
      clear hF hb hW hw ho hg
      go_simp)
theorem oM6_10  : stepM6 p kb ko kl kc j y z x5 x6 x9 x22 x23 x24 Q 10:=by
 intro c w hb hW hF
 have ho:RM6[10]?=some (⟨some 70,.move (.tmp 69),4, "ref.go:70",#[⟨9,.data⟩,⟨7,.chain⟩,⟨7,.guard⟩],some (7,false)⟩:Oper):=by kernel_rfl
 have e69:c.eval (.tmp 69)=gv (!x6) (.bool x9):=fact_eq (by kernel_rfl) rfl (hF 9 (by decide))
 have hg:val RM6 c 7=gv (true) (.bool x6):=hF 7 (by decide)
 have hw:=wgv ho (want:=false) rfl hg
 have ec:=evc c
 have ef:=evf c
 cases x6
 all_goals
  try (dsimp only [gv,not,and,or,cond] at e69)
  first
   | exact does_not ho (hw.trans rfl) rfl
   | (refine does_value ho (hw.trans rfl) (v:=.bool x9) ?_ rfl (Below.refl _ _)
      generalize c.eval=ρ at *
      clear hF hb hW hw ho hg
      go_simp)
theorem oM6_11  : stepM6 p kb ko kl kc j y z x5 x6 x9 x22 x23 x24 Q 11:=by
 intro c w hb hW hF
 have ho:RM6[11]?=some (⟨some 71,.fieldAddr 60 (.tmp 1) 4,0, "ref.go:70",#[⟨10,.guard⟩],some (10,true)⟩:Oper):=by kernel_rfl
 have e1:=hb.t1
 have hg:val RM6 c 10=gv (!x6) (.bool x9):=hF 10 (by decide)
 have hw:=wgv ho (want:=true) rfl hg
 have ec:=evc c
 have ef:=evf c
 cases x6<;>cases x9
 all_goals
  first
   | exact does_not ho (hw.trans rfl) rfl
   | (refine does_value ho (hw.trans rfl) (v:=.pointer (some ⟨p,4,none⟩)) ?_ rfl (Below.refl _ _)
      generalize c.eval=ρ at *
      clear hF hb hW hw ho hg
      go_simp)
theorem oM6_12  : stepM6 p kb ko kl kc j y z x5 x6 x9 x22 x23 x24 Q 12:=by
 intro c w hb hW hF
 have ho:RM6[12]?=some (⟨some 72,.load 44 (.tmp 71),44, "ref.go:70",#[⟨11,.data⟩,⟨10,.guard⟩],some (10,true)⟩:Oper):=by kernel_rfl
 have e71:c.eval (.tmp 71)=gv (!x6&&x9) (.pointer (some ⟨p,4,none⟩)):=fact_eq (by kernel_rfl) rfl (hF 11 (by decide))
 have hg:val RM6 c 10=gv (!x6) (.bool x9):=hF 10 (by decide)
 have hw:=wgv ho (want:=true) rfl hg
 have hc:=hW.c4
 have ec:=evc c
 have ef:=evf c
 cases x6<;>cases x9
 all_goals
  try (dsimp only [gv,not,and,or,cond] at e71)
  first
   | exact does_not ho (hw.trans rfl) rfl
   | (refine does_value ho (hw.trans rfl) (v:=.slice (some ⟨kb,ko,none⟩) kl kc) ?_ rfl (Below.refl _ _)
      generalize c.eval=ρ at *
      clear hF hb hW hw ho hg
      go_simp)
theorem oM6_13  : stepM6 p kb ko kl kc j y z x5 x6 x9 x22 x23 x24 Q 13:=by
 intro c w hb hW hF
 have ho:RM6[13]?=some (⟨some 73,.move (.tmp 3),3, "ref.go:70",#[⟨10,.guard⟩],some (10,true)⟩:Oper):=by kernel_rfl
 have e3:=hb.t3
 have hg:val RM6 c 10=gv (!x6) (.bool x9):=hF 10 (by decide)
 have hw:=wgv ho (want:=true) rfl hg
 have ec:=evc c
 have ef:=evf c
 cases x6<;>cases x9
 all_goals
  first
   | exact does_not ho (hw.trans rfl) rfl
   | (refine does_value ho (hw.trans rfl) (v:=.int .i64 (j:Int)) ?_ rfl (Below.refl _ _)
      generalize c.eval=ρ at *
      clear hF hb hW hw ho hg
      go_simp)
theorem oM6_14  : stepM6 p kb ko kl kc j y z x5 x6 x9 x22 x23 x24 Q 14:=by
 intro c w hb hW hF
 have ho:RM6[14]?=some (⟨some 74,.binOp .sub 3 (.tmp 73) (.const (Value.int .i64 1)) 3,3, "ref.go:70",#[⟨13,.data⟩,⟨10,.guard⟩],some (10,true)⟩:Oper):=by kernel_rfl
 have e73:c.eval (.tmp 73)=gv (!x6&&x9) (.int .i64 (j:Int)):=fact_eq (by kernel_rfl) rfl (hF 13 (by decide))
 have hg:val RM6 c 10=gv (!x6) (.bool x9):=hF 10 (by decide)
 have hw:=wgv ho (want:=true) rfl hg
 have hlt:=hW.lt
 have hle:=hW.le
 have ec:=evc c
 have ef:=evf c
 cases x6<;>cases x9
 all_goals
  try (dsimp only [gv,not,and,or,cond] at e73)
  first
   | exact does_not ho (hw.trans rfl) rfl
   | (refine does_value ho (hw.trans rfl) (v:=.int .i64 ((j:Int) - 1)) ?_ rfl (Below.refl _ _)
      generalize c.eval=ρ at *
      clear hF hb hW hw ho hg
      go_simp
      rw [IntKind.wrap_i64];omega)
theorem oM6_15 (p kb ko kl kc j:Nat) (y z:ByteArray) (x5 x6 x9 x22 x23 x24:Bool) (Q:Exit→Act→World→Prop) (c:Act) (w:World) (hr:x9=true→0<j) (hb:BaseM6 p kb ko kl kc j y z x5 x6 x9 x22 x23 x24 c) (hW:WorldM6 p kb ko kl kc j y z x5 x6 x9 x22 x23 x24 w) (hF:∀ q0 ∈ ancM6 15,factsAt (factsM6 p kb ko kl kc j y z x5 x6 x9 x22 x23 x24) q0 (val RM6 c q0) w) :
  Does Tryz.prog RM6 Q (factsAt (factsM6 p kb ko kl kc j y z x5 x6 x9 x22 x23 x24)) 15 c w:=by
 have ho:RM6[15]?=some (⟨some 75,.indexAddr 44 (.tmp 72) (.tmp 74),0, "ref.go:70",#[⟨12,.data⟩,⟨14,.data⟩,⟨10,.guard⟩],some (10,true)⟩:Oper):=by kernel_rfl
 have e72:c.eval (.tmp 72)=gv (!x6&&x9) (.slice (some ⟨kb,ko,none⟩) kl kc):=fact_eq (by kernel_rfl) rfl (hF 12 (by decide))
 have e74:c.eval (.tmp 74)=gv (!x6&&x9) (.int .i64 ((j:Int) - 1)):=fact_eq (by kernel_rfl) rfl (hF 14 (by decide))
 have hg:val RM6 c 10=gv (!x6) (.bool x9):=hF 10 (by decide)
 have hw:=wgv ho (want:=true) rfl hg
 have hlt:=hW.lt
 have hle:=hW.le
 have ec:=evc c
 have ef:=evf c
 cases x6<;>cases x9
 all_goals
  try (dsimp only [gv,not,and,or,cond] at e72 e74)
  first
   | exact does_not ho (hw.trans rfl) rfl
   | (refine does_value ho (hw.trans rfl) (v:=.pointer (some ⟨kb,ko+(j - 1),none⟩)) ?_ rfl (Below.refl _ _)
      have hj:=hr rfl
      generalize c.eval=ρ at *
      clear hF hb hW hw ho hg
      go_simp
      intro h;exfalso;omega)
theorem oM6_16 (p kb ko kl kc j:Nat) (y z:ByteArray) (x5 x6 x9 x22 x23 x24:Bool) (Q:Exit→Act→World→Prop) (c:Act) (w:World) (hr:x9=true→0<j) (hb:BaseM6 p kb ko kl kc j y z x5 x6 x9 x22 x23 x24 c) (hW:WorldM6 p kb ko kl kc j y z x5 x6 x9 x22 x23 x24 w) (hF:∀ q0 ∈ ancM6 16,factsAt (factsM6 p kb ko kl kc j y z x5 x6 x9 x22 x23 x24) q0 (val RM6 c q0) w) :
  Does Tryz.prog RM6 Q (factsAt (factsM6 p kb ko kl kc j y z x5 x6 x9 x22 x23 x24)) 16 c w:=by
 have ho:RM6[16]?=some (⟨some 76,.load 9 (.tmp 75),9, "ref.go:70",#[⟨15,.data⟩,⟨10,.guard⟩],some (10,true)⟩:Oper):=by kernel_rfl
 have e75:c.eval (.tmp 75)=gv (!x6&&x9) (.pointer (some ⟨kb,ko+(j - 1),none⟩)):=fact_eq (by kernel_rfl) rfl (hF 15 (by decide))
 have hg:val RM6 c 10=gv (!x6) (.bool x9):=hF 10 (by decide)
 have hw:=wgv ho (want:=true) rfl hg
 have ec:=evc c
 have ef:=evf c
 cases x6<;>cases x9
 all_goals
  try (dsimp only [gv,not,and,or,cond] at e75)
  first
   | exact does_not ho (hw.trans rfl) rfl
   | (refine does_value ho (hw.trans rfl) (v:=.string z) ?_ rfl (Below.refl _ _)
      have hc:=hW.kz (hr rfl)
      generalize c.eval=ρ at *
      clear hF hb hW hw ho hg
      go_simp)
theorem oM6_17  : stepM6 p kb ko kl kc j y z x5 x6 x9 x22 x23 x24 Q 17:=by
 intro c w hb hW hF
 have ho:RM6[17]?=some (⟨some 77,.fieldAddr 60 (.tmp 1) 4,0, "ref.go:70",#[⟨10,.guard⟩],some (10,true)⟩:Oper):=by kernel_rfl
 have e1:=hb.t1
 have hg:val RM6 c 10=gv (!x6) (.bool x9):=hF 10 (by decide)
 have hw:=wgv ho (want:=true) rfl hg
 have ec:=evc c
 have ef:=evf c
 cases x6<;>cases x9
 all_goals
  first
   | exact does_not ho (hw.trans rfl) rfl
   | (refine does_value ho (hw.trans rfl) (v:=.pointer (some ⟨p,4,none⟩)) ?_ rfl (Below.refl _ _)
      generalize c.eval=ρ at *
      clear hF hb hW hw ho hg
      go_simp)
theorem oM6_18  : stepM6 p kb ko kl kc j y z x5 x6 x9 x22 x23 x24 Q 18:=by
 intro c w hb hW hF
 have ho:RM6[18]?=some (⟨some 78,.load 44 (.tmp 77),44, "ref.go:70",#[⟨17,.data⟩,⟨10,.guard⟩],some (10,true)⟩:Oper):=by kernel_rfl
 have e77:c.eval (.tmp 77)=gv (!x6&&x9) (.pointer (some ⟨p,4,none⟩)):=fact_eq (by kernel_rfl) rfl (hF 17 (by decide))
 have hg:val RM6 c 10=gv (!x6) (.bool x9):=hF 10 (by decide)
 have hw:=wgv ho (want:=true) rfl hg
 have hc:=hW.c4
 have ec:=evc c
 have ef:=evf c
 cases x6<;>cases x9
 all_goals
  try (dsimp only [gv,not,and,or,cond] at e77)
  first
   | exact does_not ho (hw.trans rfl) rfl
   | (refine does_value ho (hw.trans rfl) (v:=.slice (some ⟨kb,ko,none⟩) kl kc) ?_ rfl (Below.refl _ _)
      generalize c.eval=ρ at *
      clear hF hb hW hw ho hg
      go_simp)
theorem oM6_19  : stepM6 p kb ko kl kc j y z x5 x6 x9 x22 x23 x24 Q 19:=by
 intro c w hb hW hF
 have ho:RM6[19]?=some (⟨some 79,.move (.tmp 3),3, "ref.go:70",#[⟨10,.guard⟩],some (10,true)⟩:Oper):=by kernel_rfl
 have e3:=hb.t3
 have hg:val RM6 c 10=gv (!x6) (.bool x9):=hF 10 (by decide)
 have hw:=wgv ho (want:=true) rfl hg
 have ec:=evc c
 have ef:=evf c
 cases x6<;>cases x9
 all_goals
  first
   | exact does_not ho (hw.trans rfl) rfl
   | (refine does_value ho (hw.trans rfl) (v:=.int .i64 (j:Int)) ?_ rfl (Below.refl _ _)
      generalize c.eval=ρ at *
      clear hF hb hW hw ho hg
      go_simp)
theorem oM6_20  : stepM6 p kb ko kl kc j y z x5 x6 x9 x22 x23 x24 Q 20:=by
 intro c w hb hW hF
 have ho:RM6[20]?=some (⟨some 80,.indexAddr 44 (.tmp 78) (.tmp 79),0, "ref.go:70",#[⟨18,.data⟩,⟨19,.data⟩,⟨10,.guard⟩],some (10,true)⟩:Oper):=by kernel_rfl
 have e78:c.eval (.tmp 78)=gv (!x6&&x9) (.slice (some ⟨kb,ko,none⟩) kl kc):=fact_eq (by kernel_rfl) rfl (hF 18 (by decide))
 have e79:c.eval (.tmp 79)=gv (!x6&&x9) (.int .i64 (j:Int)):=fact_eq (by kernel_rfl) rfl (hF 19 (by decide))
 have hg:val RM6 c 10=gv (!x6) (.bool x9):=hF 10 (by decide)
 have hw:=wgv ho (want:=true) rfl hg
 have hlt:=hW.lt
 have hle:=hW.le
 have ec:=evc c
 have ef:=evf c
 cases x6<;>cases x9
 all_goals
  try (dsimp only [gv,not,and,or,cond] at e78 e79)
  first
   | exact does_not ho (hw.trans rfl) rfl
   | (refine does_value ho (hw.trans rfl) (v:=.pointer (some ⟨kb,ko+j,none⟩)) ?_ rfl (Below.refl _ _)
      generalize c.eval=ρ at *
      clear hF hb hW hw ho hg
      go_simp)
theorem oM6_21  : stepM6 p kb ko kl kc j y z x5 x6 x9 x22 x23 x24 Q 21:=by
 intro c w hb hW hF
 have ho:RM6[21]?=some (⟨some 81,.load 9 (.tmp 80),9, "ref.go:70",#[⟨20,.data⟩,⟨10,.guard⟩],some (10,true)⟩:Oper):=by kernel_rfl
 have e80:c.eval (.tmp 80)=gv (!x6&&x9) (.pointer (some ⟨kb,ko+j,none⟩)):=fact_eq (by kernel_rfl) rfl (hF 20 (by decide))
 have hg:val RM6 c 10=gv (!x6) (.bool x9):=hF 10 (by decide)
 have hw:=wgv ho (want:=true) rfl hg
 have hc:=hW.ky
 have ec:=evc c
 have ef:=evf c
 cases x6<;>cases x9
 all_goals
  try (dsimp only [gv,not,and,or,cond] at e80)
  first
   | exact does_not ho (hw.trans rfl) rfl
   | (refine does_value ho (hw.trans rfl) (v:=.string y) ?_ rfl (Below.refl _ _)
      generalize c.eval=ρ at *
      clear hF hb hW hw ho hg
      go_simp)
theorem oM6_22 (p kb ko kl kc j:Nat) (y z:ByteArray) (x5 x6 x9 x22 x23 x24:Bool) (Q:Exit→Act→World→Prop) (c:Act) (w:World) (hr:x22=!Op.bytesLess z.toList y.toList) (hb:BaseM6 p kb ko kl kc j y z x5 x6 x9 x22 x23 x24 c) (hW:WorldM6 p kb ko kl kc j y z x5 x6 x9 x22 x23 x24 w) (hF:∀ q0 ∈ ancM6 22,factsAt (factsM6 p kb ko kl kc j y z x5 x6 x9 x22 x23 x24) q0 (val RM6 c q0) w) :
  Does Tryz.prog RM6 Q (factsAt (factsM6 p kb ko kl kc j y z x5 x6 x9 x22 x23 x24)) 22 c w:=by
 have ho:RM6[22]?=some (⟨some 82,.binOp .geq 9 (.tmp 76) (.tmp 81) 9,4, "ref.go:70",#[⟨16,.data⟩,⟨21,.data⟩,⟨10,.guard⟩],some (10,true)⟩:Oper):=by kernel_rfl
 have e76:c.eval (.tmp 76)=gv (!x6&&x9) (.string z):=fact_eq (by kernel_rfl) rfl (hF 16 (by decide))
 have e81:c.eval (.tmp 81)=gv (!x6&&x9) (.string y):=fact_eq (by kernel_rfl) rfl (hF 21 (by decide))
 have hg:val RM6 c 10=gv (!x6) (.bool x9):=hF 10 (by decide)
 have hw:=wgv ho (want:=true) rfl hg
 have ec:=evc c
 have ef:=evf c
 cases x6<;>cases x9
 all_goals
  try (dsimp only [gv,not,and,or,cond] at e76 e81)
  first
   | exact does_not ho (hw.trans rfl) rfl
   | (refine does_value ho (hw.trans rfl) (v:=.bool x22) ?_ rfl (Below.refl _ _)
      generalize c.eval=ρ at *
      clear hF hb hW hw ho hg
      go_simp)
theorem oM6_23 (p kb ko kl kc j:Nat) (y z:ByteArray) (x5 x6 x9 x22 x23 x24:Bool) (Q:Exit→Act→World→Prop) (c:Act) (w:World) (hr:x23=(x9&&x22)) (hb:BaseM6 p kb ko kl kc j y z x5 x6 x9 x22 x23 x24 c) (hW:WorldM6 p kb ko kl kc j y z x5 x6 x9 x22 x23 x24 w) (hF:∀ q0 ∈ ancM6 23,factsAt (factsM6 p kb ko kl kc j y z x5 x6 x9 x22 x23 x24) q0 (val RM6 c q0) w) :
  Does Tryz.prog RM6 Q (factsAt (factsM6 p kb ko kl kc j y z x5 x6 x9 x22 x23 x24)) 23 c w:=by
 have ho:RM6[23]?=some (⟨some 83,.pick (.tmp 70) (.tmp 82) (.const (Value.bool false)),4, "ref.go:70",#[⟨10,.data⟩,⟨22,.data⟩,⟨7,.guard⟩],some (7,false)⟩:Oper):=by kernel_rfl
 have e70:c.eval (.tmp 70)=gv (!x6) (.bool x9):=fact_eq (by kernel_rfl) rfl (hF 10 (by decide))
 have e82:c.eval (.tmp 82)=gv (!x6&&x9) (.bool x22):=fact_eq (by kernel_rfl) rfl (hF 22 (by decide))
 have hg:val RM6 c 7=gv (true) (.bool x6):=hF 7 (by decide)
 have hw:=wgv ho (want:=false) rfl hg
 have ec:=evc c
 have ef:=evf c
 cases x6<;>cases x9<;>cases x22
 all_goals
  try (dsimp only [gv,not,and,or,cond] at e70 e82)
  first
   | exact does_not ho (hw.trans rfl) rfl
   | (refine does_value ho (hw.trans rfl) (v:=.bool x23) ?_ rfl (Below.refl _ _)
      generalize c.eval=ρ at *
      clear hF hb hW hw ho hg
      go_simp)
theorem oM6_24 (p kb ko kl kc j:Nat) (y z:ByteArray) (x5 x6 x9 x22 x23 x24:Bool) (Q:Exit→Act→World→Prop) (c:Act) (w:World) (hr:x24=(x6||x23)) (hb:BaseM6 p kb ko kl kc j y z x5 x6 x9 x22 x23 x24 c) (hW:WorldM6 p kb ko kl kc j y z x5 x6 x9 x22 x23 x24 w) (hF:∀ q0 ∈ ancM6 24,factsAt (factsM6 p kb ko kl kc j y z x5 x6 x9 x22 x23 x24) q0 (val RM6 c q0) w) :
  Does Tryz.prog RM6 Q (factsAt (factsM6 p kb ko kl kc j y z x5 x6 x9 x22 x23 x24)) 24 c w:=by
 have ho:RM6[24]?=some (⟨some 84,.pick (.tmp 67) (.const (Value.bool true)) (.tmp 83),4, "ref.go:70",#[⟨7,.data⟩,⟨23,.data⟩],none⟩:Oper):=by kernel_rfl
 have e67:c.eval (.tmp 67)=.bool x6:=fact_eq (by kernel_rfl) rfl (hF 7 (by decide))
 have e83:c.eval (.tmp 83)=gv (!x6) (.bool x23):=fact_eq (by kernel_rfl) rfl (hF 23 (by decide))
 have hw:=wnM6 (c:=c) ho rfl
 have ec:=evc c
 have ef:=evf c
 cases x6<;>cases x23
 all_goals
  try (dsimp only [gv,not,and,or,cond] at e67 e83)
  first
   | exact does_not ho (hw.trans rfl) rfl
   | (refine does_value ho (hw.trans rfl) (v:=.bool x24) ?_ rfl (Below.refl _ _)
      generalize c.eval=ρ at *
      clear hF hb hW hw ho
      go_simp)
end
theorem stableM6 (p kb ko kl kc j:Nat) (y z:ByteArray) (x5 x6 x9 x22 x23 x24:Bool):∀ pr ∈ factsM6 p kb ko kl kc j y z x5 x6 x9 x22 x23 x24,Stable pr:=by
 unfold factsM6
 repeat' (first | exact List.forall_mem_nil _ | refine List.forall_mem_cons.2 ⟨by first | exact eqv_stable _ | exact laid_stable _,?_⟩)
theorem allM6 (p kb ko kl kc j:Nat) (y z:ByteArray) (x5 x6 x9 x22 x23 x24:Bool) (Q:Exit→Act→World→Prop) (hr5:x5=Lib.validD y.data.toList) (hr6:x6=!x5) (hr9:x9=decide (0<(j:Int))) (hr15:x9=true→0<j) (hr16:x9=true→0<j) (hr22:x22=!Op.bytesLess z.toList y.toList) (hr23:x23=(x9&&x22)) (hr24:x24=(x6||x23)):∀ i,i<25→(fun i=>∀ c w,BaseM6 p kb ko kl kc j y z x5 x6 x9 x22 x23 x24 c→WorldM6 p kb ko kl kc j y z x5 x6 x9 x22 x23 x24 w→(∀ q0 ∈ ancM6 i,factsAt (factsM6 p kb ko kl kc j y z x5 x6 x9 x22 x23 x24) q0 (val RM6 c q0) w)→Does Tryz.prog RM6 Q (factsAt (factsM6 p kb ko kl kc j y z x5 x6 x9 x22 x23 x24)) i c w) i:=by
 refine below_succ ?_ (fun c w=>oM6_24 p kb ko kl kc j y z x5 x6 x9 x22 x23 x24 Q c w hr24)
 refine below_succ ?_ (fun c w=>oM6_23 p kb ko kl kc j y z x5 x6 x9 x22 x23 x24 Q c w hr23)
 refine below_succ ?_ (fun c w=>oM6_22 p kb ko kl kc j y z x5 x6 x9 x22 x23 x24 Q c w hr22)
 refine below_succ ?_ (fun c w=>oM6_21 p kb ko kl kc j y z x5 x6 x9 x22 x23 x24 Q c w)
 refine below_succ ?_ (fun c w=>oM6_20 p kb ko kl kc j y z x5 x6 x9 x22 x23 x24 Q c w)
 refine below_succ ?_ (fun c w=>oM6_19 p kb ko kl kc j y z x5 x6 x9 x22 x23 x24 Q c w)
 refine below_succ ?_ (fun c w=>oM6_18 p kb ko kl kc j y z x5 x6 x9 x22 x23 x24 Q c w)
 refine below_succ ?_ (fun c w=>oM6_17 p kb ko kl kc j y z x5 x6 x9 x22 x23 x24 Q c w)
 refine below_succ ?_ (fun c w=>oM6_16 p kb ko kl kc j y z x5 x6 x9 x22 x23 x24 Q c w hr16)
 refine below_succ ?_ (fun c w=>oM6_15 p kb ko kl kc j y z x5 x6 x9 x22 x23 x24 Q c w hr15)
 refine below_succ ?_ (fun c w=>oM6_14 p kb ko kl kc j y z x5 x6 x9 x22 x23 x24 Q c w)
 refine below_succ ?_ (fun c w=>oM6_13 p kb ko kl kc j y z x5 x6 x9 x22 x23 x24 Q c w)
 refine below_succ ?_ (fun c w=>oM6_12 p kb ko kl kc j y z x5 x6 x9 x22 x23 x24 Q c w)
 refine below_succ ?_ (fun c w=>oM6_11 p kb ko kl kc j y z x5 x6 x9 x22 x23 x24 Q c w)
 refine below_succ ?_ (fun c w=>oM6_10 p kb ko kl kc j y z x5 x6 x9 x22 x23 x24 Q c w)
 refine below_succ ?_ (fun c w=>oM6_9 p kb ko kl kc j y z x5 x6 x9 x22 x23 x24 Q c w hr9)
 refine below_succ ?_ (fun c w=>oM6_8 p kb ko kl kc j y z x5 x6 x9 x22 x23 x24 Q c w)
 refine below_succ ?_ (fun c w=>oM6_7 p kb ko kl kc j y z x5 x6 x9 x22 x23 x24 Q c w)
 refine below_succ ?_ (fun c w=>oM6_6 p kb ko kl kc j y z x5 x6 x9 x22 x23 x24 Q c w hr6)
 refine below_succ ?_ (fun c w=>oM6_5 p kb ko kl kc j y z x5 x6 x9 x22 x23 x24 Q c w hr5)
 refine below_succ ?_ (fun c w=>oM6_4 p kb ko kl kc j y z x5 x6 x9 x22 x23 x24 Q c w)
 refine below_succ ?_ (fun c w=>oM6_3 p kb ko kl kc j y z x5 x6 x9 x22 x23 x24 Q c w)
 refine below_succ ?_ (fun c w=>oM6_2 p kb ko kl kc j y z x5 x6 x9 x22 x23 x24 Q c w)
 refine below_succ ?_ (fun c w=>oM6_1 p kb ko kl kc j y z x5 x6 x9 x22 x23 x24 Q c w)
 refine below_succ ?_ (fun c w=>oM6_0 p kb ko kl kc j y z x5 x6 x9 x22 x23 x24 Q c w)
 exact below_zero
theorem regionM6 (p kb ko kl kc j:Nat) (y z:ByteArray) (x5 x6 x9 x22 x23 x24:Bool) (Q:Exit→Act→World→Prop) (base:Act) (w0:World) (hr5:x5=Lib.validD y.data.toList) (hr6:x6=!x5) (hr9:x9=decide (0<(j:Int))) (hr15:x9=true→0<j) (hr16:x9=true→0<j) (hr22:x22=!Op.bytesLess z.toList y.toList) (hr23:x23=(x9&&x22)) (hr24:x24=(x6||x23)) (hsz:base.tmps.size=99) (hb:BaseM6 p kb ko kl kc j y z x5 x6 x9 x22 x23 x24 base)
  (hW:∀ w,Below w0.heap.size w0 w→WorldM6 p kb ko kl kc j y z x5 x6 x9 x22 x23 x24 w) (hQ:∀ c w,Same RM6 base c→Below w0.heap.size w0 w→c.eval (.tmp 84)=.bool x24→Q .normal c w):(Code.region 6 RM6 true).wp Tryz.prog Q base w0:=by
 refine facts_rule (A:=ancM6) (F:=factsAt (factsM6 p kb ko kl kc j y z x5 x6 x9 x22 x23 x24)) (by kernel_rfl) (by rw [hsz];kernel_rfl) (fun i v w w'=>factsAt_stable (stableM6 p kb ko kl kc j y z x5 x6 x9 x22 x23 x24) i v w w') ?_ ?_
 ·intro i hi c w hS hB hF
  exact allM6 p kb ko kl kc j y z x5 x6 x9 x22 x23 x24 Q hr5 hr6 hr9 hr15 hr16 hr22 hr23 hr24 i (by rwa [show RM6.size=25 by kernel_rfl] at hi) c w ⟨(same_eval hS (by kernel_rfl)).trans hb.t1,(same_eval hS (by kernel_rfl)).trans hb.t3⟩ (hW w hB) hF
 ·intro c w hS hB hF
  exact hQ c w hS hB (fact_at (p:=eqv (.bool x24)) (by kernel_rfl) rfl (hF 24 (by rw [show RM6.size=25 by kernel_rfl];omega)))
end Go.Proofs.YteddjlbfbpecjaaGreatDoor
