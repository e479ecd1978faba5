/- A statement that reads, calls and lays rows of its own: operation by operation, in whatever order. -/
import Derived.Test.YteddjlbfbpecjaaGreatDoorJoin27
import Derived.Test.YteddjlbfbpecjaaGreatDoorJoin30
import Derived.Test.YteddjlbfbpecjaaGreatDoorJoin36
import Derived.Test.YteddjlbfbpecjaaGreatDoorJoin33
namespace Go.Proofs.YteddjlbfbpecjaaGreatDoor
section
open Go.RowKit Go.WideShapes Go.Shelf
set_option maxRecDepth 100000
set_option linter.all false
noncomputable def Zba  : Array Oper:=Jg Tryz.f5 6
def Zcl (i:Nat):List Nat:=([[],[],[0,1],[2],[3],[4],[],[],[6,7],[8],[9],[10],[5,11],[12]]:List (List Nat)).getD i []
def Jf (bl off n cap j:Nat) (a0 a1 a2 d0 d1 d2 d3 d4:Value) (vb:Bool):List (Value→World→Prop) :=
 [eqv (.slice (some ⟨bl,off,none⟩) n cap),eqv (.int .i64 (j:Int)),eqv (.pointer (some ⟨bl,off+j*11,none⟩)),eqv (.pointer (some ⟨bl,off+j*11+3,none⟩)),eqv (.agg #[a0,a1,a2]),fun v w=>∃ p,v=.slice (some ⟨p,0,none⟩) 1 1∧Rec w p #[a0,a1,a2] 47,eqv (.slice (some ⟨bl,off,none⟩) n cap),eqv (.int .i64 (j:Int)),eqv (.pointer (some ⟨bl,off+j*11,none⟩)),eqv (.pointer (some ⟨bl,off+j*11+6,none⟩)),eqv (.agg #[d0,d1,d2,d3,d4]),fun v w=>∃ p,v=.slice (some ⟨p,0,none⟩) 1 1∧Rec w p #[d0,d1,d2,d3,d4] 49,fun v w=>∃ p q,v=.agg #[.slice (some ⟨p,0,none⟩) 1 1,.slice (some ⟨q,0,none⟩) 1 1,.int .i64 0,.int .i64 0]∧Rec w p #[a0,a1,a2] 47∧Rec w q #[d0,d1,d2,d3,d4] 49,eqv (.bool vb)]
structure Zbf (bl off n cap j:Nat) (a0 a1 a2 d0 d1 d2 d3 d4:Value) (vb:Bool) (c:Act):Prop where
 t1:c.eval (.tmp 1)=.slice (some ⟨bl,off,none⟩) n cap
 t5:c.eval (.tmp 5)=.int .i64 (j:Int)
structure Zaq (bl off n cap j:Nat) (a0 a1 a2 d0 d1 d2 d3 d4:Value) (vb:Bool) (w:World):Prop where
 lt:j<n
 le:n≤9223372036854775807
 c3:w.cell? ⟨bl,off+j*11+3,none⟩=some (a0)
 c4:w.cell? ⟨bl,off+j*11+4,none⟩=some (a1)
 c5:w.cell? ⟨bl,off+j*11+5,none⟩=some (a2)
 c6:w.cell? ⟨bl,off+j*11+6,none⟩=some (d0)
 c7:w.cell? ⟨bl,off+j*11+7,none⟩=some (d1)
 c8:w.cell? ⟨bl,off+j*11+8,none⟩=some (d2)
 c9:w.cell? ⟨bl,off+j*11+9,none⟩=some (d3)
 c10:w.cell? ⟨bl,off+j*11+10,none⟩=some (d4)
 k13:∀ p q,Rec w p #[a0,a1,a2] 47→Rec w q #[d0,d1,d2,d3,d4] 49→Calls Tryz.prog 9 #[.agg #[.slice (some ⟨p,0,none⟩) 1 1,.slice (some ⟨q,0,none⟩) 1 1,.int .i64 0,.int .i64 0]] w fun e w'=>e=.returned (.bool vb)∧Below w.heap.size w w'
theorem Jej (bl off n cap j:Nat) (a0 a1 a2 d0 d1 d2 d3 d4:Value) (vb:Bool) (Q:Exit→Act→World→Prop) (c:Act) (w:World) (hb:Zbf bl off n cap j a0 a1 a2 d0 d1 d2 d3 d4 vb c) (hW:Zaq bl off n cap j a0 a1 a2 d0 d1 d2 d3 d4 vb w) (hF:∀ q0 ∈ Zcl 0,Zf (Jf bl off n cap j a0 a1 a2 d0 d1 d2 d3 d4 vb) q0 (val Zba c q0) w) :
  Zak Tryz.prog Zba Q (Zf (Jf bl off n cap j a0 a1 a2 d0 d1 d2 d3 d4 vb)) 0 c w:=by
 have ho:Zba[0]?=some (⟨some 25,.move (.tmp 1),36, "law.go:93",#[],none⟩:Oper):=by kernel_rfl
 have e1:=hb.t1
 have hw:Region.wanted (⟨some 25,.move (.tmp 1),36, "law.go:93",#[],none⟩:Oper) (yielded Zba c.tmps)=true:=Zn rfl
 have ec:=evc c
 have ef:=evf c
 refine Ze ho hw (v:=.slice (some ⟨bl,off,none⟩) n cap) ?_ rfl (Below.refl _ _)
 generalize c.eval=ρ at *
 clear hF hb hW hw ho
 go_simp
theorem Jek (bl off n cap j:Nat) (a0 a1 a2 d0 d1 d2 d3 d4:Value) (vb:Bool) (Q:Exit→Act→World→Prop) (c:Act) (w:World) (hb:Zbf bl off n cap j a0 a1 a2 d0 d1 d2 d3 d4 vb c) (hW:Zaq bl off n cap j a0 a1 a2 d0 d1 d2 d3 d4 vb w) (hF:∀ q0 ∈ Zcl 1,Zf (Jf bl off n cap j a0 a1 a2 d0 d1 d2 d3 d4 vb) q0 (val Zba c q0) w) :
  Zak Tryz.prog Zba Q (Zf (Jf bl off n cap j a0 a1 a2 d0 d1 d2 d3 d4 vb)) 1 c w:=by
 have ho:Zba[1]?=some (⟨some 26,.move (.tmp 5),3, "law.go:93",#[],none⟩:Oper):=by kernel_rfl
 have e5:=hb.t5
 have hw:Region.wanted (⟨some 26,.move (.tmp 5),3, "law.go:93",#[],none⟩:Oper) (yielded Zba c.tmps)=true:=Zn rfl
 have ec:=evc c
 have ef:=evf c
 refine Ze ho hw (v:=.int .i64 (j:Int)) ?_ rfl (Below.refl _ _)
 generalize c.eval=ρ at *
 clear hF hb hW hw ho
 go_simp
theorem Jel (bl off n cap j:Nat) (a0 a1 a2 d0 d1 d2 d3 d4:Value) (vb:Bool) (Q:Exit→Act→World→Prop) (c:Act) (w:World) (hb:Zbf bl off n cap j a0 a1 a2 d0 d1 d2 d3 d4 vb c) (hW:Zaq bl off n cap j a0 a1 a2 d0 d1 d2 d3 d4 vb w) (hF:∀ q0 ∈ Zcl 2,Zf (Jf bl off n cap j a0 a1 a2 d0 d1 d2 d3 d4 vb) q0 (val Zba c q0) w) :
  Zak Tryz.prog Zba Q (Zf (Jf bl off n cap j a0 a1 a2 d0 d1 d2 d3 d4 vb)) 2 c w:=by
 have ho:Zba[2]?=some (⟨some 27,.indexAddr 36 (.tmp 25) (.tmp 26),0, "law.go:93",#[⟨0,.data⟩,⟨1,.data⟩],none⟩:Oper):=by kernel_rfl
 have e25:c.eval (.tmp 25)=.slice (some ⟨bl,off,none⟩) n cap:=Zi (by kernel_rfl) rfl (hF 0 (by decide))
 have e26:c.eval (.tmp 26)=.int .i64 (j:Int):=Zi (by kernel_rfl) rfl (hF 1 (by decide))
 have hw:Region.wanted (⟨some 27,.indexAddr 36 (.tmp 25) (.tmp 26),0, "law.go:93",#[⟨0,.data⟩,⟨1,.data⟩],none⟩:Oper) (yielded Zba c.tmps)=true:=Zn rfl
 have ec:=evc c
 have ef:=evf c
 have lt:=hW.lt
 have le:=hW.le
 refine Ze ho hw (v:=.pointer (some ⟨bl,off+j*11,none⟩)) ?_ rfl (Below.refl _ _)
 generalize c.eval=ρ at *
 clear hF hb hW hw ho
 go_simp
theorem Jem (bl off n cap j:Nat) (a0 a1 a2 d0 d1 d2 d3 d4:Value) (vb:Bool) (Q:Exit→Act→World→Prop) (c:Act) (w:World) (hb:Zbf bl off n cap j a0 a1 a2 d0 d1 d2 d3 d4 vb c) (hW:Zaq bl off n cap j a0 a1 a2 d0 d1 d2 d3 d4 vb w) (hF:∀ q0 ∈ Zcl 3,Zf (Jf bl off n cap j a0 a1 a2 d0 d1 d2 d3 d4 vb) q0 (val Zba c q0) w) :
  Zak Tryz.prog Zba Q (Zf (Jf bl off n cap j a0 a1 a2 d0 d1 d2 d3 d4 vb)) 3 c w:=by
 have ho:Zba[3]?=some (⟨some 28,.fieldAddr 51 (.tmp 27) 3,0, "law.go:93",#[⟨2,.data⟩],none⟩:Oper):=by kernel_rfl
 have e27:c.eval (.tmp 27)=.pointer (some ⟨bl,off+j*11,none⟩):=Zi (by kernel_rfl) rfl (hF 2 (by decide))
 have hw:Region.wanted (⟨some 28,.fieldAddr 51 (.tmp 27) 3,0, "law.go:93",#[⟨2,.data⟩],none⟩:Oper) (yielded Zba c.tmps)=true:=Zn rfl
 have ec:=evc c
 have ef:=evf c
 refine Ze ho hw (v:=.pointer (some ⟨bl,off+j*11+3,none⟩)) ?_ rfl (Below.refl _ _)
 generalize c.eval=ρ at *
 clear hF hb hW hw ho
 go_simp
theorem Jen (bl off n cap j:Nat) (a0 a1 a2 d0 d1 d2 d3 d4:Value) (vb:Bool) (Q:Exit→Act→World→Prop) (c:Act) (w:World) (hb:Zbf bl off n cap j a0 a1 a2 d0 d1 d2 d3 d4 vb c) (hW:Zaq bl off n cap j a0 a1 a2 d0 d1 d2 d3 d4 vb w) (hF:∀ q0 ∈ Zcl 4,Zf (Jf bl off n cap j a0 a1 a2 d0 d1 d2 d3 d4 vb) q0 (val Zba c q0) w) :
  Zak Tryz.prog Zba Q (Zf (Jf bl off n cap j a0 a1 a2 d0 d1 d2 d3 d4 vb)) 4 c w:=by
 have ho:Zba[4]?=some (⟨some 29,.load 47 (.tmp 28),47, "law.go:93",#[⟨3,.data⟩],none⟩:Oper):=by kernel_rfl
 have e28:c.eval (.tmp 28)=.pointer (some ⟨bl,off+j*11+3,none⟩):=Zi (by kernel_rfl) rfl (hF 3 (by decide))
 have hw:Region.wanted (⟨some 29,.load 47 (.tmp 28),47, "law.go:93",#[⟨3,.data⟩],none⟩:Oper) (yielded Zba c.tmps)=true:=Zn rfl
 have ec:=evc c
 have ef:=evf c
 have c3:=hW.c3
 have c4:=hW.c4
 have c5:=hW.c5
 refine Ze ho hw (v:=.agg #[a0,a1,a2]) ?_ rfl (Below.refl _ _)
 generalize c.eval=ρ at *
 clear hF hb hW hw ho
 go_simp
theorem Jeo (bl off n cap j:Nat) (a0 a1 a2 d0 d1 d2 d3 d4:Value) (vb:Bool) (Q:Exit→Act→World→Prop) (c:Act) (w:World) (hb:Zbf bl off n cap j a0 a1 a2 d0 d1 d2 d3 d4 vb c) (hW:Zaq bl off n cap j a0 a1 a2 d0 d1 d2 d3 d4 vb w) (hF:∀ q0 ∈ Zcl 5,Zf (Jf bl off n cap j a0 a1 a2 d0 d1 d2 d3 d4 vb) q0 (val Zba c q0) w) :
  Zak Tryz.prog Zba Q (Zf (Jf bl off n cap j a0 a1 a2 d0 d1 d2 d3 d4 vb)) 5 c w:=by
 have ho:Zba[5]?=some (⟨some 30,.buildSlice 22 1 #[(0,.tmp 29)],22, "law.go:93",#[⟨4,.data⟩],none⟩:Oper):=by kernel_rfl
 have e29:c.eval (.tmp 29)=.agg #[a0,a1,a2]:=Zi (by kernel_rfl) rfl (hF 4 (by decide))
 have hw:Region.wanted (⟨some 30,.buildSlice 22 1 #[(0,.tmp 29)],22, "law.go:93",#[⟨4,.data⟩],none⟩:Oper) (yielded Zba c.tmps)=true:=Zn rfl
 have ec:=evc c
 have ef:=evf c
 refine Ze ho hw (v:=.slice (some ⟨w.heap.size,0,none⟩) 1 1) (w':=w.alloc (.cells #[a0,a1,a2] 47)) ?_ ⟨w.heap.size,rfl,Zl _ _ _⟩ ((Below.refl _ _).alloc (Nat.le_refl _) _)
 generalize c.eval=ρ at *
 clear hF hb hW hw ho
 go_simp
theorem Jep (bl off n cap j:Nat) (a0 a1 a2 d0 d1 d2 d3 d4:Value) (vb:Bool) (Q:Exit→Act→World→Prop) (c:Act) (w:World) (hb:Zbf bl off n cap j a0 a1 a2 d0 d1 d2 d3 d4 vb c) (hW:Zaq bl off n cap j a0 a1 a2 d0 d1 d2 d3 d4 vb w) (hF:∀ q0 ∈ Zcl 6,Zf (Jf bl off n cap j a0 a1 a2 d0 d1 d2 d3 d4 vb) q0 (val Zba c q0) w) :
  Zak Tryz.prog Zba Q (Zf (Jf bl off n cap j a0 a1 a2 d0 d1 d2 d3 d4 vb)) 6 c w:=by
 have ho:Zba[6]?=some (⟨some 31,.move (.tmp 1),36, "law.go:93",#[],none⟩:Oper):=by kernel_rfl
 have e1:=hb.t1
 have hw:Region.wanted (⟨some 31,.move (.tmp 1),36, "law.go:93",#[],none⟩:Oper) (yielded Zba c.tmps)=true:=Zn rfl
 have ec:=evc c
 have ef:=evf c
 refine Ze ho hw (v:=.slice (some ⟨bl,off,none⟩) n cap) ?_ rfl (Below.refl _ _)
 generalize c.eval=ρ at *
 clear hF hb hW hw ho
 go_simp
theorem Jeq (bl off n cap j:Nat) (a0 a1 a2 d0 d1 d2 d3 d4:Value) (vb:Bool) (Q:Exit→Act→World→Prop) (c:Act) (w:World) (hb:Zbf bl off n cap j a0 a1 a2 d0 d1 d2 d3 d4 vb c) (hW:Zaq bl off n cap j a0 a1 a2 d0 d1 d2 d3 d4 vb w) (hF:∀ q0 ∈ Zcl 7,Zf (Jf bl off n cap j a0 a1 a2 d0 d1 d2 d3 d4 vb) q0 (val Zba c q0) w) :
  Zak Tryz.prog Zba Q (Zf (Jf bl off n cap j a0 a1 a2 d0 d1 d2 d3 d4 vb)) 7 c w:=by
 have ho:Zba[7]?=some (⟨some 32,.move (.tmp 5),3, "law.go:93",#[],none⟩:Oper):=by kernel_rfl
 have e5:=hb.t5
 have hw:Region.wanted (⟨some 32,.move (.tmp 5),3, "law.go:93",#[],none⟩:Oper) (yielded Zba c.tmps)=true:=Zn rfl
 have ec:=evc c
 have ef:=evf c
 refine Ze ho hw (v:=.int .i64 (j:Int)) ?_ rfl (Below.refl _ _)
 generalize c.eval=ρ at *
 clear hF hb hW hw ho
 go_simp
theorem Jer (bl off n cap j:Nat) (a0 a1 a2 d0 d1 d2 d3 d4:Value) (vb:Bool) (Q:Exit→Act→World→Prop) (c:Act) (w:World) (hb:Zbf bl off n cap j a0 a1 a2 d0 d1 d2 d3 d4 vb c) (hW:Zaq bl off n cap j a0 a1 a2 d0 d1 d2 d3 d4 vb w) (hF:∀ q0 ∈ Zcl 8,Zf (Jf bl off n cap j a0 a1 a2 d0 d1 d2 d3 d4 vb) q0 (val Zba c q0) w) :
  Zak Tryz.prog Zba Q (Zf (Jf bl off n cap j a0 a1 a2 d0 d1 d2 d3 d4 vb)) 8 c w:=by
 have ho:Zba[8]?=some (⟨some 33,.indexAddr 36 (.tmp 31) (.tmp 32),0, "law.go:93",#[⟨6,.data⟩,⟨7,.data⟩],none⟩:Oper):=by kernel_rfl
 have e31:c.eval (.tmp 31)=.slice (some ⟨bl,off,none⟩) n cap:=Zi (by kernel_rfl) rfl (hF 6 (by decide))
 have e32:c.eval (.tmp 32)=.int .i64 (j:Int):=Zi (by kernel_rfl) rfl (hF 7 (by decide))
 have hw:Region.wanted (⟨some 33,.indexAddr 36 (.tmp 31) (.tmp 32),0, "law.go:93",#[⟨6,.data⟩,⟨7,.data⟩],none⟩:Oper) (yielded Zba c.tmps)=true:=Zn rfl
 have ec:=evc c
 have ef:=evf c
 have lt:=hW.lt
 have le:=hW.le
 refine Ze ho hw (v:=.pointer (some ⟨bl,off+j*11,none⟩)) ?_ rfl (Below.refl _ _)
 generalize c.eval=ρ at *
 clear hF hb hW hw ho
 go_simp
theorem Jes (bl off n cap j:Nat) (a0 a1 a2 d0 d1 d2 d3 d4:Value) (vb:Bool) (Q:Exit→Act→World→Prop) (c:Act) (w:World) (hb:Zbf bl off n cap j a0 a1 a2 d0 d1 d2 d3 d4 vb c) (hW:Zaq bl off n cap j a0 a1 a2 d0 d1 d2 d3 d4 vb w) (hF:∀ q0 ∈ Zcl 9,Zf (Jf bl off n cap j a0 a1 a2 d0 d1 d2 d3 d4 vb) q0 (val Zba c q0) w) :
  Zak Tryz.prog Zba Q (Zf (Jf bl off n cap j a0 a1 a2 d0 d1 d2 d3 d4 vb)) 9 c w:=by
 have ho:Zba[9]?=some (⟨some 34,.fieldAddr 51 (.tmp 33) 4,0, "law.go:93",#[⟨8,.data⟩],none⟩:Oper):=by kernel_rfl
 have e33:c.eval (.tmp 33)=.pointer (some ⟨bl,off+j*11,none⟩):=Zi (by kernel_rfl) rfl (hF 8 (by decide))
 have hw:Region.wanted (⟨some 34,.fieldAddr 51 (.tmp 33) 4,0, "law.go:93",#[⟨8,.data⟩],none⟩:Oper) (yielded Zba c.tmps)=true:=Zn rfl
 have ec:=evc c
 have ef:=evf c
 refine Ze ho hw (v:=.pointer (some ⟨bl,off+j*11+6,none⟩)) ?_ rfl (Below.refl _ _)
 generalize c.eval=ρ at *
 clear hF hb hW hw ho
 go_simp
theorem Ja3 (bl off n cap j:Nat) (a0 a1 a2 d0 d1 d2 d3 d4:Value) (vb:Bool) (Q:Exit→Act→World→Prop) (c:Act) (w:World) (hb:Zbf bl off n cap j a0 a1 a2 d0 d1 d2 d3 d4 vb c) (hW:Zaq bl off n cap j a0 a1 a2 d0 d1 d2 d3 d4 vb w) (hF:∀ q0 ∈ Zcl 10,Zf (Jf bl off n cap j a0 a1 a2 d0 d1 d2 d3 d4 vb) q0 (val Zba c q0) w) :
  Zak Tryz.prog Zba Q (Zf (Jf bl off n cap j a0 a1 a2 d0 d1 d2 d3 d4 vb)) 10 c w:=by
 have ho:Zba[10]?=some (⟨some 35,.load 49 (.tmp 34),49, "law.go:93",#[⟨9,.data⟩],none⟩:Oper):=by kernel_rfl
 have e34:c.eval (.tmp 34)=.pointer (some ⟨bl,off+j*11+6,none⟩):=Zi (by kernel_rfl) rfl (hF 9 (by decide))
 have hw:Region.wanted (⟨some 35,.load 49 (.tmp 34),49, "law.go:93",#[⟨9,.data⟩],none⟩:Oper) (yielded Zba c.tmps)=true:=Zn rfl
 have ec:=evc c
 have ef:=evf c
 have c6:=hW.c6
 have c7:=hW.c7
 have c8:=hW.c8
 have c9:=hW.c9
 have c10:=hW.c10
 refine Ze ho hw (v:=.agg #[d0,d1,d2,d3,d4]) ?_ rfl (Below.refl _ _)
 generalize c.eval=ρ at *
 clear hF hb hW hw ho
 go_simp
theorem Ja4 (bl off n cap j:Nat) (a0 a1 a2 d0 d1 d2 d3 d4:Value) (vb:Bool) (Q:Exit→Act→World→Prop) (c:Act) (w:World) (hb:Zbf bl off n cap j a0 a1 a2 d0 d1 d2 d3 d4 vb c) (hW:Zaq bl off n cap j a0 a1 a2 d0 d1 d2 d3 d4 vb w) (hF:∀ q0 ∈ Zcl 11,Zf (Jf bl off n cap j a0 a1 a2 d0 d1 d2 d3 d4 vb) q0 (val Zba c q0) w) :
  Zak Tryz.prog Zba Q (Zf (Jf bl off n cap j a0 a1 a2 d0 d1 d2 d3 d4 vb)) 11 c w:=by
 have ho:Zba[11]?=some (⟨some 36,.buildSlice 23 1 #[(0,.tmp 35)],23, "law.go:93",#[⟨10,.data⟩],none⟩:Oper):=by kernel_rfl
 have e35:c.eval (.tmp 35)=.agg #[d0,d1,d2,d3,d4]:=Zi (by kernel_rfl) rfl (hF 10 (by decide))
 have hw:Region.wanted (⟨some 36,.buildSlice 23 1 #[(0,.tmp 35)],23, "law.go:93",#[⟨10,.data⟩],none⟩:Oper) (yielded Zba c.tmps)=true:=Zn rfl
 have ec:=evc c
 have ef:=evf c
 refine Ze ho hw (v:=.slice (some ⟨w.heap.size,0,none⟩) 1 1) (w':=w.alloc (.cells #[d0,d1,d2,d3,d4] 49)) ?_ ⟨w.heap.size,rfl,Zl _ _ _⟩ ((Below.refl _ _).alloc (Nat.le_refl _) _)
 generalize c.eval=ρ at *
 clear hF hb hW hw ho
 go_simp
theorem Ja5 (bl off n cap j:Nat) (a0 a1 a2 d0 d1 d2 d3 d4:Value) (vb:Bool) (Q:Exit→Act→World→Prop) (c:Act) (w:World) (hb:Zbf bl off n cap j a0 a1 a2 d0 d1 d2 d3 d4 vb c) (hW:Zaq bl off n cap j a0 a1 a2 d0 d1 d2 d3 d4 vb w) (hF:∀ q0 ∈ Zcl 12,Zf (Jf bl off n cap j a0 a1 a2 d0 d1 d2 d3 d4 vb) q0 (val Zba c q0) w) :
  Zak Tryz.prog Zba Q (Zf (Jf bl off n cap j a0 a1 a2 d0 d1 d2 d3 d4 vb)) 12 c w:=by
 have ho:Zba[12]?=some (⟨some 37,.build 25 #[(0,.tmp 30),(1,.tmp 36)],25, "law.go:93",#[⟨5,.data⟩,⟨11,.data⟩],none⟩:Oper):=by kernel_rfl
 have e30:c.eval (.tmp 30)=val Zba c 5:=(Zjs (show Zu Zba 5=some 30 by kernel_rfl)).symm
 have e36:c.eval (.tmp 36)=val Zba c 11:=(Zjs (show Zu Zba 11=some 36 by kernel_rfl)).symm
 have hw:Region.wanted (⟨some 37,.build 25 #[(0,.tmp 30),(1,.tmp 36)],25, "law.go:93",#[⟨5,.data⟩,⟨11,.data⟩],none⟩:Oper) (yielded Zba c.tmps)=true:=Zn rfl
 have ec:=evc c
 have ef:=evf c
 obtain ⟨p,ep,hp⟩:=(Je (p:=fun v w=>∃ p,v=.slice (some ⟨p,0,none⟩) 1 1∧Rec w p #[a0,a1,a2] 47) (by kernel_rfl) rfl (hF 5 (by decide)):(fun v w=>∃ p,v=.slice (some ⟨p,0,none⟩) 1 1∧Rec w p #[a0,a1,a2] 47) (c.eval (.tmp 30)) w)
 obtain ⟨q,eq,hq⟩:=(Je (p:=fun v w=>∃ p,v=.slice (some ⟨p,0,none⟩) 1 1∧Rec w p #[d0,d1,d2,d3,d4] 49) (by kernel_rfl) rfl (hF 11 (by decide)):(fun v w=>∃ p,v=.slice (some ⟨p,0,none⟩) 1 1∧Rec w p #[d0,d1,d2,d3,d4] 49) (c.eval (.tmp 36)) w)
 refine Ze ho hw (v:=.agg #[.slice (some ⟨p,0,none⟩) 1 1,.slice (some ⟨q,0,none⟩) 1 1,.int .i64 0,.int .i64 0]) ?_ ⟨p,q,rfl,hp,hq⟩ (Below.refl _ _)
 clear e30 e36
 generalize c.eval=ρ at *
 clear hp hq
 clear hF hb hW hw ho
 go_simp
theorem Ja6 (bl off n cap j:Nat) (a0 a1 a2 d0 d1 d2 d3 d4:Value) (vb:Bool) (Q:Exit→Act→World→Prop) (c:Act) (w:World) (hb:Zbf bl off n cap j a0 a1 a2 d0 d1 d2 d3 d4 vb c) (hW:Zaq bl off n cap j a0 a1 a2 d0 d1 d2 d3 d4 vb w) (hF:∀ q0 ∈ Zcl 13,Zf (Jf bl off n cap j a0 a1 a2 d0 d1 d2 d3 d4 vb) q0 (val Zba c q0) w) :
  Zak Tryz.prog Zba Q (Zf (Jf bl off n cap j a0 a1 a2 d0 d1 d2 d3 d4 vb)) 13 c w:=by
 have ho:Zba[13]?=some (⟨some 38,.call { callee:=.value (.func 9),args:=#[.tmp 37],argTypes:=#[25] },4, "law.go:93",#[⟨12,.data⟩],none⟩:Oper):=by kernel_rfl
 have e37:c.eval (.tmp 37)=val Zba c 12:=(Zjs (show Zu Zba 12=some 37 by kernel_rfl)).symm
 have hw:Region.wanted (⟨some 38,.call { callee:=.value (.func 9),args:=#[.tmp 37],argTypes:=#[25] },4, "law.go:93",#[⟨12,.data⟩],none⟩:Oper) (yielded Zba c.tmps)=true:=Zn rfl
 have ec:=evc c
 have ef:=evf c
 obtain ⟨p,q,eg,hp,hq⟩:=(Je (p:=fun v w=>∃ p q,v=.agg #[.slice (some ⟨p,0,none⟩) 1 1,.slice (some ⟨q,0,none⟩) 1 1,.int .i64 0,.int .i64 0]∧Rec w p #[a0,a1,a2] 47∧Rec w q #[d0,d1,d2,d3,d4] 49) (by kernel_rfl) rfl (hF 12 (by decide)):(fun v w=>∃ p q,v=.agg #[.slice (some ⟨p,0,none⟩) 1 1,.slice (some ⟨q,0,none⟩) 1 1,.int .i64 0,.int .i64 0]∧Rec w p #[a0,a1,a2] 47∧Rec w q #[d0,d1,d2,d3,d4] 49) (c.eval (.tmp 37)) w)
 have hk:=hW.k13 p q hp hq
 refine Zcd ho hw (f:=9) (args:=#[.agg #[.slice (some ⟨p,0,none⟩) 1 1,.slice (some ⟨q,0,none⟩) 1 1,.int .i64 0,.int .i64 0]]) ?_ (Calls.mono hk fun e w' ⟨h1,h2⟩=>⟨_,h1,rfl,h2⟩)
 clear e37
 generalize c.eval=ρ at *
 clear hp hq hk
 clear hF hb hW hw ho
 go_simp
theorem Zvr (bl off n cap j:Nat) (a0 a1 a2 d0 d1 d2 d3 d4:Value) (vb:Bool):∀ pr ∈ Jf bl off n cap j a0 a1 a2 d0 d1 d2 d3 d4 vb,Zbv pr:=by
 unfold Jf
 refine List.forall_mem_cons.2 ⟨Jb _,?_⟩
 refine List.forall_mem_cons.2 ⟨Jb _,?_⟩
 refine List.forall_mem_cons.2 ⟨Jb _,?_⟩
 refine List.forall_mem_cons.2 ⟨Jb _,?_⟩
 refine List.forall_mem_cons.2 ⟨Jb _,?_⟩
 refine List.forall_mem_cons.2 ⟨fun v w w' ⟨p,h,hr⟩ hb=>⟨p,h,hr.below hb hr.lt⟩,?_⟩
 refine List.forall_mem_cons.2 ⟨Jb _,?_⟩
 refine List.forall_mem_cons.2 ⟨Jb _,?_⟩
 refine List.forall_mem_cons.2 ⟨Jb _,?_⟩
 refine List.forall_mem_cons.2 ⟨Jb _,?_⟩
 refine List.forall_mem_cons.2 ⟨Jb _,?_⟩
 refine List.forall_mem_cons.2 ⟨fun v w w' ⟨p,h,hr⟩ hb=>⟨p,h,hr.below hb hr.lt⟩,?_⟩
 refine List.forall_mem_cons.2 ⟨fun v w w' ⟨p,q,h,hr,hs⟩ hb=>⟨p,q,h,hr.below hb hr.lt,hs.below hb hs.lt⟩,?_⟩
 refine List.forall_mem_cons.2 ⟨Jb _,?_⟩
 exact List.forall_mem_nil _
theorem Jet (bl off n cap j:Nat) (a0 a1 a2 d0 d1 d2 d3 d4:Value) (vb:Bool) (Q:Exit→Act→World→Prop):∀ i,i<14→(fun i=>∀ c w,Zbf bl off n cap j a0 a1 a2 d0 d1 d2 d3 d4 vb c→Zaq bl off n cap j a0 a1 a2 d0 d1 d2 d3 d4 vb w→(∀ q0 ∈ Zcl i,Zf (Jf bl off n cap j a0 a1 a2 d0 d1 d2 d3 d4 vb) q0 (val Zba c q0) w)→Zak Tryz.prog Zba Q (Zf (Jf bl off n cap j a0 a1 a2 d0 d1 d2 d3 d4 vb)) i c w) i:=by
 refine Zd ?_ (fun c w=>Ja6 bl off n cap j a0 a1 a2 d0 d1 d2 d3 d4 vb Q c w)
 refine Zd ?_ (fun c w=>Ja5 bl off n cap j a0 a1 a2 d0 d1 d2 d3 d4 vb Q c w)
 refine Zd ?_ (fun c w=>Ja4 bl off n cap j a0 a1 a2 d0 d1 d2 d3 d4 vb Q c w)
 refine Zd ?_ (fun c w=>Ja3 bl off n cap j a0 a1 a2 d0 d1 d2 d3 d4 vb Q c w)
 refine Zd ?_ (fun c w=>Jes bl off n cap j a0 a1 a2 d0 d1 d2 d3 d4 vb Q c w)
 refine Zd ?_ (fun c w=>Jer bl off n cap j a0 a1 a2 d0 d1 d2 d3 d4 vb Q c w)
 refine Zd ?_ (fun c w=>Jeq bl off n cap j a0 a1 a2 d0 d1 d2 d3 d4 vb Q c w)
 refine Zd ?_ (fun c w=>Jep bl off n cap j a0 a1 a2 d0 d1 d2 d3 d4 vb Q c w)
 refine Zd ?_ (fun c w=>Jeo bl off n cap j a0 a1 a2 d0 d1 d2 d3 d4 vb Q c w)
 refine Zd ?_ (fun c w=>Jen bl off n cap j a0 a1 a2 d0 d1 d2 d3 d4 vb Q c w)
 refine Zd ?_ (fun c w=>Jem bl off n cap j a0 a1 a2 d0 d1 d2 d3 d4 vb Q c w)
 refine Zd ?_ (fun c w=>Jel bl off n cap j a0 a1 a2 d0 d1 d2 d3 d4 vb Q c w)
 refine Zd ?_ (fun c w=>Jek bl off n cap j a0 a1 a2 d0 d1 d2 d3 d4 vb Q c w)
 refine Zd ?_ (fun c w=>Jej bl off n cap j a0 a1 a2 d0 d1 d2 d3 d4 vb Q c w)
 exact Zj
theorem Zvs (bl off n cap j:Nat) (a0 a1 a2 d0 d1 d2 d3 d4:Value) (vb:Bool) (Q:Exit→Act→World→Prop) (base:Act) (w0:World) (hsz:base.tmps.size=70) (hb:Zbf bl off n cap j a0 a1 a2 d0 d1 d2 d3 d4 vb base)
  (hW:∀ w,Below w0.heap.size w0 w→Zaq bl off n cap j a0 a1 a2 d0 d1 d2 d3 d4 vb w) (hQ:∀ c w,Zae Zba base c→Below w0.heap.size w0 w→c.eval (.tmp 38)=.bool vb→Q .normal c w):(Code.region 6 Zba true).wp Tryz.prog Q base w0:=by
 refine Zgq (A:=Zcl) (F:=Zf (Jf bl off n cap j a0 a1 a2 d0 d1 d2 d3 d4 vb)) (by kernel_rfl) (by rw [hsz];kernel_rfl) (fun i v w w'=>Jd (Zvr bl off n cap j a0 a1 a2 d0 d1 d2 d3 d4 vb) i v w w') ?_ ?_
 ·intro i hi c w hS hB hF
  exact Jet bl off n cap j a0 a1 a2 d0 d1 d2 d3 d4 vb Q i (by rwa [show Zba.size=14 by kernel_rfl] at hi) c w ⟨(Zc hS (by kernel_rfl)).trans hb.t1,(Zc hS (by kernel_rfl)).trans hb.t5⟩ (hW w hB) hF
 ·intro c w hS hB hF
  exact hQ c w hS hB (Je (p:=eqv (.bool vb)) (by kernel_rfl) rfl (hF 13 (by rw [show Zba.size=14 by kernel_rfl];omega)))
end
section
open Go.RowKit Go.Shelf
set_option linter.all false
attribute [local go_sem] Oper.semAt_some
def Zge (c:Ji):Zy:=⟨[c.node],[c.rel],0,0⟩
theorem CF.fit {c:Ji} (h:CF c):Fit (Zge c):=Zu3 _ (by simp [Zge]) (by simp [Zge]) (fun n hn=>by simp [Zge] at hn;rw [hn];exact h.n) (fun n hn=>by simp [Zge] at hn;rw [hn];exact h.r) (by simp [Zge]) (by simp [Zge])
theorem Zsq {B p q:Nat} {w W:World} {c:Ji} {la pa qa:Option Addr} {lc pc qc:Nat} (hn:Zv B w (.agg #[.int .i64 c.node.id,.slice la c.node.labels.length lc,.slice pa c.node.props.length pc]) c.node) (hr:Jc B w (.agg #[.int .i64 c.rel.id,.int .i64 c.rel.fr,.int .i64 c.rel.tt,.string c.rel.type,.slice qa c.rel.props.length qc]) c.rel) (ht:c.rel.type.size≤maxLen) (hb:Below B w W) (hB:B≤W.heap.size) (h1:Rec W p #[.int .i64 c.node.id,.slice la c.node.labels.length lc,.slice pa c.node.props.length pc] 47) (h2:Rec W q #[.int .i64 c.rel.id,.int .i64 c.rel.fr,.int .i64 c.rel.tt,.string c.rel.type,.slice qa c.rel.props.length qc] 49) :
  Zq W.heap.size W (.agg #[.slice (some ⟨p,0,none⟩) 1 1,.slice (some ⟨q,0,none⟩) 1 1,.int .i64 0,.int .i64 0]) (Zge c):=by
 obtain ⟨la',lc',pa',pc',e,hs,hk,hp⟩:=hn
 obtain ⟨qa',qc',e',hq⟩:=hr
 simp only [Value.agg.injEq,Array.mk.injEq,List.cons.injEq,Value.slice.injEq,and_true,true_and] at e e'
 obtain ⟨⟨rfl,rfl⟩,rfl,rfl⟩:=e
 obtain ⟨rfl,rfl⟩:=e'
 refine ⟨some ⟨p,0,none⟩,1,some ⟨q,0,none⟩,1,rfl,⟨_,1,rfl,Nat.le_refl _,by omega,.inr ⟨p,0,rfl,h1.lt,fun i x hx=>?_⟩⟩,⟨_,1,rfl,Nat.le_refl _,by omega,.inr ⟨q,0,rfl,h2.lt,fun i x hx=>?_⟩⟩⟩
 ·cases i with
  | zero =>
   obtain rfl:=Option.some.inj hx
   exact ⟨la,lc,_,⟨h1.cell 0 rfl,h1.cell 1 rfl,h1.cell 2 rfl⟩,hs,(hk.below hb).mono hB,(Jh.below hb hp).mono hB⟩
  | succ i=>simp [Zge] at hx
 ·cases i with
  | zero =>
   obtain rfl:=Option.some.inj hx
   exact ⟨_,⟨h2.cell 0 rfl,h2.cell 1 rfl,h2.cell 2 rfl,h2.cell 3 rfl,h2.cell 4 rfl⟩,ht,(Jh.below hb hq).mono hB⟩
  | succ i=>simp [Zge] at hx
set_option maxRecDepth 100000 in
set_option maxHeartbeats 16000000 in
theorem Zsr (g:Zy) (cs:List Ji) (v:Value) (a:Option Addr) (cap:Nat) (w:World) (hE:Env w) (hg:Zq w.heap.size w v g) (hN:∀ n ∈ g.nodes,Zed 1048576 n) (hR:∀ r ∈ g.rels,Zgv 1048576 r) (hl:g.nodes.length≤1048576∧g.rels.length≤1048576) (hn:-9223372036854775808≤g.nn∧g.nn≤9223372036854775807) (hr:-9223372036854775808≤g.nr∧g.nr≤9223372036854775807) (hc:Za0 w.heap.size w a cs) (hcap:cs.length≤cap) (hcap2:cap≤9223372036854775807) (hcf:∀ c ∈ cs,CF c) :
  Calls Tryz.prog 5 #[v,.slice a cs.length cap] w fun e w'=>e=.returned (.bool true)∧Below w.heap.size w w':=by
 have fg:=Zu3 g hl.1 hl.2 hN hR hn hr
 have HG:=Zb (fun W (hb:Below w.heap.size w W)=>(hg.below hb))
 have HE:=Zb (fun W (hb:Below w.heap.size w W)=>hE.below hb hE.room)
 have HV1:=Zb (fun W (hb:Below w.heap.size w W)=>Zo7 g w.heap.size v W hb.size (HG.out W hb) fg.bulk)
 have HK:=Zb (fun W (hb:Below w.heap.size w W)=>Zvx W (HE.out W hb))
 have HY:=Zb (fun W (hb:Below w.heap.size w W)=>Zfp g v w.heap.size W hb.size (HG.out W hb) fg.mild.nodes fg.mild.rels fg.ofN fg.ofR)
 have HGF:Hid (Zng g=false→GF 60 g):=fun h=>by
  unfold Zng at h
  simp only [Bool.or_eq_false_iff,decide_eq_false_iff_not] at h
  exact ⟨hN,hR,by omega,by omega,hn,hr⟩
 have HCL:=Zb hc
 have HCF:=Zb hcf
 have HAP:Hid (∀ W v',Below w.heap.size w W→Zq W.heap.size W v' g→GF 60 g→cs.length≤20→(Calls Tryz.prog 21 #[v',.slice a cs.length cap] W fun e w'=>∃ v' er,e=.returned (.tuple #[v',.int .i64 er])∧(Zq w'.heap.size w' v' (Zbb g cs).1∧er=(Zbb g cs).2)∧Below W.heap.size W w')∧(Calls Tryz.prog 24 #[v',.slice a cs.length cap] W fun e w'=>∃ v' er,e=.returned (.tuple #[v',.int .i64 er])∧(Zq w'.heap.size w' v' (Zbb g cs).1∧er=(Zbb g cs).2)∧Below W.heap.size W w')):=fun W v' hb hg' hf h20=>by
  have hc':Za0 W.heap.size W a cs:=fun i c hi=>by
   obtain ⟨bl,off,la,lc,pa,pc,qa,qc,e,hl,h1,h2,h3,h4⟩:=(hc.below hb) i c hi
   exact ⟨bl,off,la,lc,pa,pc,qa,qc,e,Nat.lt_of_lt_of_le hl hb.size,h1,h2.mono hb.size,h3.mono hb.size,h4⟩
  exact ⟨Ztx g cs v' a cap W (HE.out W hb) hg' hc' hcap hcap2 hf hcf h20,Zq1 g cs v' a cap W hg' hc' hcap hcap2 hf hcf h20⟩
 have HTY:=Zb hg.types
 obtain ⟨R,hRe⟩:∃ R,Zbb g cs=R:=⟨_,rfl⟩
 rw [hRe] at HAP
 obtain ⟨b1,hb1⟩:∃ b,Zng g=b:=⟨_,rfl⟩
 rw [hb1] at HV1
 have HV0:=Zb hb1
 have HG0:=Zb hg
 obtain ⟨na,nc,ra,rc,rfl,hq1,hq2⟩:=hg
 clear hq1 hq2 hb1 fg hE hN hR hl hn hr hc hcf hRe
 generalize hnl:g.nodes.length=nl at HV1 HY HG HG0 ⊢
 generalize hrl:g.rels.length=rl at HV1 HY HG HG0 ⊢
 generalize hnn:g.nn=nn at HV1 HY HG HG0 ⊢
 generalize hnr:g.nr=nr at HV1 HY HG HG0 ⊢
 generalize hcl:cs.length=n at HAP hcap ⊢
 have HCN:=Zb hcl
 clear hnl hrl hnn hnr hcl
 go_enter Tryz.func5,Tryz.ntmps5
 go_upto_region 1 with fail
 generalize hW1:World.alloc _ _=W1
 have HB1:Hid (Below w.heap.size w W1):=by rw [← hW1];exact (Below.refl _ _).alloc (Nat.le_refl _) _
 have hr1:=Zl w #[.slice na nl nc,.slice ra rl rc,.int .i64 nn,.int .i64 nr] 25
 rw [hW1] at hr1
 have HR1:=Zb hr1
 obtain ⟨A,hA⟩:∃ A,w.heap.size=A:=⟨_,rfl⟩
 rw [hA] at HR1
 have HRA:Hid (∀ W,Below W1.heap.size W1 W→Rec W A #[.slice na nl nc,.slice ra rl rc,.int .i64 nn,.int .i64 nr] 25):=fun W h=>HR1.out.below h HR1.out.lt
 have a0:=HR1.out.cell 0 rfl
 have a1:=HR1.out.cell 1 rfl
 have a2:=HR1.out.cell 2 rfl
 have a3:=HR1.out.cell 3 rfl
 rw [show (some ({ block:=w.heap.size,off:=0 }:Addr))=some ⟨A,0,none⟩ by rw [hA]]
 clear hW1 hr1 HR1 hA
 go_wp2_with fail
 refine (HV1.out W1 HB1.out).mono ?_
 rintro e w2 ⟨rfl,hb2⟩
 have HB2:=Zb hb2
 clear hb2 a0 a1 a2 a3 HV1
 cases b1 with
 | true =>
  go_wp2_with fail
  refine (HK.out w2 (Za HB1.out HB2.out)).mono ?_
  rintro e k1 ⟨rfl,hk1⟩
  have HKB1:=Zb (Za (Za HB1.out HB2.out) hk1)
  clear hk1
  go_wp2_with fail
  go_ret
  exact ⟨rfl,HKB1.out⟩
 | false =>
  replace HGF:=Zb (HGF.out HV0.out)
  by_cases h20:(n:Int)>20
  ·go_wp2_with fail
   refine (HK.out w2 (Za HB1.out HB2.out)).mono ?_
   rintro e k2 ⟨rfl,hk2⟩
   have HKB2:=Zb (Za (Za HB1.out HB2.out) hk2)
   clear hk2
   go_wp2_with fail
   go_ret
   exact ⟨rfl,HKB2.out⟩
  ·have hn20:n≤20:=by omega
   go_wp2_with fail
   go_loopw [5] (fun i wr=>∃ j:Nat,j≤n∧i=.int .i64 j∧Below W1.heap.size W1 wr) (fun i _=>n - (intOf i).toNat)
   case atStart=>exact ⟨0,Nat.zero_le _,rfl,HB2.out⟩
   case round =>
    obtain ⟨j,hj,rfl,hbr⟩:=hrel
    have HBR:=Zb hbr
    clear hbr HB2
    by_cases hlt:j<n
    ·obtain ⟨c,hx⟩:∃ q,cs[j]?=some q:=⟨_,List.getElem?_eq_getElem (by rw [HCN.out];exact hlt)⟩
     obtain ⟨bl,off,la,lc,pa,pc,qa,qc,rfl,hl,⟨d0,d1,d2,d3,d4,d5,d6,d7,d8,d9,d10⟩,h1,h2,h3⟩:=HCL.out j c hx
     have hwb:=Za HB1.out HBR.out
     have kk:∀ o,wr.cell? ⟨bl,o,none⟩=w.cell? ⟨bl,o,none⟩:=fun o=>hwb.cell (p:=⟨bl,o,none⟩) hl
     have c3:=(kk _).trans d3
     have c4:=(kk _).trans d4
     have c5:=(kk _).trans d5
     have c6:=(kk _).trans d6
     have c7:=(kk _).trans d7
     have c8:=(kk _).trans d8
     have c9:=(kk _).trans d9
     have c10:=(kk _).trans d10
     have hblw:bl<wr.heap.size:=Nat.lt_of_lt_of_le hl hwb.size
     have hbln:bl≠wr.heap.size:=by omega
     have hbln2:wr.heap.size≠bl:=by omega
     have hcx:=HCF.out c (List.mem_of_getElem? hx)
     have HVC:Hid (∀ W p q,Below wr.heap.size wr W→Rec W p #[.int .i64 c.node.id,.slice la c.node.labels.length lc,.slice pa c.node.props.length pc] 47→Rec W q #[.int .i64 c.rel.id,.int .i64 c.rel.fr,.int .i64 c.rel.tt,.string c.rel.type,.slice qa c.rel.props.length qc] 49→Calls Tryz.prog 9 #[.agg #[.slice (some ⟨p,0,none⟩) 1 1,.slice (some ⟨q,0,none⟩) 1 1,.int .i64 0,.int .i64 0]] W fun e w'=>e=.returned (.bool (Zng (Zge c)))∧Below W.heap.size W w'):=fun W p q hb r1 r2 =>
      Zo7 (Zge c) W.heap.size _ W (Nat.le_refl _) (Zsq h1 h2 h3 (Za hwb hb) (Za hwb hb).size r1 r2) hcx.fit.bulk
     obtain ⟨vb,hvb⟩:∃ b,Zng (Zge c)=b:=⟨_,rfl⟩
     rw [hvb] at HVC
     clear hx d0 d1 d2 d3 d4 d5 d6 d7 d8 d9 d10 h1 h2 h3 kk hwb hcx hvb
     go_upto_region 6 with fail
     show (Code.region 6 Zba true).wp _ _ _ _
     refine Zvs bl off n cap j (.int .i64 c.node.id) (.slice la c.node.labels.length lc) (.slice pa c.node.props.length pc) (.int .i64 c.rel.id) (.int .i64 c.rel.fr) (.int .i64 c.rel.tt) (.string c.rel.type) (.slice qa c.rel.props.length qc) vb _ _ _ rfl ⟨rfl,rfl⟩ ?_ ?_
     ·intro W hW
      have kk:∀ o,W.cell? ⟨bl,o,none⟩=wr.cell? ⟨bl,o,none⟩:=fun o=>hW.cell (p:=⟨bl,o,none⟩) hblw
      exact ⟨hlt,by omega,(kk _).trans c3,(kk _).trans c4,(kk _).trans c5,(kk _).trans c6,(kk _).trans c7,(kk _).trans c8,(kk _).trans c9,(kk _).trans c10,fun p q r1 r2=>HVC.out W p q hW r1 r2⟩
     intro c' W3 hS hB3 e38
     rw [Zs hS [25,26,27,28,29,30,31,32,33,34,35,36,37,38] (by kernel_rfl)]
     simp only [List.foldl_cons,List.foldl_nil,List.setIfInBounds_toArray,List.set_cons_succ,List.set_cons_zero,show Zcs c' 38=_ from e38]
     clear e38 hS c3 c4 c5 c6 c7 c8 c9 c10
     have HB3:=Zb (Za HBR.out hB3)
     clear hB3
     cases vb with
     | true =>
      go_wp2_with fail
      refine (HK.out W3 (Za HB1.out HB3.out)).mono ?_
      rintro e k3 ⟨rfl,hk3⟩
      have HKB3:=Zb (Za (Za HB1.out HB3.out) hk3)
      clear hk3
      go_wp2_with fail
      go_ret
      exact ⟨rfl,HKB3.out⟩
     | false =>
      go_wp2_with fail
      go_roundw
      case rel=>exact ⟨j+1,by omega,by go_num,HB3.out⟩
      case measure=>simp [intOf];omega
    ·obtain rfl:j=n:=by omega
     have hra:=HRA.out wr HBR.out
     have a0:=hra.cell 0 rfl
     have a1:=hra.cell 1 rfl
     have a2:=hra.cell 2 rfl
     have a3:=hra.cell 3 rfl
     clear hra
     go_wp2_with fail
     refine (HY.out wr (Za HB1.out HBR.out)).mono ?_
     rintro e w4 ⟨v4,rfl,hf4,hb4⟩
     have HB4:=Zb (Za HBR.out hb4)
     have HG4:=Zb (hf4.lie HTY.out)
     obtain ⟨nv,rv,rfl,hq1,hq2⟩:=hf4
     obtain ⟨ca,cc,rfl,_⟩:=hq1
     obtain ⟨ta,tc,rfl,_⟩:=hq2
     clear hb4 a0 a1 a2 a3 HY
     generalize hcl4:g.nodes.length=cl4 at HG4 ⊢
     generalize hdl4:g.rels.length=dl4 at HG4 ⊢
     generalize hcn4:g.nn=cn4 at HG4 ⊢
     generalize hcr4:g.nr=cr4 at HG4 ⊢
     clear hcl4 hdl4 hcn4 hcr4
     go_upto_region 9 with fail
     generalize hW5:World.alloc _ _=W5
     have hb5:Below w4.heap.size w4 W5:=by rw [← hW5];exact (Below.refl _ _).alloc (Nat.le_refl _) _
     have hr5:=Zl w4 #[.slice ca cl4 cc,.slice ta dl4 tc,.int .i64 cn4,.int .i64 cr4] 25
     rw [hW5] at hr5
     have HR5:=Zb hr5
     have HB5:=Zb (Za HB4.out hb5)
     have HG5:=Zb ((HG4.out.below hb5).mono hb5.size)
     obtain ⟨Z,hZ⟩:∃ Z,w4.heap.size=Z:=⟨_,rfl⟩
     rw [hZ] at HR5 ⊢
     clear hW5 hb5 hr5 HG4 HB4 hZ
     have hwa:=Za HB1.out HB5.out
     have HP:=Zb (HAP.out W5 _ hwa ((HG.out W5 hwa).mono hwa.size) HGF.out hn20).1
     have hra:=HRA.out W5 HB5.out
     have a0:=hra.cell 0 rfl
     have a1:=hra.cell 1 rfl
     have a2:=hra.cell 2 rfl
     have a3:=hra.cell 3 rfl
     clear hra hwa
     go_wp2_with fail
     refine HP.out.mono ?_
     rintro e w6 ⟨v6,er6,rfl,⟨hg6,he6⟩,hb6⟩
     have HB6:=Zb hb6
     have HG6:=Zb hg6
     have HE6:=Zb he6
     obtain ⟨na6,nc6,ra6,rc6,rfl,_,_⟩:=hg6
     clear hb6 he6 HP a0 a1 a2 a3
     generalize hcl6:R.1.nodes.length=cl6 at HG6 ⊢
     generalize hdl6:R.1.rels.length=dl6 at HG6 ⊢
     generalize hcn6:R.1.nn=cn6 at HG6 ⊢
     generalize hcr6:R.1.nr=cr6 at HG6 ⊢
     clear hcl6 hdl6 hcn6 hcr6
     go_upto_region 10 with fail
     generalize hW7:World.alloc _ _=W7
     have hb7:Below w6.heap.size w6 W7:=by rw [← hW7];exact (Below.refl _ _).alloc (Nat.le_refl _) _
     have hr7:=Zl w6 #[.slice na6 cl6 nc6,.slice ra6 dl6 rc6,.int .i64 cn6,.int .i64 cr6] 25
     rw [hW7] at hr7
     have HR7:=Zb hr7
     have HB7:=Zb (Za HB6.out hb7)
     have HG7:=Zb ((HG6.out.below hb7).mono hb7.size)
     obtain ⟨Y,hY⟩:∃ Y,w6.heap.size=Y:=⟨_,rfl⟩
     rw [hY] at HR7 ⊢
     clear hW7 hb7 hr7 HG6 HB6 hY
     have hwa:=Za HB1.out (Za HB5.out HB7.out)
     have HP:=Zb (HAP.out W7 _ hwa ((HG5.out.below HB7.out).mono HB7.out.size) HGF.out hn20).2
     have hrz:=HR5.out.below HB7.out HR5.out.lt
     have a0:=hrz.cell 0 rfl
     have a1:=hrz.cell 1 rfl
     have a2:=hrz.cell 2 rfl
     have a3:=hrz.cell 3 rfl
     clear hrz hwa
     go_wp2_with fail
     refine HP.out.mono ?_
     rintro e w8 ⟨v8,er8,rfl,⟨hg8,he8⟩,hb8⟩
     have HB8:=Zb hb8
     have HG8:=Zb hg8
     have HE8:Hid (er6=er8):=by show er6=er8;rw [HE6.out,he8]
     obtain ⟨na8,nc8,ra8,rc8,rfl,_,_⟩:=hg8
     clear hb8 he8 HP a0 a1 a2 a3
     generalize hcl8:R.1.nodes.length=cl8 at HG8 ⊢
     generalize hdl8:R.1.rels.length=dl8 at HG8 ⊢
     generalize hcn8:R.1.nn=cn8 at HG8 ⊢
     generalize hcr8:R.1.nr=cr8 at HG8 ⊢
     clear hcl8 hdl8 hcn8 hcr8
     rw [← HE8.out]
     go_upto_region 11 with fail
     generalize hW9:World.alloc _ _=W9
     have hb9:Below w8.heap.size w8 W9:=by rw [← hW9];exact (Below.refl _ _).alloc (Nat.le_refl _) _
     have hr9:=Zl w8 #[.slice na8 cl8 nc8,.slice ra8 dl8 rc8,.int .i64 cn8,.int .i64 cr8] 25
     rw [hW9] at hr9
     have HR9:=Zb hr9
     have HB9:=Zb (Za HB8.out hb9)
     have HG9:=Zb ((HG8.out.below hb9).mono hb9.size)
     obtain ⟨X,hX⟩:∃ X,w8.heap.size=X:=⟨_,rfl⟩
     rw [hX] at HR9 ⊢
     clear hW9 hb9 hr9 HG8 HB8 hX
     have hrg:=HR7.out.below HB9.out HR7.out.lt
     have HS1:Hid (Calls Tryz.prog 15 #[.agg #[.slice na6 cl6 nc6,.slice ra6 dl6 rc6,.int .i64 cn6,.int .i64 cr6],.agg #[.slice na8 cl8 nc8,.slice ra8 dl8 rc8,.int .i64 cn8,.int .i64 cr8]] W9 fun e w'=>e=.returned (.bool true)∧Below W9.heap.size W9 w'):=by
      have:=Zml R.1 R.1 W9.heap.size _ _ W9 (Nat.le_refl _) ((HG7.out.below HB9.out).mono HB9.out.size) HG9.out
      rw [Ze0] at this
      exact this
     have x0:=HR9.out.cell 0 rfl
     have x1:=HR9.out.cell 1 rfl
     have x2:=HR9.out.cell 2 rfl
     have x3:=HR9.out.cell 3 rfl
     have y0:=hrg.cell 0 rfl
     have y1:=hrg.cell 1 rfl
     have y2:=hrg.cell 2 rfl
     have y3:=hrg.cell 3 rfl
     clear hrg
     go_wp2_with fail
     refine HS1.out.mono ?_
     rintro e w10 ⟨rfl,hb10⟩
     have HBT:=Zb (Za HB5.out (Za (Za HB7.out HB9.out) hb10))
     have hb57:=Za (Za HB7.out HB9.out) hb10
     clear x0 x1 x2 x3 y0 y1 y2 y3 HS1 hb10
     have hra:=HRA.out w10 HBT.out
     have hrz:=HR5.out.below hb57 HR5.out.lt
     have HS2:Hid (Calls Tryz.prog 15 #[.agg #[.slice na nl nc,.slice ra rl rc,.int .i64 nn,.int .i64 nr],.agg #[.slice ca cl4 cc,.slice ta dl4 tc,.int .i64 cn4,.int .i64 cr4]] w10 fun e w'=>e=.returned (.bool true)∧Below w10.heap.size w10 w'):=by
      have hw:=Za HB1.out HBT.out
      have:=Zml g g w10.heap.size _ _ w10 (Nat.le_refl _) ((HG.out w10 hw).mono hw.size) ((HG5.out.below hb57).mono hb57.size)
      rw [Ze0] at this
      exact this
     have a0:=hra.cell 0 rfl
     have a1:=hra.cell 1 rfl
     have a2:=hra.cell 2 rfl
     have a3:=hra.cell 3 rfl
     have z0:=hrz.cell 0 rfl
     have z1:=hrz.cell 1 rfl
     have z2:=hrz.cell 2 rfl
     have z3:=hrz.cell 3 rfl
     clear hra hrz hb57
     go_wp2_with fail
     refine HS2.out.mono ?_
     rintro e w11 ⟨rfl,hb11⟩
     have HB11:=Zb (Za (Za HB1.out HBT.out) hb11)
     clear hb11 a0 a1 a2 a3 z0 z1 z2 z3 HS2
     go_wp2_with fail
     refine (HK.out w11 HB11.out).mono ?_
     rintro e k4 ⟨rfl,hk4⟩
     have HKB4:=Zb (Za HB11.out hk4)
     clear hk4
     go_wp2_with fail
     go_ret
     exact ⟨rfl,HKB4.out⟩
end
section
open Go.ChangeShapes Go.WideShapes Go.ChangeAt Go.RowKit Go.Shelf Go.Deep
set_option maxRecDepth 100000
set_option linter.all false
theorem Zsf  : Tryz.prog.cellsOf 51=11:=by kernel_rfl
theorem Zzq  : Tryz.prog.cellsOf 43=1:=by kernel_rfl
section
variable {H:Type} {enc:TypeId × Value→H} {W:World}
theorem Zln {fuel:Nat} {cs:List Value} {d:DataW H} {p:List MemPlace} (h:DataW.trod enc Tryz.prog W 0 (fun _=>true) true fuel 51 cs=some (d,p)) (hw:Rows.uptoBulk d≤1048576) :
  ∃ (c:Ji) (la:Option Addr) (lc:Nat) (pa:Option Addr) (pc:Nat) (qa:Option Addr) (qc:Nat),cs=[.int .i64 c.kind,.int .i64 c.id,.int .i64 c.other,.int .i64 c.node.id,.slice la c.node.labels.length lc,.slice pa c.node.props.length pc,.int .i64 c.rel.id,.int .i64 c.rel.fr,.int .i64 c.rel.tt,.string c.rel.type,.slice qa c.rel.props.length qc]∧Zv W.heap.size W (.agg #[.int .i64 c.node.id,.slice la c.node.labels.length lc,.slice pa c.node.props.length pc]) c.node∧Jc W.heap.size W (.agg #[.int .i64 c.rel.id,.int .i64 c.rel.fr,.int .i64 c.rel.tt,.string c.rel.type,.slice qa c.rel.props.length qc]) c.rel∧c.rel.type.size≤maxLen∧CF c:=by
 obtain ⟨xs,n,hfu,hx,hl,hlen,hf⟩:=DataW.trod_struct Tryz.underlying51 h
 rw [Zsf] at hl
 match cs,hl with
 | [u0,u1,u2,u3,u4,u5,u6,u7,u8,u9,u10],_ =>
  match xs,hlen with
  | [y0,y1,y2,y3,y4],_ =>
   simp only [Prod.mk.injEq] at hx
   obtain ⟨rfl,_⟩:=hx
   have f0:DataW.trod enc Tryz.prog W 0 (fun _=>true) true n 43 [u0]=some y0:=by simpa [Zzq] using hf 0 { name := "Kind",type:=43,offset:=0,embedded:=false,tag := "",pkgPath := "",byteOffset:=0 } rfl
   have f1:DataW.trod enc Tryz.prog W 0 (fun _=>true) true n 2 [u1]=some y1:=by simpa [Zft] using hf 1 { name := "ID",type:=2,offset:=1,embedded:=false,tag := "",pkgPath := "",byteOffset:=8 } rfl
   have f2:DataW.trod enc Tryz.prog W 0 (fun _=>true) true n 2 [u2]=some y2:=by simpa [Zft] using hf 2 { name := "Other",type:=2,offset:=2,embedded:=false,tag := "",pkgPath := "",byteOffset:=16 } rfl
   have f3:DataW.trod enc Tryz.prog W 0 (fun _=>true) true n 47 [u3,u4,u5]=some y3:=by simpa [Znx] using hf 3 { name := "Node",type:=47,offset:=3,embedded:=false,tag := "",pkgPath := "",byteOffset:=24 } rfl
   have f4:DataW.trod enc Tryz.prog W 0 (fun _=>true) true n 49 [u6,u7,u8,u9,u10]=some y4:=by simpa [Zny] using hf 4 { name := "Rel",type:=49,offset:=6,embedded:=false,tag := "",pkgPath := "",byteOffset:=80 } rfl
   obtain ⟨k,e0,_,_⟩:=DataW.trod_int Tryz.underlying43 f0
   obtain ⟨id,e1,_,hk1⟩:=DataW.trod_int Tryz.underlying2 f1
   obtain ⟨ot,e2,_,hk2⟩:=DataW.trod_int Tryz.underlying2 f2
   simp only [List.cons.injEq,and_true] at e0 e1 e2
   subst e0 e1 e2
   have hbd:Rows.uptoBulk y3.1+Rows.uptoBulk y4.1≤Rows.uptoBulk (DataW.agg ([y0,y1,y2,y3,y4].map (·.1))):=by
    simp only [List.map_cons,List.map_nil,Rows.uptoBulk,Rows.uptoBulkAll];omega
   have hw2:Rows.uptoBulk (DataW.agg ([y0,y1,y2,y3,y4].map (·.1)))≤1048576:=hw
   obtain ⟨nd,la,lc,pv,e3,hs,hks,hps,hfn⟩:=Zjo f3 (by omega)
   obtain ⟨rl,qv,e4,ht,hqs,hfr⟩:=Zmp f4 (by omega)
   obtain ⟨pa,pc,rfl⟩:=Zdr hps
   obtain ⟨qa,qc,rfl⟩:=Zdr hqs
   simp only [List.cons.injEq,and_true] at e3 e4
   obtain ⟨rfl,rfl,rfl⟩:=e3
   obtain ⟨rfl,rfl,rfl,rfl,rfl⟩:=e4
   exact ⟨⟨k,id,ot,nd,rl⟩,la,lc,pa,pc,qa,qc,rfl,⟨la,lc,pa,pc,rfl,hs,hks,hps⟩,⟨qa,qc,rfl,hqs⟩,ht,⟨Zf3 hk1,Zf3 hk2,hfn,hfr⟩⟩
theorem Zj4 {fuel:Nat} {cs:List Value} {d:DataW H} {p:List MemPlace} (h:DataW.trod enc Tryz.prog W 0 (fun _=>true) true fuel 36 cs=some (d,p)) (hw:Rows.uptoBulk d≤1048576) :
  ∃ (a:Option Addr) (cap:Nat) (l:List Ji),cs=[.slice a l.length cap]∧Za0 W.heap.size W a l∧l.length≤cap∧cap≤9223372036854775807∧∀ c ∈ l,CF c:=by
 rcases DataW.trod_slice Tryz.underlying36 h with ⟨rfl,_⟩ | ⟨a,len,cap,elems,rest,n,hfu,rfl,hx,_,hl,hm,hlen,hel,_,_⟩
 ·exact ⟨none,0,[],rfl,fun i c hc=>by simp at hc,by simp,by omega,by simp⟩
 ·simp only [Prod.mk.injEq] at hx
  obtain ⟨rfl,_⟩:=hx
  have hbe:Rows.uptoBulkAll (elems.map (·.1))+1≤Rows.uptoBulk (DataW.slice (elems.map (·.1)) (rest.map (·.1))):=by simp only [Rows.uptoBulk];omega
  have hc:∀ i,i<len→∃ c:Ji,(∃ la lc pa pc qa qc,(W.cell? ((a.add (i*11)).add 0)=some (.int .i64 c.kind)∧W.cell? ((a.add (i*11)).add 1)=some (.int .i64 c.id)∧W.cell? ((a.add (i*11)).add 2)=some (.int .i64 c.other)∧W.cell? ((a.add (i*11)).add 3)=some (.int .i64 c.node.id)∧W.cell? ((a.add (i*11)).add 4)=some (.slice la c.node.labels.length lc)∧W.cell? ((a.add (i*11)).add 5)=some (.slice pa c.node.props.length pc)∧W.cell? ((a.add (i*11)).add 6)=some (.int .i64 c.rel.id)∧W.cell? ((a.add (i*11)).add 7)=some (.int .i64 c.rel.fr)∧W.cell? ((a.add (i*11)).add 8)=some (.int .i64 c.rel.tt)∧W.cell? ((a.add (i*11)).add 9)=some (.string c.rel.type)∧W.cell? ((a.add (i*11)).add 10)=some (.slice qa c.rel.props.length qc))∧Zv W.heap.size W (.agg #[.int .i64 c.node.id,.slice la c.node.labels.length lc,.slice pa c.node.props.length pc]) c.node∧Jc W.heap.size W (.agg #[.int .i64 c.rel.id,.int .i64 c.rel.fr,.int .i64 c.rel.tt,.string c.rel.type,.slice qa c.rel.props.length qc]) c.rel∧c.rel.type.size≤maxLen)∧CF c:=by
   intro i hi
   have key:=hel i hi
   rw [Zsf,List.getElem?_eq_getElem (by omega)] at key
   obtain ⟨cs',h1,h2⟩:=Option.bind_eq_some_iff.1 key
   obtain ⟨_,hl6,hcell⟩:=World.cells?_some h1
   have hmem:(elems[i]'(by omega)).1 ∈ elems.map (·.1):=List.mem_map.2 ⟨_,List.getElem_mem (by omega),rfl⟩
   obtain ⟨c,la,lc,pa,pc,qa,qc,rfl,hn,hr,ht,hfit⟩:=Zln h2 (Nat.le_trans (Zdg hmem) (by omega))
   exact ⟨c,⟨la,lc,pa,pc,qa,qc,⟨hcell 0 (by simp),hcell 1 (by simp),hcell 2 (by simp),hcell 3 (by simp),hcell 4 (by simp),hcell 5 (by simp),hcell 6 (by simp),hcell 7 (by simp),hcell 8 (by simp),hcell 9 (by simp),hcell 10 (by simp)⟩,hn,hr,ht⟩,hfit⟩
  have:Inhabited Ji:=⟨⟨0,0,0,⟨0,[],[]⟩,⟨0,0,0,⟨#[]⟩,[]⟩⟩⟩
  obtain ⟨f,hf⟩:=choose_lt hc
  have hlt:((List.range len).map f).length=len:=by simp
  refine ⟨some a,cap,(List.range len).map f,by rw [hlt],fun i c hit=>?_,by omega,by unfold maxLen at hm;omega,fun c hq=>?_⟩
  ·rw [List.getElem?_map] at hit
   obtain ⟨j,hj,rfl⟩:=Option.map_eq_some_iff.1 hit
   rw [List.getElem?_eq_some_iff] at hj
   obtain ⟨hji,hjj⟩:=hj
   simp only [List.length_range,List.getElem_range] at hji hjj
   subst hjj
   obtain ⟨bl,off,spot⟩:=a
   obtain ⟨la,lc,pa,pc,qa,qc,⟨c0,c1,c2,c3,c4,c5,c6,c7,c8,c9,c10⟩,hn,hr,ht⟩:=(hf _ hji).1
   have hspot:spot=none:=by
    obtain ⟨_,_,_,_,_,_,⟨z0,_⟩,_⟩:=(hf 0 (by omega)).1
    simpa [Addr.add] using World.cell?_spot z0
   subst hspot
   have hbw:bl<W.heap.size:=by
    obtain ⟨_,_,_,_,_,_,⟨z0,_⟩,_⟩:=(hf 0 (by omega)).1
    exact Zab z0
   rw [add_plain,add_plain] at c0 c1 c2 c3 c4 c5 c6 c7 c8 c9 c10
   exact ⟨bl,off,la,lc,pa,pc,qa,qc,rfl,hbw,⟨c0,c1,c2,c3,c4,c5,c6,c7,c8,c9,c10⟩,hn,hr,ht⟩
  ·obtain ⟨j,hj,rfl⟩:=List.mem_map.1 hq
   exact (hf j (List.mem_range.1 hj)).2
end
end
