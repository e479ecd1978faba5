/- A graph of one node tells it. -/
import Derived.Test.YteddjlbfbpecjaaGreatDoorJoin16
import Derived.Test.YteddjlbfbpecjaaGreatDoorJoin3
import Derived.Lib.ValidLaws
import Derived.Test.YteddjlbfbpecjaaGreatDoorJoin4
namespace Go.Proofs.YteddjlbfbpecjaaGreatDoor
section
open Go.RowKit Go.Shelf
set_option linter.all false
attribute [local go_sem] Oper.semAt_some
set_option maxRecDepth 10000 in
theorem Jaj (ρ:Operand→Value) (X:Nat) (w:World) (u0 u1 u2 u3:Value) (nn nr:Int) (h:Rec w X #[u0,u1,u2,u3] 25) (e3:ρ (.tmp 3)=.pointer (some ⟨X,0,none⟩)) (e16:ρ (.tmp 16)=.agg #[.slice none 0 0,.slice none 0 0,.int .i64 nn,.int .i64 nr]) :
  ∃ w',(execOp ρ (⟨none,.store 25 (.tmp 3) (.tmp 16),0, "graph.go:126",#[⟨9,.data⟩,⟨8,.data⟩,⟨0,.phase⟩,⟨1,.phase⟩,⟨2,.phase⟩,⟨3,.phase⟩,⟨4,.phase⟩,⟨5,.phase⟩,⟨6,.phase⟩,⟨7,.phase⟩,⟨8,.phase⟩,⟨9,.phase⟩],none⟩:Oper)).run Tryz.prog w=.ok .skip w'∧Put X w w' #[.slice none 0 0,.slice none 0 0,.int .i64 nn,.int .i64 nr] 25:=by
 have c0:=h.cell 0 rfl
 have c1:=h.cell 1 rfl
 have c2:=h.cell 2 rfl
 have c3:=h.cell 3 rfl
 have z0:=h.z 0
 have z1:=h.z 1
 have z2:=h.z 2
 have z3:=h.z 3
 refine ⟨(((w.setCell ⟨X,0,none⟩ (.slice none 0 0)).setCell ⟨X,1,none⟩ (.slice none 0 0)).setCell ⟨X,2,none⟩ (.int .i64 nn)).setCell ⟨X,3,none⟩ (.int .i64 nr),?_,by simpa using Zce (Zce (Zce (Zce (Zjy h) 0 (.slice none 0 0)) 1 (.slice none 0 0)) 2 (.int .i64 nn)) 3 (.int .i64 nr)⟩
 clear h
 go_simp
end
section
open Go.RowKit Go.Shelf
set_option maxHeartbeats 4000000
set_option linter.all false
def Jk (s:ByteArray) (i:Nat):Nat:=(s.data.toList.getD i 0).toNat
theorem Zjt {s:ByteArray} {i:Nat} (h:i<s.size):s[i].toNat=Jk s i:=by
 unfold Jk
 have h':i<s.data.toList.length:=by simpa using h
 rw [List.getD_eq_getElem?_getD,List.getElem?_eq_getElem h']
 rfl
def Zbl (s:ByteArray) (i:Nat):Bool:=decide (i<s.size)&&(decide (128≤Jk s i)&&decide (Jk s i≤191))
theorem Zju (s:ByteArray) (i:Nat) (w:World) (hs:s.size≤140737488355328) (hi2:i≤140737488355400) :
  Calls Tryz.prog 184 #[.string s,.int .i64 i] w fun e w'=>e=.returned (.bool (Zbl s i))∧w'=w:=by
 unfold Zbl
 by_cases hi:i<s.size
 ·have hb:=Zjt hi
  have hd:decide (i<s.size)=true:=decide_eq_true hi
  rw [hd,Bool.true_and]
  by_cases h1:128≤Jk s i
  ·have h1':(128:Int)≤(s[i].toNat:Int):=by omega
   have hd1:decide (128≤Jk s i)=true:=decide_eq_true h1
   rw [hd1,Bool.true_and]
   by_cases h2:Jk s i≤191
   ·have h2':(s[i].toNat:Int)≤191:=by omega
    have hd2:decide (Jk s i≤191)=true:=decide_eq_true h2
    rw [hd2]
    clear hb h1 h2 hd hd1 hd2
    go_enter Tryz.func184,Tryz.ntmps184
    go_wp2
    go_ret
    exact ⟨rfl,rfl⟩
   ·have h2':¬ (s[i].toNat:Int)≤191:=by omega
    have hd2:decide (Jk s i≤191)=false:=decide_eq_false h2
    rw [hd2]
    clear hb h1 h2 hd hd1 hd2
    go_enter Tryz.func184,Tryz.ntmps184
    go_wp2
    go_ret
    exact ⟨rfl,rfl⟩
  ·have h1':¬ (128:Int)≤(s[i].toNat:Int):=by omega
   have hd1:decide (128≤Jk s i)=false:=decide_eq_false h1
   rw [hd1,Bool.false_and]
   clear hb h1 hd hd1
   go_enter Tryz.func184,Tryz.ntmps184
   go_wp2
   go_ret
   exact ⟨rfl,rfl⟩
 ·have hd:decide (i<s.size)=false:=decide_eq_false hi
  rw [hd,Bool.false_and]
  clear hd
  go_enter Tryz.func184,Tryz.ntmps184
  go_wp2
  go_ret
  exact ⟨rfl,rfl⟩
def Zeu (s:ByteArray) (i:Nat):Nat :=
 if Jk s i<128 then 1
 else if (194≤Jk s i∧Jk s i≤223)∧Zbl s (i+1)=true then 2
 else if (224≤Jk s i∧Jk s i≤239)∧Zbl s (i+1)=true∧Zbl s (i+2)=true then
  (if (Jk s i=224∧Jk s (i+1)<160)∨(Jk s i=237∧159<Jk s (i+1)) then 0 else 3)
 else if (240≤Jk s i∧Jk s i≤244)∧Zbl s (i+1)=true∧Zbl s (i+2)=true∧Zbl s (i+3)=true then
  (if (Jk s i=240∧Jk s (i+1)<144)∨(Jk s i=244∧143<Jk s (i+1)) then 0 else 4)
 else 0
theorem Zv2 {s:ByteArray} {i:Nat} (h:Zbl s i=true):i<s.size:=by
 unfold Zbl at h
 simp at h
 exact h.1
set_option maxRecDepth 100000 in
theorem Zv3 (s:ByteArray) (i:Nat) (w:World) (hs:s.size≤140737488355328) (hi:i<s.size) :
  Calls Tryz.prog 150 #[.string s,.int .i64 i] w fun e w'=>e=.returned (.int .i64 (Zeu s i))∧w'=w:=by
 have hb:=Zjt hi
 have HR0:Hid (Zeu s i=if Jk s i<128 then 1
  else if (194≤Jk s i∧Jk s i≤223)∧Zbl s (i+1)=true then 2
  else if (224≤Jk s i∧Jk s i≤239)∧Zbl s (i+1)=true∧Zbl s (i+2)=true then
   (if (Jk s i=224∧Jk s (i+1)<160)∨(Jk s i=237∧159<Jk s (i+1)) then 0 else 3)
  else if (240≤Jk s i∧Jk s i≤244)∧Zbl s (i+1)=true∧Zbl s (i+2)=true∧Zbl s (i+3)=true then
   (if (Jk s i=240∧Jk s (i+1)<144)∨(Jk s i=244∧143<Jk s (i+1)) then 0 else 4)
  else 0):=rfl
 have HM1:Hid (∀ W,Calls Tryz.prog 184 #[.string s,.int .i64 ((i:Int)+1)] W fun e w'=>e=.returned (.bool (Zbl s (i+1)))∧w'=W):=fun W=>Zju s (i+1) W hs (by omega)
 have HM2:Hid (∀ W,Calls Tryz.prog 184 #[.string s,.int .i64 ((i:Int)+2)] W fun e w'=>e=.returned (.bool (Zbl s (i+2)))∧w'=W):=fun W=>Zju s (i+2) W hs (by omega)
 have HM3:Hid (∀ W,Calls Tryz.prog 184 #[.string s,.int .i64 ((i:Int)+3)] W fun e w'=>e=.returned (.bool (Zbl s (i+3)))∧w'=W):=fun W=>Zju s (i+3) W hs (by omega)
 have HL1:Hid (Zbl s (i+1)=true→i+1<s.size):=Zv2
 have HB1:Hid (∀ h:i+1<s.size,s[i+1].toNat=Jk s (i+1)):=fun h=>Zjt h
 generalize Zbl s (i+1)=m1 at *
 generalize Zbl s (i+2)=m2 at *
 generalize Zbl s (i+3)=m3 at *
 generalize Jk s (i+1)=b1 at *
 generalize Jk s i=c at *
 generalize Zeu s i=rn at *
 by_cases c1:c<128
 ·have HR:Hid (rn=1):=HR0.out.trans (by rw [if_pos c1])
  have x1:(s[i].toNat:Int)<128:=by omega
  clear HR0 hb
  go_enter Tryz.func150,Tryz.ntmps150
  go_wp2_with fail
  go_ret
  exact ⟨by rw [HR.out];rfl,rfl⟩
 have x1:¬ (s[i].toNat:Int)<128:=by omega
 by_cases c2:c<194
 ·have HR:Hid (rn=0):=HR0.out.trans (by rw [if_neg c1,if_neg (by omega),if_neg (by omega),if_neg (by omega)])
  have x2:¬ 194≤(s[i].toNat:Int):=by omega
  have x3:¬ 224≤(s[i].toNat:Int):=by omega
  have x4:¬ 240≤(s[i].toNat:Int):=by omega
  clear HR0 hb
  go_enter Tryz.func150,Tryz.ntmps150
  go_wp2_with fail
  go_ret
  exact ⟨by rw [HR.out];rfl,rfl⟩
 have x2:194≤(s[i].toNat:Int):=by omega
 by_cases c3:c≤223
 ·have x3:(s[i].toNat:Int)≤223:=by omega
  have x4:¬ 224≤(s[i].toNat:Int):=by omega
  have x5:¬ 240≤(s[i].toNat:Int):=by omega
  cases m1 with
  | true =>
   have HR:Hid (rn=2):=HR0.out.trans (by rw [if_neg c1,if_pos ⟨⟨by omega,c3⟩,rfl⟩])
   clear HR0 hb
   go_enter Tryz.func150,Tryz.ntmps150
   go_wp2_with fail
   refine (HM1.out _).mono ?_;rintro e w' ⟨rfl,rfl⟩
   go_wp2_with fail
   go_ret
   exact ⟨by rw [HR.out];rfl,rfl⟩
  | false =>
   have HR:Hid (rn=0):=HR0.out.trans (by rw [if_neg c1,if_neg (by simp),if_neg (by omega),if_neg (by omega)])
   clear HR0 hb
   go_enter Tryz.func150,Tryz.ntmps150
   go_wp2_with fail
   refine (HM1.out _).mono ?_;rintro e w' ⟨rfl,rfl⟩
   go_wp2_with fail
   go_ret
   exact ⟨by rw [HR.out];rfl,rfl⟩
 have x3:¬ (s[i].toNat:Int)≤223:=by omega
 have x4:224≤(s[i].toNat:Int):=by omega
 by_cases c4:c≤239
 ·have x5:(s[i].toNat:Int)≤239:=by omega
  have x6:¬ 240≤(s[i].toNat:Int):=by omega
  cases m1 with
  | false =>
   have HR:Hid (rn=0):=HR0.out.trans (by rw [if_neg c1,if_neg (by omega),if_neg (by simp),if_neg (by omega)])
   clear HR0 hb
   go_enter Tryz.func150,Tryz.ntmps150
   go_wp2_with fail
   refine (HM1.out _).mono ?_;rintro e w' ⟨rfl,rfl⟩
   go_wp2_with fail
   go_ret
   exact ⟨by rw [HR.out];rfl,rfl⟩
  | true =>
   have hl1:=HL1.out rfl
   have hb1:=HB1.out hl1
   cases m2 with
   | false =>
    have HR:Hid (rn=0):=HR0.out.trans (by rw [if_neg c1,if_neg (by omega),if_neg (by simp),if_neg (by omega)])
    clear HR0 hb hb1
    go_enter Tryz.func150,Tryz.ntmps150
    go_wp2_with fail
    refine (HM1.out _).mono ?_;rintro e w' ⟨rfl,rfl⟩
    go_wp2_with fail
    refine (HM2.out _).mono ?_;rintro e w' ⟨rfl,rfl⟩
    go_wp2_with fail
    go_ret
    exact ⟨by rw [HR.out];rfl,rfl⟩
   | true =>
    have HR1:=Zb (HR0.out.trans (by rw [if_neg c1,if_neg (by omega),if_pos ⟨⟨by omega,c4⟩,rfl,rfl⟩]))
    by_cases d0:c=224
    ·have y0:((s[i].toNat:Int)==224)=true:=Jy (by omega)
     by_cases d1:b1<160
     ·have HR:Hid (rn=0):=HR1.out.trans (by rw [if_pos (.inl ⟨d0,d1⟩)])
      have y1:(s[i+1].toNat:Int)<160:=by omega
      clear HR1 HR0 hb hb1
      go_enter Tryz.func150,Tryz.ntmps150
      go_wp2_with fail
      refine (HM1.out _).mono ?_;rintro e w' ⟨rfl,rfl⟩
      go_wp2_with fail
      refine (HM2.out _).mono ?_;rintro e w' ⟨rfl,rfl⟩
      go_wp2_with fail
      go_ret
      exact ⟨by rw [HR.out];rfl,rfl⟩
     ·have HR:Hid (rn=3):=HR1.out.trans (by rw [if_neg (by omega)])
      have y1:¬ (s[i+1].toNat:Int)<160:=by omega
      have y2:((s[i].toNat:Int)==237)=false:=Zh (by omega)
      clear HR1 HR0 hb hb1
      go_enter Tryz.func150,Tryz.ntmps150
      go_wp2_with fail
      refine (HM1.out _).mono ?_;rintro e w' ⟨rfl,rfl⟩
      go_wp2_with fail
      refine (HM2.out _).mono ?_;rintro e w' ⟨rfl,rfl⟩
      go_wp2_with fail
      go_ret
      exact ⟨by rw [HR.out];rfl,rfl⟩
    ·have y0:((s[i].toNat:Int)==224)=false:=Zh (by omega)
     by_cases d2:c=237
     ·have y2:((s[i].toNat:Int)==237)=true:=Jy (by omega)
      by_cases d3:159<b1
      ·have HR:Hid (rn=0):=HR1.out.trans (by rw [if_pos (.inr ⟨d2,d3⟩)])
       have y3:159<(s[i+1].toNat:Int):=by omega
       clear HR1 HR0 hb hb1
       go_enter Tryz.func150,Tryz.ntmps150
       go_wp2_with fail
       refine (HM1.out _).mono ?_;rintro e w' ⟨rfl,rfl⟩
       go_wp2_with fail
       refine (HM2.out _).mono ?_;rintro e w' ⟨rfl,rfl⟩
       go_wp2_with fail
       go_ret
       exact ⟨by rw [HR.out];rfl,rfl⟩
      ·have HR:Hid (rn=3):=HR1.out.trans (by rw [if_neg (by omega)])
       have y3:¬ 159<(s[i+1].toNat:Int):=by omega
       clear HR1 HR0 hb hb1
       go_enter Tryz.func150,Tryz.ntmps150
       go_wp2_with fail
       refine (HM1.out _).mono ?_;rintro e w' ⟨rfl,rfl⟩
       go_wp2_with fail
       refine (HM2.out _).mono ?_;rintro e w' ⟨rfl,rfl⟩
       go_wp2_with fail
       go_ret
       exact ⟨by rw [HR.out];rfl,rfl⟩
     ·have y2:((s[i].toNat:Int)==237)=false:=Zh (by omega)
      have HR:Hid (rn=3):=HR1.out.trans (by rw [if_neg (by omega)])
      clear HR1 HR0 hb hb1
      go_enter Tryz.func150,Tryz.ntmps150
      go_wp2_with fail
      refine (HM1.out _).mono ?_;rintro e w' ⟨rfl,rfl⟩
      go_wp2_with fail
      refine (HM2.out _).mono ?_;rintro e w' ⟨rfl,rfl⟩
      go_wp2_with fail
      go_ret
      exact ⟨by rw [HR.out];rfl,rfl⟩
 have x5:¬ (s[i].toNat:Int)≤239:=by omega
 have x6:240≤(s[i].toNat:Int):=by omega
 by_cases c5:c≤244
 ·have x7:(s[i].toNat:Int)≤244:=by omega
  cases m1 with
  | false =>
   have HR:Hid (rn=0):=HR0.out.trans (by rw [if_neg c1,if_neg (by omega),if_neg (by omega),if_neg (by simp)])
   clear HR0 hb
   go_enter Tryz.func150,Tryz.ntmps150
   go_wp2_with fail
   refine (HM1.out _).mono ?_;rintro e w' ⟨rfl,rfl⟩
   go_wp2_with fail
   go_ret
   exact ⟨by rw [HR.out];rfl,rfl⟩
  | true =>
   have hl1:=HL1.out rfl
   have hb1:=HB1.out hl1
   cases m2 with
   | false =>
    have HR:Hid (rn=0):=HR0.out.trans (by rw [if_neg c1,if_neg (by omega),if_neg (by omega),if_neg (by simp)])
    clear HR0 hb hb1
    go_enter Tryz.func150,Tryz.ntmps150
    go_wp2_with fail
    refine (HM1.out _).mono ?_;rintro e w' ⟨rfl,rfl⟩
    go_wp2_with fail
    refine (HM2.out _).mono ?_;rintro e w' ⟨rfl,rfl⟩
    go_wp2_with fail
    go_ret
    exact ⟨by rw [HR.out];rfl,rfl⟩
   | true =>
    cases m3 with
    | false =>
     have HR:Hid (rn=0):=HR0.out.trans (by rw [if_neg c1,if_neg (by omega),if_neg (by omega),if_neg (by simp)])
     clear HR0 hb hb1
     go_enter Tryz.func150,Tryz.ntmps150
     go_wp2_with fail
     refine (HM1.out _).mono ?_;rintro e w' ⟨rfl,rfl⟩
     go_wp2_with fail
     refine (HM2.out _).mono ?_;rintro e w' ⟨rfl,rfl⟩
     go_wp2_with fail
     refine (HM3.out _).mono ?_;rintro e w' ⟨rfl,rfl⟩
     go_wp2_with fail
     go_ret
     exact ⟨by rw [HR.out];rfl,rfl⟩
    | true =>
     have HR1:=Zb (HR0.out.trans (by rw [if_neg c1,if_neg (by omega),if_neg (by omega),if_pos ⟨⟨by omega,c5⟩,rfl,rfl,rfl⟩]))
     by_cases d0:c=240
     ·have y0:((s[i].toNat:Int)==240)=true:=Jy (by omega)
      by_cases d1:b1<144
      ·have HR:Hid (rn=0):=HR1.out.trans (by rw [if_pos (.inl ⟨d0,d1⟩)])
       have y1:(s[i+1].toNat:Int)<144:=by omega
       clear HR1 HR0 hb hb1
       go_enter Tryz.func150,Tryz.ntmps150
       go_wp2_with fail
       refine (HM1.out _).mono ?_;rintro e w' ⟨rfl,rfl⟩
       go_wp2_with fail
       refine (HM2.out _).mono ?_;rintro e w' ⟨rfl,rfl⟩
       go_wp2_with fail
       refine (HM3.out _).mono ?_;rintro e w' ⟨rfl,rfl⟩
       go_wp2_with fail
       go_ret
       exact ⟨by rw [HR.out];rfl,rfl⟩
      ·have HR:Hid (rn=4):=HR1.out.trans (by rw [if_neg (by omega)])
       have y1:¬ (s[i+1].toNat:Int)<144:=by omega
       have y2:((s[i].toNat:Int)==244)=false:=Zh (by omega)
       clear HR1 HR0 hb hb1
       go_enter Tryz.func150,Tryz.ntmps150
       go_wp2_with fail
       refine (HM1.out _).mono ?_;rintro e w' ⟨rfl,rfl⟩
       go_wp2_with fail
       refine (HM2.out _).mono ?_;rintro e w' ⟨rfl,rfl⟩
       go_wp2_with fail
       refine (HM3.out _).mono ?_;rintro e w' ⟨rfl,rfl⟩
       go_wp2_with fail
       go_ret
       exact ⟨by rw [HR.out];rfl,rfl⟩
     ·have y0:((s[i].toNat:Int)==240)=false:=Zh (by omega)
      by_cases d2:c=244
      ·have y2:((s[i].toNat:Int)==244)=true:=Jy (by omega)
       by_cases d3:143<b1
       ·have HR:Hid (rn=0):=HR1.out.trans (by rw [if_pos (.inr ⟨d2,d3⟩)])
        have y3:143<(s[i+1].toNat:Int):=by omega
        clear HR1 HR0 hb hb1
        go_enter Tryz.func150,Tryz.ntmps150
        go_wp2_with fail
        refine (HM1.out _).mono ?_;rintro e w' ⟨rfl,rfl⟩
        go_wp2_with fail
        refine (HM2.out _).mono ?_;rintro e w' ⟨rfl,rfl⟩
        go_wp2_with fail
        refine (HM3.out _).mono ?_;rintro e w' ⟨rfl,rfl⟩
        go_wp2_with fail
        go_ret
        exact ⟨by rw [HR.out];rfl,rfl⟩
       ·have HR:Hid (rn=4):=HR1.out.trans (by rw [if_neg (by omega)])
        have y3:¬ 143<(s[i+1].toNat:Int):=by omega
        clear HR1 HR0 hb hb1
        go_enter Tryz.func150,Tryz.ntmps150
        go_wp2_with fail
        refine (HM1.out _).mono ?_;rintro e w' ⟨rfl,rfl⟩
        go_wp2_with fail
        refine (HM2.out _).mono ?_;rintro e w' ⟨rfl,rfl⟩
        go_wp2_with fail
        refine (HM3.out _).mono ?_;rintro e w' ⟨rfl,rfl⟩
        go_wp2_with fail
        go_ret
        exact ⟨by rw [HR.out];rfl,rfl⟩
      ·have y2:((s[i].toNat:Int)==244)=false:=Zh (by omega)
       have HR:Hid (rn=4):=HR1.out.trans (by rw [if_neg (by omega)])
       clear HR1 HR0 hb hb1
       go_enter Tryz.func150,Tryz.ntmps150
       go_wp2_with fail
       refine (HM1.out _).mono ?_;rintro e w' ⟨rfl,rfl⟩
       go_wp2_with fail
       refine (HM2.out _).mono ?_;rintro e w' ⟨rfl,rfl⟩
       go_wp2_with fail
       refine (HM3.out _).mono ?_;rintro e w' ⟨rfl,rfl⟩
       go_wp2_with fail
       go_ret
       exact ⟨by rw [HR.out];rfl,rfl⟩
 have x7:¬ (s[i].toNat:Int)≤244:=by omega
 have HR:Hid (rn=0):=HR0.out.trans (by rw [if_neg c1,if_neg (by omega),if_neg (by omega),if_neg (by omega)])
 clear HR0 hb
 go_enter Tryz.func150,Tryz.ntmps150
 go_wp2_with fail
 go_ret
 exact ⟨by rw [HR.out];rfl,rfl⟩
end
section
open Go.RowKit Go.Shelf
set_option linter.all false
theorem Zep (s:ByteArray) (i j:Nat):((s.data.toList.drop i).getD j 0).toNat=Jk s (i+j):=by
 unfold Jk;simp [List.getD]
theorem Zxc (s:ByteArray) (i:Nat):Jk s i<256:=(s.data.toList.getD i 0).toNat_lt
theorem Zdc {s:ByteArray} {i:Nat}:Zbl s i=true↔i<s.size∧128≤Jk s i∧Jk s i≤191:=by
 unfold Zbl;simp
theorem Zq5 (s:ByteArray) (i:Nat) (hi:i<s.size) :
  Lib.validD (s.data.toList.drop i)=if Zeu s i=0 then false else Lib.validD (s.data.toList.drop (i+Zeu s i)):=by
 have hlen:(s.data.toList.drop i).length=s.size - i:=by simp
 have hne:s.data.toList.drop i≠[]:=by intro e;rw [e] at hlen;simp at hlen;omega
 have e0:=Zep s i 0
 have e1:=Zep s i 1
 have e2:=Zep s i 2
 have e3:=Zep s i 3
 rw [Nat.add_zero] at e0
 by_cases c1:Jk s i<128
 ·have hr:Zeu s i=1:=by unfold Zeu;rw [if_pos c1]
  rw [hr,if_neg (by omega)]
  have hd:s.data.toList.drop i=(s.data.toList.drop i).getD 0 0::s.data.toList.drop (i+1):=by
   have h':i<s.data.toList.length:=by simpa using hi
   rw [List.drop_eq_getElem_cons h'];simp
  rw [hd,Lib.validD_cons _ _ (by rw [e0];exact c1)]
 ·rw [Lib.validD_lead _ hne (by rw [e0];omega),e0,e1,e2,e3,hlen]
  have h1:=Zxc s i
  have hm1:=@Zdc s (i+1)
  have hm2:=@Zdc s (i+2)
  have hm3:=@Zdc s (i+3)
  have key:Lib.checkN (s.size - i) (Jk s (i+1)) (Jk s (i+2)) (Jk s (i+3)) (Lib.firstT (Jk s i) % 8) (Lib.accLo (Lib.firstT (Jk s i) / 16)) (Lib.accHi (Lib.firstT (Jk s i) / 16))=if Zeu s i=0 then none else some (Zeu s i):=by
   have HR0:Zeu s i=if Jk s i<128 then 1
    else if (194≤Jk s i∧Jk s i≤223)∧Zbl s (i+1)=true then 2
    else if (224≤Jk s i∧Jk s i≤239)∧Zbl s (i+1)=true∧Zbl s (i+2)=true then
     (if (Jk s i=224∧Jk s (i+1)<160)∨(Jk s i=237∧159<Jk s (i+1)) then 0 else 3)
    else if (240≤Jk s i∧Jk s i≤244)∧Zbl s (i+1)=true∧Zbl s (i+2)=true∧Zbl s (i+3)=true then
     (if (Jk s i=240∧Jk s (i+1)<144)∨(Jk s i=244∧143<Jk s (i+1)) then 0 else 4)
    else 0:=rfl
   rw [if_neg c1] at HR0
   simp only [hm1,hm2,hm3] at HR0
   generalize Zeu s i=rn at *
   generalize Jk s (i+1)=b1 at *
   generalize Jk s (i+2)=b2 at *
   generalize Jk s (i+3)=b3 at *
   generalize Jk s i=c at *
   clear hm1 hm2 hm3 e0 e1 e2 e3 hne hlen
   by_cases c2:c<194
   ·have hf:Lib.firstT c=241:=by unfold Lib.firstT;rw [if_neg c1,if_pos c2]
    have hr:rn=0:=HR0.trans (by rw [if_neg (by omega),if_neg (by omega),if_neg (by omega)])
    rw [hf,hr];rfl
   by_cases c3:c≤223
   ·have hf:Lib.firstT c=2:=by unfold Lib.firstT;rw [if_neg c1,if_neg c2,if_pos (by omega)]
    rw [hf]
    show (if s.size - i<2∨b1<128∨191<b1 then none else some 2)=_
    by_cases hm:i+1<s.size∧128≤b1∧b1≤191
    ·have hr:rn=2:=HR0.trans (by rw [if_pos ⟨⟨by omega,c3⟩,hm⟩])
     rw [if_neg (by omega),hr];rfl
    ·have hr:rn=0:=HR0.trans (by rw [if_neg (fun h=>hm h.2),if_neg (by omega),if_neg (by omega)])
     rw [if_pos (by omega),hr];rfl
   by_cases c4:c≤239
   ·have fin:∀ lo hi,(lo=(if c=224 then 160 else 128))→(hi=(if c=237 then 159 else 191))→(if s.size - i<3∨b1<lo∨hi<b1∨b2<128∨191<b2 then none else some 3)=(if rn=0 then none else some rn):=by
     intro lo hi hlo hhi
     by_cases hm:(i+1<s.size∧128≤b1∧b1≤191)∧(i+2<s.size∧128≤b2∧b2≤191)
     ·have h1:=HR0.trans (by rw [if_neg (by omega),if_pos ⟨⟨by omega,c4⟩,hm⟩])
      by_cases hx:(c=224∧b1<160)∨(c=237∧159<b1)
      ·rw [if_pos hx] at h1
       rw [if_pos (by subst hlo hhi;rcases hx with ⟨e,h⟩ | ⟨e,h⟩;(rw [if_pos e];omega);(rw [if_pos e];omega)),h1];rfl
      ·rw [if_neg hx] at h1
       rw [if_neg (by subst hlo hhi;intro hh;split at hh<;>split at hh<;>omega),h1];rfl
     ·have h1:rn=0:=HR0.trans (by rw [if_neg (by omega),if_neg (fun h=>hm h.2),if_neg (by omega)])
      rw [if_pos (by subst hlo hhi;split<;>split<;>omega),h1];rfl
    by_cases d0:c=224
    ·have hf:Lib.firstT c=19:=by subst d0;rfl
     rw [hf];exact fin 160 191 (by rw [if_pos d0]) (by rw [if_neg (by omega)])
    by_cases d1:c=237
    ·have hf:Lib.firstT c=35:=by subst d1;rfl
     rw [hf];exact fin 128 159 (by rw [if_neg (by omega)]) (by rw [if_pos d1])
    ·have hf:Lib.firstT c=3:=by unfold Lib.firstT;split<;>(try omega)<;>(repeat (first | rfl | omega | split))
     rw [hf];exact fin 128 191 (by rw [if_neg d0]) (by rw [if_neg d1])
   by_cases c5:c≤244
   ·have fin:∀ lo hi,(lo=(if c=240 then 144 else 128))→(hi=(if c=244 then 143 else 191))→(if s.size - i<4∨b1<lo∨hi<b1∨b2<128∨191<b2∨b3<128∨191<b3 then none else some 4)=(if rn=0 then none else some rn):=by
     intro lo hi hlo hhi
     by_cases hm:(i+1<s.size∧128≤b1∧b1≤191)∧(i+2<s.size∧128≤b2∧b2≤191)∧(i+3<s.size∧128≤b3∧b3≤191)
     ·have h1:=HR0.trans (by rw [if_neg (by omega),if_neg (by omega),if_pos ⟨⟨by omega,c5⟩,hm⟩])
      by_cases hx:(c=240∧b1<144)∨(c=244∧143<b1)
      ·rw [if_pos hx] at h1
       rw [if_pos (by subst hlo hhi;rcases hx with ⟨e,h⟩ | ⟨e,h⟩;(rw [if_pos e];omega);(rw [if_pos e];omega)),h1];rfl
      ·rw [if_neg hx] at h1
       rw [if_neg (by subst hlo hhi;intro hh;split at hh<;>split at hh<;>omega),h1];rfl
     ·have h1:rn=0:=HR0.trans (by rw [if_neg (by omega),if_neg (by omega),if_neg (fun h=>hm h.2)])
      rw [if_pos (by subst hlo hhi;split<;>split<;>omega),h1];rfl
    by_cases d0:c=240
    ·have hf:Lib.firstT c=52:=by subst d0;rfl
     rw [hf];exact fin 144 191 (by rw [if_pos d0]) (by rw [if_neg (by omega)])
    by_cases d1:c=244
    ·have hf:Lib.firstT c=68:=by subst d1;rfl
     rw [hf];exact fin 128 143 (by rw [if_neg (by omega)]) (by rw [if_pos d1])
    ·have hf:Lib.firstT c=4:=by unfold Lib.firstT;split<;>(try omega)<;>(repeat (first | rfl | omega | split))
     rw [hf];exact fin 128 191 (by rw [if_neg d0]) (by rw [if_neg d1])
   ·have hf:Lib.firstT c=241:=by unfold Lib.firstT;split<;>(try omega)<;>(repeat (first | rfl | omega | split))
    have hr:rn=0:=HR0.trans (by rw [if_neg (by omega),if_neg (by omega),if_neg (by omega)])
    rw [hf,hr];rfl
  rw [key]
  by_cases hz:Zeu s i=0
  ·rw [if_pos hz,if_pos hz]
  ·rw [if_neg hz,if_neg hz]
   show Lib.validD (List.drop (Zeu s i) (List.drop i s.data.toList))=_
   rw [List.drop_drop]
theorem Zxd {s:ByteArray} {i:Nat} (hi:i<s.size):i+Zeu s i≤s.size:=by
 unfold Zeu
 have hm1:=@Zdc s (i+1)
 have hm2:=@Zdc s (i+2)
 have hm3:=@Zdc s (i+3)
 split
 ·omega
 ·split
  ·rename_i h;have:=hm1.1 h.2;omega
  ·split
   ·rename_i h;have:=hm2.1 h.2.2;split<;>omega
   ·split
    ·rename_i h;have:=hm3.1 h.2.2.2;split<;>omega
    ·omega
set_option maxHeartbeats 1000000 in
theorem Znn (s:ByteArray) (w:World) (hs:s.size≤140737488355328) :
  Calls Tryz.prog 104 #[.string s] w fun e w'=>e=.returned (.bool (Lib.validD s.data.toList))∧w'=w:=by
 go_enter Tryz.func104,Tryz.ntmps104
 go_wp2_with fail
 go_loop [3] (fun i=>∃ j:Nat,j≤s.size∧i=.int .i64 j∧Lib.validD (s.data.toList.drop j)=Lib.validD s.data.toList) (fun i=>s.size - (intOf i).toNat)
 case atStart=>exact ⟨0,Nat.zero_le _,rfl,rfl⟩
 case round =>
  obtain ⟨j,hj,rfl,hv⟩:=hrel
  have HV:=Zb hv
  clear hv
  by_cases hlt:j<s.size
  ·have HST:=Zb (Zq5 s j hlt)
   have HC:=Zb (Zv3 s j w hs hlt)
   have hle:=Zxd hlt
   generalize Zeu s j=rn at *
   go_wp2_with fail
   refine HC.out.mono ?_
   rintro e w1 ⟨rfl,rfl⟩
   by_cases h0:rn=0
   ·have h0':((rn:Int)==0)=true:=beq_iff_eq.2 (by omega)
    have HF:Hid (Lib.validD s.data.toList=false):=by
     have:=HST.out
     rw [if_pos h0,HV.out] at this
     exact this
    clear h0
    go_wp2_with fail
    go_ret
    exact ⟨by rw [HF.out];rfl,rfl⟩
   ·have h0':((rn:Int)==0)=false:=beq_eq_false_iff_ne.2 (by omega)
    have HF:Hid (Lib.validD (s.data.toList.drop (j+rn))=Lib.validD s.data.toList):=by
     have:=HST.out
     rw [if_neg h0,HV.out] at this
     exact this.symm
    go_wp2_with fail
    go_round
    case rel=>exact ⟨j+rn,hle,by go_num,HF.out⟩
    case measure=>simp [intOf];omega
  ·have HF:Hid (Lib.validD s.data.toList=true):=by
    have:=HV.out
    rw [List.drop_of_length_le (by simp;omega)] at this
    exact this.symm
   go_wp2_with fail
   go_ret
   exact ⟨by rw [HF.out];rfl,rfl⟩
end
section
open Go.RowKit Go.Shelf
set_option linter.all false
def suf (s:ByteArray) (i:Nat):List UInt8:=s.data.toList.drop i
theorem Zp5 {s:ByteArray} {i:Nat} (h:i<s.size):suf s i=s[i]::suf s (i+1):=by
 have h':i<s.data.toList.length:=by simpa using h
 unfold suf
 rw [List.drop_eq_getElem_cons h']
 rfl
theorem Ja7 {s:ByteArray} {i:Nat} (h:s.size≤i):suf s i=[]:=by
 unfold suf
 exact List.drop_eq_nil_of_le (by simpa using h)
theorem Ja8 {s:ByteArray} {q:Nat} (hq:q<s.size) (h:s[q].toNat=0):(suf s q).contains 0=true:=by
 rw [Zp5 hq]
 have e:s[q]=UInt8.ofNat 0:=by rw [← h];simp
 simp [e]
theorem Zyr {s:ByteArray} {q:Nat} (hq:q<s.size) (h:s[q].toNat≠0):(suf s q).contains 0=(suf s (q+1)).contains 0:=by
 rw [Zp5 hq,List.contains_cons]
 have e:(0==s[q])=false:=by
  rw [beq_eq_false_iff_ne]
  intro e;rw [← e] at h;exact h rfl
 rw [e,Bool.false_or]
set_option maxHeartbeats 2000000 in
theorem Zit (s:ByteArray) (w:World) (hs:s.size≤140737488355328):Calls Tryz.prog 43 #[.string s] w fun e w'=>e=.returned (.bool (Jn s.data.toList))∧w'=w:=by
 have hv:Jn s.data.toList=(decide (s.size≥1)&&decide (s.size≤64)&&Lib.validD s.data.toList&&!(suf s 0).contains 0):=by
  unfold Jn suf
  simp
 have HV:=Zb hv
 clear hv
 generalize Jn s.data.toList=v at HV ⊢
 have HU:=Zb (fun w=>Znn s w (by omega))
 generalize Lib.validD s.data.toList=u at HV HU
 go_enter Tryz.func43,Tryz.ntmps43
 go_wp2_with fail
 go_loopw [3] (fun x wr=>∃ q:Nat,q≤s.size∧x=.int .i64 q∧wr=w∧(suf s 0).contains 0=(suf s q).contains 0) (fun x _=>s.size - (intOf x).toNat)
 case atStart=>exact ⟨0,Nat.zero_le _,rfl,rfl,rfl⟩
 case round =>
  obtain ⟨q,hq,rfl,rfl,hln⟩:=hrel
  have HLN:=Zb hln
  clear hln
  by_cases hlq:q<s.size
  ·have hlq':(q:Int)<s.size:=by omega
   obtain ⟨m2,hm2⟩:∃ m2,s[q].toNat=m2:=⟨_,rfl⟩
   have hm2':(s[q].toNat:Int)=m2:=by rw [hm2]
   have HM2:=Zb hm2
   clear hm2
   by_cases hz:m2=0
   ·subst hz
    have HE:Hid (v=false):=by
     show _=_
     rw [HV.out,HLN.out,Ja8 hlq HM2.out];simp
    go_wp2_with fail
    go_ret
    rw [HE.out]
    exact ⟨rfl,rfl⟩
   ·have hz':((m2:Int)==0)=false:=Zh (by omega)
    have HE:Hid ((suf s 0).contains 0=(suf s (q+1)).contains 0):=by
     show _=_
     rw [HLN.out]
     exact Zyr hlq (by rw [HM2.out];exact hz)
    go_wp2_with fail
    go_roundw
    case rel=>exact ⟨q+1,by omega,by go_num,trivial,HE.out⟩
    case measure=>simp [intOf];omega
  ·have hlq':¬ (q:Int)<s.size:=by omega
   have HE:Hid (v=(decide (s.size≥1)&&decide (s.size≤64)&&u)):=by
    show _=_
    rw [HV.out,HLN.out,Ja7 (by omega)];simp
   by_cases h1:1≤s.size
   ·have h1':(1:Int)≤s.size:=by omega
    by_cases h2:s.size≤64
    ·have h2':(s.size:Int)≤64:=by omega
     have HE2:Hid (v=u):=by show _=_;rw [HE.out];simp [h1,h2]
     go_wp2_with fail
     refine (HU.out _).mono ?_
     rintro e w1 ⟨rfl,rfl⟩
     go_wp2_with fail
     go_ret
     rw [HE2.out]
     exact ⟨rfl,rfl⟩
    ·have h2':¬ (s.size:Int)≤64:=by omega
     have HE2:Hid (v=false):=by show _=_;rw [HE.out];simp [h2]
     go_wp2_with fail
     go_ret
     rw [HE2.out]
     exact ⟨rfl,rfl⟩
   ·have h1':¬ (1:Int)≤s.size:=by omega
    have HE2:Hid (v=false):=by show _=_;rw [HE.out];simp;omega
    go_wp2_with fail
    go_ret
    rw [HE2.out]
    exact ⟨rfl,rfl⟩
end
