import Derived.Test.YteddjlbfbpecjaaGreatDoorJoin16
import Derived.Lib.ValidLaws
namespace Go.Proofs.YteddjlbfbpecjaaGreatDoor
set_option maxHeartbeats 4000000
set_option linter.all false
section
open Go.RowKit Go.Shelf
attribute [local go_sem] Oper.semAt_some
set_option maxRecDepth 10000 in
theorem Jdc (ρ:Operand->Value) (X:Nat) (w:World) (a d c e:Value) (nn nr:Int) (h:Rec w X #[a,d,c,e] 25) (k:ρ (.tmp 3)=.pointer (some ⟨X,0,none⟩)) (b:ρ (.tmp 16)=.agg #[.slice none 0 0,.slice none 0 0,.int .i64 nn,.int .i64 nr]) :
  ∃ w',(execOp ρ (⟨none,.store 25 (.tmp 3) (.tmp 16),0, "graph.go:126",#[⟨9,.data⟩,⟨8,.data⟩,⟨0,.phase⟩,⟨1,.phase⟩,⟨2,.phase⟩,⟨3,.phase⟩,⟨4,.phase⟩,⟨5,.phase⟩,⟨6,.phase⟩,⟨7,.phase⟩,⟨8,.phase⟩,⟨9,.phase⟩],none⟩:Oper)).run Tryz.prog w=.ok .skip w'/\Put X w w' #[.slice none 0 0,.slice none 0 0,.int .i64 nn,.int .i64 nr] 25:=by
 have c0:=h.cell 0 rfl
 have c1:=h.cell 1 rfl
 have c2:=h.cell 2 rfl
 have c3:=h.cell 3 rfl
 have f:=h.z 0
 have i:=h.z 1
 have j:=h.z 2
 have g:=h.z 3
 refine ⟨(((w.setCell ⟨X,0,none⟩ (.slice none 0 0)).setCell ⟨X,1,none⟩ (.slice none 0 0)).setCell ⟨X,2,none⟩ (.int .i64 nn)).setCell ⟨X,3,none⟩ (.int .i64 nr),?_,by simpa using Zco (Zco (Zco (Zco (Zlf h) 0 (.slice none 0 0)) 1 (.slice none 0 0)) 2 (.int .i64 nn)) 3 (.int .i64 nr)⟩
 clear h
 go_simp
end
section
open Go.RowKit Go.Shelf
def Jl (s:ByteArray) (i:Nat):Nat:=(s.data.toList.getD i 0).toNat
theorem Zla {s:ByteArray} {i:Nat} (h:i<s.size):s[i].toNat=Jl s i:=by
 unfold Jl
 have C:i<s.data.toList.length:=by simpa using h
 rw [List.getD_eq_getElem?_getD,List.getElem?_eq_getElem C]
 rfl
def Zbq (s:ByteArray) (i:Nat):Bool:=decide (i<s.size)&&(decide (128<=Jl s i)&&decide (Jl s i<=191))
theorem Zlb (s:ByteArray) (i:Nat) (w:World) (v:s.size<=140737488355328) (B:i<=140737488355400) :
  Calls Tryz.prog 184 #[.string s,.int .i64 i] w fun e w'=>e=.returned (.bool (Zbq s i))/\w'=w:=by
 unfold Zbq
 by_cases r:i<s.size
 ·have k:=Zla r
  have p:decide (i<s.size)=true:=decide_eq_true r
  rw [p,Bool.true_and]
  by_cases h1:128<=Jl s i
  ·have y:(128:Int)<=(s[i].toNat:Int):=by omega
   have m:decide (128<=Jl s i)=true:=decide_eq_true h1
   rw [m,Bool.true_and]
   by_cases h2:Jl s i<=191
   ·have x:(s[i].toNat:Int)<=191:=by omega
    have n:decide (Jl s i<=191)=true:=decide_eq_true h2
    rw [n]
    clear k h1 h2 p m n
    go_enter Tryz.func184,Tryz.ntmps184
    go_wp2
    go_ret
    exact ⟨rfl,rfl⟩
   ·have x:¬ (s[i].toNat:Int)<=191:=by omega
    have n:decide (Jl s i<=191)=false:=decide_eq_false h2
    rw [n]
    clear k h1 h2 p m n
    go_enter Tryz.func184,Tryz.ntmps184
    go_wp2
    go_ret
    exact ⟨rfl,rfl⟩
  ·have y:¬ (128:Int)<=(s[i].toNat:Int):=by omega
   have m:decide (128<=Jl s i)=false:=decide_eq_false h1
   rw [m,Bool.false_and]
   clear k h1 p m
   go_enter Tryz.func184,Tryz.ntmps184
   go_wp2
   go_ret
   exact ⟨rfl,rfl⟩
 ·have p:decide (i<s.size)=false:=decide_eq_false r
  rw [p,Bool.false_and]
  clear p
  go_enter Tryz.func184,Tryz.ntmps184
  go_wp2
  go_ret
  exact ⟨rfl,rfl⟩
def Ze3 (s:ByteArray) (i:Nat):Nat :=
 if Jl s i<128 then 1
 else if (194<=Jl s i/\Jl s i<=223)/\Zbq s (i+1)=true then 2
 else if (224<=Jl s i/\Jl s i<=239)/\Zbq s (i+1)=true/\Zbq s (i+2)=true then
  (if (Jl s i=224/\Jl s (i+1)<160)\/(Jl s i=237/\159<Jl s (i+1)) then 0 else 3)
 else if (240<=Jl s i/\Jl s i<=244)/\Zbq s (i+1)=true/\Zbq s (i+2)=true/\Zbq s (i+3)=true then
  (if (Jl s i=240/\Jl s (i+1)<144)\/(Jl s i=244/\143<Jl s (i+1)) then 0 else 4)
 else 0
theorem Zy6 {s:ByteArray} {i:Nat} (h:Zbq s i=true):i<s.size:=by
 unfold Zbq at h
 simp at h
 exact h.1
set_option maxRecDepth 100000 in
theorem Zy7 (s:ByteArray) (i:Nat) (w:World) (v:s.size<=140737488355328) (r:i<s.size) :
  Calls Tryz.prog 150 #[.string s,.int .i64 i] w fun e w'=>e=.returned (.int .i64 (Ze3 s i))/\w'=w:=by
 have k:=Zla r
 have a:Hid (Ze3 s i=if Jl s i<128 then 1
  else if (194<=Jl s i/\Jl s i<=223)/\Zbq s (i+1)=true then 2
  else if (224<=Jl s i/\Jl s i<=239)/\Zbq s (i+1)=true/\Zbq s (i+2)=true then
   (if (Jl s i=224/\Jl s (i+1)<160)\/(Jl s i=237/\159<Jl s (i+1)) then 0 else 3)
  else if (240<=Jl s i/\Jl s i<=244)/\Zbq s (i+1)=true/\Zbq s (i+2)=true/\Zbq s (i+3)=true then
   (if (Jl s i=240/\Jl s (i+1)<144)\/(Jl s i=244/\143<Jl s (i+1)) then 0 else 4)
  else 0):=rfl
 have f:Hid (∀ W,Calls Tryz.prog 184 #[.string s,.int .i64 ((i:Int)+1)] W fun e w'=>e=.returned (.bool (Zbq s (i+1)))/\w'=W):=fun W=>Zlb s (i+1) W v (by omega)
 have j:Hid (∀ W,Calls Tryz.prog 184 #[.string s,.int .i64 ((i:Int)+2)] W fun e w'=>e=.returned (.bool (Zbq s (i+2)))/\w'=W):=fun W=>Zlb s (i+2) W v (by omega)
 have l:Hid (∀ W,Calls Tryz.prog 184 #[.string s,.int .i64 ((i:Int)+3)] W fun e w'=>e=.returned (.bool (Zbq s (i+3)))/\w'=W):=fun W=>Zlb s (i+3) W v (by omega)
 have u:Hid (Zbq s (i+1)=true->i+1<s.size):=Zy6
 have t:Hid (∀ h:i+1<s.size,s[i+1].toNat=Jl s (i+1)):=fun h=>Zla h
 generalize Zbq s (i+1)=m1 at *
 generalize Zbq s (i+2)=m2 at *
 generalize Zbq s (i+3)=m3 at *
 generalize Jl s (i+1)=b1 at *
 generalize Jl s i=c at *
 generalize Ze3 s i=rn at *
 by_cases c1:c<128
 ·have d:Hid (rn=1):=a.out.trans (by rw [if_pos c1])
  have x1:(s[i].toNat:Int)<128:=by omega
  clear a k
  go_enter Tryz.func150,Tryz.ntmps150
  go_wp2_with fail
  go_ret
  exact ⟨by rw [d.out];rfl,rfl⟩
 have x1:¬ (s[i].toNat:Int)<128:=by omega
 by_cases c2:c<194
 ·have d:Hid (rn=0):=a.out.trans (by rw [if_neg c1,if_neg (by omega),if_neg (by omega),if_neg (by omega)])
  have x2:¬ 194<=(s[i].toNat:Int):=by omega
  have x3:¬ 224<=(s[i].toNat:Int):=by omega
  have x4:¬ 240<=(s[i].toNat:Int):=by omega
  clear a k
  go_enter Tryz.func150,Tryz.ntmps150
  go_wp2_with fail
  go_ret
  exact ⟨by rw [d.out];rfl,rfl⟩
 have x2:194<=(s[i].toNat:Int):=by omega
 by_cases c3:c<=223
 ·have x3:(s[i].toNat:Int)<=223:=by omega
  have x4:¬ 224<=(s[i].toNat:Int):=by omega
  have x5:¬ 240<=(s[i].toNat:Int):=by omega
  cases m1 with
  | true =>
   have d:Hid (rn=2):=a.out.trans (by rw [if_neg c1,if_pos ⟨⟨by omega,c3⟩,rfl⟩])
   clear a k
   go_enter Tryz.func150,Tryz.ntmps150
   go_wp2_with fail
   refine (f.out _).mono ?_;rintro e w' ⟨rfl,rfl⟩
   go_wp2_with fail
   go_ret
   exact ⟨by rw [d.out];rfl,rfl⟩
  | false =>
   have d:Hid (rn=0):=a.out.trans (by rw [if_neg c1,if_neg (by simp),if_neg (by omega),if_neg (by omega)])
   clear a k
   go_enter Tryz.func150,Tryz.ntmps150
   go_wp2_with fail
   refine (f.out _).mono ?_;rintro e w' ⟨rfl,rfl⟩
   go_wp2_with fail
   go_ret
   exact ⟨by rw [d.out];rfl,rfl⟩
 have x3:¬ (s[i].toNat:Int)<=223:=by omega
 have x4:224<=(s[i].toNat:Int):=by omega
 by_cases c4:c<=239
 ·have x5:(s[i].toNat:Int)<=239:=by omega
  have x6:¬ 240<=(s[i].toNat:Int):=by omega
  cases m1 with
  | false =>
   have d:Hid (rn=0):=a.out.trans (by rw [if_neg c1,if_neg (by omega),if_neg (by simp),if_neg (by omega)])
   clear a k
   go_enter Tryz.func150,Tryz.ntmps150
   go_wp2_with fail
   refine (f.out _).mono ?_;rintro e w' ⟨rfl,rfl⟩
   go_wp2_with fail
   go_ret
   exact ⟨by rw [d.out];rfl,rfl⟩
  | true =>
   have o:=u.out rfl
   have g:=t.out o
   cases m2 with
   | false =>
    have d:Hid (rn=0):=a.out.trans (by rw [if_neg c1,if_neg (by omega),if_neg (by simp),if_neg (by omega)])
    clear a k g
    go_enter Tryz.func150,Tryz.ntmps150
    go_wp2_with fail
    refine (f.out _).mono ?_;rintro e w' ⟨rfl,rfl⟩
    go_wp2_with fail
    refine (j.out _).mono ?_;rintro e w' ⟨rfl,rfl⟩
    go_wp2_with fail
    go_ret
    exact ⟨by rw [d.out];rfl,rfl⟩
   | true =>
    have b:=Zb (a.out.trans (by rw [if_neg c1,if_neg (by omega),if_pos ⟨⟨by omega,c4⟩,rfl,rfl⟩]))
    by_cases d0:c=224
    ·have y0:((s[i].toNat:Int)==224)=true:=Zah (by omega)
     by_cases d1:b1<160
     ·have d:Hid (rn=0):=b.out.trans (by rw [if_pos (.inl ⟨d0,d1⟩)])
      have z:(s[i+1].toNat:Int)<160:=by omega
      clear b a k g
      go_enter Tryz.func150,Tryz.ntmps150
      go_wp2_with fail
      refine (f.out _).mono ?_;rintro e w' ⟨rfl,rfl⟩
      go_wp2_with fail
      refine (j.out _).mono ?_;rintro e w' ⟨rfl,rfl⟩
      go_wp2_with fail
      go_ret
      exact ⟨by rw [d.out];rfl,rfl⟩
     ·have d:Hid (rn=3):=b.out.trans (by rw [if_neg (by omega)])
      have z:¬ (s[i+1].toNat:Int)<160:=by omega
      have q:((s[i].toNat:Int)==237)=false:=Zh (by omega)
      clear b a k g
      go_enter Tryz.func150,Tryz.ntmps150
      go_wp2_with fail
      refine (f.out _).mono ?_;rintro e w' ⟨rfl,rfl⟩
      go_wp2_with fail
      refine (j.out _).mono ?_;rintro e w' ⟨rfl,rfl⟩
      go_wp2_with fail
      go_ret
      exact ⟨by rw [d.out];rfl,rfl⟩
    ·have y0:((s[i].toNat:Int)==224)=false:=Zh (by omega)
     by_cases d2:c=237
     ·have q:((s[i].toNat:Int)==237)=true:=Zah (by omega)
      by_cases d3:159<b1
      ·have d:Hid (rn=0):=b.out.trans (by rw [if_pos (.inr ⟨d2,d3⟩)])
       have A:159<(s[i+1].toNat:Int):=by omega
       clear b a k g
       go_enter Tryz.func150,Tryz.ntmps150
       go_wp2_with fail
       refine (f.out _).mono ?_;rintro e w' ⟨rfl,rfl⟩
       go_wp2_with fail
       refine (j.out _).mono ?_;rintro e w' ⟨rfl,rfl⟩
       go_wp2_with fail
       go_ret
       exact ⟨by rw [d.out];rfl,rfl⟩
      ·have d:Hid (rn=3):=b.out.trans (by rw [if_neg (by omega)])
       have A:¬ 159<(s[i+1].toNat:Int):=by omega
       clear b a k g
       go_enter Tryz.func150,Tryz.ntmps150
       go_wp2_with fail
       refine (f.out _).mono ?_;rintro e w' ⟨rfl,rfl⟩
       go_wp2_with fail
       refine (j.out _).mono ?_;rintro e w' ⟨rfl,rfl⟩
       go_wp2_with fail
       go_ret
       exact ⟨by rw [d.out];rfl,rfl⟩
     ·have q:((s[i].toNat:Int)==237)=false:=Zh (by omega)
      have d:Hid (rn=3):=b.out.trans (by rw [if_neg (by omega)])
      clear b a k g
      go_enter Tryz.func150,Tryz.ntmps150
      go_wp2_with fail
      refine (f.out _).mono ?_;rintro e w' ⟨rfl,rfl⟩
      go_wp2_with fail
      refine (j.out _).mono ?_;rintro e w' ⟨rfl,rfl⟩
      go_wp2_with fail
      go_ret
      exact ⟨by rw [d.out];rfl,rfl⟩
 have x5:¬ (s[i].toNat:Int)<=239:=by omega
 have x6:240<=(s[i].toNat:Int):=by omega
 by_cases c5:c<=244
 ·have x7:(s[i].toNat:Int)<=244:=by omega
  cases m1 with
  | false =>
   have d:Hid (rn=0):=a.out.trans (by rw [if_neg c1,if_neg (by omega),if_neg (by omega),if_neg (by simp)])
   clear a k
   go_enter Tryz.func150,Tryz.ntmps150
   go_wp2_with fail
   refine (f.out _).mono ?_;rintro e w' ⟨rfl,rfl⟩
   go_wp2_with fail
   go_ret
   exact ⟨by rw [d.out];rfl,rfl⟩
  | true =>
   have o:=u.out rfl
   have g:=t.out o
   cases m2 with
   | false =>
    have d:Hid (rn=0):=a.out.trans (by rw [if_neg c1,if_neg (by omega),if_neg (by omega),if_neg (by simp)])
    clear a k g
    go_enter Tryz.func150,Tryz.ntmps150
    go_wp2_with fail
    refine (f.out _).mono ?_;rintro e w' ⟨rfl,rfl⟩
    go_wp2_with fail
    refine (j.out _).mono ?_;rintro e w' ⟨rfl,rfl⟩
    go_wp2_with fail
    go_ret
    exact ⟨by rw [d.out];rfl,rfl⟩
   | true =>
    cases m3 with
    | false =>
     have d:Hid (rn=0):=a.out.trans (by rw [if_neg c1,if_neg (by omega),if_neg (by omega),if_neg (by simp)])
     clear a k g
     go_enter Tryz.func150,Tryz.ntmps150
     go_wp2_with fail
     refine (f.out _).mono ?_;rintro e w' ⟨rfl,rfl⟩
     go_wp2_with fail
     refine (j.out _).mono ?_;rintro e w' ⟨rfl,rfl⟩
     go_wp2_with fail
     refine (l.out _).mono ?_;rintro e w' ⟨rfl,rfl⟩
     go_wp2_with fail
     go_ret
     exact ⟨by rw [d.out];rfl,rfl⟩
    | true =>
     have b:=Zb (a.out.trans (by rw [if_neg c1,if_neg (by omega),if_neg (by omega),if_pos ⟨⟨by omega,c5⟩,rfl,rfl,rfl⟩]))
     by_cases d0:c=240
     ·have y0:((s[i].toNat:Int)==240)=true:=Zah (by omega)
      by_cases d1:b1<144
      ·have d:Hid (rn=0):=b.out.trans (by rw [if_pos (.inl ⟨d0,d1⟩)])
       have z:(s[i+1].toNat:Int)<144:=by omega
       clear b a k g
       go_enter Tryz.func150,Tryz.ntmps150
       go_wp2_with fail
       refine (f.out _).mono ?_;rintro e w' ⟨rfl,rfl⟩
       go_wp2_with fail
       refine (j.out _).mono ?_;rintro e w' ⟨rfl,rfl⟩
       go_wp2_with fail
       refine (l.out _).mono ?_;rintro e w' ⟨rfl,rfl⟩
       go_wp2_with fail
       go_ret
       exact ⟨by rw [d.out];rfl,rfl⟩
      ·have d:Hid (rn=4):=b.out.trans (by rw [if_neg (by omega)])
       have z:¬ (s[i+1].toNat:Int)<144:=by omega
       have q:((s[i].toNat:Int)==244)=false:=Zh (by omega)
       clear b a k g
       go_enter Tryz.func150,Tryz.ntmps150
       go_wp2_with fail
       refine (f.out _).mono ?_;rintro e w' ⟨rfl,rfl⟩
       go_wp2_with fail
       refine (j.out _).mono ?_;rintro e w' ⟨rfl,rfl⟩
       go_wp2_with fail
       refine (l.out _).mono ?_;rintro e w' ⟨rfl,rfl⟩
       go_wp2_with fail
       go_ret
       exact ⟨by rw [d.out];rfl,rfl⟩
     ·have y0:((s[i].toNat:Int)==240)=false:=Zh (by omega)
      by_cases d2:c=244
      ·have q:((s[i].toNat:Int)==244)=true:=Zah (by omega)
       by_cases d3:143<b1
       ·have d:Hid (rn=0):=b.out.trans (by rw [if_pos (.inr ⟨d2,d3⟩)])
        have A:143<(s[i+1].toNat:Int):=by omega
        clear b a k g
        go_enter Tryz.func150,Tryz.ntmps150
        go_wp2_with fail
        refine (f.out _).mono ?_;rintro e w' ⟨rfl,rfl⟩
        go_wp2_with fail
        refine (j.out _).mono ?_;rintro e w' ⟨rfl,rfl⟩
        go_wp2_with fail
        refine (l.out _).mono ?_;rintro e w' ⟨rfl,rfl⟩
        go_wp2_with fail
        go_ret
        exact ⟨by rw [d.out];rfl,rfl⟩
       ·have d:Hid (rn=4):=b.out.trans (by rw [if_neg (by omega)])
        have A:¬ 143<(s[i+1].toNat:Int):=by omega
        clear b a k g
        go_enter Tryz.func150,Tryz.ntmps150
        go_wp2_with fail
        refine (f.out _).mono ?_;rintro e w' ⟨rfl,rfl⟩
        go_wp2_with fail
        refine (j.out _).mono ?_;rintro e w' ⟨rfl,rfl⟩
        go_wp2_with fail
        refine (l.out _).mono ?_;rintro e w' ⟨rfl,rfl⟩
        go_wp2_with fail
        go_ret
        exact ⟨by rw [d.out];rfl,rfl⟩
      ·have q:((s[i].toNat:Int)==244)=false:=Zh (by omega)
       have d:Hid (rn=4):=b.out.trans (by rw [if_neg (by omega)])
       clear b a k g
       go_enter Tryz.func150,Tryz.ntmps150
       go_wp2_with fail
       refine (f.out _).mono ?_;rintro e w' ⟨rfl,rfl⟩
       go_wp2_with fail
       refine (j.out _).mono ?_;rintro e w' ⟨rfl,rfl⟩
       go_wp2_with fail
       refine (l.out _).mono ?_;rintro e w' ⟨rfl,rfl⟩
       go_wp2_with fail
       go_ret
       exact ⟨by rw [d.out];rfl,rfl⟩
 have x7:¬ (s[i].toNat:Int)<=244:=by omega
 have d:Hid (rn=0):=a.out.trans (by rw [if_neg c1,if_neg (by omega),if_neg (by omega),if_neg (by omega)])
 clear a k
 go_enter Tryz.func150,Tryz.ntmps150
 go_wp2_with fail
 go_ret
 exact ⟨by rw [d.out];rfl,rfl⟩
end
section
open Go.RowKit Go.Shelf
theorem Zez (s:ByteArray) (i j:Nat):((s.data.toList.drop i).getD j 0).toNat=Jl s (i+j):=by
 unfold Jl;simp [List.getD]
theorem Zz9 (s:ByteArray) (i:Nat):Jl s i<256:=(s.data.toList.getD i 0).toNat_lt
theorem Zdo {s:ByteArray} {i:Nat}:Zbq s i=true↔i<s.size/\128<=Jl s i/\Jl s i<=191:=by
 unfold Zbq;simp
theorem Ztn (s:ByteArray) (i:Nat) (m:i<s.size) :
  Lib.validD (s.data.toList.drop i)=if Ze3 s i=0 then false else Lib.validD (s.data.toList.drop (i+Ze3 s i)):=by
 have l:(s.data.toList.drop i).length=s.size - i:=by simp
 have u:s.data.toList.drop i≠[]:=by intro e;rw [e] at l;simp at l;omega
 have t:=Zez s i 0
 have e1:=Zez s i 1
 have e2:=Zez s i 2
 have D:=Zez s i 3
 rw [Nat.add_zero] at t
 by_cases c1:Jl s i<128
 ·have o:Ze3 s i=1:=by unfold Ze3;rw [if_pos c1]
  rw [o,if_neg (by omega)]
  have G:s.data.toList.drop i=(s.data.toList.drop i).getD 0 0::s.data.toList.drop (i+1):=by
   have H:i<s.data.toList.length:=by simpa using m
   rw [List.drop_eq_getElem_cons H];simp
  rw [G,Lib.validD_cons _ _ (by rw [t];exact c1)]
 ·rw [Lib.validD_lead _ u (by rw [t];omega),t,e1,e2,D,l]
  have h1:=Zz9 s i
  have p:=@Zdo s (i+1)
  have n:=@Zdo s (i+2)
  have q:=@Zdo s (i+3)
  have key:Lib.checkN (s.size - i) (Jl s (i+1)) (Jl s (i+2)) (Jl s (i+3)) (Lib.firstT (Jl s i) % 8) (Lib.accLo (Lib.firstT (Jl s i) / 16)) (Lib.accHi (Lib.firstT (Jl s i) / 16))=if Ze3 s i=0 then none else some (Ze3 s i):=by
   have a:Ze3 s i=if Jl s i<128 then 1
    else if (194<=Jl s i/\Jl s i<=223)/\Zbq s (i+1)=true then 2
    else if (224<=Jl s i/\Jl s i<=239)/\Zbq s (i+1)=true/\Zbq s (i+2)=true then
     (if (Jl s i=224/\Jl s (i+1)<160)\/(Jl s i=237/\159<Jl s (i+1)) then 0 else 3)
    else if (240<=Jl s i/\Jl s i<=244)/\Zbq s (i+1)=true/\Zbq s (i+2)=true/\Zbq s (i+3)=true then
     (if (Jl s i=240/\Jl s (i+1)<144)\/(Jl s i=244/\143<Jl s (i+1)) then 0 else 4)
    else 0:=rfl
   rw [if_neg c1] at a
   simp only [p,n,q] at a
   generalize Ze3 s i=d at *
   generalize Jl s (i+1)=b1 at *
   generalize Jl s (i+2)=b2 at *
   generalize Jl s (i+3)=b3 at *
   generalize Jl s i=c at *
   clear p n q t e1 e2 D u l
   by_cases c2:c<194
   ·have b:Lib.firstT c=241:=by unfold Lib.firstT;rw [if_neg c1,if_pos c2]
    have o:d=0:=a.trans (by rw [if_neg (by omega),if_neg (by omega),if_neg (by omega)])
    rw [b,o];rfl
   by_cases c3:c<=223
   ·have b:Lib.firstT c=2:=by unfold Lib.firstT;rw [if_neg c1,if_neg c2,if_pos (by omega)]
    rw [b]
    show (if s.size - i<2\/b1<128\/191<b1 then none else some 2)=_
    by_cases hm:i+1<s.size/\128<=b1/\b1<=191
    ·have o:d=2:=a.trans (by rw [if_pos ⟨⟨by omega,c3⟩,hm⟩])
     rw [if_neg (by omega),o];rfl
    ·have o:d=0:=a.trans (by rw [if_neg (fun h=>hm h.2),if_neg (by omega),if_neg (by omega)])
     rw [if_pos (by omega),o];rfl
   by_cases c4:c<=239
   ·have k:∀ r m,(r=(if c=224 then 160 else 128))->(m=(if c=237 then 159 else 191))->(if s.size - i<3\/b1<r\/m<b1\/b2<128\/191<b2 then none else some 3)=(if d=0 then none else some d):=by
     intro r m g f
     by_cases hm:(i+1<s.size/\128<=b1/\b1<=191)/\(i+2<s.size/\128<=b2/\b2<=191)
     ·have h1:=a.trans (by rw [if_neg (by omega),if_pos ⟨⟨by omega,c4⟩,hm⟩])
      by_cases hx:(c=224/\b1<160)\/(c=237/\159<b1)
      ·rw [if_pos hx] at h1
       rw [if_pos (by subst g f;rcases hx with ⟨e,h⟩ | ⟨e,h⟩;(rw [if_pos e];omega);(rw [if_pos e];omega)),h1];rfl
      ·rw [if_neg hx] at h1
       rw [if_neg (by subst g f;intro y;split at y<;>split at y<;>omega),h1];rfl
     ·have h1:d=0:=a.trans (by rw [if_neg (by omega),if_neg (fun h=>hm h.2),if_neg (by omega)])
      rw [if_pos (by subst g f;split<;>split<;>omega),h1];rfl
    by_cases d0:c=224
    ·have b:Lib.firstT c=19:=by subst d0;rfl
     rw [b];exact k 160 191 (by rw [if_pos d0]) (by rw [if_neg (by omega)])
    by_cases d1:c=237
    ·have b:Lib.firstT c=35:=by subst d1;rfl
     rw [b];exact k 128 159 (by rw [if_neg (by omega)]) (by rw [if_pos d1])
    ·have b:Lib.firstT c=3:=by unfold Lib.firstT;split<;>(try omega)<;>(repeat (first | rfl | omega | split))
     rw [b];exact k 128 191 (by rw [if_neg d0]) (by rw [if_neg d1])
   by_cases c5:c<=244
   ·have k:∀ r m,(r=(if c=240 then 144 else 128))->(m=(if c=244 then 143 else 191))->(if s.size - i<4\/b1<r\/m<b1\/b2<128\/191<b2\/b3<128\/191<b3 then none else some 4)=(if d=0 then none else some d):=by
     intro r m g f
     by_cases hm:(i+1<s.size/\128<=b1/\b1<=191)/\(i+2<s.size/\128<=b2/\b2<=191)/\(i+3<s.size/\128<=b3/\b3<=191)
     ·have h1:=a.trans (by rw [if_neg (by omega),if_neg (by omega),if_pos ⟨⟨by omega,c5⟩,hm⟩])
      by_cases hx:(c=240/\b1<144)\/(c=244/\143<b1)
      ·rw [if_pos hx] at h1
       rw [if_pos (by subst g f;rcases hx with ⟨e,h⟩ | ⟨e,h⟩;(rw [if_pos e];omega);(rw [if_pos e];omega)),h1];rfl
      ·rw [if_neg hx] at h1
       rw [if_neg (by subst g f;intro y;split at y<;>split at y<;>omega),h1];rfl
     ·have h1:d=0:=a.trans (by rw [if_neg (by omega),if_neg (by omega),if_neg (fun h=>hm h.2)])
      rw [if_pos (by subst g f;split<;>split<;>omega),h1];rfl
    by_cases d0:c=240
    ·have b:Lib.firstT c=52:=by subst d0;rfl
     rw [b];exact k 144 191 (by rw [if_pos d0]) (by rw [if_neg (by omega)])
    by_cases d1:c=244
    ·have b:Lib.firstT c=68:=by subst d1;rfl
     rw [b];exact k 128 143 (by rw [if_neg (by omega)]) (by rw [if_pos d1])
    ·have b:Lib.firstT c=4:=by unfold Lib.firstT;split<;>(try omega)<;>(repeat (first | rfl | omega | split))
     rw [b];exact k 128 191 (by rw [if_neg d0]) (by rw [if_neg d1])
   ·have b:Lib.firstT c=241:=by unfold Lib.firstT;split<;>(try omega)<;>(repeat (first | rfl | omega | split))
    have o:d=0:=a.trans (by rw [if_neg (by omega),if_neg (by omega),if_neg (by omega)])
    rw [b,o];rfl
  rw [key]
  by_cases hz:Ze3 s i=0
  ·rw [if_pos hz,if_pos hz]
  ·rw [if_neg hz,if_neg hz]
   show Lib.validD (List.drop (Ze3 s i) (List.drop i s.data.toList))=_
   rw [List.drop_drop]
theorem Jaa {s:ByteArray} {i:Nat} (m:i<s.size):i+Ze3 s i<=s.size:=by
 unfold Ze3
 have p:=@Zdo s (i+1)
 have n:=@Zdo s (i+2)
 have q:=@Zdo s (i+3)
 split
 ·omega
 ·split
  ·rename_i h;have:=p.1 h.2;omega
  ·split
   ·rename_i h;have:=n.1 h.2.2;split<;>omega
   ·split
    ·rename_i h;have:=q.1 h.2.2.2;split<;>omega
    ·omega
set_option maxHeartbeats 1000000 in
theorem Zpn (s:ByteArray) (w:World) (E:s.size<=140737488355328) :
  Calls Tryz.prog 104 #[.string s] w fun e w'=>e=.returned (.bool (Lib.validD s.data.toList))/\w'=w:=by
 go_enter Tryz.func104,Tryz.ntmps104
 go_wp2_with fail
 go_loop [3] (fun i=>∃ j:Nat,j<=s.size/\i=.int .i64 j/\Lib.validD (s.data.toList.drop j)=Lib.validD s.data.toList) (fun i=>s.size - (intOf i).toNat)
 case atStart=>exact ⟨0,Nat.zero_le _,rfl,rfl⟩
 case round =>
  obtain ⟨j,I,rfl,C⟩:=hrel
  have B:=Zb C
  clear C
  by_cases hlt:j<s.size
  ·have v:=Zb (Ztn s j hlt)
   have F:=Zb (Zy7 s j w E hlt)
   have z:=Jaa hlt
   generalize Ze3 s j=d at *
   go_wp2_with fail
   refine F.out.mono ?_
   rintro e w1 ⟨rfl,rfl⟩
   by_cases h0:d=0
   ·have A:((d:Int)==0)=true:=beq_iff_eq.2 (by omega)
    have x:Hid (Lib.validD s.data.toList=false):=by
     have:=v.out
     rw [if_pos h0,B.out] at this
     exact this
    clear h0
    go_wp2_with fail
    go_ret
    exact ⟨by rw [x.out];rfl,rfl⟩
   ·have A:((d:Int)==0)=false:=beq_eq_false_iff_ne.2 (by omega)
    have x:Hid (Lib.validD (s.data.toList.drop (j+d))=Lib.validD s.data.toList):=by
     have:=v.out
     rw [if_neg h0,B.out] at this
     exact this.symm
    go_wp2_with fail
    go_round
    case rel=>exact ⟨j+d,z,by go_num,x.out⟩
    case measure=>simp [intOf];omega
  ·have x:Hid (Lib.validD s.data.toList=true):=by
    have:=B.out
    rw [List.drop_of_length_le (by simp;omega)] at this
    exact this.symm
   go_wp2_with fail
   go_ret
   exact ⟨by rw [x.out];rfl,rfl⟩
end
section
open Go.RowKit Go.Shelf
def suf (s:ByteArray) (i:Nat):List UInt8:=s.data.toList.drop i
theorem Zsl {s:ByteArray} {i:Nat} (h:i<s.size):suf s i=s[i]::suf s (i+1):=by
 have y:i<s.data.toList.length:=by simpa using h
 unfold suf
 rw [List.drop_eq_getElem_cons y]
 rfl
theorem Jdz {s:ByteArray} {i:Nat} (h:s.size<=i):suf s i=[]:=by
 unfold suf
 exact List.drop_eq_nil_of_le (by simpa using h)
theorem Jd0 {s:ByteArray} {q:Nat} (m:q<s.size) (h:s[q].toNat=0):(suf s q).contains 0=true:=by
 rw [Zsl m]
 have e:s[q]=UInt8.ofNat 0:=by rw [<- h];simp
 simp [e]
theorem Jbr {s:ByteArray} {q:Nat} (m:q<s.size) (h:s[q].toNat≠0):(suf s q).contains 0=(suf s (q+1)).contains 0:=by
 rw [Zsl m,List.contains_cons]
 have e:(0==s[q])=false:=by
  rw [beq_eq_false_iff_ne]
  intro e;rw [<- e] at h;exact h rfl
 rw [e,Bool.false_or]
set_option maxHeartbeats 2000000 in
theorem Zjs (s:ByteArray) (w:World) (A:s.size<=140737488355328):Calls Tryz.prog 43 #[.string s] w fun e w'=>e=.returned (.bool (Ju s.data.toList))/\w'=w:=by
 have p:Ju s.data.toList=(decide (s.size>=1)&&decide (s.size<=64)&&Lib.validD s.data.toList&&!(suf s 0).contains 0):=by
  unfold Ju suf
  simp
 have l:=Zb p
 clear p
 generalize Ju s.data.toList=v at l |-
 have r:=Zb (fun w=>Zpn s w (by omega))
 generalize Lib.validD s.data.toList=u at l r
 go_enter Tryz.func43,Tryz.ntmps43
 go_wp2_with fail
 go_loopw [3] (fun x wr=>∃ q:Nat,q<=s.size/\x=.int .i64 q/\wr=w/\(suf s 0).contains 0=(suf s q).contains 0) (fun x _=>s.size - (intOf x).toNat)
 case atStart=>exact ⟨0,Nat.zero_le _,rfl,rfl,rfl⟩
 case round =>
  obtain ⟨q,m,rfl,rfl,j⟩:=hrel
  have c:=Zb j
  clear j
  by_cases hlq:q<s.size
  ·have f:(q:Int)<s.size:=by omega
   obtain ⟨k,b⟩:∃ k,s[q].toNat=k:=⟨_,rfl⟩
   have t:(s[q].toNat:Int)=k:=by rw [b]
   have g:=Zb b
   clear b
   by_cases hz:k=0
   ·subst hz
    have d:Hid (v=false):=by
     show _=_
     rw [l.out,c.out,Jd0 hlq g.out];simp
    go_wp2_with fail
    go_ret
    rw [d.out]
    exact ⟨rfl,rfl⟩
   ·have z:((k:Int)==0)=false:=Zh (by omega)
    have d:Hid ((suf s 0).contains 0=(suf s (q+1)).contains 0):=by
     show _=_
     rw [c.out]
     exact Jbr hlq (by rw [g.out];exact hz)
    go_wp2_with fail
    go_roundw
    case rel=>exact ⟨q+1,by omega,by go_num,trivial,d.out⟩
    case measure=>simp [intOf];omega
  ·have f:¬ (q:Int)<s.size:=by omega
   have d:Hid (v=(decide (s.size>=1)&&decide (s.size<=64)&&u)):=by
    show _=_
    rw [l.out,c.out,Jdz (by omega)];simp
   by_cases h1:1<=s.size
   ·have o:(1:Int)<=s.size:=by omega
    by_cases h2:s.size<=64
    ·have n:(s.size:Int)<=64:=by omega
     have a:Hid (v=u):=by show _=_;rw [d.out];simp [h1,h2]
     go_wp2_with fail
     refine (r.out _).mono ?_
     rintro e w1 ⟨rfl,rfl⟩
     go_wp2_with fail
     go_ret
     rw [a.out]
     exact ⟨rfl,rfl⟩
    ·have n:¬ (s.size:Int)<=64:=by omega
     have a:Hid (v=false):=by show _=_;rw [d.out];simp [h2]
     go_wp2_with fail
     go_ret
     rw [a.out]
     exact ⟨rfl,rfl⟩
   ·have o:¬ (1:Int)<=s.size:=by omega
    have a:Hid (v=false):=by show _=_;rw [d.out];simp;omega
    go_wp2_with fail
    go_ret
    rw [a.out]
    exact ⟨rfl,rfl⟩
end
