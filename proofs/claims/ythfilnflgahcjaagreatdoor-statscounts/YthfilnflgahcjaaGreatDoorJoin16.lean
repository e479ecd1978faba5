/- Whether a value may be, as far as it can be told without what is in its list: blank, rising, shaped. Whether a value may be: maps, kinds that are none; all together. What Check does with a panic: the function that it defers. Check: whether a value may be, and is not too great. -/
import Derived.Test.YthfilnflgahcjaaGreatDoorJoin1
import Derived.Test.YthfilnflgahcjaaGreatDoorJoin15
import Derived.Test.YthfilnflgahcjaaGreatDoorShelf2
import Derived.RecoverIn
import Derived.LaidEql
import Derived.WideLaws
namespace Go.Proofs.YthfilnflgahcjaaGreatDoor
open Go.RowKit Go.Shelf
set_option linter.all false
def Zn5 (w:World):Prop:=Lib.Utf8Tabs (Tryz.laysValid_ren.g 3) (Tryz.laysValid_ren.g 4) w
theorem Zn5.below {w w':World} (h:Zn5 w) (hb:Below w.heap.size w w'):Zn5 w' :=
 ⟨fun c Y=>Zar hb (Nat.le_refl _) (h.1 c Y),fun i H=>⟨Zar hb (Nat.le_refl _) (h.2 i H).1,Zar hb (Nat.le_refl _) (h.2 i H).2⟩⟩
theorem Zbp (s:ByteArray) (w:World) (hs:s.size<=maxLen) (u:Zn5 w) :
  Calls Tryz.prog 116 #[.string s] w fun e w'=>e=.returned (.bool (Lib.validD s.data.toList))/\Below w.heap.size w w' :=
 Any.utf8_ValidString Tryz.laysValid s w (by unfold maxLen at hs;omega) u
def Za7 (b:Bool) (n:Int) (s:ByteArray) (E ll:Nat):Bool:=!b&&(n==0&&(s.toList.isEmpty&&(E==0&&ll==0)))
set_option maxHeartbeats 400000 in
theorem Zc1 (k:Int) (b:Bool) (n:Int) (s:ByteArray) (ka:Option Addr) (E kc:Nat) (la:Option Addr) (ll lc:Nat) (w:World) :
  Calls Tryz.prog 237 #[.agg #[.int .i64 k,.bool b,.int .i64 n,.string s,.slice ka E kc,.slice la ll lc]] w fun e w'=>e=.returned (.bool (Za7 b n s E ll))/\Below w.heap.size w w':=by
 have hB:Below w.heap.size w (w.alloc (.cells #[.int .i64 k,.bool b,.int .i64 n,.string s,.slice ka E kc,.slice la ll lc] 88)):=(Below.refl _ _).alloc (Nat.le_refl _) _
 unfold Za7
 cases b with
 | true =>
  go_enter Tryz.func237,Tryz.ntmps237
  go_wp2
  go_ret
  exact ⟨rfl,hB⟩
 | false =>
  cases P:(n==0) with
  | false =>
   go_enter Tryz.func237,Tryz.ntmps237
   go_wp2
   go_ret
   exact ⟨rfl,hB⟩
  | true =>
   cases U:s.toList.isEmpty with
   | false =>
    go_enter Tryz.func237,Tryz.ntmps237
    go_wp2
    go_ret
    exact ⟨rfl,hB⟩
   | true =>
    by_cases L:E=0
    ·subst L
     by_cases h4:ll=0
     ·subst h4
      go_enter Tryz.func237,Tryz.ntmps237
      go_wp2
      go_ret
      exact ⟨rfl,hB⟩
     ·have a4:((ll:Int)==0)=false:=beq_eq_false_iff_ne.2 (by omega)
      have T:(ll==0)=false:=beq_eq_false_iff_ne.2 h4
      go_enter Tryz.func237,Tryz.ntmps237
      go_wp2
      go_ret
      exact ⟨by simp [h4],hB⟩
    ·have a5:((E:Int)==0)=false:=beq_eq_false_iff_ne.2 (by omega)
     have a1:(E==0)=false:=beq_eq_false_iff_ne.2 L
     go_enter Tryz.func237,Tryz.ntmps237
     go_wp2
     go_ret
     exact ⟨by simp [L],hB⟩
def Zf7 (ks:List ByteArray) (i:Nat):Bool :=
 Lib.validD (ks.getD i ⟨#[]⟩).data.toList&&!(decide (0<i)&&decide (0<=Lib.compareBytes (ks.getD (i - 1) ⟨#[]⟩).data.toList (ks.getD i ⟨#[]⟩).data.toList))
def Zcq (ks:List ByteArray):Bool:=(List.range ks.length).all (Zf7 ks)
theorem Zjr {ks:List ByteArray} {i:Nat} (h:i<ks.length) (hf:Zf7 ks i=false):Zcq ks=false:=by
 unfold Zcq
 rw [Bool.eq_false_iff]
 intro ha
 rw [List.all_eq_true] at ha
 have:=ha i (List.mem_range.2 h)
 rw [hf] at this;cases this
theorem Zk8 {ks:List ByteArray} (h:∀ i,i<ks.length->Zf7 ks i=true):Zcq ks=true:=by
 unfold Zcq
 rw [List.all_eq_true]
 intro i H
 exact h i (List.mem_range.1 H)
set_option maxHeartbeats 1000000 in
theorem Zu8 (B:Nat) (ka:Option Addr) (kc:Nat) (ks:List ByteArray) (w:World) (hk:Zbh B w ka ks) (P:ks.length<=kc) (U:kc<=maxLen) (u:Zn5 w) :
  Calls Tryz.prog 236 #[.slice ka ks.length kc] w fun e w'=>e=.returned (.bool (Zcq ks))/\Below w.heap.size w w':=by
 unfold maxLen at U
 go_enter Tryz.func236,Tryz.ntmps236
 go_wp2_with fail
 go_loopw [7] (fun i wr=>∃ j:Nat,j<=ks.length/\i=.int .i64 j/\Below w.heap.size w wr/\∀ x,x<j->Zf7 ks x=true) (fun i _=>ks.length - (intOf i).toNat)
 case atStart=>exact ⟨0,Nat.zero_le _,rfl,Below.refl _ _,fun x hx=>by omega⟩
 case round =>
  obtain ⟨j,hj,rfl,hb,K⟩:=hrel
  have HU:Hid (∀ x,x<j->Zf7 ks x=true):=K
  clear K
  by_cases hlt:j<ks.length
  ·obtain ⟨W,off,rfl,a2,y⟩:=hk.resolve_left (by intro e;subst e;simp at hlt)
   have Y:=Zar hb (Nat.le_refl _) (y j hlt).1
   have I:=(y j hlt).2
   have N:=u.below hb
   have C:Hid (Zf7 ks j=(Lib.validD (ks.getD j ⟨#[]⟩).data.toList&&!(decide (0<j)&&decide (0<=Lib.compareBytes (ks.getD (j - 1) ⟨#[]⟩).data.toList (ks.getD j ⟨#[]⟩).data.toList)))):=rfl
   have HC:Hid (0<j->w.cell? ⟨W,off+(j - 1),none⟩=some (.string (ks.getD (j - 1) ⟨#[]⟩))):=fun S=>(y (j - 1) (by omega)).1
   generalize ks.getD j ⟨#[]⟩=kx at *
   generalize ks.getD (j - 1) ⟨#[]⟩=kp at *
   have G:=Zbp kx wr I N
   clear y I N
   generalize hV:Lib.validD kx.data.toList=V at *
   have HV:Hid (Lib.validD kx.data.toList=V):=hV
   clear hV
   cases V with
   | false =>
    go_wp2_with fail
    refine G.mono ?_
    rintro e w1 ⟨rfl,l⟩
    clear G
    go_wp2_with fail
    go_ret
    refine ⟨?_,hb.trans (l.mono hb.size)⟩
    rw [Zjr hlt (C.out.trans (by simp))];rfl
   | true =>
    by_cases S:j=0
    ·have R:¬ (0:Int)<(j:Int):=by omega
     have H0:Hid (j=0):=S
     clear S
     go_wp2_with fail
     refine G.mono ?_
     rintro e w1 ⟨rfl,l⟩
     have z:Hid (Below w.heap.size w w1):=hb.trans (l.mono hb.size)
     clear G l
     go_wp2_with fail
     go_roundw
     case rel =>
      refine ⟨j+1,by omega,by go_num,z.out,fun x hx=>?_⟩
      obtain rfl:x=j:=by have:=H0.out;omega
      exact C.out.trans (by simp [H0.out])
     case measure=>simp [intOf];omega
    ·have R:(0:Int)<(j:Int):=by omega
     have O:=HC.out (by omega)
     go_wp2_with fail
     refine G.mono ?_
     rintro e w1 ⟨rfl,l⟩
     have z:Hid (Below w.heap.size w w1):=hb.trans (l.mono hb.size)
     have a0:w1.cell? ⟨W,off+(j - 1),none⟩=some (.string kp):=Zar z.out (Nat.le_refl _) O
     clear G l
     go_wp2_with fail
     refine (Tryz.strings_Compare _ _ _).mono ?_
     rintro e w2 ⟨rfl,rfl⟩
     generalize D:Lib.compareBytes kp.data.toList kx.data.toList=cm at *
     have a3:Hid (Lib.compareBytes kp.data.toList kx.data.toList=cm):=D
     clear D
     by_cases P:0<=cm
     ·go_wp2_with fail
      go_ret
      refine ⟨?_,z.out⟩
      rw [Zjr hlt (C.out.trans (by simp [P];omega))];rfl
     ·go_wp2_with fail
      go_roundw
      case rel =>
       refine ⟨j+1,by omega,by go_num,z.out,fun x hx=>?_⟩
       by_cases hxj:x=j
       ·subst hxj
        exact C.out.trans (by simp;omega)
       ·exact HU.out x (by omega)
      case measure=>simp [intOf];omega
  ·go_wp2_with fail
   go_ret
   refine ⟨?_,hb⟩
   rw [Zk8 fun i H=>HU.out i (by omega)];rfl
def Zw:Zd->Bool
 | .mk k b n s ks ts =>
  (if k=0 then Za7 b n s ks.length ts.length
    else if k=1 then Za7 false n s ks.length ts.length
    else if k=2 then Za7 b 0 s ks.length ts.length
    else if k=6\/k=7 then Za7 b (min n 0) s ks.length ts.length
    else if k=3 then Za7 b n ⟨#[]⟩ ks.length ts.length
    else if k=5 then (ks.length==ts.length&&Zcq ks)&&Za7 b n s 0 0
    else if k=4 then Za7 b n s ks.length 0
    else false)&&Lib.validD s.data.toList
theorem Zce {w w1:World} {A A':Array Value} {v:Value} (hb:Below ((w.alloc (.cells A 88)).alloc (.cells A' 88)).heap.size ((w.alloc (.cells A 88)).alloc (.cells A' 88)) w1) (L:A[3]?=some v):Below w.heap.size w w1/\w1.cell? ⟨w.heap.size,3,none⟩=some v:=by
 simp only [World.size_alloc] at hb
 refine ⟨(((Below.refl _ w).alloc (Nat.le_refl _) _).alloc (by simp) _).trans (hb.mono (by omega)),(hb.cell (p:=⟨w.heap.size,3,none⟩) (by show w.heap.size<_;omega)).trans ?_⟩
 have:((w.alloc (.cells A 88)).alloc (.cells A' 88)).cell? ⟨w.heap.size,3,none⟩=(w.alloc (.cells A 88)).cell? ⟨w.heap.size,3,none⟩:=World.cell?_of_block (Below.heap_alloc _ _ _ (by simp))
 rw [this]
 exact Zh _ _ _ _ _ L
set_option maxHeartbeats 1000000 in
theorem Jak (k:Int) (b:Bool) (n:Int) (s:ByteArray) (ka:Option Addr) (kc:Nat) (la:Option Addr) (lc:Nat) (ks:List ByteArray) (ts:List Zd) (w:World) (q:s.size<=maxLen) (u:Zn5 w) (m:k=0) :
  Calls Tryz.prog 198 #[.agg #[.int .i64 k,.bool b,.int .i64 n,.string s,.slice ka ks.length kc,.slice la ts.length lc]] w fun e w'=>e=.returned (.bool (Zw (.mk k b n s ks ts)))/\Below w.heap.size w w':=by
 have d:Zw (.mk k b n s ks ts)=(Za7 b n s ks.length ts.length&&Lib.validD s.data.toList):=by subst m;rfl
 have F:(k==0)=true:=Za3 m
 clear m
 go_enter Tryz.func198,Tryz.ntmps198
 go_wp2_with fail
 refine (Zc1 _ _ _ _ _ _ _ _ _ _ _).mono ?_
 rintro e w1 ⟨rfl,l⟩
 obtain ⟨f,c3⟩:=Zce (v:=.string s) l rfl
 clear l
 have o:=u.below f
 cases hbl:Za7 b n s ks.length ts.length with
 | false =>
  have r:Hid (Zw (.mk k b n s ks ts)=false):=by unfold Hid;rw [d,hbl];rfl
  clear hbl d
  go_wp2_with fail
  go_ret
  exact ⟨by rw [r.out];rfl,f⟩
 | true =>
  have r:Hid (Zw (.mk k b n s ks ts)=Lib.validD s.data.toList):=by unfold Hid;rw [d,hbl];rfl
  clear hbl d
  go_wp2_with fail
  refine (Zbp _ _ q o).mono ?_
  rintro e w2 ⟨rfl,t⟩
  go_wp2_with fail
  go_ret
  exact ⟨by rw [r.out];rfl,f.trans (t.mono f.size)⟩
set_option maxHeartbeats 1000000 in
theorem Jal (k:Int) (b:Bool) (n:Int) (s:ByteArray) (ka:Option Addr) (kc:Nat) (la:Option Addr) (lc:Nat) (ks:List ByteArray) (ts:List Zd) (w:World) (q:s.size<=maxLen) (u:Zn5 w) (m:k=1) :
  Calls Tryz.prog 198 #[.agg #[.int .i64 k,.bool b,.int .i64 n,.string s,.slice ka ks.length kc,.slice la ts.length lc]] w fun e w'=>e=.returned (.bool (Zw (.mk k b n s ks ts)))/\Below w.heap.size w w':=by
 have d:Zw (.mk k b n s ks ts)=(Za7 false n s ks.length ts.length&&Lib.validD s.data.toList):=by subst m;rfl
 have F:(k==0)=false:=Zs (by omega)
 have e1:(k==1)=true:=Za3 m
 clear m
 go_enter Tryz.func198,Tryz.ntmps198
 go_wp2_with fail
 refine (Zc1 _ _ _ _ _ _ _ _ _ _ _).mono ?_
 rintro e w1 ⟨rfl,l⟩
 obtain ⟨f,c3⟩:=Zce (v:=.string s) l rfl
 clear l
 have o:=u.below f
 cases hbl:Za7 false n s ks.length ts.length with
 | false =>
  have r:Hid (Zw (.mk k b n s ks ts)=false):=by unfold Hid;rw [d,hbl];rfl
  clear hbl d
  go_wp2_with fail
  go_ret
  exact ⟨by rw [r.out];rfl,f⟩
 | true =>
  have r:Hid (Zw (.mk k b n s ks ts)=Lib.validD s.data.toList):=by unfold Hid;rw [d,hbl];rfl
  clear hbl d
  go_wp2_with fail
  refine (Zbp _ _ q o).mono ?_
  rintro e w2 ⟨rfl,t⟩
  go_wp2_with fail
  go_ret
  exact ⟨by rw [r.out];rfl,f.trans (t.mono f.size)⟩
set_option maxHeartbeats 1000000 in
theorem Jam (k:Int) (b:Bool) (n:Int) (s:ByteArray) (ka:Option Addr) (kc:Nat) (la:Option Addr) (lc:Nat) (ks:List ByteArray) (ts:List Zd) (w:World) (q:s.size<=maxLen) (u:Zn5 w) (m:k=2) :
  Calls Tryz.prog 198 #[.agg #[.int .i64 k,.bool b,.int .i64 n,.string s,.slice ka ks.length kc,.slice la ts.length lc]] w fun e w'=>e=.returned (.bool (Zw (.mk k b n s ks ts)))/\Below w.heap.size w w':=by
 have d:Zw (.mk k b n s ks ts)=(Za7 b 0 s ks.length ts.length&&Lib.validD s.data.toList):=by subst m;rfl
 have F:(k==0)=false:=Zs (by omega)
 have e1:(k==1)=false:=Zs (by omega)
 have e2:(k==2)=true:=Za3 m
 clear m
 go_enter Tryz.func198,Tryz.ntmps198
 go_wp2_with fail
 refine (Zc1 _ _ _ _ _ _ _ _ _ _ _).mono ?_
 rintro e w1 ⟨rfl,l⟩
 obtain ⟨f,c3⟩:=Zce (v:=.string s) l rfl
 clear l
 have o:=u.below f
 cases hbl:Za7 b 0 s ks.length ts.length with
 | false =>
  have r:Hid (Zw (.mk k b n s ks ts)=false):=by unfold Hid;rw [d,hbl];rfl
  clear hbl d
  go_wp2_with fail
  go_ret
  exact ⟨by rw [r.out];rfl,f⟩
 | true =>
  have r:Hid (Zw (.mk k b n s ks ts)=Lib.validD s.data.toList):=by unfold Hid;rw [d,hbl];rfl
  clear hbl d
  go_wp2_with fail
  refine (Zbp _ _ q o).mono ?_
  rintro e w2 ⟨rfl,t⟩
  go_wp2_with fail
  go_ret
  exact ⟨by rw [r.out];rfl,f.trans (t.mono f.size)⟩
set_option maxHeartbeats 1000000 in
theorem Jan (k:Int) (b:Bool) (n:Int) (s:ByteArray) (ka:Option Addr) (kc:Nat) (la:Option Addr) (lc:Nat) (ks:List ByteArray) (ts:List Zd) (w:World) (q:s.size<=maxLen) (u:Zn5 w) (m:k=6) :
  Calls Tryz.prog 198 #[.agg #[.int .i64 k,.bool b,.int .i64 n,.string s,.slice ka ks.length kc,.slice la ts.length lc]] w fun e w'=>e=.returned (.bool (Zw (.mk k b n s ks ts)))/\Below w.heap.size w w':=by
 have d:Zw (.mk k b n s ks ts)=(Za7 b (min n 0) s ks.length ts.length&&Lib.validD s.data.toList):=by subst m;rfl
 have F:(k==0)=false:=Zs (by omega)
 have e1:(k==1)=false:=Zs (by omega)
 have e2:(k==2)=false:=Zs (by omega)
 have Q:(k==6)=true:=Za3 m
 have M:True:=trivial
 clear m
 go_enter Tryz.func198,Tryz.ntmps198
 go_wp2_with fail
 refine (Zc1 _ _ _ _ _ _ _ _ _ _ _).mono ?_
 rintro e w1 ⟨rfl,l⟩
 obtain ⟨f,c3⟩:=Zce (v:=.string s) l rfl
 clear l
 have o:=u.below f
 cases hbl:Za7 b (min n 0) s ks.length ts.length with
 | false =>
  have r:Hid (Zw (.mk k b n s ks ts)=false):=by unfold Hid;rw [d,hbl];rfl
  clear hbl d
  go_wp2_with fail
  go_ret
  exact ⟨by rw [r.out];rfl,f⟩
 | true =>
  have r:Hid (Zw (.mk k b n s ks ts)=Lib.validD s.data.toList):=by unfold Hid;rw [d,hbl];rfl
  clear hbl d
  go_wp2_with fail
  refine (Zbp _ _ q o).mono ?_
  rintro e w2 ⟨rfl,t⟩
  go_wp2_with fail
  go_ret
  exact ⟨by rw [r.out];rfl,f.trans (t.mono f.size)⟩
set_option maxHeartbeats 1000000 in
theorem Jao (k:Int) (b:Bool) (n:Int) (s:ByteArray) (ka:Option Addr) (kc:Nat) (la:Option Addr) (lc:Nat) (ks:List ByteArray) (ts:List Zd) (w:World) (q:s.size<=maxLen) (u:Zn5 w) (m:k=7) :
  Calls Tryz.prog 198 #[.agg #[.int .i64 k,.bool b,.int .i64 n,.string s,.slice ka ks.length kc,.slice la ts.length lc]] w fun e w'=>e=.returned (.bool (Zw (.mk k b n s ks ts)))/\Below w.heap.size w w':=by
 have d:Zw (.mk k b n s ks ts)=(Za7 b (min n 0) s ks.length ts.length&&Lib.validD s.data.toList):=by subst m;rfl
 have F:(k==0)=false:=Zs (by omega)
 have e1:(k==1)=false:=Zs (by omega)
 have e2:(k==2)=false:=Zs (by omega)
 have Q:(k==6)=false:=Zs (by omega)
 have X:(k==7)=true:=Za3 m
 have M:True:=trivial
 clear m
 go_enter Tryz.func198,Tryz.ntmps198
 go_wp2_with fail
 refine (Zc1 _ _ _ _ _ _ _ _ _ _ _).mono ?_
 rintro e w1 ⟨rfl,l⟩
 obtain ⟨f,c3⟩:=Zce (v:=.string s) l rfl
 clear l
 have o:=u.below f
 cases hbl:Za7 b (min n 0) s ks.length ts.length with
 | false =>
  have r:Hid (Zw (.mk k b n s ks ts)=false):=by unfold Hid;rw [d,hbl];rfl
  clear hbl d
  go_wp2_with fail
  go_ret
  exact ⟨by rw [r.out];rfl,f⟩
 | true =>
  have r:Hid (Zw (.mk k b n s ks ts)=Lib.validD s.data.toList):=by unfold Hid;rw [d,hbl];rfl
  clear hbl d
  go_wp2_with fail
  refine (Zbp _ _ q o).mono ?_
  rintro e w2 ⟨rfl,t⟩
  go_wp2_with fail
  go_ret
  exact ⟨by rw [r.out];rfl,f.trans (t.mono f.size)⟩
set_option maxHeartbeats 1000000 in
theorem Jap (k:Int) (b:Bool) (n:Int) (s:ByteArray) (ka:Option Addr) (kc:Nat) (la:Option Addr) (lc:Nat) (ks:List ByteArray) (ts:List Zd) (w:World) (q:s.size<=maxLen) (u:Zn5 w) (m:k=3) :
  Calls Tryz.prog 198 #[.agg #[.int .i64 k,.bool b,.int .i64 n,.string s,.slice ka ks.length kc,.slice la ts.length lc]] w fun e w'=>e=.returned (.bool (Zw (.mk k b n s ks ts)))/\Below w.heap.size w w':=by
 have d:Zw (.mk k b n s ks ts)=(Za7 b n ⟨#[]⟩ ks.length ts.length&&Lib.validD s.data.toList):=by subst m;rfl
 have F:(k==0)=false:=Zs (by omega)
 have e1:(k==1)=false:=Zs (by omega)
 have e2:(k==2)=false:=Zs (by omega)
 have Q:(k==6)=false:=Zs (by omega)
 have X:(k==7)=false:=Zs (by omega)
 have e3:(k==3)=true:=Za3 m
 clear m
 go_enter Tryz.func198,Tryz.ntmps198
 go_wp2_with fail
 refine (Zc1 _ _ _ _ _ _ _ _ _ _ _).mono ?_
 rintro e w1 ⟨rfl,l⟩
 obtain ⟨f,c3⟩:=Zce (v:=.string s) l rfl
 clear l
 have o:=u.below f
 cases hbl:Za7 b n ⟨#[]⟩ ks.length ts.length with
 | false =>
  have r:Hid (Zw (.mk k b n s ks ts)=false):=by unfold Hid;rw [d,hbl];rfl
  clear hbl d
  go_wp2_with fail
  go_ret
  exact ⟨by rw [r.out];rfl,f⟩
 | true =>
  have r:Hid (Zw (.mk k b n s ks ts)=Lib.validD s.data.toList):=by unfold Hid;rw [d,hbl];rfl
  clear hbl d
  go_wp2_with fail
  refine (Zbp _ _ q o).mono ?_
  rintro e w2 ⟨rfl,t⟩
  go_wp2_with fail
  go_ret
  exact ⟨by rw [r.out];rfl,f.trans (t.mono f.size)⟩
set_option maxHeartbeats 1000000 in
theorem Jaq (k:Int) (b:Bool) (n:Int) (s:ByteArray) (ka:Option Addr) (kc:Nat) (la:Option Addr) (lc:Nat) (ks:List ByteArray) (ts:List Zd) (w:World) (q:s.size<=maxLen) (u:Zn5 w) (m:k=4) :
  Calls Tryz.prog 198 #[.agg #[.int .i64 k,.bool b,.int .i64 n,.string s,.slice ka ks.length kc,.slice la ts.length lc]] w fun e w'=>e=.returned (.bool (Zw (.mk k b n s ks ts)))/\Below w.heap.size w w':=by
 have d:Zw (.mk k b n s ks ts)=(Za7 b n s ks.length 0&&Lib.validD s.data.toList):=by subst m;rfl
 have F:(k==0)=false:=Zs (by omega)
 have e1:(k==1)=false:=Zs (by omega)
 have e2:(k==2)=false:=Zs (by omega)
 have Q:(k==6)=false:=Zs (by omega)
 have X:(k==7)=false:=Zs (by omega)
 have e3:(k==3)=false:=Zs (by omega)
 have e5:(k==5)=false:=Zs (by omega)
 have e4:(k==4)=true:=Za3 m
 clear m
 go_enter Tryz.func198,Tryz.ntmps198
 go_wp2_with fail
 refine (Zc1 _ _ _ _ _ _ _ _ _ _ _).mono ?_
 rintro e w1 ⟨rfl,l⟩
 obtain ⟨f,c3⟩:=Zce (v:=.string s) l rfl
 clear l
 have o:=u.below f
 cases hbl:Za7 b n s ks.length 0 with
 | false =>
  have r:Hid (Zw (.mk k b n s ks ts)=false):=by unfold Hid;rw [d,hbl];rfl
  clear hbl d
  go_wp2_with fail
  go_ret
  exact ⟨by rw [r.out];rfl,f⟩
 | true =>
  have r:Hid (Zw (.mk k b n s ks ts)=Lib.validD s.data.toList):=by unfold Hid;rw [d,hbl];rfl
  clear hbl d
  go_wp2_with fail
  refine (Zbp _ _ q o).mono ?_
  rintro e w2 ⟨rfl,t⟩
  go_wp2_with fail
  go_ret
  exact ⟨by rw [r.out];rfl,f.trans (t.mono f.size)⟩
end Go.Proofs.YthfilnflgahcjaaGreatDoor

namespace Go.Proofs.YthfilnflgahcjaaGreatDoor
open Go.RowKit Go.Shelf
set_option linter.all false
theorem Zbh.below {B:Nat} {w w':World} {ka:Option Addr} {ks:List ByteArray} (hk:Zbh B w ka ks) (h:Below B w w'):Zbh B w' ka ks:=by
 rcases hk with hk | ⟨V,off,e,N,W⟩
 ·exact .inl hk
 ·exact .inr ⟨V,off,e,N,fun i S=>⟨(h.cell (p:=⟨V,off+i,none⟩) N).trans (W i S).1,(W i S).2⟩⟩
theorem Zvh {w w1:World} {A:Array Value} {H I v2 G K M:Value} (hb:Below ((w.alloc (.cells A 88)).alloc (.cells #[H,I,v2,G,K,M] 88)).heap.size ((w.alloc (.cells A 88)).alloc (.cells #[H,I,v2,G,K,M] 88)) w1) :
  w1.cell? ⟨w.heap.size+1,0,none⟩=some H/\w1.cell? ⟨w.heap.size+1,1,none⟩=some I/\w1.cell? ⟨w.heap.size+1,2,none⟩=some v2/\w1.cell? ⟨w.heap.size+1,3,none⟩=some G /\
  w1.cell? ⟨w.heap.size+1,4,none⟩=some K/\w1.cell? ⟨w.heap.size+1,5,none⟩=some M/\w1.frozen? ⟨w.heap.size+1,4,none⟩=false/\w1.frozen? ⟨w.heap.size+1,5,none⟩=false/\w.heap.size+2<=w1.heap.size:=by
 have e:w1.heap[w.heap.size+1]?=some (.cells #[H,I,v2,G,K,M] 88 (0,0)):=by
  rw [hb.block _ (by simp)]
  have:=World.alloc_heap_new (w.alloc (.cells A 88)) (.cells #[H,I,v2,G,K,M] 88)
  rwa [World.size_alloc] at this
 have P:=hb.size
 simp only [World.size_alloc] at P
 refine ⟨?_,?_,?_,?_,?_,?_,?_,?_,P⟩<;>first | (unfold World.cell?;simp only [e];rfl) | (unfold World.frozen?;simp only [e];rfl)
set_option maxHeartbeats 1000000 in
theorem Ja8 (B:Nat) (k:Int) (b:Bool) (n:Int) (s:ByteArray) (ka:Option Addr) (kc:Nat) (la:Option Addr) (lc:Nat) (ks:List ByteArray) (ts:List Zd) (w:World) (d:s.size<=maxLen) (q:ks.length<=kc) (t:kc<=maxLen) (hB:B<=w.heap.size) (R:Zbh B w ka ks) (g:Zn5 w) (o:k=5) :
  Calls Tryz.prog 198 #[.agg #[.int .i64 k,.bool b,.int .i64 n,.string s,.slice ka ks.length kc,.slice la ts.length lc]] w fun e w'=>e=.returned (.bool (Zw (.mk k b n s ks ts)))/\Below w.heap.size w w':=by
 have c:Zw (.mk k b n s ks ts)=(((ks.length==ts.length&&Zcq ks)&&Za7 b n s 0 0)&&Lib.validD s.data.toList):=by subst o;rfl
 have e0:(k==0)=false:=Zs (by omega)
 have e1:(k==1)=false:=Zs (by omega)
 have e2:(k==2)=false:=Zs (by omega)
 have e6:(k==6)=false:=Zs (by omega)
 have e7:(k==7)=false:=Zs (by omega)
 have e3:(k==3)=false:=Zs (by omega)
 have e5:(k==5)=true:=Za3 o
 clear o
 by_cases hl:ks.length=ts.length
 ·have hn:((ks.length:Int) != (ts.length:Int))=false:=by rw [hl];simp
  have j:(ks.length==ts.length)=true:=beq_iff_eq.2 hl
  rw [j,Bool.true_and] at c
  have HL:Hid (ks.length=ts.length):=hl
  clear hl j
  go_enter Tryz.func198,Tryz.ntmps198
  go_wp2_with fail
  refine (Zu8 B ka kc ks _ (R.below (by exact ((Below.refl _ w).alloc hB _).alloc (by simp;omega) _)) q t (g.below (by exact ((Below.refl _ w).alloc (Nat.le_refl _) _).alloc (by simp) _))).mono ?_
  rintro e w1 ⟨rfl,f⟩
  have L:Below w.heap.size w w1:=(Zce (v:=.string s) f rfl).1
  cases hr:Zcq ks with
  | false =>
   have m:Hid (Zw (.mk k b n s ks ts)=false):=by unfold Hid;rw [c,hr];rfl
   clear hr c f
   go_wp2_with fail
   go_ret
   exact ⟨by rw [m.out];rfl,L⟩
  | true =>
   rw [hr,Bool.true_and] at c
   obtain ⟨c0,c1,c2,c3,c4,c5,f4,Y,P⟩:=Zvh f
   have cs:w1.cell? ⟨w.heap.size,3,none⟩=some (.string s):=(Zce (v:=.string s) f rfl).2
   clear hr f
   go_wp2_with fail
   refine (Zc1 _ _ _ _ _ _ _ _ _ _ _).mono ?_
   rintro e w2 ⟨rfl,r⟩
   have l:Below w.heap.size w w2:=((L.setCell (p:=⟨w.heap.size+1,4,none⟩) (by show _<=w.heap.size+1;omega) _).setCell (p:=⟨w.heap.size+1,5,none⟩) (by show _<=w.heap.size+1;omega) _).trans (r.mono (by simp [World.setCell];omega))
   have X:w2.cell? ⟨w.heap.size,3,none⟩=some (.string s):=by
    rw [r.cell (p:=⟨w.heap.size,3,none⟩) (by simp [World.setCell];omega)]
    rw [World.cell?_of_block (Below.heap_setCell _ _ _ _ (by show w.heap.size≠w.heap.size+1;omega)),World.cell?_of_block (Below.heap_setCell _ _ _ _ (by show w.heap.size≠w.heap.size+1;omega))]
    exact cs
   clear r c0 c1 c2 c3 c4 c5 f4 Y cs
   have O:=g.below l
   cases hbl:Za7 b n s 0 0 with
   | false =>
    have m:Hid (Zw (.mk k b n s ks ts)=false):=by unfold Hid;rw [c,hbl];rfl
    clear hbl c
    go_wp2_with fail
    go_ret
    exact ⟨by rw [m.out];rfl,l⟩
   | true =>
    have m:Hid (Zw (.mk k b n s ks ts)=Lib.validD s.data.toList):=by unfold Hid;rw [c,hbl];rfl
    clear hbl c
    go_wp2_with fail
    refine (Zbp _ _ d O).mono ?_
    rintro e w3 ⟨rfl,Q⟩
    go_wp2_with fail
    go_ret
    exact ⟨by rw [m.out];rfl,l.trans (Q.mono l.size)⟩
 ·have hn:((ks.length:Int) != (ts.length:Int))=true:=by rw [bne_iff_ne];omega
  have j:(ks.length==ts.length)=false:=beq_eq_false_iff_ne.2 hl
  have m:Hid (Zw (.mk k b n s ks ts)=false):=by unfold Hid;rw [c,j];rfl
  clear hl j c
  go_enter Tryz.func198,Tryz.ntmps198
  go_wp2_with fail
  go_ret
  exact ⟨by rw [m.out];rfl,((Below.refl _ w).alloc (Nat.le_refl _) _).alloc (by simp) _⟩
set_option maxHeartbeats 1000000 in
theorem Zr1 (k:Int) (b:Bool) (n:Int) (s:ByteArray) (ka:Option Addr) (kc:Nat) (la:Option Addr) (lc:Nat) (ks:List ByteArray) (ts:List Zd) (w:World)
  (F:k≠0) (E:k≠1) (x:k≠2) (C:k≠3) (u:k≠4) (z:k≠5) (y:k≠6) (D:k≠7) :
  Calls Tryz.prog 198 #[.agg #[.int .i64 k,.bool b,.int .i64 n,.string s,.slice ka ks.length kc,.slice la ts.length lc]] w fun e w'=>e=.returned (.bool (Zw (.mk k b n s ks ts)))/\Below w.heap.size w w':=by
 have m:Hid (Zw (.mk k b n s ks ts)=false):=by
  unfold Hid
  simp [Zw,F,E,x,C,u,z,y,D]
 have e0:=Zs F
 have e1:=Zs E
 have e2:=Zs x
 have e3:=Zs C
 have e4:=Zs u
 have e5:=Zs z
 have e6:=Zs y
 have e7:=Zs D
 clear F E x C u z y D
 go_enter Tryz.func198,Tryz.ntmps198
 go_wp2_with fail
 go_ret
 exact ⟨by rw [m.out];rfl,((Below.refl _ w).alloc (Nat.le_refl _) _).alloc (by simp) _⟩
theorem Zvi (B:Nat) (v:Value) (T:Zd) (w:World) (hB:B<=w.heap.size) (U:Zb6 B w v T) (g:Zn5 w) :
  Calls Tryz.prog 198 #[v] w fun e w'=>e=.returned (.bool (Zw T))/\Below w.heap.size w w':=by
 obtain ⟨k,b,n,s,ks,ts⟩:=T
 simp only [Zb6] at U
 obtain ⟨ka,kc,la,lc,rfl,⟨d,q,t,a0,a1⟩,hk,ht⟩:=U
 by_cases F:k=0
 ·exact Jak _ _ _ _ _ _ _ _ _ _ _ d g F
 by_cases E:k=1
 ·exact Jal _ _ _ _ _ _ _ _ _ _ _ d g E
 by_cases x:k=2
 ·exact Jam _ _ _ _ _ _ _ _ _ _ _ d g x
 by_cases C:k=3
 ·exact Jap _ _ _ _ _ _ _ _ _ _ _ d g C
 by_cases u:k=4
 ·exact Jaq _ _ _ _ _ _ _ _ _ _ _ d g u
 by_cases z:k=5
 ·exact Ja8 B _ _ _ _ _ _ _ _ _ _ _ d q t hB hk g z
 by_cases y:k=6
 ·exact Jan _ _ _ _ _ _ _ _ _ _ _ d g y
 by_cases D:k=7
 ·exact Jao _ _ _ _ _ _ _ _ _ _ _ d g D
 exact Zr1 _ _ _ _ _ _ _ _ _ _ _ F E x C u z y D
end Go.Proofs.YthfilnflgahcjaaGreatDoor

namespace Go.Proofs.YthfilnflgahcjaaGreatDoor
open Go.RowKit Go.Shelf
set_option linter.all false
set_option maxRecDepth 100000 in
theorem Jeq:∃ g,Tryz.prog.underlying 20=some (.interface g):=⟨_,Tryz.underlying20⟩
set_option maxRecDepth 100000 in
theorem Jg8:(Tryz.prog.info? 34).map (·.comparable)=some true:=by kernel_rfl
set_option maxRecDepth 100000 in
theorem Jer (w:World):(binOp .eql 20 (.iface 34 (.int .i64 3)) (.iface 34 (.int .i64 3))).run Tryz.prog w=.ok (.bool true) w:=by
 obtain ⟨g,h20⟩:=Jeq
 have b:∃ i,Tryz.prog.info? 34=some i/\i.comparable=true:=by
  have:=Jg8
  cases h:Tryz.prog.info? 34 with
  | none=>rw [h] at this;cases this
  | some i=>rw [h] at this;exact ⟨i,rfl,by simpa using this⟩
 obtain ⟨i,j,f⟩:=b
 have h:∀ d:Nat,(Op.equalIn (d+2) 20 (.iface 34 (.int .i64 3)) (.iface 34 (.int .i64 3))).run Tryz.prog w=.ok true w:=fun d=>by
  simp [Op.equalIn,run_underlying h20,run_underlying Tryz.underlying34,typeInfo,j,f]
 simp only [binOp]
 simp [Op.equal,Op.maxDepth,h 9998]
set_option maxRecDepth 100000 in
set_option maxHeartbeats 1000000 in
theorem Zv5 (n:Nat) (p:Addr) (z:Int) (w:World) (f:w.cell? p=some (.int .i64 z)) (l:w.frozen? p=false) :
  CallsDIn Fence.wide n Tryz.prog 199 #[.pointer (some p)] (.panicking [{ v:=.iface 34 (.int .i64 3),recovered:=false }]) w fun e c w' =>
   e=.returned (.tuple #[])/\c=.panicking [{ v:=.iface 34 (.int .i64 3),recovered:=true }]/\w'=w.setCell p (.int .i64 3):=by
 have he:=Jer w
 refine callsDIn_of_wpSIn Tryz.func199 rfl trivial fun c₀ cs hu=>?_
 apply wpSIn_seq
 apply wpSIn_region
 simp [wpOpsSIn,go_sem,recoverD,hu,Tryz.ntmps199,Exit.thenS,Oper.about,Fence.wide,Array.replicate_succ]
 refine wpSIn_of_wpIn rfl ?_
 gi_wp2
 exact ⟨rfl,_,rfl,_,(by simp [results,Tryz.results199]),rfl,rfl,rfl⟩
set_option maxRecDepth 100000 in
set_option maxHeartbeats 1000000 in
theorem Zv6 (n:Nat) (p:Addr) (w:World) :
  CallsDIn Fence.wide n Tryz.prog 199 #[.pointer (some p)] .returning w fun e c w'=>e=.returned (.tuple #[])/\c=.returning/\w'=w:=by
 have he:=run_eql_iface_nil_left (P:=Tryz.prog) w 34 (.int .i64 3) Tryz.underlying20
 have k:=run_neq_nil_nil (P:=Tryz.prog) w 20 (by kernel_rfl)
 refine callsDIn_of_wpSIn Tryz.func199 rfl trivial fun c₀ cs hu=>?_
 apply wpSIn_seq
 apply wpSIn_region
 simp [wpOpsSIn,go_sem,recoverD,hu,Tryz.ntmps199,Exit.thenS,Oper.about,Fence.wide,Array.replicate_succ]
 refine wpSIn_of_wpIn rfl ?_
 gi_wp2
 cases c₀
 simp only at hu
 subst hu
 exact ⟨rfl,_,rfl,_,(by simp [results,Tryz.results199]),rfl,rfl,rfl⟩
end Go.Proofs.YthfilnflgahcjaaGreatDoor

namespace Go.Proofs.YthfilnflgahcjaaGreatDoor
open Go.RowKit Go.Shelf
set_option linter.all false
attribute [local go_sem] Oper.semAt_some
theorem Zy4 {F:Fence} {n:Nat} {P:Program} {f:FuncId} {args:Array Value} {w:World} {R:Ending->World->Prop} (M:F=Fence.wide) (h:Calls P f args w R):CallsIn F n P f args w R:=by
 rw [M];exact callsIn_wide.2 h
def Zbg (T:Zd):Int:=if (T.pre 1).all (fun x=>Zw x.2)=true then (if Zea 0 (T.pre 1)=true then 3 else 0) else 110
theorem Zsr (v:Value) (T:Zd) (w:World) (hv:Zb6 w.heap.size w v T) (hh:T.height<100000000) (hb:bytesOf (T.pre 1)<4611686018427387904) :
  Calls Tryz.prog 200 #[v] w fun e w'=>Below w.heap.size w w'/\((Zea 0 (T.pre 1)=false/\∃ x,e=.returned x)\/(Zea 0 (T.pre 1)=true/\e=.panicked [{ v:=.iface 34 (.int .i64 3),recovered:=false }])):=by
 refine CallsIn.calls (F:=Fence.list [200,197,234,235] none) (n:=0) ?_ ?_
 ·refine Zwk rfl rfl (by simp [Fence.list]) (by simp [Fence.list]) (by simp [Fence.list]) (by simp [Fence.list]) ?_ 0 v T w hv hh hb
  intro f hf
  simp only [Fence.list,List.mem_cons,List.not_mem_nil,or_false] at hf
  rcases hf with rfl | rfl | rfl | rfl
  ·exact ⟨_,Tryz.func200⟩
  ·exact ⟨_,Tryz.func197⟩
  ·exact ⟨_,Tryz.func234⟩
  ·exact ⟨_,Tryz.func235⟩
 ·exact Zq0 rfl
set_option maxRecDepth 100000 in
set_option maxHeartbeats 1000000 in
theorem Zlv (v:Value) (T:Zd) (w:World) (hv:Zb6 w.heap.size w v T) (hT:Zn5 w) (hh:T.height<100000000) (hb:bytesOf (T.pre 1)<4611686018427387904) :
  Calls Tryz.prog 151 #[v] w fun e w'=>e=.returned (.int .i64 (Zbg T))/\Below w.heap.size w w':=by
 refine (callsIn_wide (n:=0)).1 ?_
 obtain ⟨F,M⟩:∃ F,F=Fence.wide:=⟨_,rfl⟩
 rw [<- M]
 have hd:F.depth=none:=by rw [M];rfl
 have I:F.round=none:=by rw [M];rfl
 have q:∀ f,F.fn f:=by rw [M];exact fun _=>trivial
 have HF:Hid (F=Fence.wide):=M
 clear M
 obtain ⟨k,b,n,s,ks,ts⟩:=T
 have c4:=hv
 simp only [Zb6] at hv
 obtain ⟨ka,kc,la,lc,rfl,⟨e5,e9,f0,e6,e7⟩,hk,ht⟩:=hv
 refine callsIn_of_wp_marks Tryz.func151 rfl (q _) ?_ I
 simp only [Tryz.ntmps151,List.size_toArray,List.length_cons,List.length_nil,Nat.reduceAdd,Nat.reduceSub,Array.replicate_succ,Array.replicate_zero,List.push_toArray,List.append_toArray,List.nil_append,List.cons_append]
 gi_wp2_with (gi_at_call 197;refine (Zmr (q _) I _ _ _ _ _ _ _ _ _ _ _ _).mono ?_;rintro e w' ⟨rfl,rfl⟩)
 refine Zov I hd (gf:=234) (lb:=#[.pointer (some ⟨w.heap.size+1+1,0,none⟩)]) rfl (q _) (enters_of Tryz.func234 (by kernel_rfl) rfl) ?_
 intro fn e1
 generalize c:Loop.mk _ _ _ _ _ _ _ _=rec
 simp only [World.size_alloc]
 generalize u:World.alloc _ (Obj.loop rec)=W0
 have b9:W0.heap.size=w.heap.size+5:=by rw [<- u];simp
 have b0:W0.heap[w.heap.size]?=some (.cells #[.int .i64 k,.bool b,.int .i64 n,.string s,.slice ka ks.length kc,.slice la ts.length lc] 88 (0,0)):=by rw [<- u];simp only [Jt,World.size_alloc];repeat (first | rw [if_pos trivial] | rw [if_pos (by omega)] | rw [if_neg (by omega)])
 have b1:W0.heap[w.heap.size+1]?=some (.cells #[.int .i64 0] 34 (0,0)):=by rw [<- u];simp only [Jt,World.size_alloc];repeat (first | rw [if_pos trivial] | rw [if_pos (by omega)] | rw [if_neg (by omega)])
 have L:W0.heap[w.heap.size+2]?=some (.cells #[.int .i64 k,.bool b,.int .i64 n,.string s,.slice ka ks.length kc,.slice la ts.length lc] 88 (0,0)):=by rw [<- u];simp only [Jt,World.size_alloc];repeat (first | rw [if_pos trivial] | rw [if_pos (by omega)] | rw [if_neg (by omega)])
 have b3:W0.heap[w.heap.size+3]?=some (.deferred (some [])):=by rw [<- u];simp only [Jt,World.size_alloc];repeat (first | rw [if_pos trivial] | rw [if_pos (by omega)] | rw [if_neg (by omega)])
 have b4:W0.heap[w.heap.size+4]?=some (.loop rec):=by rw [<- u];simp only [Jt,World.size_alloc];repeat (first | rw [if_pos trivial] | rw [if_pos (by omega)] | rw [if_neg (by omega)])
 have N:Below w.heap.size w W0:=by
  rw [<- u];exact (((((Below.refl _ w).alloc (Nat.le_refl _) _).alloc (by simp) _).alloc (by simp;omega) _).alloc (by simp;omega) _).alloc (by simp;omega) _
 clear u
 have R:Ztj F (w.heap.size+4) w.heap.size (w.heap.size+5) w ((Zd.mk k b n s ks ts).pre 1)
   (fun pre W=>W.heap[w.heap.size+4]?=some (.loop rec)/\W.heap[w.heap.size+3]?=some (.deferred (some []))/\W.heap[w.heap.size+1]?=some (.cells #[.int .i64 0] 34 (0,0)) /\
    W.heap[w.heap.size]?=some (.cells #[.int .i64 k,.bool b,.int .i64 n,.string s,.slice ka ks.length kc,.slice la ts.length lc] 88 (0,0)) /\
    Below w.heap.size w W/\w.heap.size+5<=W.heap.size/\pre.all (fun x=>Zw x.2)=true)
   (fun W=>W.heap[w.heap.size+4]?=some (.loop (Zng rec .ret))/\W.heap[w.heap.size+3]?=some (.deferred (some []))/\W.heap[w.heap.size+1]?=some (.cells #[.int .i64 110] 34 (0,0)) /\
    Below w.heap.size w W/\w.heap.size+5<=W.heap.size/\((Zd.mk k b n s ks ts).pre 1).all (fun x=>Zw x.2)=false)
   (fun _ _=>False):=by
  refine ⟨?_,?_,?_⟩
  ·rintro pre W ⟨_,_,_,_,C,O,_⟩
   exact ⟨C,by omega,O⟩
  ·rintro pre W W' ⟨B,E,G,y,C,O,z⟩ hb
   exact ⟨(hb.block _ (by omega)).trans B,(hb.block _ (by omega)).trans E,(hb.block _ (by omega)).trans G,(hb.block _ (by omega)).trans y,C.trans (hb.mono (by omega)),by have:=hb.size;omega,z⟩
  ·rintro m' pre d ⟨k',b',n',s',H,us⟩ v W ⟨B,E,G,y,C,O,z⟩ U c8
   have b6:=U
   simp only [Zb6] at U
   obtain ⟨b7,a8,c6,a9,rfl,⟨g1,g2,g3,g4,g5⟩,e2,e8⟩:=U
   have ea:=congrArg Loop.assign c
   have eb:=congrArg Loop.body c
   have et:=congrArg Loop.tmps c
   have ep:=congrArg Loop.params c
   have es:=congrArg Loop.state c
   have ef:=congrArg Loop.fn c
   have d9:Zfl rec=rec:=by rw [<- c];rfl
   dsimp only at ea eb et ep es ef
   clear c
   refine Zhw (q _) ea eb et ep B es.symm (by rw [<- ep];rfl) ?_
   clear ea eb et ep es
   gi_wp2_with fail
   refine ⟨(Below.heap_alloc _ _ _ (by omega)).trans B,?_⟩
   generalize m:World.putObj _ _ _=W2
   have a1:W2.heap[w.heap.size+4]?=some (.loop (Zc4 rec)):=by rw [<- m];refine World.putObj_heap_same ?_;simp;omega
   have a2:Boxed W2 (w.heap.size+1) 34 (.int .i64 0):=by rw [<- m];show _=_;rw [World.putObj_heap_other (by omega),Below.heap_alloc _ _ _ (by omega)];exact G
   have a0:W2.heap[w.heap.size]?=some (.cells #[.int .i64 k,.bool b,.int .i64 n,.string s,.slice ka ks.length kc,.slice la ts.length lc] 88 (0,0)):=by rw [<- m,World.putObj_heap_other (by omega),Below.heap_alloc _ _ _ (by omega)];exact y
   have a3:W2.heap[w.heap.size+3]?=some (.deferred (some [])):=by rw [<- m,World.putObj_heap_other (by omega),Below.heap_alloc _ _ _ (by omega)];exact E
   have X:W2.heap[W.heap.size]?=some (.cells #[.int .i64 k',.bool b',.int .i64 n',.string s',.slice b7 H.length a8,.slice c6 us.length a9] 88 (0,0)):=by
    rw [<- m];exact (World.putObj_heap_other (by omega)).trans (World.alloc_heap_new _ _)
   have a5:Below w.heap.size w W2:=by rw [<- m];exact (But.putObj _ _).below ((C.alloc (by omega) _)) (by omega)
   have a6:W2.heap.size=W.heap.size+1:=by rw [<- m];simp
   have a7:Zda (w.heap.size+5) W W2:=⟨by omega,fun i hi hl=>by rw [<- m];exact (World.putObj_heap_other (by omega)).trans (Below.heap_alloc _ _ _ hl)⟩
   clear m B E G y
   have x0:W2.cell? ⟨W.heap.size,0,none⟩=some (.int .i64 k'):=by unfold World.cell?;simp only [X];rfl
   have x1:W2.cell? ⟨W.heap.size,1,none⟩=some (.bool b'):=by unfold World.cell?;simp only [X];rfl
   have x2:W2.cell? ⟨W.heap.size,2,none⟩=some (.int .i64 n'):=by unfold World.cell?;simp only [X];rfl
   have x3:W2.cell? ⟨W.heap.size,3,none⟩=some (.string s'):=by unfold World.cell?;simp only [X];rfl
   have x4:W2.cell? ⟨W.heap.size,4,none⟩=some (.slice b7 H.length a8):=by unfold World.cell?;simp only [X];rfl
   have x5:W2.cell? ⟨W.heap.size,5,none⟩=some (.slice c6 us.length a9):=by unfold World.cell?;simp only [X];rfl
   have b8:=Zvi w.heap.size _ _ W2 (by have:=a5.size;omega) (b6.below a5) (hT.below a5)
   gi_wp2_with fail
   refine (CallsIn.inRound _ (Zy4 HF.out b8)).mono ?_
   rintro e K ⟨rfl,t⟩
   have c1:K.heap[w.heap.size+4]?=some (.loop (Zc4 rec)):=(t.block _ (by omega)).trans a1
   have c2:Boxed K (w.heap.size+1) 34 (.int .i64 0):=(t.block _ (by omega)).trans a2
   have c3:K.heap[w.heap.size+3]?=some (.deferred (some [])):=(t.block _ (by omega)).trans a3
   have c0:K.heap[w.heap.size]?=some (.cells #[.int .i64 k,.bool b,.int .i64 n,.string s,.slice ka ks.length kc,.slice la ts.length lc] 88 (0,0)):=(t.block _ (by omega)).trans a0
   have c5:Below w.heap.size w K:=a5.trans (t.mono (by omega))
   have c7:Zda (w.heap.size+5) W K:=a7.trans (Zda.of_below t (Nat.le_refl _))
   have e3:=t.size
   have cb:=c2.cell
   have fb:=c2.frozen
   clear b8 t a0 a1 a2 a3 X a5 a7 x0 x1 x2 x3 x4 x5
   cases hsh:Zw (.mk k' b' n' s' H us) with
   | true =>
    have HJ:Hid ((pre++[(d,Zd.mk k' b' n' s' H us)]).all (fun x=>Zw x.2)=true):=by show _=_;rw [List.all_append,z];simp [hsh]
    clear hsh z
    gi_wp2_with fail
    refine ⟨c1,.inl ⟨rfl,⟨?_,?_,?_,?_,?_,?_,HJ.out⟩,?_⟩⟩
    ·rw [d9];exact World.putObj_heap_same (by omega)
    ·rw [World.putObj_heap_other (by omega)];exact c3
    ·rw [World.putObj_heap_other (by omega)];exact c2
    ·rw [World.putObj_heap_other (by omega)];exact c0
    ·exact (But.putObj _ _).below c5 (by omega)
    ·rw [World.putObj_size];omega
    ·refine c7.trans ⟨by rw [World.putObj_size];omega,fun i hi hl=>?_⟩
     rw [World.putObj_heap_other (by omega)]
   | false =>
    have HJ:Hid (((Zd.mk k b n s ks ts).pre 1).all (fun x=>Zw x.2)=false):=by
     obtain ⟨r,hr⟩:=c8
     show _=_
     rw [<- hr,List.all_append,List.all_append];simp [hsh]
    clear hsh z
    gi_wp2_with fail
    have e4:(K.setCell ⟨w.heap.size+1,0,none⟩ (.int .i64 110)).heap[w.heap.size+4]?=some (.loop (Zc4 rec)):=(Below.heap_setCell _ _ _ _ (by show w.heap.size+4≠w.heap.size+1;omega)).trans c1
    have e0:(K.setCell ⟨w.heap.size+1,0,none⟩ (.int .i64 110)).heap.size=K.heap.size:=by simp [World.setCell]
    refine ⟨e4,.inr (.inl ⟨rfl,?_,?_,?_,?_,?_,HJ.out⟩)⟩
    ·exact World.putObj_heap_same (by omega)
    ·rw [World.putObj_heap_other (by omega)];exact (Below.heap_setCell _ _ _ _ (by show w.heap.size+3≠w.heap.size+1;omega)).trans c3
    ·rw [World.putObj_heap_other (by omega)];exact c2.set _
    ·exact (But.putObj _ _).below (c5.setCell (p:=⟨w.heap.size+1,0,none⟩) (by show _<=w.heap.size+1;omega) _) (by omega)
    ·rw [World.putObj_size];omega
 have j:∀ (i:Nat) (v:Value),(#[Value.int .i64 k,.bool b,.int .i64 n,.string s,.slice ka ks.length kc,.slice la ts.length lc]:Array Value)[i]?=some v->∀ (W:World) (bx:Nat),W.heap[bx]?=some (.cells #[.int .i64 k,.bool b,.int .i64 n,.string s,.slice ka ks.length kc,.slice la ts.length lc] 88 (0,0))->W.cell? ⟨bx,i,none⟩=some v:=by
  intro i v hi W bx d6;unfold World.cell?;simp only [d6];simpa using hi
 refine (Zk4 hd (q _) (q _) I R _ (w.heap.size+1+1) W0 c4 ⟨b4,b3,b1,b0,N,by omega,rfl⟩ (by simp only [Zd.height] at hh;omega)
  (j 0 _ rfl _ _ L) (j 1 _ rfl _ _ L) (j 2 _ rfl _ _ L) (j 3 _ rfl _ _ L) (j 4 _ rfl _ _ L) (j 5 _ rfl _ _ L)).mono ?_
 rintro e W' (⟨⟨x,rfl⟩,⟨B,E,G,y,C,O,z⟩ | ⟨B,E,G,C,O,z⟩⟩ | ⟨ch,_,hx⟩)
 ·have hp:rec.pending=none:=by rw [<- c]
  have b5:rec.state≠.busy:=by rw [<- c];simp
  clear c R b0 b1 L b3 b4 N b9
  refine ⟨rec,B,b5,?_⟩
  simp only [hp]
  generalize l:World.putObj _ _ _=W4
  have d1:Boxed W4 (w.heap.size+1) 34 (.int .i64 0):=by rw [<- l];show _=_;rw [World.putObj_heap_other (by omega)];exact G
  have d0:W4.heap[w.heap.size]?=some (.cells #[.int .i64 k,.bool b,.int .i64 n,.string s,.slice ka ks.length kc,.slice la ts.length lc] 88 (0,0)):=by rw [<- l,World.putObj_heap_other (by omega)];exact y
  have d3:W4.heap[w.heap.size+3]?=some (.deferred (some [])):=by rw [<- l,World.putObj_heap_other (by omega)];exact E
  have d4:Below w.heap.size w W4:=by rw [<- l];exact (But.putObj _ _).below C (by omega)
  have d5:w.heap.size+5<=W4.heap.size:=by rw [<- l,World.putObj_size];exact O
  clear l B E G y C O b5 hp
  have x0:=j 0 _ rfl _ _ d0
  have x1:=j 1 _ rfl _ _ d0
  have x2:=j 2 _ rfl _ _ d0
  have x3:=j 3 _ rfl _ _ d0
  have x4:=j 4 _ rfl _ _ d0
  have x5:=j 5 _ rfl _ _ d0
  clear j
  have c9:=Zsr _ _ W4 ((c4.below d4).mono (by omega)) hh hb
  gi_wp2_with fail
  refine (Zy4 HF.out c9).mono ?_
  clear c9 x0 x1 x2 x3 x4 x5 d0
  rintro e W5 ⟨o,⟨d2,x,rfl⟩ | ⟨d7,rfl⟩⟩
  ·have Y:Boxed W5 (w.heap.size+1) 34 (.int .i64 0):=(o.block _ (by omega)).trans d1
   have f3:W5.heap[w.heap.size+3]?=some (.deferred (some [])):=(o.block _ (by omega)).trans d3
   have f4:Below w.heap.size w W5:=d4.trans (o.mono (by omega))
   have f5:=o.size
   have cb:=Y.cell
   have fb:=Y.frozen
   have HN:Hid (Zbg (.mk k b n s ks ts)=0):=by show _=_;unfold Zbg;rw [if_pos z,if_neg (by rw [d2];simp)]
   clear d1 d3 d4 o d2 z
   gi_wp2_with fail
   have Q:(W5.setCell ⟨w.heap.size+1,0,none⟩ (.int .i64 0)).heap[w.heap.size+3]?=some (.deferred (some [])):=(Below.heap_setCell _ _ _ _ (by show w.heap.size+3≠w.heap.size+1;omega)).trans f3
   have V:Below w.heap.size w (W5.setCell ⟨w.heap.size+1,0,none⟩ (.int .i64 0)):=f4.setCell (p:=⟨w.heap.size+1,0,none⟩) (by show _<=w.heap.size+1;omega) _
   have S:Boxed (W5.setCell ⟨w.heap.size+1,0,none⟩ (.int .i64 0)) (w.heap.size+1) 34 (.int .i64 0):=Y.set _
   show LeavesInM _ _ _ _ _ _ [_,_] _ _
   refine ⟨by simp,.inr ⟨Zg5 hd _,_,_,199,#[.pointer (some ⟨w.heap.size+1,0,none⟩)],rfl,by simp [invoke,go_sem],fun g _=>q g,?_⟩⟩
   rw [HF.out]
   refine (Zv6 _ _ _).mono ?_
   rintro e u' d8 ⟨rfl,rfl,rfl⟩
   show LeavesInM _ _ _ _ _ _ [_] .returning _
   refine ⟨by simp,.inl ⟨_,_,rfl,run_takeDeferred Q,?_⟩⟩
   have D:Boxed ((W5.setCell ⟨w.heap.size+1,0,none⟩ (.int .i64 0)).putObj (w.heap.size+3) (.deferred none)) (w.heap.size+1) 34 (.int .i64 0):=(World.putObj_heap_other (by omega)).trans S
   refine ⟨.int .i64 0,?_,by rw [HN.out],(But.putObj _ _).below V (by omega)⟩
   have A:=D.cell
   simp [results,Tryz.results151,go_sem,A]
  ·have Y:Boxed W5 (w.heap.size+1) 34 (.int .i64 0):=(o.block _ (by omega)).trans d1
   have f3:W5.heap[w.heap.size+3]?=some (.deferred (some [])):=(o.block _ (by omega)).trans d3
   have f4:Below w.heap.size w W5:=d4.trans (o.mono (by omega))
   have f5:=o.size
   have HN:Hid (Zbg (.mk k b n s ks ts)=3):=by show _=_;unfold Zbg;rw [if_pos z,if_pos d7]
   have Q:(W5.setCell ⟨w.heap.size+1,0,none⟩ (.int .i64 3)).heap[w.heap.size+3]?=some (.deferred (some [])):=(Below.heap_setCell _ _ _ _ (by show w.heap.size+3≠w.heap.size+1;omega)).trans f3
   have V:Below w.heap.size w (W5.setCell ⟨w.heap.size+1,0,none⟩ (.int .i64 3)):=f4.setCell (p:=⟨w.heap.size+1,0,none⟩) (by show _<=w.heap.size+1;omega) _
   have S:Boxed (W5.setCell ⟨w.heap.size+1,0,none⟩ (.int .i64 3)) (w.heap.size+1) 34 (.int .i64 3):=Y.set _
   show LeavesInM _ _ _ _ _ _ [_,_] _ _
   refine ⟨by simp,.inr ⟨Zg5 hd _,_,_,199,#[.pointer (some ⟨w.heap.size+1,0,none⟩)],rfl,by simp [invoke,go_sem],fun g _=>q g,?_⟩⟩
   rw [HF.out]
   refine (Zv5 _ _ 0 _ Y.cell Y.frozen).mono ?_
   rintro e u' d8 ⟨rfl,rfl,rfl⟩
   show LeavesInM _ _ _ _ _ _ [_] .returning _
   refine ⟨by simp,.inl ⟨_,_,rfl,run_takeDeferred Q,?_⟩⟩
   have D:Boxed ((W5.setCell ⟨w.heap.size+1,0,none⟩ (.int .i64 3)).putObj (w.heap.size+3) (.deferred none)) (w.heap.size+1) 34 (.int .i64 3):=(World.putObj_heap_other (by omega)).trans S
   refine ⟨.int .i64 3,?_,by rw [HN.out],(But.putObj _ _).below V (by omega)⟩
   have A:=D.cell
   simp [results,Tryz.results151,go_sem,A]
 ·have HN:Hid (Zbg (.mk k b n s ks ts)=110):=by show _=_;unfold Zbg;rw [if_neg (by rw [z];simp)]
  refine ⟨Zng rec .ret,B,by simp [Zng],?_⟩
  simp only [Zng]
  clear c R b0 b1 L b3 b4 N b9 j
  generalize l:World.putObj _ _ _=W4
  have d1:Boxed W4 (w.heap.size+1) 34 (.int .i64 110):=by rw [<- l];show _=_;rw [World.putObj_heap_other (by omega)];exact G
  have d3:W4.heap[w.heap.size+3]?=some (.deferred (some [])):=by rw [<- l,World.putObj_heap_other (by omega)];exact E
  have d4:Below w.heap.size w W4:=by rw [<- l];exact (But.putObj _ _).below C (by omega)
  clear l B E G C z
  gi_wp2_with fail
  show LeavesInM _ _ _ _ _ _ [_] .returning _
  refine ⟨by simp,.inl ⟨_,_,rfl,run_takeDeferred d3,?_⟩⟩
  have D:Boxed (W4.putObj (w.heap.size+3) (.deferred none)) (w.heap.size+1) 34 (.int .i64 110):=(World.putObj_heap_other (by omega)).trans d1
  refine ⟨.int .i64 110,?_,by rw [HN.out],(But.putObj _ _).below d4 (by omega)⟩
  have A:=D.cell
  simp [results,Tryz.results151,go_sem,A]
 ·exact hx.elim
end Go.Proofs.YthfilnflgahcjaaGreatDoor

