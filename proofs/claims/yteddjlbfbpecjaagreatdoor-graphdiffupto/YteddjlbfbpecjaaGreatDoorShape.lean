import Derived.Test.YteddjlbfbpecjaaGreatDoorJoin10
namespace Go.Proofs.YteddjlbfbpecjaaGreatDoor
open Go.RowKit Go.Shelf
set_option maxHeartbeats 1000000
set_option linter.all false
def Zhx (w:World):Prop:=Lib.Utf8Tabs (Tryz.laysValid_ren.g 3) (Tryz.laysValid_ren.g 4) w
theorem Zhx.below {w w':World} (h:Zhx w) (u:Below w.heap.size w w'):Zhx w' :=
 ⟨fun c Y=>Zag u (Nat.le_refl _) (h.1 c Y),fun i M=>⟨Zag u (Nat.le_refl _) (h.2 i M).1,Zag u (Nat.le_refl _) (h.2 i M).2⟩⟩
theorem Zbh (s:ByteArray) (w:World) (hs:s.size<=maxLen) (y:Zhx w) :
  Calls Tryz.prog 139 #[.string s] w fun e w'=>e=.returned (.bool (Lib.validD s.data.toList))/\Below w.heap.size w w' :=
 Any.utf8_ValidString Tryz.laysValid s w (by unfold maxLen at hs;omega) y
def Zav (b:Bool) (n:Int) (s:ByteArray) (kl ll:Nat):Bool:=!b&&(n==0&&(s.toList.isEmpty&&(kl==0&&ll==0)))
theorem Zcl (k:Int) (b:Bool) (n:Int) (s:ByteArray) (ka:Option Addr) (kl kc:Nat) (la:Option Addr) (ll lc:Nat) (w:World) :
  Calls Tryz.prog 239 #[.agg #[.int .i64 k,.bool b,.int .i64 n,.string s,.slice ka kl kc,.slice la ll lc]] w fun e w'=>e=.returned (.bool (Zav b n s kl ll))/\Below w.heap.size w w':=by
 have G:Below w.heap.size w (w.alloc (.cells #[.int .i64 k,.bool b,.int .i64 n,.string s,.slice ka kl kc,.slice la ll lc] 60)):=(Below.refl _ _).alloc (Nat.le_refl _) _
 unfold Zav
 cases b with
 | true =>
  go_enter Tryz.func239,Tryz.ntmps239
  go_wp2
  go_ret
  exact ⟨rfl,G⟩
 | false =>
  cases h1:(n==0) with
  | false =>
   go_enter Tryz.func239,Tryz.ntmps239
   go_wp2
   go_ret
   exact ⟨rfl,G⟩
  | true =>
   cases h2:s.toList.isEmpty with
   | false =>
    go_enter Tryz.func239,Tryz.ntmps239
    go_wp2
    go_ret
    exact ⟨rfl,G⟩
   | true =>
    by_cases h3:kl=0
    ·subst h3
     by_cases h4:ll=0
     ·subst h4
      go_enter Tryz.func239,Tryz.ntmps239
      go_wp2
      go_ret
      exact ⟨rfl,G⟩
     ·have a1:((ll:Int)==0)=false:=beq_eq_false_iff_ne.2 (by omega)
      have W:(ll==0)=false:=beq_eq_false_iff_ne.2 h4
      go_enter Tryz.func239,Tryz.ntmps239
      go_wp2
      go_ret
      exact ⟨by simp [h4],G⟩
    ·have a4:((kl:Int)==0)=false:=beq_eq_false_iff_ne.2 (by omega)
     have X:(kl==0)=false:=beq_eq_false_iff_ne.2 h3
     go_enter Tryz.func239,Tryz.ntmps239
     go_wp2
     go_ret
     exact ⟨by simp [h3],G⟩
def risesAt (ks:List ByteArray) (i:Nat):Bool :=
 Lib.validD (ks.getD i ⟨#[]⟩).data.toList&&!(decide (0<i)&&decide (0<=Lib.compareBytes (ks.getD (i - 1) ⟨#[]⟩).data.toList (ks.getD i ⟨#[]⟩).data.toList))
def Zbz (ks:List ByteArray):Bool:=(List.range ks.length).all (risesAt ks)
theorem Zek {ks:List ByteArray} {i:Nat} (h:i<ks.length) (hf:risesAt ks i=false):Zbz ks=false:=by
 unfold Zbz
 rw [Bool.eq_false_iff]
 intro S
 rw [List.all_eq_true] at S
 have:=S i (List.mem_range.2 h)
 rw [hf] at this;cases this
theorem Zfq {ks:List ByteArray} (h:∀ i,i<ks.length->risesAt ks i=true):Zbz ks=true:=by
 unfold Zbz
 rw [List.all_eq_true]
 intro i M
 exact h i (List.mem_range.1 M)
theorem Ztp (B:Nat) (ka:Option Addr) (kc:Nat) (ks:List ByteArray) (w:World) (hk:Zab B w ka ks) (h1:ks.length<=kc) (h2:kc<=maxLen) (y:Zhx w) :
  Calls Tryz.prog 238 #[.slice ka ks.length kc] w fun e w'=>e=.returned (.bool (Zbz ks))/\Below w.heap.size w w':=by
 unfold maxLen at h2
 go_enter Tryz.func238,Tryz.ntmps238
 go_wp2_with fail
 go_loopw [7] (fun i wr=>∃ j:Nat,j<=ks.length/\i=.int .i64 j/\Below w.heap.size w wr/\∀ x,x<j->risesAt ks x=true) (fun i _=>ks.length - (intOf i).toNat)
 case atStart=>exact ⟨0,Nat.zero_le _,rfl,Below.refl _ _,fun x hx=>by omega⟩
 case round =>
  obtain ⟨j,hj,rfl,u,K⟩:=hrel
  have T:Hid (∀ x,x<j->risesAt ks x=true):=K
  clear K
  by_cases hlt:j<ks.length
  ·obtain ⟨bk,off,rfl,a2,z⟩:=hk.resolve_left (by intro e;subst e;simp at hlt)
   have Y:=Zag u (Nat.le_refl _) (z j hlt).1
   have O:=(z j hlt).2
   have L:=y.below u
   have D:Hid (risesAt ks j=(Lib.validD (ks.getD j ⟨#[]⟩).data.toList&&!(decide (0<j)&&decide (0<=Lib.compareBytes (ks.getD (j - 1) ⟨#[]⟩).data.toList (ks.getD j ⟨#[]⟩).data.toList)))):=rfl
   have HC:Hid (0<j->w.cell? ⟨bk,off+(j - 1),none⟩=some (.string (ks.getD (j - 1) ⟨#[]⟩))):=fun h0=>(z (j - 1) (by omega)).1
   generalize ks.getD j ⟨#[]⟩=kx at *
   generalize ks.getD (j - 1) ⟨#[]⟩=kp at *
   have I:=Zbh kx wr O L
   clear z O L
   generalize hV:Lib.validD kx.data.toList=V at *
   have HV:Hid (Lib.validD kx.data.toList=V):=hV
   clear hV
   cases V with
   | false =>
    go_wp2_with fail
    refine I.mono ?_
    rintro e w1 ⟨rfl,l⟩
    clear I
    go_wp2_with fail
    go_ret
    refine ⟨?_,u.trans (l.mono u.size)⟩
    rw [Zek hlt (D.out.trans (by simp))];rfl
   | true =>
    by_cases h0:j=0
    ·have Q:¬ (0:Int)<(j:Int):=by omega
     have U:Hid (j=0):=h0
     clear h0
     go_wp2_with fail
     refine I.mono ?_
     rintro e w1 ⟨rfl,l⟩
     have C:Hid (Below w.heap.size w w1):=u.trans (l.mono u.size)
     clear I l
     go_wp2_with fail
     go_roundw
     case rel =>
      refine ⟨j+1,by omega,by go_num,C.out,fun x hx=>?_⟩
      obtain rfl:x=j:=by have:=U.out;omega
      exact D.out.trans (by simp [U.out])
     case measure=>simp [intOf];omega
    ·have Q:(0:Int)<(j:Int):=by omega
     have R:=HC.out (by omega)
     go_wp2_with fail
     refine I.mono ?_
     rintro e w1 ⟨rfl,l⟩
     have C:Hid (Below w.heap.size w w1):=u.trans (l.mono u.size)
     have a0:w1.cell? ⟨bk,off+(j - 1),none⟩=some (.string kp):=Zag C.out (Nat.le_refl _) R
     clear I l
     go_wp2_with fail
     refine (Tryz.strings_Compare _ _ _).mono ?_
     rintro e F ⟨rfl,rfl⟩
     generalize E:Lib.compareBytes kp.data.toList kx.data.toList=cm at *
     have a3:Hid (Lib.compareBytes kp.data.toList kx.data.toList=cm):=E
     clear E
     by_cases h1:0<=cm
     ·go_wp2_with fail
      go_ret
      refine ⟨?_,C.out⟩
      rw [Zek hlt (D.out.trans (by simp [h1];omega))];rfl
     ·go_wp2_with fail
      go_roundw
      case rel =>
       refine ⟨j+1,by omega,by go_num,C.out,fun x hx=>?_⟩
       by_cases hxj:x=j
       ·subst hxj
        exact D.out.trans (by simp;omega)
       ·exact T.out x (by omega)
      case measure=>simp [intOf];omega
  ·go_wp2_with fail
   go_ret
   refine ⟨?_,u⟩
   rw [Zfq fun i M=>T.out i (by omega)];rfl
def Zw  : Zi->Bool
 | .mk k b n s ks ts =>
  (if k=0 then Zav b n s ks.length ts.length
    else if k=1 then Zav false n s ks.length ts.length
    else if k=2 then Zav b 0 s ks.length ts.length
    else if k=6\/k=7 then Zav b (min n 0) s ks.length ts.length
    else if k=3 then Zav b n ⟨#[]⟩ ks.length ts.length
    else if k=5 then (ks.length==ts.length&&Zbz ks)&&Zav b n s 0 0
    else if k=4 then Zav b n s ks.length 0
    else false)&&Lib.validD s.data.toList
theorem Zb0 {w w1:World} {A A':Array Value} {v:Value} (u:Below ((w.alloc (.cells A 60)).alloc (.cells A' 60)).heap.size ((w.alloc (.cells A 60)).alloc (.cells A' 60)) w1) (h3:A[3]?=some v):Below w.heap.size w w1/\w1.cell? ⟨w.heap.size,3,none⟩=some v:=by
 simp only [World.size_alloc] at u
 refine ⟨(((Below.refl _ w).alloc (Nat.le_refl _) _).alloc (by simp) _).trans (u.mono (by omega)),(u.cell (p:=⟨w.heap.size,3,none⟩) (by show w.heap.size<_;omega)).trans ?_⟩
 have:((w.alloc (.cells A 60)).alloc (.cells A' 60)).cell? ⟨w.heap.size,3,none⟩=(w.alloc (.cells A 60)).cell? ⟨w.heap.size,3,none⟩:=World.cell?_of_block (Below.heap_alloc _ _ _ (by simp))
 rw [this]
 exact Zaj _ _ _ _ _ h3
theorem Jah (k:Int) (b:Bool) (n:Int) (s:ByteArray) (ka:Option Addr) (kc:Nat) (la:Option Addr) (lc:Nat) (ks:List ByteArray) (ts:List Zi) (w:World) (t:s.size<=maxLen) (y:Zhx w) (m:k=0) :
  Calls Tryz.prog 205 #[.agg #[.int .i64 k,.bool b,.int .i64 n,.string s,.slice ka ks.length kc,.slice la ts.length lc]] w fun e w'=>e=.returned (.bool (Zw (.mk k b n s ks ts)))/\Below w.heap.size w w':=by
 have d:Zw (.mk k b n s ks ts)=(Zav b n s ks.length ts.length&&Lib.validD s.data.toList):=by subst m;rfl
 have H:(k==0)=true:=Zah m
 clear m
 go_enter Tryz.func205,Tryz.ntmps205
 go_wp2_with fail
 refine (Zcl _ _ _ _ _ _ _ _ _ _ _).mono ?_
 rintro e w1 ⟨rfl,l⟩
 obtain ⟨f,c3⟩:=Zb0 (v:=.string s) l rfl
 clear l
 have o:=y.below f
 cases hbl:Zav b n s ks.length ts.length with
 | false =>
  have r:Hid (Zw (.mk k b n s ks ts)=false):=by unfold Hid;rw [d,hbl];rfl
  clear hbl d
  go_wp2_with fail
  go_ret
  exact ⟨by rw [r.out];rfl,f⟩
 | true =>
  have r:Hid (Zw (.mk k b n s ks ts)=Lib.validD s.data.toList):=by unfold Hid;rw [d,hbl];rfl
  clear hbl d
  go_wp2_with fail
  refine (Zbh _ _ t o).mono ?_
  rintro e F ⟨rfl,q⟩
  go_wp2_with fail
  go_ret
  exact ⟨by rw [r.out];rfl,f.trans (q.mono f.size)⟩
theorem Jai (k:Int) (b:Bool) (n:Int) (s:ByteArray) (ka:Option Addr) (kc:Nat) (la:Option Addr) (lc:Nat) (ks:List ByteArray) (ts:List Zi) (w:World) (t:s.size<=maxLen) (y:Zhx w) (m:k=1) :
  Calls Tryz.prog 205 #[.agg #[.int .i64 k,.bool b,.int .i64 n,.string s,.slice ka ks.length kc,.slice la ts.length lc]] w fun e w'=>e=.returned (.bool (Zw (.mk k b n s ks ts)))/\Below w.heap.size w w':=by
 have d:Zw (.mk k b n s ks ts)=(Zav false n s ks.length ts.length&&Lib.validD s.data.toList):=by subst m;rfl
 have H:(k==0)=false:=Zh (by omega)
 have e1:(k==1)=true:=Zah m
 clear m
 go_enter Tryz.func205,Tryz.ntmps205
 go_wp2_with fail
 refine (Zcl _ _ _ _ _ _ _ _ _ _ _).mono ?_
 rintro e w1 ⟨rfl,l⟩
 obtain ⟨f,c3⟩:=Zb0 (v:=.string s) l rfl
 clear l
 have o:=y.below f
 cases hbl:Zav false n s ks.length ts.length with
 | false =>
  have r:Hid (Zw (.mk k b n s ks ts)=false):=by unfold Hid;rw [d,hbl];rfl
  clear hbl d
  go_wp2_with fail
  go_ret
  exact ⟨by rw [r.out];rfl,f⟩
 | true =>
  have r:Hid (Zw (.mk k b n s ks ts)=Lib.validD s.data.toList):=by unfold Hid;rw [d,hbl];rfl
  clear hbl d
  go_wp2_with fail
  refine (Zbh _ _ t o).mono ?_
  rintro e F ⟨rfl,q⟩
  go_wp2_with fail
  go_ret
  exact ⟨by rw [r.out];rfl,f.trans (q.mono f.size)⟩
theorem Jaj (k:Int) (b:Bool) (n:Int) (s:ByteArray) (ka:Option Addr) (kc:Nat) (la:Option Addr) (lc:Nat) (ks:List ByteArray) (ts:List Zi) (w:World) (t:s.size<=maxLen) (y:Zhx w) (m:k=2) :
  Calls Tryz.prog 205 #[.agg #[.int .i64 k,.bool b,.int .i64 n,.string s,.slice ka ks.length kc,.slice la ts.length lc]] w fun e w'=>e=.returned (.bool (Zw (.mk k b n s ks ts)))/\Below w.heap.size w w':=by
 have d:Zw (.mk k b n s ks ts)=(Zav b 0 s ks.length ts.length&&Lib.validD s.data.toList):=by subst m;rfl
 have H:(k==0)=false:=Zh (by omega)
 have e1:(k==1)=false:=Zh (by omega)
 have e2:(k==2)=true:=Zah m
 clear m
 go_enter Tryz.func205,Tryz.ntmps205
 go_wp2_with fail
 refine (Zcl _ _ _ _ _ _ _ _ _ _ _).mono ?_
 rintro e w1 ⟨rfl,l⟩
 obtain ⟨f,c3⟩:=Zb0 (v:=.string s) l rfl
 clear l
 have o:=y.below f
 cases hbl:Zav b 0 s ks.length ts.length with
 | false =>
  have r:Hid (Zw (.mk k b n s ks ts)=false):=by unfold Hid;rw [d,hbl];rfl
  clear hbl d
  go_wp2_with fail
  go_ret
  exact ⟨by rw [r.out];rfl,f⟩
 | true =>
  have r:Hid (Zw (.mk k b n s ks ts)=Lib.validD s.data.toList):=by unfold Hid;rw [d,hbl];rfl
  clear hbl d
  go_wp2_with fail
  refine (Zbh _ _ t o).mono ?_
  rintro e F ⟨rfl,q⟩
  go_wp2_with fail
  go_ret
  exact ⟨by rw [r.out];rfl,f.trans (q.mono f.size)⟩
theorem Jak (k:Int) (b:Bool) (n:Int) (s:ByteArray) (ka:Option Addr) (kc:Nat) (la:Option Addr) (lc:Nat) (ks:List ByteArray) (ts:List Zi) (w:World) (t:s.size<=maxLen) (y:Zhx w) (m:k=6) :
  Calls Tryz.prog 205 #[.agg #[.int .i64 k,.bool b,.int .i64 n,.string s,.slice ka ks.length kc,.slice la ts.length lc]] w fun e w'=>e=.returned (.bool (Zw (.mk k b n s ks ts)))/\Below w.heap.size w w':=by
 have d:Zw (.mk k b n s ks ts)=(Zav b (min n 0) s ks.length ts.length&&Lib.validD s.data.toList):=by subst m;rfl
 have H:(k==0)=false:=Zh (by omega)
 have e1:(k==1)=false:=Zh (by omega)
 have e2:(k==2)=false:=Zh (by omega)
 have P:(k==6)=true:=Zah m
 have N:True:=trivial
 clear m
 go_enter Tryz.func205,Tryz.ntmps205
 go_wp2_with fail
 refine (Zcl _ _ _ _ _ _ _ _ _ _ _).mono ?_
 rintro e w1 ⟨rfl,l⟩
 obtain ⟨f,c3⟩:=Zb0 (v:=.string s) l rfl
 clear l
 have o:=y.below f
 cases hbl:Zav b (min n 0) s ks.length ts.length with
 | false =>
  have r:Hid (Zw (.mk k b n s ks ts)=false):=by unfold Hid;rw [d,hbl];rfl
  clear hbl d
  go_wp2_with fail
  go_ret
  exact ⟨by rw [r.out];rfl,f⟩
 | true =>
  have r:Hid (Zw (.mk k b n s ks ts)=Lib.validD s.data.toList):=by unfold Hid;rw [d,hbl];rfl
  clear hbl d
  go_wp2_with fail
  refine (Zbh _ _ t o).mono ?_
  rintro e F ⟨rfl,q⟩
  go_wp2_with fail
  go_ret
  exact ⟨by rw [r.out];rfl,f.trans (q.mono f.size)⟩
theorem Jal (k:Int) (b:Bool) (n:Int) (s:ByteArray) (ka:Option Addr) (kc:Nat) (la:Option Addr) (lc:Nat) (ks:List ByteArray) (ts:List Zi) (w:World) (t:s.size<=maxLen) (y:Zhx w) (m:k=7) :
  Calls Tryz.prog 205 #[.agg #[.int .i64 k,.bool b,.int .i64 n,.string s,.slice ka ks.length kc,.slice la ts.length lc]] w fun e w'=>e=.returned (.bool (Zw (.mk k b n s ks ts)))/\Below w.heap.size w w':=by
 have d:Zw (.mk k b n s ks ts)=(Zav b (min n 0) s ks.length ts.length&&Lib.validD s.data.toList):=by subst m;rfl
 have H:(k==0)=false:=Zh (by omega)
 have e1:(k==1)=false:=Zh (by omega)
 have e2:(k==2)=false:=Zh (by omega)
 have P:(k==6)=false:=Zh (by omega)
 have e7:(k==7)=true:=Zah m
 have N:True:=trivial
 clear m
 go_enter Tryz.func205,Tryz.ntmps205
 go_wp2_with fail
 refine (Zcl _ _ _ _ _ _ _ _ _ _ _).mono ?_
 rintro e w1 ⟨rfl,l⟩
 obtain ⟨f,c3⟩:=Zb0 (v:=.string s) l rfl
 clear l
 have o:=y.below f
 cases hbl:Zav b (min n 0) s ks.length ts.length with
 | false =>
  have r:Hid (Zw (.mk k b n s ks ts)=false):=by unfold Hid;rw [d,hbl];rfl
  clear hbl d
  go_wp2_with fail
  go_ret
  exact ⟨by rw [r.out];rfl,f⟩
 | true =>
  have r:Hid (Zw (.mk k b n s ks ts)=Lib.validD s.data.toList):=by unfold Hid;rw [d,hbl];rfl
  clear hbl d
  go_wp2_with fail
  refine (Zbh _ _ t o).mono ?_
  rintro e F ⟨rfl,q⟩
  go_wp2_with fail
  go_ret
  exact ⟨by rw [r.out];rfl,f.trans (q.mono f.size)⟩
theorem Jam (k:Int) (b:Bool) (n:Int) (s:ByteArray) (ka:Option Addr) (kc:Nat) (la:Option Addr) (lc:Nat) (ks:List ByteArray) (ts:List Zi) (w:World) (t:s.size<=maxLen) (y:Zhx w) (m:k=3) :
  Calls Tryz.prog 205 #[.agg #[.int .i64 k,.bool b,.int .i64 n,.string s,.slice ka ks.length kc,.slice la ts.length lc]] w fun e w'=>e=.returned (.bool (Zw (.mk k b n s ks ts)))/\Below w.heap.size w w':=by
 have d:Zw (.mk k b n s ks ts)=(Zav b n ⟨#[]⟩ ks.length ts.length&&Lib.validD s.data.toList):=by subst m;rfl
 have H:(k==0)=false:=Zh (by omega)
 have e1:(k==1)=false:=Zh (by omega)
 have e2:(k==2)=false:=Zh (by omega)
 have P:(k==6)=false:=Zh (by omega)
 have e7:(k==7)=false:=Zh (by omega)
 have e3:(k==3)=true:=Zah m
 clear m
 go_enter Tryz.func205,Tryz.ntmps205
 go_wp2_with fail
 refine (Zcl _ _ _ _ _ _ _ _ _ _ _).mono ?_
 rintro e w1 ⟨rfl,l⟩
 obtain ⟨f,c3⟩:=Zb0 (v:=.string s) l rfl
 clear l
 have o:=y.below f
 cases hbl:Zav b n ⟨#[]⟩ ks.length ts.length with
 | false =>
  have r:Hid (Zw (.mk k b n s ks ts)=false):=by unfold Hid;rw [d,hbl];rfl
  clear hbl d
  go_wp2_with fail
  go_ret
  exact ⟨by rw [r.out];rfl,f⟩
 | true =>
  have r:Hid (Zw (.mk k b n s ks ts)=Lib.validD s.data.toList):=by unfold Hid;rw [d,hbl];rfl
  clear hbl d
  go_wp2_with fail
  refine (Zbh _ _ t o).mono ?_
  rintro e F ⟨rfl,q⟩
  go_wp2_with fail
  go_ret
  exact ⟨by rw [r.out];rfl,f.trans (q.mono f.size)⟩
theorem Jan (k:Int) (b:Bool) (n:Int) (s:ByteArray) (ka:Option Addr) (kc:Nat) (la:Option Addr) (lc:Nat) (ks:List ByteArray) (ts:List Zi) (w:World) (t:s.size<=maxLen) (y:Zhx w) (m:k=4) :
  Calls Tryz.prog 205 #[.agg #[.int .i64 k,.bool b,.int .i64 n,.string s,.slice ka ks.length kc,.slice la ts.length lc]] w fun e w'=>e=.returned (.bool (Zw (.mk k b n s ks ts)))/\Below w.heap.size w w':=by
 have d:Zw (.mk k b n s ks ts)=(Zav b n s ks.length 0&&Lib.validD s.data.toList):=by subst m;rfl
 have H:(k==0)=false:=Zh (by omega)
 have e1:(k==1)=false:=Zh (by omega)
 have e2:(k==2)=false:=Zh (by omega)
 have P:(k==6)=false:=Zh (by omega)
 have e7:(k==7)=false:=Zh (by omega)
 have e3:(k==3)=false:=Zh (by omega)
 have e5:(k==5)=false:=Zh (by omega)
 have e4:(k==4)=true:=Zah m
 clear m
 go_enter Tryz.func205,Tryz.ntmps205
 go_wp2_with fail
 refine (Zcl _ _ _ _ _ _ _ _ _ _ _).mono ?_
 rintro e w1 ⟨rfl,l⟩
 obtain ⟨f,c3⟩:=Zb0 (v:=.string s) l rfl
 clear l
 have o:=y.below f
 cases hbl:Zav b n s ks.length 0 with
 | false =>
  have r:Hid (Zw (.mk k b n s ks ts)=false):=by unfold Hid;rw [d,hbl];rfl
  clear hbl d
  go_wp2_with fail
  go_ret
  exact ⟨by rw [r.out];rfl,f⟩
 | true =>
  have r:Hid (Zw (.mk k b n s ks ts)=Lib.validD s.data.toList):=by unfold Hid;rw [d,hbl];rfl
  clear hbl d
  go_wp2_with fail
  refine (Zbh _ _ t o).mono ?_
  rintro e F ⟨rfl,q⟩
  go_wp2_with fail
  go_ret
  exact ⟨by rw [r.out];rfl,f.trans (q.mono f.size)⟩
