/- Whether a value may be, as far as it can be told without what is in its list: blank, rising, shaped. -/
import Derived.Test.YteddjlbfbpecjaaGreatDoorJoin10
import Derived.Test.YteddjlbfbpecjaaGreatDoorJoin4
import Derived.Test.YteddjlbfbpecjaaGreatDoorJoin3
namespace Go.Proofs.YteddjlbfbpecjaaGreatDoor
open Go.RowKit Go.Shelf
set_option maxHeartbeats 1000000
set_option linter.all false
def Zla (w:World):Prop:=Lib.Utf8Tabs (Tryz.laysValid_ren.g 3) (Tryz.laysValid_ren.g 4) w
theorem Zla.below {w w':World} (h:Zla w) (hb:Below w.heap.size w w'):Zla w' :=
 ⟨fun c hc=>Jw hb (Nat.le_refl _) (h.1 c hc),fun i hi=>⟨Jw hb (Nat.le_refl _) (h.2 i hi).1,Jw hb (Nat.le_refl _) (h.2 i hi).2⟩⟩
theorem Za7 (s:ByteArray) (w:World) (hs:s.size≤maxLen) (hT:Zla w) :
  Calls Tryz.prog 139 #[.string s] w fun e w'=>e=.returned (.bool (Lib.validD s.data.toList))∧Below w.heap.size w w' :=
 Any.utf8_ValidString Tryz.laysValid s w (by unfold maxLen at hs;omega) hT
def Zal (b:Bool) (n:Int) (s:ByteArray) (kl ll:Nat):Bool:=!b&&(n==0&&(s.toList.isEmpty&&(kl==0&&ll==0)))
theorem Zb9 (k:Int) (b:Bool) (n:Int) (s:ByteArray) (ka:Option Addr) (kl kc:Nat) (la:Option Addr) (ll lc:Nat) (w:World) :
  Calls Tryz.prog 239 #[.agg #[.int .i64 k,.bool b,.int .i64 n,.string s,.slice ka kl kc,.slice la ll lc]] w fun e w'=>e=.returned (.bool (Zal b n s kl ll))∧Below w.heap.size w w':=by
 have hB:Below w.heap.size w (w.alloc (.cells #[.int .i64 k,.bool b,.int .i64 n,.string s,.slice ka kl kc,.slice la ll lc] 60)):=(Below.refl _ _).alloc (Nat.le_refl _) _
 unfold Zal
 cases b with
 | true =>
  go_enter Tryz.func239,Tryz.ntmps239
  go_wp2
  go_ret
  exact ⟨rfl,hB⟩
 | false =>
  cases h1:(n==0) with
  | false =>
   go_enter Tryz.func239,Tryz.ntmps239
   go_wp2
   go_ret
   exact ⟨rfl,hB⟩
  | true =>
   cases h2:s.toList.isEmpty with
   | false =>
    go_enter Tryz.func239,Tryz.ntmps239
    go_wp2
    go_ret
    exact ⟨rfl,hB⟩
   | true =>
    by_cases h3:kl=0
    ·subst h3
     by_cases h4:ll=0
     ·subst h4
      go_enter Tryz.func239,Tryz.ntmps239
      go_wp2
      go_ret
      exact ⟨rfl,hB⟩
     ·have h4':((ll:Int)==0)=false:=beq_eq_false_iff_ne.2 (by omega)
      have h4'':(ll==0)=false:=beq_eq_false_iff_ne.2 h4
      go_enter Tryz.func239,Tryz.ntmps239
      go_wp2
      go_ret
      exact ⟨by simp [h4],hB⟩
    ·have h3':((kl:Int)==0)=false:=beq_eq_false_iff_ne.2 (by omega)
     have h3'':(kl==0)=false:=beq_eq_false_iff_ne.2 h3
     go_enter Tryz.func239,Tryz.ntmps239
     go_wp2
     go_ret
     exact ⟨by simp [h3],hB⟩
def risesAt (ks:List ByteArray) (i:Nat):Bool :=
 Lib.validD (ks.getD i ⟨#[]⟩).data.toList&&!(decide (0<i)&&decide (0≤Lib.compareBytes (ks.getD (i - 1) ⟨#[]⟩).data.toList (ks.getD i ⟨#[]⟩).data.toList))
def Zbq (ks:List ByteArray):Bool:=(List.range ks.length).all (risesAt ks)
theorem Zd7 {ks:List ByteArray} {i:Nat} (h:i<ks.length) (hf:risesAt ks i=false):Zbq ks=false:=by
 unfold Zbq
 rw [Bool.eq_false_iff]
 intro ha
 rw [List.all_eq_true] at ha
 have:=ha i (List.mem_range.2 h)
 rw [hf] at this;cases this
theorem Zfe {ks:List ByteArray} (h:∀ i,i<ks.length→risesAt ks i=true):Zbq ks=true:=by
 unfold Zbq
 rw [List.all_eq_true]
 intro i hi
 exact h i (List.mem_range.1 hi)
theorem Zq6 (B:Nat) (ka:Option Addr) (kc:Nat) (ks:List ByteArray) (w:World) (hk:Jv B w ka ks) (h1:ks.length≤kc) (h2:kc≤maxLen) (hT:Zla w) :
  Calls Tryz.prog 238 #[.slice ka ks.length kc] w fun e w'=>e=.returned (.bool (Zbq ks))∧Below w.heap.size w w':=by
 unfold maxLen at h2
 go_enter Tryz.func238,Tryz.ntmps238
 go_wp2_with fail
 go_loopw [7] (fun i wr=>∃ j:Nat,j≤ks.length∧i=.int .i64 j∧Below w.heap.size w wr∧∀ x,x<j→risesAt ks x=true) (fun i _=>ks.length - (intOf i).toNat)
 case atStart=>exact ⟨0,Nat.zero_le _,rfl,Below.refl _ _,fun x hx=>by omega⟩
 case round =>
  obtain ⟨j,hj,rfl,hb,hup⟩:=hrel
  have HU:Hid (∀ x,x<j→risesAt ks x=true):=hup
  clear hup
  by_cases hlt:j<ks.length
  ·obtain ⟨bk,off,rfl,hbk,hkey⟩:=hk.resolve_left (by intro e;subst e;simp at hlt)
   have hc:=Jw hb (Nat.le_refl _) (hkey j hlt).1
   have hsz:=(hkey j hlt).2
   have hTr:=hT.below hb
   have HAt:Hid (risesAt ks j=(Lib.validD (ks.getD j ⟨#[]⟩).data.toList&&!(decide (0<j)&&decide (0≤Lib.compareBytes (ks.getD (j - 1) ⟨#[]⟩).data.toList (ks.getD j ⟨#[]⟩).data.toList)))):=rfl
   have HC:Hid (0<j→w.cell? ⟨bk,off+(j - 1),none⟩=some (.string (ks.getD (j - 1) ⟨#[]⟩))):=fun h0=>(hkey (j - 1) (by omega)).1
   generalize ks.getD j ⟨#[]⟩=kx at *
   generalize ks.getD (j - 1) ⟨#[]⟩=kp at *
   have cV:=Za7 kx wr hsz hTr
   clear hkey hsz hTr
   generalize hV:Lib.validD kx.data.toList=V at *
   have HV:Hid (Lib.validD kx.data.toList=V):=hV
   clear hV
   cases V with
   | false =>
    go_wp2_with fail
    refine cV.mono ?_
    rintro e w1 ⟨rfl,hb1⟩
    clear cV
    go_wp2_with fail
    go_ret
    refine ⟨?_,hb.trans (hb1.mono hb.size)⟩
    rw [Zd7 hlt (HAt.out.trans (by simp))];rfl
   | true =>
    by_cases h0:j=0
    ·have h0':¬ (0:Int)<(j:Int):=by omega
     have H0:Hid (j=0):=h0
     clear h0
     go_wp2_with fail
     refine cV.mono ?_
     rintro e w1 ⟨rfl,hb1⟩
     have HB1:Hid (Below w.heap.size w w1):=hb.trans (hb1.mono hb.size)
     clear cV hb1
     go_wp2_with fail
     go_roundw
     case rel =>
      refine ⟨j+1,by omega,by go_num,HB1.out,fun x hx=>?_⟩
      obtain rfl:x=j:=by have:=H0.out;omega
      exact HAt.out.trans (by simp [H0.out])
     case measure=>simp [intOf];omega
    ·have h0':(0:Int)<(j:Int):=by omega
     have hcp:=HC.out (by omega)
     go_wp2_with fail
     refine cV.mono ?_
     rintro e w1 ⟨rfl,hb1⟩
     have HB1:Hid (Below w.heap.size w w1):=hb.trans (hb1.mono hb.size)
     have hcp1:w1.cell? ⟨bk,off+(j - 1),none⟩=some (.string kp):=Jw HB1.out (Nat.le_refl _) hcp
     clear cV hb1
     go_wp2_with fail
     refine (Tryz.strings_Compare _ _ _).mono ?_
     rintro e w2 ⟨rfl,rfl⟩
     generalize hcmp:Lib.compareBytes kp.data.toList kx.data.toList=cm at *
     have HCm:Hid (Lib.compareBytes kp.data.toList kx.data.toList=cm):=hcmp
     clear hcmp
     by_cases h1:0≤cm
     ·go_wp2_with fail
      go_ret
      refine ⟨?_,HB1.out⟩
      rw [Zd7 hlt (HAt.out.trans (by simp [h1];omega))];rfl
     ·go_wp2_with fail
      go_roundw
      case rel =>
       refine ⟨j+1,by omega,by go_num,HB1.out,fun x hx=>?_⟩
       by_cases hxj:x=j
       ·subst hxj
        exact HAt.out.trans (by simp;omega)
       ·exact HU.out x (by omega)
      case measure=>simp [intOf];omega
  ·go_wp2_with fail
   go_ret
   refine ⟨?_,hb⟩
   rw [Zfe fun i hi=>HU.out i (by omega)];rfl
def Zz  : Zk→Bool
 | .mk k b n s ks ts =>
  (if k=0 then Zal b n s ks.length ts.length
    else if k=1 then Zal false n s ks.length ts.length
    else if k=2 then Zal b 0 s ks.length ts.length
    else if k=6∨k=7 then Zal b (min n 0) s ks.length ts.length
    else if k=3 then Zal b n ⟨#[]⟩ ks.length ts.length
    else if k=5 then (ks.length==ts.length&&Zbq ks)&&Zal b n s 0 0
    else if k=4 then Zal b n s ks.length 0
    else false)&&Lib.validD s.data.toList
theorem Zbr {w w1:World} {A A':Array Value} {v:Value} (hb:Below ((w.alloc (.cells A 60)).alloc (.cells A' 60)).heap.size ((w.alloc (.cells A 60)).alloc (.cells A' 60)) w1) (h3:A[3]?=some v):Below w.heap.size w w1∧w1.cell? ⟨w.heap.size,3,none⟩=some v:=by
 simp only [World.size_alloc] at hb
 refine ⟨(((Below.refl _ w).alloc (Nat.le_refl _) _).alloc (by simp) _).trans (hb.mono (by omega)),(hb.cell (p:=⟨w.heap.size,3,none⟩) (by show w.heap.size<_;omega)).trans ?_⟩
 have:((w.alloc (.cells A 60)).alloc (.cells A' 60)).cell? ⟨w.heap.size,3,none⟩=(w.alloc (.cells A 60)).cell? ⟨w.heap.size,3,none⟩:=World.cell?_of_block (Below.heap_alloc _ _ _ (by simp))
 rw [this]
 exact Zaf _ _ _ _ _ h3
theorem Zxj (k:Int) (b:Bool) (n:Int) (s:ByteArray) (ka:Option Addr) (kc:Nat) (la:Option Addr) (lc:Nat) (ks:List ByteArray) (ts:List Zk) (w:World) (hs1:s.size≤maxLen) (hT:Zla w) (hk0:k=0) :
  Calls Tryz.prog 205 #[.agg #[.int .i64 k,.bool b,.int .i64 n,.string s,.slice ka ks.length kc,.slice la ts.length lc]] w fun e w'=>e=.returned (.bool (Zz (.mk k b n s ks ts)))∧Below w.heap.size w w':=by
 have hsh:Zz (.mk k b n s ks ts)=(Zal b n s ks.length ts.length&&Lib.validD s.data.toList):=by subst hk0;rfl
 have e0:(k==0)=true:=Jy hk0
 clear hk0
 go_enter Tryz.func205,Tryz.ntmps205
 go_wp2_with fail
 refine (Zb9 _ _ _ _ _ _ _ _ _ _ _).mono ?_
 rintro e w1 ⟨rfl,hb1⟩
 obtain ⟨hB1,c3⟩:=Zbr (v:=.string s) hb1 rfl
 clear hb1
 have hT1:=hT.below hB1
 cases hbl:Zal b n s ks.length ts.length with
 | false =>
  have HS:Hid (Zz (.mk k b n s ks ts)=false):=by unfold Hid;rw [hsh,hbl];rfl
  clear hbl hsh
  go_wp2_with fail
  go_ret
  exact ⟨by rw [HS.out];rfl,hB1⟩
 | true =>
  have HS:Hid (Zz (.mk k b n s ks ts)=Lib.validD s.data.toList):=by unfold Hid;rw [hsh,hbl];rfl
  clear hbl hsh
  go_wp2_with fail
  refine (Za7 _ _ hs1 hT1).mono ?_
  rintro e w2 ⟨rfl,hb2⟩
  go_wp2_with fail
  go_ret
  exact ⟨by rw [HS.out];rfl,hB1.trans (hb2.mono hB1.size)⟩
theorem Zxk (k:Int) (b:Bool) (n:Int) (s:ByteArray) (ka:Option Addr) (kc:Nat) (la:Option Addr) (lc:Nat) (ks:List ByteArray) (ts:List Zk) (w:World) (hs1:s.size≤maxLen) (hT:Zla w) (hk0:k=1) :
  Calls Tryz.prog 205 #[.agg #[.int .i64 k,.bool b,.int .i64 n,.string s,.slice ka ks.length kc,.slice la ts.length lc]] w fun e w'=>e=.returned (.bool (Zz (.mk k b n s ks ts)))∧Below w.heap.size w w':=by
 have hsh:Zz (.mk k b n s ks ts)=(Zal false n s ks.length ts.length&&Lib.validD s.data.toList):=by subst hk0;rfl
 have e0:(k==0)=false:=Zh (by omega)
 have e1:(k==1)=true:=Jy hk0
 clear hk0
 go_enter Tryz.func205,Tryz.ntmps205
 go_wp2_with fail
 refine (Zb9 _ _ _ _ _ _ _ _ _ _ _).mono ?_
 rintro e w1 ⟨rfl,hb1⟩
 obtain ⟨hB1,c3⟩:=Zbr (v:=.string s) hb1 rfl
 clear hb1
 have hT1:=hT.below hB1
 cases hbl:Zal false n s ks.length ts.length with
 | false =>
  have HS:Hid (Zz (.mk k b n s ks ts)=false):=by unfold Hid;rw [hsh,hbl];rfl
  clear hbl hsh
  go_wp2_with fail
  go_ret
  exact ⟨by rw [HS.out];rfl,hB1⟩
 | true =>
  have HS:Hid (Zz (.mk k b n s ks ts)=Lib.validD s.data.toList):=by unfold Hid;rw [hsh,hbl];rfl
  clear hbl hsh
  go_wp2_with fail
  refine (Za7 _ _ hs1 hT1).mono ?_
  rintro e w2 ⟨rfl,hb2⟩
  go_wp2_with fail
  go_ret
  exact ⟨by rw [HS.out];rfl,hB1.trans (hb2.mono hB1.size)⟩
theorem Zxl (k:Int) (b:Bool) (n:Int) (s:ByteArray) (ka:Option Addr) (kc:Nat) (la:Option Addr) (lc:Nat) (ks:List ByteArray) (ts:List Zk) (w:World) (hs1:s.size≤maxLen) (hT:Zla w) (hk0:k=2) :
  Calls Tryz.prog 205 #[.agg #[.int .i64 k,.bool b,.int .i64 n,.string s,.slice ka ks.length kc,.slice la ts.length lc]] w fun e w'=>e=.returned (.bool (Zz (.mk k b n s ks ts)))∧Below w.heap.size w w':=by
 have hsh:Zz (.mk k b n s ks ts)=(Zal b 0 s ks.length ts.length&&Lib.validD s.data.toList):=by subst hk0;rfl
 have e0:(k==0)=false:=Zh (by omega)
 have e1:(k==1)=false:=Zh (by omega)
 have e2:(k==2)=true:=Jy hk0
 clear hk0
 go_enter Tryz.func205,Tryz.ntmps205
 go_wp2_with fail
 refine (Zb9 _ _ _ _ _ _ _ _ _ _ _).mono ?_
 rintro e w1 ⟨rfl,hb1⟩
 obtain ⟨hB1,c3⟩:=Zbr (v:=.string s) hb1 rfl
 clear hb1
 have hT1:=hT.below hB1
 cases hbl:Zal b 0 s ks.length ts.length with
 | false =>
  have HS:Hid (Zz (.mk k b n s ks ts)=false):=by unfold Hid;rw [hsh,hbl];rfl
  clear hbl hsh
  go_wp2_with fail
  go_ret
  exact ⟨by rw [HS.out];rfl,hB1⟩
 | true =>
  have HS:Hid (Zz (.mk k b n s ks ts)=Lib.validD s.data.toList):=by unfold Hid;rw [hsh,hbl];rfl
  clear hbl hsh
  go_wp2_with fail
  refine (Za7 _ _ hs1 hT1).mono ?_
  rintro e w2 ⟨rfl,hb2⟩
  go_wp2_with fail
  go_ret
  exact ⟨by rw [HS.out];rfl,hB1.trans (hb2.mono hB1.size)⟩
theorem Zxm (k:Int) (b:Bool) (n:Int) (s:ByteArray) (ka:Option Addr) (kc:Nat) (la:Option Addr) (lc:Nat) (ks:List ByteArray) (ts:List Zk) (w:World) (hs1:s.size≤maxLen) (hT:Zla w) (hk0:k=6) :
  Calls Tryz.prog 205 #[.agg #[.int .i64 k,.bool b,.int .i64 n,.string s,.slice ka ks.length kc,.slice la ts.length lc]] w fun e w'=>e=.returned (.bool (Zz (.mk k b n s ks ts)))∧Below w.heap.size w w':=by
 have hsh:Zz (.mk k b n s ks ts)=(Zal b (min n 0) s ks.length ts.length&&Lib.validD s.data.toList):=by subst hk0;rfl
 have e0:(k==0)=false:=Zh (by omega)
 have e1:(k==1)=false:=Zh (by omega)
 have e2:(k==2)=false:=Zh (by omega)
 have e6:(k==6)=true:=Jy hk0
 have hmin:True:=trivial
 clear hk0
 go_enter Tryz.func205,Tryz.ntmps205
 go_wp2_with fail
 refine (Zb9 _ _ _ _ _ _ _ _ _ _ _).mono ?_
 rintro e w1 ⟨rfl,hb1⟩
 obtain ⟨hB1,c3⟩:=Zbr (v:=.string s) hb1 rfl
 clear hb1
 have hT1:=hT.below hB1
 cases hbl:Zal b (min n 0) s ks.length ts.length with
 | false =>
  have HS:Hid (Zz (.mk k b n s ks ts)=false):=by unfold Hid;rw [hsh,hbl];rfl
  clear hbl hsh
  go_wp2_with fail
  go_ret
  exact ⟨by rw [HS.out];rfl,hB1⟩
 | true =>
  have HS:Hid (Zz (.mk k b n s ks ts)=Lib.validD s.data.toList):=by unfold Hid;rw [hsh,hbl];rfl
  clear hbl hsh
  go_wp2_with fail
  refine (Za7 _ _ hs1 hT1).mono ?_
  rintro e w2 ⟨rfl,hb2⟩
  go_wp2_with fail
  go_ret
  exact ⟨by rw [HS.out];rfl,hB1.trans (hb2.mono hB1.size)⟩
theorem Zxn (k:Int) (b:Bool) (n:Int) (s:ByteArray) (ka:Option Addr) (kc:Nat) (la:Option Addr) (lc:Nat) (ks:List ByteArray) (ts:List Zk) (w:World) (hs1:s.size≤maxLen) (hT:Zla w) (hk0:k=7) :
  Calls Tryz.prog 205 #[.agg #[.int .i64 k,.bool b,.int .i64 n,.string s,.slice ka ks.length kc,.slice la ts.length lc]] w fun e w'=>e=.returned (.bool (Zz (.mk k b n s ks ts)))∧Below w.heap.size w w':=by
 have hsh:Zz (.mk k b n s ks ts)=(Zal b (min n 0) s ks.length ts.length&&Lib.validD s.data.toList):=by subst hk0;rfl
 have e0:(k==0)=false:=Zh (by omega)
 have e1:(k==1)=false:=Zh (by omega)
 have e2:(k==2)=false:=Zh (by omega)
 have e6:(k==6)=false:=Zh (by omega)
 have e7:(k==7)=true:=Jy hk0
 have hmin:True:=trivial
 clear hk0
 go_enter Tryz.func205,Tryz.ntmps205
 go_wp2_with fail
 refine (Zb9 _ _ _ _ _ _ _ _ _ _ _).mono ?_
 rintro e w1 ⟨rfl,hb1⟩
 obtain ⟨hB1,c3⟩:=Zbr (v:=.string s) hb1 rfl
 clear hb1
 have hT1:=hT.below hB1
 cases hbl:Zal b (min n 0) s ks.length ts.length with
 | false =>
  have HS:Hid (Zz (.mk k b n s ks ts)=false):=by unfold Hid;rw [hsh,hbl];rfl
  clear hbl hsh
  go_wp2_with fail
  go_ret
  exact ⟨by rw [HS.out];rfl,hB1⟩
 | true =>
  have HS:Hid (Zz (.mk k b n s ks ts)=Lib.validD s.data.toList):=by unfold Hid;rw [hsh,hbl];rfl
  clear hbl hsh
  go_wp2_with fail
  refine (Za7 _ _ hs1 hT1).mono ?_
  rintro e w2 ⟨rfl,hb2⟩
  go_wp2_with fail
  go_ret
  exact ⟨by rw [HS.out];rfl,hB1.trans (hb2.mono hB1.size)⟩
theorem Zxo (k:Int) (b:Bool) (n:Int) (s:ByteArray) (ka:Option Addr) (kc:Nat) (la:Option Addr) (lc:Nat) (ks:List ByteArray) (ts:List Zk) (w:World) (hs1:s.size≤maxLen) (hT:Zla w) (hk0:k=3) :
  Calls Tryz.prog 205 #[.agg #[.int .i64 k,.bool b,.int .i64 n,.string s,.slice ka ks.length kc,.slice la ts.length lc]] w fun e w'=>e=.returned (.bool (Zz (.mk k b n s ks ts)))∧Below w.heap.size w w':=by
 have hsh:Zz (.mk k b n s ks ts)=(Zal b n ⟨#[]⟩ ks.length ts.length&&Lib.validD s.data.toList):=by subst hk0;rfl
 have e0:(k==0)=false:=Zh (by omega)
 have e1:(k==1)=false:=Zh (by omega)
 have e2:(k==2)=false:=Zh (by omega)
 have e6:(k==6)=false:=Zh (by omega)
 have e7:(k==7)=false:=Zh (by omega)
 have e3:(k==3)=true:=Jy hk0
 clear hk0
 go_enter Tryz.func205,Tryz.ntmps205
 go_wp2_with fail
 refine (Zb9 _ _ _ _ _ _ _ _ _ _ _).mono ?_
 rintro e w1 ⟨rfl,hb1⟩
 obtain ⟨hB1,c3⟩:=Zbr (v:=.string s) hb1 rfl
 clear hb1
 have hT1:=hT.below hB1
 cases hbl:Zal b n ⟨#[]⟩ ks.length ts.length with
 | false =>
  have HS:Hid (Zz (.mk k b n s ks ts)=false):=by unfold Hid;rw [hsh,hbl];rfl
  clear hbl hsh
  go_wp2_with fail
  go_ret
  exact ⟨by rw [HS.out];rfl,hB1⟩
 | true =>
  have HS:Hid (Zz (.mk k b n s ks ts)=Lib.validD s.data.toList):=by unfold Hid;rw [hsh,hbl];rfl
  clear hbl hsh
  go_wp2_with fail
  refine (Za7 _ _ hs1 hT1).mono ?_
  rintro e w2 ⟨rfl,hb2⟩
  go_wp2_with fail
  go_ret
  exact ⟨by rw [HS.out];rfl,hB1.trans (hb2.mono hB1.size)⟩
theorem Zxp (k:Int) (b:Bool) (n:Int) (s:ByteArray) (ka:Option Addr) (kc:Nat) (la:Option Addr) (lc:Nat) (ks:List ByteArray) (ts:List Zk) (w:World) (hs1:s.size≤maxLen) (hT:Zla w) (hk0:k=4) :
  Calls Tryz.prog 205 #[.agg #[.int .i64 k,.bool b,.int .i64 n,.string s,.slice ka ks.length kc,.slice la ts.length lc]] w fun e w'=>e=.returned (.bool (Zz (.mk k b n s ks ts)))∧Below w.heap.size w w':=by
 have hsh:Zz (.mk k b n s ks ts)=(Zal b n s ks.length 0&&Lib.validD s.data.toList):=by subst hk0;rfl
 have e0:(k==0)=false:=Zh (by omega)
 have e1:(k==1)=false:=Zh (by omega)
 have e2:(k==2)=false:=Zh (by omega)
 have e6:(k==6)=false:=Zh (by omega)
 have e7:(k==7)=false:=Zh (by omega)
 have e3:(k==3)=false:=Zh (by omega)
 have e5:(k==5)=false:=Zh (by omega)
 have e4:(k==4)=true:=Jy hk0
 clear hk0
 go_enter Tryz.func205,Tryz.ntmps205
 go_wp2_with fail
 refine (Zb9 _ _ _ _ _ _ _ _ _ _ _).mono ?_
 rintro e w1 ⟨rfl,hb1⟩
 obtain ⟨hB1,c3⟩:=Zbr (v:=.string s) hb1 rfl
 clear hb1
 have hT1:=hT.below hB1
 cases hbl:Zal b n s ks.length 0 with
 | false =>
  have HS:Hid (Zz (.mk k b n s ks ts)=false):=by unfold Hid;rw [hsh,hbl];rfl
  clear hbl hsh
  go_wp2_with fail
  go_ret
  exact ⟨by rw [HS.out];rfl,hB1⟩
 | true =>
  have HS:Hid (Zz (.mk k b n s ks ts)=Lib.validD s.data.toList):=by unfold Hid;rw [hsh,hbl];rfl
  clear hbl hsh
  go_wp2_with fail
  refine (Za7 _ _ hs1 hT1).mono ?_
  rintro e w2 ⟨rfl,hb2⟩
  go_wp2_with fail
  go_ret
  exact ⟨by rw [HS.out];rfl,hB1.trans (hb2.mono hB1.size)⟩
