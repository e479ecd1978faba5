/- Whether a value may be, as far as it can be told without what is in its list: blank, rising, shaped. Whether a value may be: maps, kinds that are none; all together. A graph: what it is, and where it lies. The order of values: cmp.Compare, rank, truth, lists of texts held against each other. -/
import Derived.Test.YteddjlbfbpecjaaGreatDoorJoin4
import Derived.Test.YteddjlbfbpecjaaGreatDoorJoin3
import Derived.Deep.QuietTactic
import Derived.BigQuiet
import Derived.Deep.RegionWith
namespace Go.Proofs.YteddjlbfbpecjaaGreatDoor
open Go.RowKit Go.Shelf
set_option maxHeartbeats 1000000
set_option linter.unusedVariables false
def Tabs (w:World):Prop:=Lib.Utf8Tabs (Tryz.laysValid_ren.g 3) (Tryz.laysValid_ren.g 4) w
theorem Tabs.below {w w':World} (h:Tabs w) (hb:Below w.heap.size w w'):Tabs w' :=
 ⟨fun c hc=>cell_below hb (Nat.le_refl _) (h.1 c hc),fun i hi=>⟨cell_below hb (Nat.le_refl _) (h.2 i hi).1,cell_below hb (Nat.le_refl _) (h.2 i hi).2⟩⟩
theorem vvalid_any (s:ByteArray) (w:World) (hs:s.size≤maxLen) (hT:Tabs w) :
  Calls Tryz.prog 139 #[.string s] w fun e w'=>e=.returned (.bool (Lib.validD s.data.toList))∧Below w.heap.size w w' :=
 Any.utf8_ValidString Tryz.laysValid s w (by unfold maxLen at hs;omega) hT
def blankB (b:Bool) (n:Int) (s:ByteArray) (kl ll:Nat):Bool:=!b&&(n==0&&(s.toList.isEmpty&&(kl==0&&ll==0)))
theorem blank_any (k:Int) (b:Bool) (n:Int) (s:ByteArray) (ka:Option Addr) (kl kc:Nat) (la:Option Addr) (ll lc:Nat) (w:World) :
  Calls Tryz.prog 239 #[.agg #[.int .i64 k,.bool b,.int .i64 n,.string s,.slice ka kl kc,.slice la ll lc]] w fun e w'=>e=.returned (.bool (blankB b n s kl ll))∧Below w.heap.size w w':=by
 have hB:Below w.heap.size w (w.alloc (.cells #[.int .i64 k,.bool b,.int .i64 n,.string s,.slice ka kl kc,.slice la ll lc] 60)):=(Below.refl _ _).alloc (Nat.le_refl _) _
 unfold blankB
 cases b with
 | true =>
  go_enter Tryz.func239,Tryz.ntmps239
  go_wp2
  go_ret
  exact ⟨rfl,hB⟩
 | false =>
  cases h1:(n==0) with
  | false =>
   go_enter Tryz.func239,Tryz.ntmps239
   go_wp2
   go_ret
   exact ⟨rfl,hB⟩
  | true =>
   cases h2:s.toList.isEmpty with
   | false =>
    go_enter Tryz.func239,Tryz.ntmps239
    go_wp2
    go_ret
    exact ⟨rfl,hB⟩
   | true =>
    by_cases h3:kl=0
    ·subst h3
     by_cases h4:ll=0
     ·subst h4
      go_enter Tryz.func239,Tryz.ntmps239
      go_wp2
      go_ret
      exact ⟨rfl,hB⟩
     ·have h4':((ll:Int)==0)=false:=beq_eq_false_iff_ne.2 (by omega)
      have h4'':(ll==0)=false:=beq_eq_false_iff_ne.2 h4
      go_enter Tryz.func239,Tryz.ntmps239
      go_wp2
      go_ret
      exact ⟨by simp [h4],hB⟩
    ·have h3':((kl:Int)==0)=false:=beq_eq_false_iff_ne.2 (by omega)
     have h3'':(kl==0)=false:=beq_eq_false_iff_ne.2 h3
     go_enter Tryz.func239,Tryz.ntmps239
     go_wp2
     go_ret
     exact ⟨by simp [h3],hB⟩
def risesAt (ks:List ByteArray) (i:Nat):Bool :=
 Lib.validD (ks.getD i ⟨#[]⟩).data.toList&&!(decide (0<i)&&decide (0≤Lib.compareBytes (ks.getD (i - 1) ⟨#[]⟩).data.toList (ks.getD i ⟨#[]⟩).data.toList))
def risingB (ks:List ByteArray):Bool:=(List.range ks.length).all (risesAt ks)
theorem rising_false {ks:List ByteArray} {i:Nat} (h:i<ks.length) (hf:risesAt ks i=false):risingB ks=false:=by
 unfold risingB
 rw [Bool.eq_false_iff]
 intro ha
 rw [List.all_eq_true] at ha
 have:=ha i (List.mem_range.2 h)
 rw [hf] at this;cases this
theorem rising_true {ks:List ByteArray} (h:∀ i,i<ks.length→risesAt ks i=true):risingB ks=true:=by
 unfold risingB
 rw [List.all_eq_true]
 intro i hi
 exact h i (List.mem_range.1 hi)
theorem rising_any (B:Nat) (ka:Option Addr) (kc:Nat) (ks:List ByteArray) (w:World) (hk:KeysLie B w ka ks) (h1:ks.length≤kc) (h2:kc≤maxLen) (hT:Tabs w) :
  Calls Tryz.prog 238 #[.slice ka ks.length kc] w fun e w'=>e=.returned (.bool (risingB ks))∧Below w.heap.size w w':=by
 unfold maxLen at h2
 go_enter Tryz.func238,Tryz.ntmps238
 go_wp2_with fail
 go_loopw [7] (fun i wr=>∃ j:Nat,j≤ks.length∧i=.int .i64 j∧Below w.heap.size w wr∧∀ x,x<j→risesAt ks x=true) (fun i _=>ks.length - (intOf i).toNat)
 case atStart=>exact ⟨0,Nat.zero_le _,rfl,Below.refl _ _,fun x hx=>by omega⟩
 case round =>
  obtain ⟨j,hj,rfl,hb,hup⟩:=hrel
  have HU:Hid (∀ x,x<j→risesAt ks x=true):=hup
  clear hup
  by_cases hlt:j<ks.length
  ·obtain ⟨bk,off,rfl,hbk,hkey⟩:=hk.resolve_left (by intro e;subst e;simp at hlt)
   have hc:=cell_below hb (Nat.le_refl _) (hkey j hlt).1
   have hsz:=(hkey j hlt).2
   have hTr:=hT.below hb
   have HAt:Hid (risesAt ks j=(Lib.validD (ks.getD j ⟨#[]⟩).data.toList&&!(decide (0<j)&&decide (0≤Lib.compareBytes (ks.getD (j - 1) ⟨#[]⟩).data.toList (ks.getD j ⟨#[]⟩).data.toList)))):=rfl
   have HC:Hid (0<j→w.cell? ⟨bk,off+(j - 1),none⟩=some (.string (ks.getD (j - 1) ⟨#[]⟩))):=fun h0=>(hkey (j - 1) (by omega)).1
   generalize ks.getD j ⟨#[]⟩=kx at *
   generalize ks.getD (j - 1) ⟨#[]⟩=kp at *
   have cV:=vvalid_any kx wr hsz hTr
   clear hkey hsz hTr
   generalize hV:Lib.validD kx.data.toList=V at *
   have HV:Hid (Lib.validD kx.data.toList=V):=hV
   clear hV
   cases V with
   | false =>
    go_wp2_with fail
    refine cV.mono ?_
    rintro e w1 ⟨rfl,hb1⟩
    clear cV
    go_wp2_with fail
    go_ret
    refine ⟨?_,hb.trans (hb1.mono hb.size)⟩
    rw [rising_false hlt (HAt.out.trans (by simp))];rfl
   | true =>
    by_cases h0:j=0
    ·have h0':¬ (0:Int)<(j:Int):=by omega
     have H0:Hid (j=0):=h0
     clear h0
     go_wp2_with fail
     refine cV.mono ?_
     rintro e w1 ⟨rfl,hb1⟩
     have HB1:Hid (Below w.heap.size w w1):=hb.trans (hb1.mono hb.size)
     clear cV hb1
     go_wp2_with fail
     go_roundw
     case rel =>
      refine ⟨j+1,by omega,by go_num,HB1.out,fun x hx=>?_⟩
      obtain rfl:x=j:=by have:=H0.out;omega
      exact HAt.out.trans (by simp [H0.out])
     case measure=>simp [intOf];omega
    ·have h0':(0:Int)<(j:Int):=by omega
     have hcp:=HC.out (by omega)
     go_wp2_with fail
     refine cV.mono ?_
     rintro e w1 ⟨rfl,hb1⟩
     have HB1:Hid (Below w.heap.size w w1):=hb.trans (hb1.mono hb.size)
     have hcp1:w1.cell? ⟨bk,off+(j - 1),none⟩=some (.string kp):=cell_below HB1.out (Nat.le_refl _) hcp
     clear cV hb1
     go_wp2_with fail
     refine (Tryz.strings_Compare _ _ _).mono ?_
     rintro e w2 ⟨rfl,rfl⟩
     generalize hcmp:Lib.compareBytes kp.data.toList kx.data.toList=cm at *
     have HCm:Hid (Lib.compareBytes kp.data.toList kx.data.toList=cm):=hcmp
     clear hcmp
     by_cases h1:0≤cm
     ·go_wp2_with fail
      go_ret
      refine ⟨?_,HB1.out⟩
      rw [rising_false hlt (HAt.out.trans (by simp [h1];omega))];rfl
     ·go_wp2_with fail
      go_roundw
      case rel =>
       refine ⟨j+1,by omega,by go_num,HB1.out,fun x hx=>?_⟩
       by_cases hxj:x=j
       ·subst hxj
        exact HAt.out.trans (by simp;omega)
       ·exact HU.out x (by omega)
      case measure=>simp [intOf];omega
  ·go_wp2_with fail
   go_ret
   refine ⟨?_,hb⟩
   rw [rising_true fun i hi=>HU.out i (by omega)];rfl
def shapedB  : Tree→Bool
 | .mk k b n s ks ts =>
  (if k=0 then blankB b n s ks.length ts.length
    else if k=1 then blankB false n s ks.length ts.length
    else if k=2 then blankB b 0 s ks.length ts.length
    else if k=6∨k=7 then blankB b (min n 0) s ks.length ts.length
    else if k=3 then blankB b n ⟨#[]⟩ ks.length ts.length
    else if k=5 then (ks.length==ts.length&&risingB ks)&&blankB b n s 0 0
    else if k=4 then blankB b n s ks.length 0
    else false)&&Lib.validD s.data.toList
theorem two_alloc {w w1:World} {A A':Array Value} {v:Value} (hb:Below ((w.alloc (.cells A 60)).alloc (.cells A' 60)).heap.size ((w.alloc (.cells A 60)).alloc (.cells A' 60)) w1) (h3:A[3]?=some v):Below w.heap.size w w1∧w1.cell? ⟨w.heap.size,3,none⟩=some v:=by
 simp only [World.size_alloc] at hb
 refine ⟨(((Below.refl _ w).alloc (Nat.le_refl _) _).alloc (by simp) _).trans (hb.mono (by omega)),(hb.cell (p:=⟨w.heap.size,3,none⟩) (by show w.heap.size<_;omega)).trans ?_⟩
 have:((w.alloc (.cells A 60)).alloc (.cells A' 60)).cell? ⟨w.heap.size,3,none⟩=(w.alloc (.cells A 60)).cell? ⟨w.heap.size,3,none⟩:=World.cell?_of_block (Below.heap_alloc _ _ _ (by simp))
 rw [this]
 exact cell_new _ _ _ _ _ h3
theorem shaped_0 (k:Int) (b:Bool) (n:Int) (s:ByteArray) (ka:Option Addr) (kc:Nat) (la:Option Addr) (lc:Nat) (ks:List ByteArray) (ts:List Tree) (w:World) (hs1:s.size≤maxLen) (hT:Tabs w) (hk0:k=0) :
  Calls Tryz.prog 205 #[.agg #[.int .i64 k,.bool b,.int .i64 n,.string s,.slice ka ks.length kc,.slice la ts.length lc]] w fun e w'=>e=.returned (.bool (shapedB (.mk k b n s ks ts)))∧Below w.heap.size w w':=by
 have hsh:shapedB (.mk k b n s ks ts)=(blankB b n s ks.length ts.length&&Lib.validD s.data.toList):=by subst hk0;rfl
 have e0:(k==0)=true:=eq_bool hk0
 clear hk0
 go_enter Tryz.func205,Tryz.ntmps205
 go_wp2_with fail
 refine (blank_any _ _ _ _ _ _ _ _ _ _ _).mono ?_
 rintro e w1 ⟨rfl,hb1⟩
 obtain ⟨hB1,c3⟩:=two_alloc (v:=.string s) hb1 rfl
 clear hb1
 have hT1:=hT.below hB1
 cases hbl:blankB b n s ks.length ts.length with
 | false =>
  have HS:Hid (shapedB (.mk k b n s ks ts)=false):=by unfold Hid;rw [hsh,hbl];rfl
  clear hbl hsh
  go_wp2_with fail
  go_ret
  exact ⟨by rw [HS.out];rfl,hB1⟩
 | true =>
  have HS:Hid (shapedB (.mk k b n s ks ts)=Lib.validD s.data.toList):=by unfold Hid;rw [hsh,hbl];rfl
  clear hbl hsh
  go_wp2_with fail
  refine (vvalid_any _ _ hs1 hT1).mono ?_
  rintro e w2 ⟨rfl,hb2⟩
  go_wp2_with fail
  go_ret
  exact ⟨by rw [HS.out];rfl,hB1.trans (hb2.mono hB1.size)⟩
theorem shaped_1 (k:Int) (b:Bool) (n:Int) (s:ByteArray) (ka:Option Addr) (kc:Nat) (la:Option Addr) (lc:Nat) (ks:List ByteArray) (ts:List Tree) (w:World) (hs1:s.size≤maxLen) (hT:Tabs w) (hk0:k=1) :
  Calls Tryz.prog 205 #[.agg #[.int .i64 k,.bool b,.int .i64 n,.string s,.slice ka ks.length kc,.slice la ts.length lc]] w fun e w'=>e=.returned (.bool (shapedB (.mk k b n s ks ts)))∧Below w.heap.size w w':=by
 have hsh:shapedB (.mk k b n s ks ts)=(blankB false n s ks.length ts.length&&Lib.validD s.data.toList):=by subst hk0;rfl
 have e0:(k==0)=false:=ne_bool (by omega)
 have e1:(k==1)=true:=eq_bool hk0
 clear hk0
 go_enter Tryz.func205,Tryz.ntmps205
 go_wp2_with fail
 refine (blank_any _ _ _ _ _ _ _ _ _ _ _).mono ?_
 rintro e w1 ⟨rfl,hb1⟩
 obtain ⟨hB1,c3⟩:=two_alloc (v:=.string s) hb1 rfl
 clear hb1
 have hT1:=hT.below hB1
 cases hbl:blankB false n s ks.length ts.length with
 | false =>
  have HS:Hid (shapedB (.mk k b n s ks ts)=false):=by unfold Hid;rw [hsh,hbl];rfl
  clear hbl hsh
  go_wp2_with fail
  go_ret
  exact ⟨by rw [HS.out];rfl,hB1⟩
 | true =>
  have HS:Hid (shapedB (.mk k b n s ks ts)=Lib.validD s.data.toList):=by unfold Hid;rw [hsh,hbl];rfl
  clear hbl hsh
  go_wp2_with fail
  refine (vvalid_any _ _ hs1 hT1).mono ?_
  rintro e w2 ⟨rfl,hb2⟩
  go_wp2_with fail
  go_ret
  exact ⟨by rw [HS.out];rfl,hB1.trans (hb2.mono hB1.size)⟩
theorem shaped_2 (k:Int) (b:Bool) (n:Int) (s:ByteArray) (ka:Option Addr) (kc:Nat) (la:Option Addr) (lc:Nat) (ks:List ByteArray) (ts:List Tree) (w:World) (hs1:s.size≤maxLen) (hT:Tabs w) (hk0:k=2) :
  Calls Tryz.prog 205 #[.agg #[.int .i64 k,.bool b,.int .i64 n,.string s,.slice ka ks.length kc,.slice la ts.length lc]] w fun e w'=>e=.returned (.bool (shapedB (.mk k b n s ks ts)))∧Below w.heap.size w w':=by
 have hsh:shapedB (.mk k b n s ks ts)=(blankB b 0 s ks.length ts.length&&Lib.validD s.data.toList):=by subst hk0;rfl
 have e0:(k==0)=false:=ne_bool (by omega)
 have e1:(k==1)=false:=ne_bool (by omega)
 have e2:(k==2)=true:=eq_bool hk0
 clear hk0
 go_enter Tryz.func205,Tryz.ntmps205
 go_wp2_with fail
 refine (blank_any _ _ _ _ _ _ _ _ _ _ _).mono ?_
 rintro e w1 ⟨rfl,hb1⟩
 obtain ⟨hB1,c3⟩:=two_alloc (v:=.string s) hb1 rfl
 clear hb1
 have hT1:=hT.below hB1
 cases hbl:blankB b 0 s ks.length ts.length with
 | false =>
  have HS:Hid (shapedB (.mk k b n s ks ts)=false):=by unfold Hid;rw [hsh,hbl];rfl
  clear hbl hsh
  go_wp2_with fail
  go_ret
  exact ⟨by rw [HS.out];rfl,hB1⟩
 | true =>
  have HS:Hid (shapedB (.mk k b n s ks ts)=Lib.validD s.data.toList):=by unfold Hid;rw [hsh,hbl];rfl
  clear hbl hsh
  go_wp2_with fail
  refine (vvalid_any _ _ hs1 hT1).mono ?_
  rintro e w2 ⟨rfl,hb2⟩
  go_wp2_with fail
  go_ret
  exact ⟨by rw [HS.out];rfl,hB1.trans (hb2.mono hB1.size)⟩
theorem shaped_6 (k:Int) (b:Bool) (n:Int) (s:ByteArray) (ka:Option Addr) (kc:Nat) (la:Option Addr) (lc:Nat) (ks:List ByteArray) (ts:List Tree) (w:World) (hs1:s.size≤maxLen) (hT:Tabs w) (hk0:k=6) :
  Calls Tryz.prog 205 #[.agg #[.int .i64 k,.bool b,.int .i64 n,.string s,.slice ka ks.length kc,.slice la ts.length lc]] w fun e w'=>e=.returned (.bool (shapedB (.mk k b n s ks ts)))∧Below w.heap.size w w':=by
 have hsh:shapedB (.mk k b n s ks ts)=(blankB b (min n 0) s ks.length ts.length&&Lib.validD s.data.toList):=by subst hk0;rfl
 have e0:(k==0)=false:=ne_bool (by omega)
 have e1:(k==1)=false:=ne_bool (by omega)
 have e2:(k==2)=false:=ne_bool (by omega)
 have e6:(k==6)=true:=eq_bool hk0
 have hmin:True:=trivial
 clear hk0
 go_enter Tryz.func205,Tryz.ntmps205
 go_wp2_with fail
 refine (blank_any _ _ _ _ _ _ _ _ _ _ _).mono ?_
 rintro e w1 ⟨rfl,hb1⟩
 obtain ⟨hB1,c3⟩:=two_alloc (v:=.string s) hb1 rfl
 clear hb1
 have hT1:=hT.below hB1
 cases hbl:blankB b (min n 0) s ks.length ts.length with
 | false =>
  have HS:Hid (shapedB (.mk k b n s ks ts)=false):=by unfold Hid;rw [hsh,hbl];rfl
  clear hbl hsh
  go_wp2_with fail
  go_ret
  exact ⟨by rw [HS.out];rfl,hB1⟩
 | true =>
  have HS:Hid (shapedB (.mk k b n s ks ts)=Lib.validD s.data.toList):=by unfold Hid;rw [hsh,hbl];rfl
  clear hbl hsh
  go_wp2_with fail
  refine (vvalid_any _ _ hs1 hT1).mono ?_
  rintro e w2 ⟨rfl,hb2⟩
  go_wp2_with fail
  go_ret
  exact ⟨by rw [HS.out];rfl,hB1.trans (hb2.mono hB1.size)⟩
theorem shaped_7 (k:Int) (b:Bool) (n:Int) (s:ByteArray) (ka:Option Addr) (kc:Nat) (la:Option Addr) (lc:Nat) (ks:List ByteArray) (ts:List Tree) (w:World) (hs1:s.size≤maxLen) (hT:Tabs w) (hk0:k=7) :
  Calls Tryz.prog 205 #[.agg #[.int .i64 k,.bool b,.int .i64 n,.string s,.slice ka ks.length kc,.slice la ts.length lc]] w fun e w'=>e=.returned (.bool (shapedB (.mk k b n s ks ts)))∧Below w.heap.size w w':=by
 have hsh:shapedB (.mk k b n s ks ts)=(blankB b (min n 0) s ks.length ts.length&&Lib.validD s.data.toList):=by subst hk0;rfl
 have e0:(k==0)=false:=ne_bool (by omega)
 have e1:(k==1)=false:=ne_bool (by omega)
 have e2:(k==2)=false:=ne_bool (by omega)
 have e6:(k==6)=false:=ne_bool (by omega)
 have e7:(k==7)=true:=eq_bool hk0
 have hmin:True:=trivial
 clear hk0
 go_enter Tryz.func205,Tryz.ntmps205
 go_wp2_with fail
 refine (blank_any _ _ _ _ _ _ _ _ _ _ _).mono ?_
 rintro e w1 ⟨rfl,hb1⟩
 obtain ⟨hB1,c3⟩:=two_alloc (v:=.string s) hb1 rfl
 clear hb1
 have hT1:=hT.below hB1
 cases hbl:blankB b (min n 0) s ks.length ts.length with
 | false =>
  have HS:Hid (shapedB (.mk k b n s ks ts)=false):=by unfold Hid;rw [hsh,hbl];rfl
  clear hbl hsh
  go_wp2_with fail
  go_ret
  exact ⟨by rw [HS.out];rfl,hB1⟩
 | true =>
  have HS:Hid (shapedB (.mk k b n s ks ts)=Lib.validD s.data.toList):=by unfold Hid;rw [hsh,hbl];rfl
  clear hbl hsh
  go_wp2_with fail
  refine (vvalid_any _ _ hs1 hT1).mono ?_
  rintro e w2 ⟨rfl,hb2⟩
  go_wp2_with fail
  go_ret
  exact ⟨by rw [HS.out];rfl,hB1.trans (hb2.mono hB1.size)⟩
theorem shaped_3 (k:Int) (b:Bool) (n:Int) (s:ByteArray) (ka:Option Addr) (kc:Nat) (la:Option Addr) (lc:Nat) (ks:List ByteArray) (ts:List Tree) (w:World) (hs1:s.size≤maxLen) (hT:Tabs w) (hk0:k=3) :
  Calls Tryz.prog 205 #[.agg #[.int .i64 k,.bool b,.int .i64 n,.string s,.slice ka ks.length kc,.slice la ts.length lc]] w fun e w'=>e=.returned (.bool (shapedB (.mk k b n s ks ts)))∧Below w.heap.size w w':=by
 have hsh:shapedB (.mk k b n s ks ts)=(blankB b n ⟨#[]⟩ ks.length ts.length&&Lib.validD s.data.toList):=by subst hk0;rfl
 have e0:(k==0)=false:=ne_bool (by omega)
 have e1:(k==1)=false:=ne_bool (by omega)
 have e2:(k==2)=false:=ne_bool (by omega)
 have e6:(k==6)=false:=ne_bool (by omega)
 have e7:(k==7)=false:=ne_bool (by omega)
 have e3:(k==3)=true:=eq_bool hk0
 clear hk0
 go_enter Tryz.func205,Tryz.ntmps205
 go_wp2_with fail
 refine (blank_any _ _ _ _ _ _ _ _ _ _ _).mono ?_
 rintro e w1 ⟨rfl,hb1⟩
 obtain ⟨hB1,c3⟩:=two_alloc (v:=.string s) hb1 rfl
 clear hb1
 have hT1:=hT.below hB1
 cases hbl:blankB b n ⟨#[]⟩ ks.length ts.length with
 | false =>
  have HS:Hid (shapedB (.mk k b n s ks ts)=false):=by unfold Hid;rw [hsh,hbl];rfl
  clear hbl hsh
  go_wp2_with fail
  go_ret
  exact ⟨by rw [HS.out];rfl,hB1⟩
 | true =>
  have HS:Hid (shapedB (.mk k b n s ks ts)=Lib.validD s.data.toList):=by unfold Hid;rw [hsh,hbl];rfl
  clear hbl hsh
  go_wp2_with fail
  refine (vvalid_any _ _ hs1 hT1).mono ?_
  rintro e w2 ⟨rfl,hb2⟩
  go_wp2_with fail
  go_ret
  exact ⟨by rw [HS.out];rfl,hB1.trans (hb2.mono hB1.size)⟩
theorem shaped_4 (k:Int) (b:Bool) (n:Int) (s:ByteArray) (ka:Option Addr) (kc:Nat) (la:Option Addr) (lc:Nat) (ks:List ByteArray) (ts:List Tree) (w:World) (hs1:s.size≤maxLen) (hT:Tabs w) (hk0:k=4) :
  Calls Tryz.prog 205 #[.agg #[.int .i64 k,.bool b,.int .i64 n,.string s,.slice ka ks.length kc,.slice la ts.length lc]] w fun e w'=>e=.returned (.bool (shapedB (.mk k b n s ks ts)))∧Below w.heap.size w w':=by
 have hsh:shapedB (.mk k b n s ks ts)=(blankB b n s ks.length 0&&Lib.validD s.data.toList):=by subst hk0;rfl
 have e0:(k==0)=false:=ne_bool (by omega)
 have e1:(k==1)=false:=ne_bool (by omega)
 have e2:(k==2)=false:=ne_bool (by omega)
 have e6:(k==6)=false:=ne_bool (by omega)
 have e7:(k==7)=false:=ne_bool (by omega)
 have e3:(k==3)=false:=ne_bool (by omega)
 have e5:(k==5)=false:=ne_bool (by omega)
 have e4:(k==4)=true:=eq_bool hk0
 clear hk0
 go_enter Tryz.func205,Tryz.ntmps205
 go_wp2_with fail
 refine (blank_any _ _ _ _ _ _ _ _ _ _ _).mono ?_
 rintro e w1 ⟨rfl,hb1⟩
 obtain ⟨hB1,c3⟩:=two_alloc (v:=.string s) hb1 rfl
 clear hb1
 have hT1:=hT.below hB1
 cases hbl:blankB b n s ks.length 0 with
 | false =>
  have HS:Hid (shapedB (.mk k b n s ks ts)=false):=by unfold Hid;rw [hsh,hbl];rfl
  clear hbl hsh
  go_wp2_with fail
  go_ret
  exact ⟨by rw [HS.out];rfl,hB1⟩
 | true =>
  have HS:Hid (shapedB (.mk k b n s ks ts)=Lib.validD s.data.toList):=by unfold Hid;rw [hsh,hbl];rfl
  clear hbl hsh
  go_wp2_with fail
  refine (vvalid_any _ _ hs1 hT1).mono ?_
  rintro e w2 ⟨rfl,hb2⟩
  go_wp2_with fail
  go_ret
  exact ⟨by rw [HS.out];rfl,hB1.trans (hb2.mono hB1.size)⟩
end Go.Proofs.YteddjlbfbpecjaaGreatDoor

namespace Go.Proofs.YteddjlbfbpecjaaGreatDoor
open Go.RowKit Go.Shelf
set_option maxHeartbeats 1000000
set_option linter.unusedVariables false
theorem KeysLie.below {B:Nat} {w w':World} {ka:Option Addr} {ks:List ByteArray} (hk:KeysLie B w ka ks) (h:Below B w w'):KeysLie B w' ka ks:=by
 rcases hk with hk | ⟨bk,off,e,hlt,hc⟩
 ·exact .inl hk
 ·exact .inr ⟨bk,off,e,hlt,fun i hi=>⟨(h.cell (p:=⟨bk,off+i,none⟩) hlt).trans (hc i hi).1,(hc i hi).2⟩⟩
theorem rest_cells {w w1:World} {A:Array Value} {v0 v1 v2 v3 v4 v5:Value} (hb:Below ((w.alloc (.cells A 60)).alloc (.cells #[v0,v1,v2,v3,v4,v5] 60)).heap.size ((w.alloc (.cells A 60)).alloc (.cells #[v0,v1,v2,v3,v4,v5] 60)) w1) :
  w1.cell? ⟨w.heap.size+1,0,none⟩=some v0∧w1.cell? ⟨w.heap.size+1,1,none⟩=some v1∧w1.cell? ⟨w.heap.size+1,2,none⟩=some v2∧w1.cell? ⟨w.heap.size+1,3,none⟩=some v3 ∧
  w1.cell? ⟨w.heap.size+1,4,none⟩=some v4∧w1.cell? ⟨w.heap.size+1,5,none⟩=some v5∧w1.frozen? ⟨w.heap.size+1,4,none⟩=false∧w1.frozen? ⟨w.heap.size+1,5,none⟩=false∧w.heap.size+2≤w1.heap.size:=by
 have e:w1.heap[w.heap.size+1]?=some (.cells #[v0,v1,v2,v3,v4,v5] 60 (0,0)):=by
  rw [hb.block _ (by simp)]
  have:=World.alloc_heap_new (w.alloc (.cells A 60)) (.cells #[v0,v1,v2,v3,v4,v5] 60)
  rwa [World.size_alloc] at this
 have hz:=hb.size
 simp only [World.size_alloc] at hz
 refine ⟨?_,?_,?_,?_,?_,?_,?_,?_,hz⟩<;>first | (unfold World.cell?;simp only [e];rfl) | (unfold World.frozen?;simp only [e];rfl)
theorem shaped_5 (B:Nat) (k:Int) (b:Bool) (n:Int) (s:ByteArray) (ka:Option Addr) (kc:Nat) (la:Option Addr) (lc:Nat) (ks:List ByteArray) (ts:List Tree) (w:World) (hs1:s.size≤maxLen) (hs2:ks.length≤kc) (hs3:kc≤maxLen) (hB:B≤w.heap.size) (hky:KeysLie B w ka ks) (hT:Tabs w) (hk0:k=5) :
  Calls Tryz.prog 205 #[.agg #[.int .i64 k,.bool b,.int .i64 n,.string s,.slice ka ks.length kc,.slice la ts.length lc]] w fun e w'=>e=.returned (.bool (shapedB (.mk k b n s ks ts)))∧Below w.heap.size w w':=by
 have hsh:shapedB (.mk k b n s ks ts)=(((ks.length==ts.length&&risingB ks)&&blankB b n s 0 0)&&Lib.validD s.data.toList):=by subst hk0;rfl
 have e0:(k==0)=false:=ne_bool (by omega)
 have e1:(k==1)=false:=ne_bool (by omega)
 have e2:(k==2)=false:=ne_bool (by omega)
 have e6:(k==6)=false:=ne_bool (by omega)
 have e7:(k==7)=false:=ne_bool (by omega)
 have e3:(k==3)=false:=ne_bool (by omega)
 have e5:(k==5)=true:=eq_bool hk0
 clear hk0
 by_cases hl:ks.length=ts.length
 ·have hn:((ks.length:Int) != (ts.length:Int))=false:=by rw [hl];simp
  have hl2:(ks.length==ts.length)=true:=beq_iff_eq.2 hl
  rw [hl2,Bool.true_and] at hsh
  have HL:Hid (ks.length=ts.length):=hl
  clear hl hl2
  go_enter Tryz.func205,Tryz.ntmps205
  go_wp2_with fail
  refine (rising_any B ka kc ks _ (hky.below (by exact ((Below.refl _ w).alloc hB _).alloc (by simp;omega) _)) hs2 hs3 (hT.below (by exact ((Below.refl _ w).alloc (Nat.le_refl _) _).alloc (by simp) _))).mono ?_
  rintro e w1 ⟨rfl,hb1⟩
  have hB1:Below w.heap.size w w1:=(two_alloc (v:=.string s) hb1 rfl).1
  cases hr:risingB ks with
  | false =>
   have HS:Hid (shapedB (.mk k b n s ks ts)=false):=by unfold Hid;rw [hsh,hr];rfl
   clear hr hsh hb1
   go_wp2_with fail
   go_ret
   exact ⟨by rw [HS.out];rfl,hB1⟩
  | true =>
   rw [hr,Bool.true_and] at hsh
   obtain ⟨c0,c1,c2,c3,c4,c5,f4,f5,hz⟩:=rest_cells hb1
   have cs:w1.cell? ⟨w.heap.size,3,none⟩=some (.string s):=(two_alloc (v:=.string s) hb1 rfl).2
   clear hr hb1
   go_wp2_with fail
   refine (blank_any _ _ _ _ _ _ _ _ _ _ _).mono ?_
   rintro e w2 ⟨rfl,hb2⟩
   have hB2:Below w.heap.size w w2:=((hB1.setCell (p:=⟨w.heap.size+1,4,none⟩) (by show _≤w.heap.size+1;omega) _).setCell (p:=⟨w.heap.size+1,5,none⟩) (by show _≤w.heap.size+1;omega) _).trans (hb2.mono (by simp [World.setCell];omega))
   have cs2:w2.cell? ⟨w.heap.size,3,none⟩=some (.string s):=by
    rw [hb2.cell (p:=⟨w.heap.size,3,none⟩) (by simp [World.setCell];omega)]
    rw [World.cell?_of_block (Below.heap_setCell _ _ _ _ (by show w.heap.size≠w.heap.size+1;omega)),World.cell?_of_block (Below.heap_setCell _ _ _ _ (by show w.heap.size≠w.heap.size+1;omega))]
    exact cs
   clear hb2 c0 c1 c2 c3 c4 c5 f4 f5 cs
   have hT2:=hT.below hB2
   cases hbl:blankB b n s 0 0 with
   | false =>
    have HS:Hid (shapedB (.mk k b n s ks ts)=false):=by unfold Hid;rw [hsh,hbl];rfl
    clear hbl hsh
    go_wp2_with fail
    go_ret
    exact ⟨by rw [HS.out];rfl,hB2⟩
   | true =>
    have HS:Hid (shapedB (.mk k b n s ks ts)=Lib.validD s.data.toList):=by unfold Hid;rw [hsh,hbl];rfl
    clear hbl hsh
    go_wp2_with fail
    refine (vvalid_any _ _ hs1 hT2).mono ?_
    rintro e w3 ⟨rfl,hb3⟩
    go_wp2_with fail
    go_ret
    exact ⟨by rw [HS.out];rfl,hB2.trans (hb3.mono hB2.size)⟩
 ·have hn:((ks.length:Int) != (ts.length:Int))=true:=by rw [bne_iff_ne];omega
  have hl2:(ks.length==ts.length)=false:=beq_eq_false_iff_ne.2 hl
  have HS:Hid (shapedB (.mk k b n s ks ts)=false):=by unfold Hid;rw [hsh,hl2];rfl
  clear hl hl2 hsh
  go_enter Tryz.func205,Tryz.ntmps205
  go_wp2_with fail
  go_ret
  exact ⟨by rw [HS.out];rfl,((Below.refl _ w).alloc (Nat.le_refl _) _).alloc (by simp) _⟩
theorem shaped_none (k:Int) (b:Bool) (n:Int) (s:ByteArray) (ka:Option Addr) (kc:Nat) (la:Option Addr) (lc:Nat) (ks:List ByteArray) (ts:List Tree) (w:World)
  (h0:k≠0) (h1:k≠1) (h2:k≠2) (h3:k≠3) (h4:k≠4) (h5:k≠5) (h6:k≠6) (h7:k≠7) :
  Calls Tryz.prog 205 #[.agg #[.int .i64 k,.bool b,.int .i64 n,.string s,.slice ka ks.length kc,.slice la ts.length lc]] w fun e w'=>e=.returned (.bool (shapedB (.mk k b n s ks ts)))∧Below w.heap.size w w':=by
 have HS:Hid (shapedB (.mk k b n s ks ts)=false):=by
  unfold Hid
  simp [shapedB,h0,h1,h2,h3,h4,h5,h6,h7]
 have e0:=ne_bool h0
 have e1:=ne_bool h1
 have e2:=ne_bool h2
 have e3:=ne_bool h3
 have e4:=ne_bool h4
 have e5:=ne_bool h5
 have e6:=ne_bool h6
 have e7:=ne_bool h7
 clear h0 h1 h2 h3 h4 h5 h6 h7
 go_enter Tryz.func205,Tryz.ntmps205
 go_wp2_with fail
 go_ret
 exact ⟨by rw [HS.out];rfl,((Below.refl _ w).alloc (Nat.le_refl _) _).alloc (by simp) _⟩
theorem shaped_any (B:Nat) (v:Value) (T:Tree) (w:World) (hB:B≤w.heap.size) (hv:Lies B w v T) (hT:Tabs w) :
  Calls Tryz.prog 205 #[v] w fun e w'=>e=.returned (.bool (shapedB T))∧Below w.heap.size w w':=by
 obtain ⟨k,b,n,s,ks,ts⟩:=T
 simp only [Lies] at hv
 obtain ⟨ka,kc,la,lc,rfl,⟨hs1,hs2,hs3,hs4,hs5⟩,hk,ht⟩:=hv
 by_cases h0:k=0
 ·exact shaped_0 _ _ _ _ _ _ _ _ _ _ _ hs1 hT h0
 by_cases h1:k=1
 ·exact shaped_1 _ _ _ _ _ _ _ _ _ _ _ hs1 hT h1
 by_cases h2:k=2
 ·exact shaped_2 _ _ _ _ _ _ _ _ _ _ _ hs1 hT h2
 by_cases h3:k=3
 ·exact shaped_3 _ _ _ _ _ _ _ _ _ _ _ hs1 hT h3
 by_cases h4:k=4
 ·exact shaped_4 _ _ _ _ _ _ _ _ _ _ _ hs1 hT h4
 by_cases h5:k=5
 ·exact shaped_5 B _ _ _ _ _ _ _ _ _ _ _ hs1 hs2 hs3 hB hk hT h5
 by_cases h6:k=6
 ·exact shaped_6 _ _ _ _ _ _ _ _ _ _ _ hs1 hT h6
 by_cases h7:k=7
 ·exact shaped_7 _ _ _ _ _ _ _ _ _ _ _ hs1 hT h7
 exact shaped_none _ _ _ _ _ _ _ _ _ _ _ h0 h1 h2 h3 h4 h5 h6 h7
end Go.Proofs.YteddjlbfbpecjaaGreatDoor

namespace Go.Proofs.YteddjlbfbpecjaaGreatDoor
open Go.RowKit Go.Shelf
set_option linter.unusedVariables false
set_option linter.unusedSimpArgs false
structure NodeP  where
 id:Int
 labels:List ByteArray
 props:List (ByteArray × Tree)
structure RelP  where
 id:Int
 fr:Int
 tt:Int
 type:ByteArray
 props:List (ByteArray × Tree)
structure GraphP  where
 nodes:List NodeP
 rels:List RelP
 nn:Int
 nr:Int
def RowsLie {α:Type} (k:Nat) (At:World→Nat→Nat→α→Prop) (B:Nat) (w:World) (v:Value) (xs:List α):Prop :=
 ∃ a c,v=.slice a xs.length c∧xs.length≤c∧c≤9223372036854775807∧(xs=[]∨∃ bl off,a=some ⟨bl,off,none⟩∧bl<B∧∀ i x,xs[i]?=some x→At w bl (off+i*k) x)
theorem RowsLie.turn {α:Type} {k:Nat} {At At':World→Nat→Nat→α→Prop} {B:Nat} {w w':World} {v:Value} {xs:List α} (h:RowsLie k At B w v xs) (hA:∀ bl off x,bl<B→x ∈ xs→At w bl off x→At' w' bl off x):RowsLie k At' B w' v xs:=by
 obtain ⟨a,c,e,h1,h2,h3⟩:=h
 exact ⟨a,c,e,h1,h2,h3.imp id fun ⟨bl,off,e,hl,hc⟩=>⟨bl,off,e,hl,fun i x hi=>hA _ _ _ hl (List.mem_of_getElem? hi) (hc i x hi)⟩⟩
def NodeAt (B:Nat) (w:World) (bl off:Nat) (n:NodeP):Prop :=
 ∃ la lc pv,(w.cell? ⟨bl,off,none⟩=some (.int .i64 n.id)∧w.cell? ⟨bl,off+1,none⟩=some (.slice la n.labels.length lc)∧w.cell? ⟨bl,off+2,none⟩=some pv)∧(n.labels.length≤lc∧lc≤9223372036854775807)∧KeysLie B w la n.labels∧PropsLie B w pv n.props
def RelAt (B:Nat) (w:World) (bl off:Nat) (r:RelP):Prop :=
 ∃ pv,(w.cell? ⟨bl,off,none⟩=some (.int .i64 r.id)∧w.cell? ⟨bl,off+1,none⟩=some (.int .i64 r.fr)∧w.cell? ⟨bl,off+2,none⟩=some (.int .i64 r.tt)∧w.cell? ⟨bl,off+3,none⟩=some (.string r.type)∧w.cell? ⟨bl,off+4,none⟩=some pv)∧r.type.size≤maxLen∧PropsLie B w pv r.props
theorem NodeAt.below {B:Nat} {w w':World} (h:Below B w w') {bl off:Nat} (hl:bl<B) {n:NodeP} (hn:NodeAt B w bl off n):NodeAt B w' bl off n:=by
 obtain ⟨la,lc,pv,⟨c0,c1,c2⟩,hs,hk,hp⟩:=hn
 exact ⟨la,lc,pv,⟨(h.cell (p:=⟨bl,off,none⟩) hl).trans c0,(h.cell (p:=⟨bl,off+1,none⟩) hl).trans c1,(h.cell (p:=⟨bl,off+2,none⟩) hl).trans c2⟩,hs,hk.below h,hp.below h⟩
theorem RelAt.below {B:Nat} {w w':World} (h:Below B w w') {bl off:Nat} (hl:bl<B) {n:RelP} (hn:RelAt B w bl off n):RelAt B w' bl off n:=by
 obtain ⟨pv,⟨c0,c1,c2,c3,c4⟩,hs,hp⟩:=hn
 exact ⟨pv,⟨(h.cell (p:=⟨bl,off,none⟩) hl).trans c0,(h.cell (p:=⟨bl,off+1,none⟩) hl).trans c1,(h.cell (p:=⟨bl,off+2,none⟩) hl).trans c2,(h.cell (p:=⟨bl,off+3,none⟩) hl).trans c3,(h.cell (p:=⟨bl,off+4,none⟩) hl).trans c4⟩,hs,hp.below h⟩
def NodesLie (B:Nat) (w:World) (v:Value) (ns:List NodeP):Prop:=RowsLie 3 (NodeAt B) B w v ns
def RelsLie (B:Nat) (w:World) (v:Value) (rs:List RelP):Prop:=RowsLie 5 (RelAt B) B w v rs
theorem NodesLie.below {B:Nat} {w w':World} (h:Below B w w') {v:Value} {ns:List NodeP} (hn:NodesLie B w v ns):NodesLie B w' v ns:=hn.turn fun _ _ _ hl _ h2=>h2.below h hl
theorem RelsLie.below {B:Nat} {w w':World} (h:Below B w w') {v:Value} {ns:List RelP} (hn:RelsLie B w v ns):RelsLie B w' v ns:=hn.turn fun _ _ _ hl _ h2=>h2.below h hl
def GraphLies (B:Nat) (w:World) (v:Value) (g:GraphP):Prop :=
 ∃ na nc ra rc,v=.agg #[.slice na g.nodes.length nc,.slice ra g.rels.length rc,.int .i64 g.nn,.int .i64 g.nr]∧NodesLie B w (.slice na g.nodes.length nc) g.nodes∧RelsLie B w (.slice ra g.rels.length rc) g.rels
theorem GraphLies.below {B:Nat} {w w':World} (h:Below B w w') {v:Value} {g:GraphP} (hn:GraphLies B w v g):GraphLies B w' v g:=by
 obtain ⟨na,nc,ra,rc,e,h1,h2⟩:=hn
 exact ⟨na,nc,ra,rc,e,h1.below h,h2.below h⟩
def findI (id:Int):List NodeP→Nat→Int
 | [],_=>-1
 | n::r,j=>if n.id=id then j else findI id r (j+1)
theorem findI_at {id:Int} {ns:List NodeP} {j:Nat} {n:NodeP} (h:ns[j]?=some n):findI id (ns.drop j) j=if n.id=id then (j:Int) else findI id (ns.drop (j+1)) (j+1):=by
 obtain ⟨hj,hx⟩:=List.getElem?_eq_some_iff.1 h
 rw [List.drop_eq_getElem_cons hj,hx,findI]
theorem findI_neg (id:Int):∀ (ns:List NodeP) (j:Nat),decide (findI id ns j<0)=!(ns.any fun n=>n.id==id)
 | [],j=>by simp [findI]
 | n::r,j=>by
  rw [findI,List.any_cons]
  by_cases h:n.id=id
  ·rw [if_pos h];simp [h]
  ·rw [if_neg h,findI_neg id r (j+1),beq_eq_false_iff_ne.2 h];rfl
end Go.Proofs.YteddjlbfbpecjaaGreatDoor

namespace Go.Proofs.YteddjlbfbpecjaaGreatDoor
open Go.RowKit Go.Shelf
set_option maxHeartbeats 1000000
set_option linter.unusedVariables false
def cmpI (a b:Int):Int:=if a<b then -1 else if b<a then 1 else 0
theorem cmp_int (a b:Int) (w:World):Calls Tryz.prog 221 #[.int .i64 a,.int .i64 b] w fun e w'=>e=.returned (.int .i64 (cmpI a b))∧w'=w:=by
 unfold cmpI
 by_cases h1:a<b
 ·rw [if_pos h1]
  go_enter Tryz.func221,Tryz.ntmps221
  go_wp2
  go_ret
  exact ⟨rfl,rfl⟩
 ·rw [if_neg h1]
  by_cases h2:b<a
  ·rw [if_pos h2]
   go_enter Tryz.func221,Tryz.ntmps221
   go_wp2
   go_ret
   exact ⟨rfl,rfl⟩
  ·rw [if_neg h2]
   go_enter Tryz.func221,Tryz.ntmps221
   go_wp2
   go_ret
   exact ⟨rfl,rfl⟩
theorem cmp_truth (a b:Int) (w:World):Calls Tryz.prog 225 #[.int .i64 a,.int .i64 b] w fun e w'=>e=.returned (.int .i64 (cmpI a b))∧w'=w:=by
 unfold cmpI
 by_cases h1:a<b
 ·rw [if_pos h1]
  go_enter Tryz.func225,Tryz.ntmps225
  go_wp2
  go_ret
  exact ⟨rfl,rfl⟩
 ·rw [if_neg h1]
  by_cases h2:b<a
  ·rw [if_pos h2]
   go_enter Tryz.func225,Tryz.ntmps225
   go_wp2
   go_ret
   exact ⟨rfl,rfl⟩
  ·rw [if_neg h2]
   go_enter Tryz.func225,Tryz.ntmps225
   go_wp2
   go_ret
   exact ⟨rfl,rfl⟩
theorem cmp_int64 (a b:Int) (w:World):Calls Tryz.prog 227 #[.int .i64 a,.int .i64 b] w fun e w'=>e=.returned (.int .i64 (cmpI a b))∧w'=w:=by
 unfold cmpI
 by_cases h1:a<b
 ·rw [if_pos h1]
  go_enter Tryz.func227,Tryz.ntmps227
  go_wp2
  go_ret
  exact ⟨rfl,rfl⟩
 ·rw [if_neg h1]
  by_cases h2:b<a
  ·rw [if_pos h2]
   go_enter Tryz.func227,Tryz.ntmps227
   go_wp2
   go_ret
   exact ⟨rfl,rfl⟩
  ·rw [if_neg h2]
   go_enter Tryz.func227,Tryz.ntmps227
   go_wp2
   go_ret
   exact ⟨rfl,rfl⟩
def truthI (b:Bool):Int:=if b then 2 else 0
theorem truth_any (b:Bool) (w:World):Calls Tryz.prog 226 #[.bool b] w fun e w'=>e=.returned (.int .i64 (truthI b))∧w'=w:=by
 cases b
 all_goals
  go_enter Tryz.func226,Tryz.ntmps226
  go_wp2
  go_ret
  exact ⟨rfl,rfl⟩
def rankN (k:Int):Int:=if k=0 then 7 else if k=2 then 6 else if k=1 then 5 else if k=3 then 4 else if k=4 then 3 else if k=7 then 2 else if k=6 then 1 else 0
theorem rank_any (k:Int) (w:World):Calls Tryz.prog 222 #[.int .i64 k] w fun e w'=>e=.returned (.int .i64 (rankN k))∧w'=w:=by
 by_cases h0:k=0
 ·subst h0;go_enter Tryz.func222,Tryz.ntmps222;go_wp2;go_ret;exact ⟨rfl,rfl⟩
 by_cases h2:k=2
 ·subst h2;go_enter Tryz.func222,Tryz.ntmps222;go_wp2;go_ret;exact ⟨rfl,rfl⟩
 by_cases h1:k=1
 ·subst h1;go_enter Tryz.func222,Tryz.ntmps222;go_wp2;go_ret;exact ⟨rfl,rfl⟩
 by_cases h3:k=3
 ·subst h3;go_enter Tryz.func222,Tryz.ntmps222;go_wp2;go_ret;exact ⟨rfl,rfl⟩
 by_cases h4:k=4
 ·subst h4;go_enter Tryz.func222,Tryz.ntmps222;go_wp2;go_ret;exact ⟨rfl,rfl⟩
 by_cases h7:k=7
 ·subst h7;go_enter Tryz.func222,Tryz.ntmps222;go_wp2;go_ret;exact ⟨rfl,rfl⟩
 by_cases h6:k=6
 ·subst h6;go_enter Tryz.func222,Tryz.ntmps222;go_wp2;go_ret;exact ⟨rfl,rfl⟩
 have hr:rankN k=0:=by simp [rankN,h0,h2,h1,h3,h4,h7,h6]
 have e0:=ne_bool h0
 have e1:=ne_bool h1
 have e2:=ne_bool h2
 have e3:=ne_bool h3
 have e4:=ne_bool h4
 have e6:=ne_bool h6
 have e7:=ne_bool h7
 rw [hr]
 clear hr h0 h1 h2 h3 h4 h6 h7
 go_enter Tryz.func222,Tryz.ntmps222
 go_wp2
 go_ret
 exact ⟨rfl,rfl⟩
def agS  : List ByteArray→List ByteArray→Int
 | [],[]=>0
 | [],_::_=>-1
 | _::_,[]=>1
 | a::r,b::t=>if Lib.compareBytes a.data.toList b.data.toList=0 then agS r t else Lib.compareBytes a.data.toList b.data.toList
theorem agS_drop {a b:List ByteArray}:∀ {i:Nat},i<a.length→i<b.length→agS (a.drop i) (b.drop i) =
  (if Lib.compareBytes (a.getD i ⟨#[]⟩).data.toList (b.getD i ⟨#[]⟩).data.toList=0 then agS (a.drop (i+1)) (b.drop (i+1)) else Lib.compareBytes (a.getD i ⟨#[]⟩).data.toList (b.getD i ⟨#[]⟩).data.toList):=by
 intro i h1 h2
 rw [List.drop_eq_getElem_cons h1,List.drop_eq_getElem_cons h2,agS]
 simp [List.getD,h1,h2]
theorem agS_end {a b:List ByteArray} {i:Nat} (h:i=min a.length b.length):agS (a.drop i) (b.drop i)=cmpI a.length b.length:=by
 unfold cmpI
 by_cases h1:a.length<b.length
 ·rw [if_pos (by omega),List.drop_of_length_le (by omega),List.drop_eq_getElem_cons (by omega:i<b.length)];rfl
 ·rw [if_neg (by omega)]
  by_cases h2:b.length<a.length
  ·rw [if_pos (by omega),List.drop_of_length_le (l:=b) (by omega),List.drop_eq_getElem_cons (by omega:i<a.length)];rfl
  ·rw [if_neg (by omega),List.drop_of_length_le (by omega),List.drop_of_length_le (by omega)];rfl
theorem against_texts (B:Nat) (ka kb:Option Addr) (ca cb:Nat) (a b:List ByteArray) (w:World) (ha:KeysLie B w ka a) (hb:KeysLie B w kb b) (h1:a.length≤ca) (h2:ca≤maxLen) (h3:b.length≤cb) (h4:cb≤maxLen) :
  Calls Tryz.prog 223 #[.slice ka a.length ca,.slice kb b.length cb,.func (.func 135) #[] #[]] w fun e w'=>e=.returned (.int .i64 (agS a b))∧∃ q,w'=w.drewN q:=by
 unfold maxLen at h2 h4
 have HN:Hid (min (a.length:Int) (b.length:Int)=((min a.length b.length:Nat):Int)):=by show _=_;omega
 go_enter Tryz.func223,Tryz.ntmps223
 go_wp2_with fail
 rw [HN.out]
 generalize hm:min a.length b.length=m at *
 have hma:m≤a.length:=by omega
 have hmb:m≤b.length:=by omega
 have HM:Hid (m=min a.length b.length):=hm.symm
 clear hm
 go_loopw [14] (fun i wr=>∃ j:Nat,j≤m∧i=.int .i64 j∧(∃ q,wr=w.drewN q)∧agS (a.drop j) (b.drop j)=agS a b) (fun i _=>m - (intOf i).toNat)
 case atStart=>exact ⟨0,Nat.zero_le _,rfl,⟨0,rfl⟩,rfl⟩
 case round =>
  obtain ⟨j,hj,rfl,⟨q,hwr⟩,hag⟩:=hrel
  subst hwr
  have HAG:Hid (agS (a.drop j) (b.drop j)=agS a b):=hag
  clear hag
  by_cases hlt:j<m
  ·obtain ⟨bk,off,rfl,hbk,hkey⟩:=ha.resolve_left (by intro e;subst e;simp at hma;omega)
   obtain ⟨bk',off',rfl,hbk',hkey'⟩:=hb.resolve_left (by intro e;subst e;simp at hmb;omega)
   have hc:=(hkey j (by omega)).1
   have hc':=(hkey' j (by omega)).1
   have HST:=hidE (agS_drop (a:=a) (b:=b) (i:=j) (by omega) (by omega))
   generalize a.getD j ⟨#[]⟩=x at *
   generalize b.getD j ⟨#[]⟩=y at *
   clear hkey hkey'
   have hja:j<a.length:=by omega
   have hjb:j<b.length:=by omega
   go_wp2_with fail
   go_region_with (go_at_call 135;refine (Tryz.strings_Compare _ _ _).mono ?_;rintro e w' ⟨rfl,rfl⟩)
   all_goals
    generalize hcm:Lib.compareBytes x.data.toList y.data.toList=cm at *
    have HCM:=hidE hcm
    clear hcm
    by_cases h0:cm=0
    ·have h0':(cm != 0)=false:=by simp [h0]
     go_wp2_with fail
     go_roundw
     case rel=>exact ⟨j+1,by omega,by go_num,⟨_,rfl⟩,by have:=HST.out;rw [if_pos h0] at this;rw [← this];exact HAG.out⟩
     case measure=>simp [intOf];omega
    ·have h0':(cm != 0)=true:=by simp [h0]
     go_wp2_with fail
     go_ret
     refine ⟨?_,_,rfl⟩
     have:=HST.out;rw [if_neg h0] at this;rw [← HAG.out,this];rfl
  ·go_wp2_with fail
   refine (cmp_int _ _ _).mono ?_
   rintro e w' ⟨rfl,rfl⟩
   go_wp2_with fail
   go_ret
   refine ⟨?_,_,rfl⟩
   rw [← HAG.out,agS_end (by have:=HM.out;omega)];rfl
end Go.Proofs.YteddjlbfbpecjaaGreatDoor

