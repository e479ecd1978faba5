/- Whether what a value does not use is zero, as the document has it. -/
import Derived.Test.YteddjlbfbpecjaaGreatDoorJoin20
import Derived.Test.YteddjlbfbpecjaaGreatDoorJoin12
import Derived.Test.YteddjlbfbpecjaaGreatDoorJoin2
import Derived.Test.YteddjlbfbpecjaaGreatDoorJoin1
namespace Go.Proofs.YteddjlbfbpecjaaGreatDoor
section
open Go.RowKit Go.Shelf
set_option maxHeartbeats 2000000
set_option maxRecDepth 100000
set_option linter.all false
def rbareB (k:Int) (b:Bool) (n:Int) (s:ByteArray) (kl ll:Nat):Bool :=
 ((k==1)||!b)&&(((k==2)||((k==6)||((k==7)||(n==0))))&&(((k==3)||s.toList.isEmpty)&&(((k==5)||decide (kl=0))&&((k==4)||((k==5)||decide (ll=0))))))
theorem Jak (k:Int) (b:Bool) (n:Int) (s:ByteArray) (ka:Option Addr) (kl kc:Nat) (la:Option Addr) (ll lc:Nat) (w:World) (hk:k=1) :
  Calls Tryz.prog 153 #[.agg #[.int .i64 k,.bool b,.int .i64 n,.string s,.slice ka kl kc,.slice la ll lc]] w fun e w'=>e=.returned (.bool (rbareB k b n s kl ll))∧Below w.heap.size w w':=by
 have HB:=Zb ((Below.refl w.heap.size w).alloc (Nat.le_refl _) (.cells #[.int .i64 k,.bool b,.int .i64 n,.string s,.slice ka kl kc,.slice la ll lc] 60))
 have e1:(k==1)=true:=Jy hk
 have e2:(k==2)=false:=Zh (by omega)
 have e6:(k==6)=false:=Zh (by omega)
 have e7:(k==7)=false:=Zh (by omega)
 have e3:(k==3)=false:=Zh (by omega)
 have e5:(k==5)=false:=Zh (by omega)
 have e4:(k==4)=false:=Zh (by omega)
 clear hk
 cases en:(n==0) with
 | false =>
  have HR:Hid (rbareB k b n s kl ll=false):=by show _=_;simp [rbareB,e1,e2,e6,e7,e3,e5,e4,en]
  go_enter Tryz.func153,Tryz.ntmps153
  go_wp2_with fail
  go_ret
  exact ⟨by rw [HR.out];rfl,HB.out⟩
 | true =>
  cases es:s.toList.isEmpty with
  | false =>
   have HR:Hid (rbareB k b n s kl ll=false):=by show _=_;simp [rbareB,e1,e2,e6,e7,e3,e5,e4,en,es]
   go_enter Tryz.func153,Tryz.ntmps153
   go_wp2_with fail
   go_ret
   exact ⟨by rw [HR.out];rfl,HB.out⟩
  | true =>
   by_cases ek:kl=0
   case neg =>
    have ek2:((kl:Int)==0)=false:=Zh (by omega)
    have HR:Hid (rbareB k b n s kl ll=false):=by show _=_;simp [rbareB,e1,e2,e6,e7,e3,e5,e4,en,es,ek]
    go_enter Tryz.func153,Tryz.ntmps153
    go_wp2_with fail
    go_ret
    exact ⟨by rw [HR.out];rfl,HB.out⟩
   subst ek
   by_cases el:ll=0
   case neg =>
    have el2:((ll:Int)==0)=false:=Zh (by omega)
    have HR:Hid (rbareB k b n s 0 ll=false):=by show _=_;simp [rbareB,e1,e2,e6,e7,e3,e5,e4,en,es,el]
    go_enter Tryz.func153,Tryz.ntmps153
    go_wp2_with fail
    go_ret
    exact ⟨by rw [HR.out];rfl,HB.out⟩
   subst el
   have HR:Hid (rbareB k b n s 0 0=true):=by show _=_;simp [rbareB,e1,e2,e6,e7,e3,e5,e4,en,es]
   go_enter Tryz.func153,Tryz.ntmps153
   go_wp2_with fail
   go_ret
   exact ⟨by rw [HR.out];rfl,HB.out⟩
theorem Jal (k:Int) (b:Bool) (n:Int) (s:ByteArray) (ka:Option Addr) (kl kc:Nat) (la:Option Addr) (ll lc:Nat) (w:World) (hk:k=2) :
  Calls Tryz.prog 153 #[.agg #[.int .i64 k,.bool b,.int .i64 n,.string s,.slice ka kl kc,.slice la ll lc]] w fun e w'=>e=.returned (.bool (rbareB k b n s kl ll))∧Below w.heap.size w w':=by
 have HB:=Zb ((Below.refl w.heap.size w).alloc (Nat.le_refl _) (.cells #[.int .i64 k,.bool b,.int .i64 n,.string s,.slice ka kl kc,.slice la ll lc] 60))
 have e1:(k==1)=false:=Zh (by omega)
 have e2:(k==2)=true:=Jy hk
 have e6:(k==6)=false:=Zh (by omega)
 have e7:(k==7)=false:=Zh (by omega)
 have e3:(k==3)=false:=Zh (by omega)
 have e5:(k==5)=false:=Zh (by omega)
 have e4:(k==4)=false:=Zh (by omega)
 clear hk
 cases b with
 | true =>
  have HR:Hid (rbareB k true n s kl ll=false):=by show _=_;simp [rbareB,e1,e2,e6,e7,e3,e5,e4]
  go_enter Tryz.func153,Tryz.ntmps153
  go_wp2_with fail
  go_ret
  exact ⟨by rw [HR.out];rfl,HB.out⟩
 | false =>
  cases es:s.toList.isEmpty with
  | false =>
   have HR:Hid (rbareB k false n s kl ll=false):=by show _=_;simp [rbareB,e1,e2,e6,e7,e3,e5,e4,es]
   go_enter Tryz.func153,Tryz.ntmps153
   go_wp2_with fail
   go_ret
   exact ⟨by rw [HR.out];rfl,HB.out⟩
  | true =>
   by_cases ek:kl=0
   case neg =>
    have ek2:((kl:Int)==0)=false:=Zh (by omega)
    have HR:Hid (rbareB k false n s kl ll=false):=by show _=_;simp [rbareB,e1,e2,e6,e7,e3,e5,e4,es,ek]
    go_enter Tryz.func153,Tryz.ntmps153
    go_wp2_with fail
    go_ret
    exact ⟨by rw [HR.out];rfl,HB.out⟩
   subst ek
   by_cases el:ll=0
   case neg =>
    have el2:((ll:Int)==0)=false:=Zh (by omega)
    have HR:Hid (rbareB k false n s 0 ll=false):=by show _=_;simp [rbareB,e1,e2,e6,e7,e3,e5,e4,es,el]
    go_enter Tryz.func153,Tryz.ntmps153
    go_wp2_with fail
    go_ret
    exact ⟨by rw [HR.out];rfl,HB.out⟩
   subst el
   have HR:Hid (rbareB k false n s 0 0=true):=by show _=_;simp [rbareB,e1,e2,e6,e7,e3,e5,e4,es]
   go_enter Tryz.func153,Tryz.ntmps153
   go_wp2_with fail
   go_ret
   exact ⟨by rw [HR.out];rfl,HB.out⟩
theorem Jam (k:Int) (b:Bool) (n:Int) (s:ByteArray) (ka:Option Addr) (kl kc:Nat) (la:Option Addr) (ll lc:Nat) (w:World) (hk:k=3) :
  Calls Tryz.prog 153 #[.agg #[.int .i64 k,.bool b,.int .i64 n,.string s,.slice ka kl kc,.slice la ll lc]] w fun e w'=>e=.returned (.bool (rbareB k b n s kl ll))∧Below w.heap.size w w':=by
 have HB:=Zb ((Below.refl w.heap.size w).alloc (Nat.le_refl _) (.cells #[.int .i64 k,.bool b,.int .i64 n,.string s,.slice ka kl kc,.slice la ll lc] 60))
 have e1:(k==1)=false:=Zh (by omega)
 have e2:(k==2)=false:=Zh (by omega)
 have e6:(k==6)=false:=Zh (by omega)
 have e7:(k==7)=false:=Zh (by omega)
 have e3:(k==3)=true:=Jy hk
 have e5:(k==5)=false:=Zh (by omega)
 have e4:(k==4)=false:=Zh (by omega)
 clear hk
 cases b with
 | true =>
  have HR:Hid (rbareB k true n s kl ll=false):=by show _=_;simp [rbareB,e1,e2,e6,e7,e3,e5,e4]
  go_enter Tryz.func153,Tryz.ntmps153
  go_wp2_with fail
  go_ret
  exact ⟨by rw [HR.out];rfl,HB.out⟩
 | false =>
  cases en:(n==0) with
  | false =>
   have HR:Hid (rbareB k false n s kl ll=false):=by show _=_;simp [rbareB,e1,e2,e6,e7,e3,e5,e4,en]
   go_enter Tryz.func153,Tryz.ntmps153
   go_wp2_with fail
   go_ret
   exact ⟨by rw [HR.out];rfl,HB.out⟩
  | true =>
   by_cases ek:kl=0
   case neg =>
    have ek2:((kl:Int)==0)=false:=Zh (by omega)
    have HR:Hid (rbareB k false n s kl ll=false):=by show _=_;simp [rbareB,e1,e2,e6,e7,e3,e5,e4,en,ek]
    go_enter Tryz.func153,Tryz.ntmps153
    go_wp2_with fail
    go_ret
    exact ⟨by rw [HR.out];rfl,HB.out⟩
   subst ek
   by_cases el:ll=0
   case neg =>
    have el2:((ll:Int)==0)=false:=Zh (by omega)
    have HR:Hid (rbareB k false n s 0 ll=false):=by show _=_;simp [rbareB,e1,e2,e6,e7,e3,e5,e4,en,el]
    go_enter Tryz.func153,Tryz.ntmps153
    go_wp2_with fail
    go_ret
    exact ⟨by rw [HR.out];rfl,HB.out⟩
   subst el
   have HR:Hid (rbareB k false n s 0 0=true):=by show _=_;simp [rbareB,e1,e2,e6,e7,e3,e5,e4,en]
   go_enter Tryz.func153,Tryz.ntmps153
   go_wp2_with fail
   go_ret
   exact ⟨by rw [HR.out];rfl,HB.out⟩
theorem Jan (k:Int) (b:Bool) (n:Int) (s:ByteArray) (ka:Option Addr) (kl kc:Nat) (la:Option Addr) (ll lc:Nat) (w:World) (hk:k=4) :
  Calls Tryz.prog 153 #[.agg #[.int .i64 k,.bool b,.int .i64 n,.string s,.slice ka kl kc,.slice la ll lc]] w fun e w'=>e=.returned (.bool (rbareB k b n s kl ll))∧Below w.heap.size w w':=by
 have HB:=Zb ((Below.refl w.heap.size w).alloc (Nat.le_refl _) (.cells #[.int .i64 k,.bool b,.int .i64 n,.string s,.slice ka kl kc,.slice la ll lc] 60))
 have e1:(k==1)=false:=Zh (by omega)
 have e2:(k==2)=false:=Zh (by omega)
 have e6:(k==6)=false:=Zh (by omega)
 have e7:(k==7)=false:=Zh (by omega)
 have e3:(k==3)=false:=Zh (by omega)
 have e5:(k==5)=false:=Zh (by omega)
 have e4:(k==4)=true:=Jy hk
 clear hk
 cases b with
 | true =>
  have HR:Hid (rbareB k true n s kl ll=false):=by show _=_;simp [rbareB,e1,e2,e6,e7,e3,e5,e4]
  go_enter Tryz.func153,Tryz.ntmps153
  go_wp2_with fail
  go_ret
  exact ⟨by rw [HR.out];rfl,HB.out⟩
 | false =>
  cases en:(n==0) with
  | false =>
   have HR:Hid (rbareB k false n s kl ll=false):=by show _=_;simp [rbareB,e1,e2,e6,e7,e3,e5,e4,en]
   go_enter Tryz.func153,Tryz.ntmps153
   go_wp2_with fail
   go_ret
   exact ⟨by rw [HR.out];rfl,HB.out⟩
  | true =>
   cases es:s.toList.isEmpty with
   | false =>
    have HR:Hid (rbareB k false n s kl ll=false):=by show _=_;simp [rbareB,e1,e2,e6,e7,e3,e5,e4,en,es]
    go_enter Tryz.func153,Tryz.ntmps153
    go_wp2_with fail
    go_ret
    exact ⟨by rw [HR.out];rfl,HB.out⟩
   | true =>
    by_cases ek:kl=0
    case neg =>
     have ek2:((kl:Int)==0)=false:=Zh (by omega)
     have HR:Hid (rbareB k false n s kl ll=false):=by show _=_;simp [rbareB,e1,e2,e6,e7,e3,e5,e4,en,es,ek]
     go_enter Tryz.func153,Tryz.ntmps153
     go_wp2_with fail
     go_ret
     exact ⟨by rw [HR.out];rfl,HB.out⟩
    subst ek
    have HR:Hid (rbareB k false n s 0 ll=true):=by show _=_;simp [rbareB,e1,e2,e6,e7,e3,e5,e4,en,es]
    go_enter Tryz.func153,Tryz.ntmps153
    go_wp2_with fail
    go_ret
    exact ⟨by rw [HR.out];rfl,HB.out⟩
theorem Jao (k:Int) (b:Bool) (n:Int) (s:ByteArray) (ka:Option Addr) (kl kc:Nat) (la:Option Addr) (ll lc:Nat) (w:World) (hk:k=5) :
  Calls Tryz.prog 153 #[.agg #[.int .i64 k,.bool b,.int .i64 n,.string s,.slice ka kl kc,.slice la ll lc]] w fun e w'=>e=.returned (.bool (rbareB k b n s kl ll))∧Below w.heap.size w w':=by
 have HB:=Zb ((Below.refl w.heap.size w).alloc (Nat.le_refl _) (.cells #[.int .i64 k,.bool b,.int .i64 n,.string s,.slice ka kl kc,.slice la ll lc] 60))
 have e1:(k==1)=false:=Zh (by omega)
 have e2:(k==2)=false:=Zh (by omega)
 have e6:(k==6)=false:=Zh (by omega)
 have e7:(k==7)=false:=Zh (by omega)
 have e3:(k==3)=false:=Zh (by omega)
 have e5:(k==5)=true:=Jy hk
 have e4:(k==4)=false:=Zh (by omega)
 clear hk
 cases b with
 | true =>
  have HR:Hid (rbareB k true n s kl ll=false):=by show _=_;simp [rbareB,e1,e2,e6,e7,e3,e5,e4]
  go_enter Tryz.func153,Tryz.ntmps153
  go_wp2_with fail
  go_ret
  exact ⟨by rw [HR.out];rfl,HB.out⟩
 | false =>
  cases en:(n==0) with
  | false =>
   have HR:Hid (rbareB k false n s kl ll=false):=by show _=_;simp [rbareB,e1,e2,e6,e7,e3,e5,e4,en]
   go_enter Tryz.func153,Tryz.ntmps153
   go_wp2_with fail
   go_ret
   exact ⟨by rw [HR.out];rfl,HB.out⟩
  | true =>
   cases es:s.toList.isEmpty with
   | false =>
    have HR:Hid (rbareB k false n s kl ll=false):=by show _=_;simp [rbareB,e1,e2,e6,e7,e3,e5,e4,en,es]
    go_enter Tryz.func153,Tryz.ntmps153
    go_wp2_with fail
    go_ret
    exact ⟨by rw [HR.out];rfl,HB.out⟩
   | true =>
    have HR:Hid (rbareB k false n s kl ll=true):=by show _=_;simp [rbareB,e1,e2,e6,e7,e3,e5,e4,en,es]
    go_enter Tryz.func153,Tryz.ntmps153
    go_wp2_with fail
    go_ret
    exact ⟨by rw [HR.out];rfl,HB.out⟩
theorem Jap (k:Int) (b:Bool) (n:Int) (s:ByteArray) (ka:Option Addr) (kl kc:Nat) (la:Option Addr) (ll lc:Nat) (w:World) (hk:k=6) :
  Calls Tryz.prog 153 #[.agg #[.int .i64 k,.bool b,.int .i64 n,.string s,.slice ka kl kc,.slice la ll lc]] w fun e w'=>e=.returned (.bool (rbareB k b n s kl ll))∧Below w.heap.size w w':=by
 have HB:=Zb ((Below.refl w.heap.size w).alloc (Nat.le_refl _) (.cells #[.int .i64 k,.bool b,.int .i64 n,.string s,.slice ka kl kc,.slice la ll lc] 60))
 have e1:(k==1)=false:=Zh (by omega)
 have e2:(k==2)=false:=Zh (by omega)
 have e6:(k==6)=true:=Jy hk
 have e7:(k==7)=false:=Zh (by omega)
 have e3:(k==3)=false:=Zh (by omega)
 have e5:(k==5)=false:=Zh (by omega)
 have e4:(k==4)=false:=Zh (by omega)
 clear hk
 cases b with
 | true =>
  have HR:Hid (rbareB k true n s kl ll=false):=by show _=_;simp [rbareB,e1,e2,e6,e7,e3,e5,e4]
  go_enter Tryz.func153,Tryz.ntmps153
  go_wp2_with fail
  go_ret
  exact ⟨by rw [HR.out];rfl,HB.out⟩
 | false =>
  cases es:s.toList.isEmpty with
  | false =>
   have HR:Hid (rbareB k false n s kl ll=false):=by show _=_;simp [rbareB,e1,e2,e6,e7,e3,e5,e4,es]
   go_enter Tryz.func153,Tryz.ntmps153
   go_wp2_with fail
   go_ret
   exact ⟨by rw [HR.out];rfl,HB.out⟩
  | true =>
   by_cases ek:kl=0
   case neg =>
    have ek2:((kl:Int)==0)=false:=Zh (by omega)
    have HR:Hid (rbareB k false n s kl ll=false):=by show _=_;simp [rbareB,e1,e2,e6,e7,e3,e5,e4,es,ek]
    go_enter Tryz.func153,Tryz.ntmps153
    go_wp2_with fail
    go_ret
    exact ⟨by rw [HR.out];rfl,HB.out⟩
   subst ek
   by_cases el:ll=0
   case neg =>
    have el2:((ll:Int)==0)=false:=Zh (by omega)
    have HR:Hid (rbareB k false n s 0 ll=false):=by show _=_;simp [rbareB,e1,e2,e6,e7,e3,e5,e4,es,el]
    go_enter Tryz.func153,Tryz.ntmps153
    go_wp2_with fail
    go_ret
    exact ⟨by rw [HR.out];rfl,HB.out⟩
   subst el
   have HR:Hid (rbareB k false n s 0 0=true):=by show _=_;simp [rbareB,e1,e2,e6,e7,e3,e5,e4,es]
   go_enter Tryz.func153,Tryz.ntmps153
   go_wp2_with fail
   go_ret
   exact ⟨by rw [HR.out];rfl,HB.out⟩
theorem Jaq (k:Int) (b:Bool) (n:Int) (s:ByteArray) (ka:Option Addr) (kl kc:Nat) (la:Option Addr) (ll lc:Nat) (w:World) (hk:k=7) :
  Calls Tryz.prog 153 #[.agg #[.int .i64 k,.bool b,.int .i64 n,.string s,.slice ka kl kc,.slice la ll lc]] w fun e w'=>e=.returned (.bool (rbareB k b n s kl ll))∧Below w.heap.size w w':=by
 have HB:=Zb ((Below.refl w.heap.size w).alloc (Nat.le_refl _) (.cells #[.int .i64 k,.bool b,.int .i64 n,.string s,.slice ka kl kc,.slice la ll lc] 60))
 have e1:(k==1)=false:=Zh (by omega)
 have e2:(k==2)=false:=Zh (by omega)
 have e6:(k==6)=false:=Zh (by omega)
 have e7:(k==7)=true:=Jy hk
 have e3:(k==3)=false:=Zh (by omega)
 have e5:(k==5)=false:=Zh (by omega)
 have e4:(k==4)=false:=Zh (by omega)
 clear hk
 cases b with
 | true =>
  have HR:Hid (rbareB k true n s kl ll=false):=by show _=_;simp [rbareB,e1,e2,e6,e7,e3,e5,e4]
  go_enter Tryz.func153,Tryz.ntmps153
  go_wp2_with fail
  go_ret
  exact ⟨by rw [HR.out];rfl,HB.out⟩
 | false =>
  cases es:s.toList.isEmpty with
  | false =>
   have HR:Hid (rbareB k false n s kl ll=false):=by show _=_;simp [rbareB,e1,e2,e6,e7,e3,e5,e4,es]
   go_enter Tryz.func153,Tryz.ntmps153
   go_wp2_with fail
   go_ret
   exact ⟨by rw [HR.out];rfl,HB.out⟩
  | true =>
   by_cases ek:kl=0
   case neg =>
    have ek2:((kl:Int)==0)=false:=Zh (by omega)
    have HR:Hid (rbareB k false n s kl ll=false):=by show _=_;simp [rbareB,e1,e2,e6,e7,e3,e5,e4,es,ek]
    go_enter Tryz.func153,Tryz.ntmps153
    go_wp2_with fail
    go_ret
    exact ⟨by rw [HR.out];rfl,HB.out⟩
   subst ek
   by_cases el:ll=0
   case neg =>
    have el2:((ll:Int)==0)=false:=Zh (by omega)
    have HR:Hid (rbareB k false n s 0 ll=false):=by show _=_;simp [rbareB,e1,e2,e6,e7,e3,e5,e4,es,el]
    go_enter Tryz.func153,Tryz.ntmps153
    go_wp2_with fail
    go_ret
    exact ⟨by rw [HR.out];rfl,HB.out⟩
   subst el
   have HR:Hid (rbareB k false n s 0 0=true):=by show _=_;simp [rbareB,e1,e2,e6,e7,e3,e5,e4,es]
   go_enter Tryz.func153,Tryz.ntmps153
   go_wp2_with fail
   go_ret
   exact ⟨by rw [HR.out];rfl,HB.out⟩
theorem Jar (k:Int) (b:Bool) (n:Int) (s:ByteArray) (ka:Option Addr) (kl kc:Nat) (la:Option Addr) (ll lc:Nat) (w:World) (h1:k≠1) (h2:k≠2) (h6:k≠6) (h7:k≠7) (h3:k≠3) (h5:k≠5) (h4:k≠4) :
  Calls Tryz.prog 153 #[.agg #[.int .i64 k,.bool b,.int .i64 n,.string s,.slice ka kl kc,.slice la ll lc]] w fun e w'=>e=.returned (.bool (rbareB k b n s kl ll))∧Below w.heap.size w w':=by
 have HB:=Zb ((Below.refl w.heap.size w).alloc (Nat.le_refl _) (.cells #[.int .i64 k,.bool b,.int .i64 n,.string s,.slice ka kl kc,.slice la ll lc] 60))
 have e1:(k==1)=false:=Zh h1
 have e2:(k==2)=false:=Zh h2
 have e6:(k==6)=false:=Zh h6
 have e7:(k==7)=false:=Zh h7
 have e3:(k==3)=false:=Zh h3
 have e5:(k==5)=false:=Zh h5
 have e4:(k==4)=false:=Zh h4
 clear h1 h2 h6 h7 h3 h5 h4
 cases b with
 | true =>
  have HR:Hid (rbareB k true n s kl ll=false):=by show _=_;simp [rbareB,e1,e2,e6,e7,e3,e5,e4]
  go_enter Tryz.func153,Tryz.ntmps153
  go_wp2_with fail
  go_ret
  exact ⟨by rw [HR.out];rfl,HB.out⟩
 | false =>
  cases en:(n==0) with
  | false =>
   have HR:Hid (rbareB k false n s kl ll=false):=by show _=_;simp [rbareB,e1,e2,e6,e7,e3,e5,e4,en]
   go_enter Tryz.func153,Tryz.ntmps153
   go_wp2_with fail
   go_ret
   exact ⟨by rw [HR.out];rfl,HB.out⟩
  | true =>
   cases es:s.toList.isEmpty with
   | false =>
    have HR:Hid (rbareB k false n s kl ll=false):=by show _=_;simp [rbareB,e1,e2,e6,e7,e3,e5,e4,en,es]
    go_enter Tryz.func153,Tryz.ntmps153
    go_wp2_with fail
    go_ret
    exact ⟨by rw [HR.out];rfl,HB.out⟩
   | true =>
    by_cases ek:kl=0
    case neg =>
     have ek2:((kl:Int)==0)=false:=Zh (by omega)
     have HR:Hid (rbareB k false n s kl ll=false):=by show _=_;simp [rbareB,e1,e2,e6,e7,e3,e5,e4,en,es,ek]
     go_enter Tryz.func153,Tryz.ntmps153
     go_wp2_with fail
     go_ret
     exact ⟨by rw [HR.out];rfl,HB.out⟩
    subst ek
    by_cases el:ll=0
    case neg =>
     have el2:((ll:Int)==0)=false:=Zh (by omega)
     have HR:Hid (rbareB k false n s 0 ll=false):=by show _=_;simp [rbareB,e1,e2,e6,e7,e3,e5,e4,en,es,el]
     go_enter Tryz.func153,Tryz.ntmps153
     go_wp2_with fail
     go_ret
     exact ⟨by rw [HR.out];rfl,HB.out⟩
    subst el
    have HR:Hid (rbareB k false n s 0 0=true):=by show _=_;simp [rbareB,e1,e2,e6,e7,e3,e5,e4,en,es]
    go_enter Tryz.func153,Tryz.ntmps153
    go_wp2_with fail
    go_ret
    exact ⟨by rw [HR.out];rfl,HB.out⟩
theorem Zu2 (k:Int) (b:Bool) (n:Int) (s:ByteArray) (ka:Option Addr) (kl kc:Nat) (la:Option Addr) (ll lc:Nat) (w:World) :
  Calls Tryz.prog 153 #[.agg #[.int .i64 k,.bool b,.int .i64 n,.string s,.slice ka kl kc,.slice la ll lc]] w fun e w'=>e=.returned (.bool (rbareB k b n s kl ll))∧Below w.heap.size w w':=by
 by_cases h1:k=1
 ·exact Jak _ _ _ _ _ _ _ _ _ _ _ h1
 by_cases h2:k=2
 ·exact Jal _ _ _ _ _ _ _ _ _ _ _ h2
 by_cases h6:k=6
 ·exact Jap _ _ _ _ _ _ _ _ _ _ _ h6
 by_cases h7:k=7
 ·exact Jaq _ _ _ _ _ _ _ _ _ _ _ h7
 by_cases h3:k=3
 ·exact Jam _ _ _ _ _ _ _ _ _ _ _ h3
 by_cases h5:k=5
 ·exact Jao _ _ _ _ _ _ _ _ _ _ _ h5
 by_cases h4:k=4
 ·exact Jan _ _ _ _ _ _ _ _ _ _ _ h4
 exact Jar _ _ _ _ _ _ _ _ _ _ _ h1 h2 h6 h7 h3 h5 h4
end
section
open Go.RowKit Go.Shelf
set_option linter.all false
theorem Zkl (a b:Int) (w:World):Calls Tryz.prog 148 #[.int .i64 a,.int .i64 b] w fun e w'=>e=.returned (.int .i64 (Zfw a b))∧w'=w:=by
 unfold Zfw
 by_cases h1:a<b
 ·rw [if_pos h1]
  go_enter Tryz.func148,Tryz.ntmps148
  go_wp2
  go_ret
  exact ⟨rfl,rfl⟩
 ·rw [if_neg h1]
  by_cases h2:b<a
  ·rw [if_pos h2]
   go_enter Tryz.func148,Tryz.ntmps148
   go_wp2
   go_ret
   exact ⟨rfl,rfl⟩
  ·rw [if_neg h2]
   go_enter Tryz.func148,Tryz.ntmps148
   go_wp2
   go_ret
   exact ⟨rfl,rfl⟩
theorem Zen {s:ByteArray} {i:Nat} (h:i<s.size):s.data.toList.drop i=s[i]::s.data.toList.drop (i+1):=by
 have h':i<s.data.toList.length:=by simpa using h
 rw [List.drop_eq_getElem_cons h']
 rfl
theorem Zl5 {s t:ByteArray} {i:Nat} (h:i=s.size∨i=t.size) (h1:i≤s.size) (h2:i≤t.size) :
  Lib.compareBytes (s.data.toList.drop i) (t.data.toList.drop i)=Zfw s.size t.size:=by
 unfold Zfw
 have l1:s.data.toList.length=s.size:=by simp
 have l2:t.data.toList.length=t.size:=by simp
 by_cases a1:s.size<t.size
 ·rw [if_pos (by omega),List.drop_of_length_le (by omega),List.drop_eq_getElem_cons (by omega:i<t.data.toList.length)];rfl
 ·rw [if_neg (by omega)]
  by_cases a2:t.size<s.size
  ·rw [if_pos (by omega),List.drop_of_length_le (l:=t.data.toList) (by omega),List.drop_eq_getElem_cons (by omega:i<s.data.toList.length)];rfl
  ·rw [if_neg (by omega),List.drop_of_length_le (by omega),List.drop_of_length_le (by omega)];rfl
theorem Zxa {s t:ByteArray} {i:Nat} (h1:i<s.size) (h2:i<t.size) (h:s[i].toNat=t[i].toNat) :
  Lib.compareBytes (s.data.toList.drop i) (t.data.toList.drop i)=Lib.compareBytes (s.data.toList.drop (i+1)) (t.data.toList.drop (i+1)):=by
 have e:s[i]=t[i]:=UInt8.toNat_inj.mp h
 rw [Zen h1,Zen h2,Lib.compareBytes,e,if_neg (by simp),if_neg (by simp)]
theorem Zxb {s t:ByteArray} {i:Nat} (h1:i<s.size) (h2:i<t.size) (h:s[i].toNat≠t[i].toNat) :
  Lib.compareBytes (s.data.toList.drop i) (t.data.toList.drop i)=Zfw s[i].toNat t[i].toNat:=by
 rw [Zen h1,Zen h2,Lib.compareBytes]
 unfold Zfw
 by_cases a:s[i].toNat<t[i].toNat
 ·rw [if_pos (UInt8.lt_iff_toNat_lt.mpr a),if_pos (by omega)]
 ·have a':t[i].toNat<s[i].toNat:=by omega
  rw [if_neg (fun c=>a (UInt8.lt_iff_toNat_lt.mp c)),if_pos (UInt8.lt_iff_toNat_lt.mpr a'),if_neg (by omega),if_pos (by omega)]
theorem Zl6 (b:UInt8):IntKind.i64.wrap (b.toNat:Int)=b.toNat:=by
 have:=b.toNat_lt
 rw [IntKind.wrap_i64]
 omega
set_option maxHeartbeats 1000000 in
theorem Zl7 (s t:ByteArray) (w:World) (hs:s.size≤9223372036854775807) (ht:t.size≤9223372036854775807) :
  Calls Tryz.prog 102 #[.string s,.string t] w fun e w'=>e=.returned (.int .i64 (Lib.compareBytes s.data.toList t.data.toList))∧∃ q,w'=w.drewN q:=by
 go_enter Tryz.func102,Tryz.ntmps102
 go_wp2_with fail
 go_loopw [5] (fun i wr=>∃ j:Nat,j≤s.size∧j≤t.size∧i=.int .i64 j∧(∃ q,wr=w.drewN q)∧Lib.compareBytes (s.data.toList.drop j) (t.data.toList.drop j)=Lib.compareBytes s.data.toList t.data.toList) (fun i _=>s.size - (intOf i).toNat)
 case atStart=>exact ⟨0,Nat.zero_le _,Nat.zero_le _,rfl,⟨0,rfl⟩,rfl⟩
 case round =>
  obtain ⟨j,hj,hj2,rfl,⟨q,hwr⟩,hag⟩:=hrel
  subst hwr
  have HAG:Hid (Lib.compareBytes (s.data.toList.drop j) (t.data.toList.drop j)=Lib.compareBytes s.data.toList t.data.toList):=hag
  clear hag
  by_cases h1:j<s.size
  ·by_cases h2:j<t.size
   ·by_cases h3:s[j].toNat=t[j].toNat
    ·have HN:Hid (Lib.compareBytes (s.data.toList.drop (j+1)) (t.data.toList.drop (j+1))=Lib.compareBytes s.data.toList t.data.toList):=(Zxa h1 h2 h3).symm.trans HAG.out
     have e3:((s[j].toNat:Int)==(t[j].toNat:Int))=true:=Jy (by omega)
     clear h3 HAG
     go_wp2_with fail
     go_quiet (fail)
     go_wp2_with fail
     go_roundw
     case rel=>exact ⟨j+1,by omega,by omega,by go_num,⟨_,rfl⟩,HN.out⟩
     case measure=>simp [intOf];omega
    ·have HN:Hid (Zfw s[j].toNat t[j].toNat=Lib.compareBytes s.data.toList t.data.toList):=(Zxb h1 h2 h3).symm.trans HAG.out
     have e3:((s[j].toNat:Int)==(t[j].toNat:Int))=false:=Zh (by omega)
     clear h3 HAG
     go_wp2_with fail
     go_quiet (fail)
     go_wp2_with fail
     go_region_with (go_at_call 148;refine (Zkl _ _ _).mono ?_;rintro e w' ⟨rfl,rfl⟩)
     all_goals
      go_wp2_with fail
      go_ret
      exact ⟨by rw [Zl6,Zl6,← HN.out];rfl,_,rfl⟩
   ·have HN:Hid (Zfw s.size t.size=Lib.compareBytes s.data.toList t.data.toList):=(Zl5 (.inr (by omega)) hj hj2).symm.trans HAG.out
    clear HAG
    go_wp2_with fail
    refine (Zkl _ _ _).mono ?_;rintro e w' ⟨rfl,rfl⟩
    go_wp2_with fail
    go_ret
    exact ⟨by rw [← HN.out];rfl,_,rfl⟩
  ·have HN:Hid (Zfw s.size t.size=Lib.compareBytes s.data.toList t.data.toList):=(Zl5 (.inl (by omega)) hj hj2).symm.trans HAG.out
   clear HAG
   go_wp2_with fail
   refine (Zkl _ _ _).mono ?_;rintro e w' ⟨rfl,rfl⟩
   go_wp2_with fail
   go_ret
   exact ⟨by rw [← HN.out];rfl,_,rfl⟩
end
section
open Go.RowKit Go.Shelf Go.WideShapes
set_option maxHeartbeats 4000000
set_option maxRecDepth 100000
set_option linter.all false
noncomputable def RRA  : Array Oper:=Jg Tryz.f41 4
def LRA  : List Sig:=[⟨10,.move (.tmp 0),44,none⟩,⟨11,.move (.tmp 3),3,none⟩,⟨12,.indexAddr 44 (.tmp 10) (.tmp 11),0,none⟩,⟨13,.load 9 (.tmp 12),9,none⟩,⟨14,.call { callee:=.value (.func 43),args:=#[.tmp 13],argTypes:=#[9] },4,none⟩,⟨15,.unOp .not 4 (.tmp 14),4,none⟩,⟨16,.move (.tmp 15),4,none⟩,⟨17,.move (.tmp 3),3,some (6,false)⟩,⟨18,.binOp .gtr 3 (.tmp 17) (.const (.int .i64 0)) 3,4,some (6,false)⟩,⟨19,.move (.tmp 18),4,some (6,false)⟩,⟨20,.move (.tmp 0),44,some (9,true)⟩,⟨21,.move (.tmp 3),3,some (9,true)⟩,⟨22,.binOp .sub 3 (.tmp 21) (.const (.int .i64 1)) 3,3,some (9,true)⟩,⟨23,.indexAddr 44 (.tmp 20) (.tmp 22),0,some (9,true)⟩,⟨24,.load 9 (.tmp 23),9,some (9,true)⟩,⟨25,.move (.tmp 0),44,some (9,true)⟩,⟨26,.move (.tmp 3),3,some (9,true)⟩,⟨27,.indexAddr 44 (.tmp 25) (.tmp 26),0,some (9,true)⟩,⟨28,.load 9 (.tmp 27),9,some (9,true)⟩,⟨29,.call { callee:=.value (.func 102),args:=#[.tmp 24,.tmp 28],argTypes:=#[9,9] },3,some (9,true)⟩,⟨30,.binOp .geq 3 (.tmp 29) (.const (.int .i64 0)) 3,4,some (9,true)⟩,⟨31,.pick (.tmp 19) (.tmp 30) (.const (.bool false)),4,some (6,false)⟩,⟨32,.pick (.tmp 16) (.const (.bool true)) (.tmp 31),4,none⟩]
theorem Jg1  : Jq RRA=LRA.map some:=by kernel_rfl
def ARA  : List (List Nat):=[[],[],[0,1],[2],[3],[4],[5],[6],[6,7],[6,8],[9],[9],[9,11],[9,10,12],[9,13],[9],[9],[9,15,16],[9,17],[9,14,18],[9,19],[6,9,20],[6,21]]
def VRA (bl off kl kc j m:Nat) (x y:ByteArray) (z:Int) (b:Bool):List Value:=[.slice (some ⟨bl,off,none⟩) kl kc,.int .i64 (j:Int),.pointer (some ⟨bl,off+j,none⟩),.string x,.bool false,.bool true,.bool true,undef,undef,undef,undef,undef,undef,undef,undef,undef,undef,undef,undef,undef,undef,undef,.bool true]
structure Zy9 (bl off kl kc j m:Nat) (x y:ByteArray) (z:Int) (b:Bool) (c:Act):Prop where
 t0:c.eval (.tmp 0)=.slice (some ⟨bl,off,none⟩) kl kc
 t3:c.eval (.tmp 3)=.int .i64 (j:Int)
structure Zvo (bl off kl kc j m:Nat) (x y:ByteArray) (z:Int) (b:Bool) (w:World):Prop where
 cx:w.cell? ⟨bl,off+j,none⟩=some (.string x)
 kn:Calls Tryz.prog 43 #[.string x] w fun e w'=>e=.returned (.bool false)∧Below w.heap.size w w'
 lt:j<kl
 le:kl≤9223372036854775807
theorem Zyn (bl off kl kc j m:Nat) (x y:ByteArray) (z:Int) (b:Bool) (Q:Exit→Act→World→Prop) (base:Act) (w0:World) (hsz:base.tmps.size=33) (hb:Zy9 bl off kl kc j m x y z b base)
  (hW:∀ w,Below w0.heap.size w0 w→Zvo bl off kl kc j m x y z b w) (hQ:∀ c w,Zae RRA base c→Below w0.heap.size w0 w→c.eval (.tmp 32)=.bool true→Q .normal c w):(Code.region 4 RRA true).wp Tryz.prog Q base w0:=by
 refine Zr (B:=Zy9 bl off kl kc j m x y z b) (T:=Zvo bl off kl kc j m x y z b) (n:=23) (k:=22) LRA ARA (VRA bl off kl kc j m x y z b) Jg1 rfl (by kernel_rfl) (by kernel_rfl) (by kernel_rfl) (by rw [hsz];kernel_rfl) (fun c hS=>⟨(Zc hS (by kernel_rfl)).trans hb.t0,(Zc hS (by kernel_rfl)).trans hb.t3⟩) hW ?_ (by decide) rfl rfl hQ
 clear hsz hb hW hQ
 iterate 23 (refine Zd ?_ (by
  intro c w hb hW hEq
  obtain ⟨t0,t3⟩:=hb
  obtain ⟨cx,kn,lt,le⟩:=hW
  have ec:=evc c
  have ef:=evf c
  dsimp only [ARA,LRA,VRA,nth,Zcm,Zbd,Jl] at hEq ⊢
  first
  | exact ⟨by first | exact hEq.1 | exact hEq.2.1 | exact hEq.2.2.1 | exact hEq.2.2.2.1,.inr ⟨by first | exact .inl rfl | exact .inr rfl,rfl⟩⟩
  | ((try refine ⟨by first | exact hEq.1 | exact hEq.2.1 | exact hEq.2.2.1 | exact hEq.2.2.2.1,.inl ⟨rfl,?_⟩⟩);first | (refine Zm Tryz.call43 kn ?_;simp only [List.map_toArray,List.map_cons,List.map_nil,hEq];done) | (refine .inl fun pos af=>?_;(clear kn;dsimp only [Sig.oper];generalize c.eval=ρ at *;go_simp;done)))))
 exact Zj
noncomputable def RRB  : Array Oper:=Jg Tryz.f41 4
def LRB  : List Sig:=[⟨10,.move (.tmp 0),44,none⟩,⟨11,.move (.tmp 3),3,none⟩,⟨12,.indexAddr 44 (.tmp 10) (.tmp 11),0,none⟩,⟨13,.load 9 (.tmp 12),9,none⟩,⟨14,.call { callee:=.value (.func 43),args:=#[.tmp 13],argTypes:=#[9] },4,none⟩,⟨15,.unOp .not 4 (.tmp 14),4,none⟩,⟨16,.move (.tmp 15),4,none⟩,⟨17,.move (.tmp 3),3,some (6,false)⟩,⟨18,.binOp .gtr 3 (.tmp 17) (.const (.int .i64 0)) 3,4,some (6,false)⟩,⟨19,.move (.tmp 18),4,some (6,false)⟩,⟨20,.move (.tmp 0),44,some (9,true)⟩,⟨21,.move (.tmp 3),3,some (9,true)⟩,⟨22,.binOp .sub 3 (.tmp 21) (.const (.int .i64 1)) 3,3,some (9,true)⟩,⟨23,.indexAddr 44 (.tmp 20) (.tmp 22),0,some (9,true)⟩,⟨24,.load 9 (.tmp 23),9,some (9,true)⟩,⟨25,.move (.tmp 0),44,some (9,true)⟩,⟨26,.move (.tmp 3),3,some (9,true)⟩,⟨27,.indexAddr 44 (.tmp 25) (.tmp 26),0,some (9,true)⟩,⟨28,.load 9 (.tmp 27),9,some (9,true)⟩,⟨29,.call { callee:=.value (.func 102),args:=#[.tmp 24,.tmp 28],argTypes:=#[9,9] },3,some (9,true)⟩,⟨30,.binOp .geq 3 (.tmp 29) (.const (.int .i64 0)) 3,4,some (9,true)⟩,⟨31,.pick (.tmp 19) (.tmp 30) (.const (.bool false)),4,some (6,false)⟩,⟨32,.pick (.tmp 16) (.const (.bool true)) (.tmp 31),4,none⟩]
theorem Jg2  : Jq RRB=LRB.map some:=by kernel_rfl
def ARB  : List (List Nat):=[[],[],[0,1],[2],[3],[4],[5],[6],[6,7],[6,8],[9],[9],[9,11],[9,10,12],[9,13],[9],[9],[9,15,16],[9,17],[9,14,18],[9,19],[6,9,20],[6,21]]
def VRB (bl off kl kc j m:Nat) (x y:ByteArray) (z:Int) (b:Bool):List Value:=[.slice (some ⟨bl,off,none⟩) kl kc,.int .i64 (j:Int),.pointer (some ⟨bl,off+j,none⟩),.string x,.bool true,.bool false,.bool false,.int .i64 (j:Int),.bool false,.bool false,undef,undef,undef,undef,undef,undef,undef,undef,undef,undef,undef,.bool false,.bool false]
structure Zza (bl off kl kc j m:Nat) (x y:ByteArray) (z:Int) (b:Bool) (c:Act):Prop where
 t0:c.eval (.tmp 0)=.slice (some ⟨bl,off,none⟩) kl kc
 t3:c.eval (.tmp 3)=.int .i64 (j:Int)
structure Zvp (bl off kl kc j m:Nat) (x y:ByteArray) (z:Int) (b:Bool) (w:World):Prop where
 cx:w.cell? ⟨bl,off+j,none⟩=some (.string x)
 kn:Calls Tryz.prog 43 #[.string x] w fun e w'=>e=.returned (.bool true)∧Below w.heap.size w w'
 jz:decide ((0:Int)<(j:Int))=false
 lt:j<kl
 le:kl≤9223372036854775807
theorem Zyo (bl off kl kc j m:Nat) (x y:ByteArray) (z:Int) (b:Bool) (Q:Exit→Act→World→Prop) (base:Act) (w0:World) (hsz:base.tmps.size=33) (hb:Zza bl off kl kc j m x y z b base)
  (hW:∀ w,Below w0.heap.size w0 w→Zvp bl off kl kc j m x y z b w) (hQ:∀ c w,Zae RRB base c→Below w0.heap.size w0 w→c.eval (.tmp 32)=.bool false→Q .normal c w):(Code.region 4 RRB true).wp Tryz.prog Q base w0:=by
 refine Zr (B:=Zza bl off kl kc j m x y z b) (T:=Zvp bl off kl kc j m x y z b) (n:=23) (k:=22) LRB ARB (VRB bl off kl kc j m x y z b) Jg2 rfl (by kernel_rfl) (by kernel_rfl) (by kernel_rfl) (by rw [hsz];kernel_rfl) (fun c hS=>⟨(Zc hS (by kernel_rfl)).trans hb.t0,(Zc hS (by kernel_rfl)).trans hb.t3⟩) hW ?_ (by decide) rfl rfl hQ
 clear hsz hb hW hQ
 iterate 23 (refine Zd ?_ (by
  intro c w hb hW hEq
  obtain ⟨t0,t3⟩:=hb
  obtain ⟨cx,kn,jz,lt,le⟩:=hW
  have ec:=evc c
  have ef:=evf c
  dsimp only [ARB,LRB,VRB,nth,Zcm,Zbd,Jl] at hEq ⊢
  first
  | exact ⟨by first | exact hEq.1 | exact hEq.2.1 | exact hEq.2.2.1 | exact hEq.2.2.2.1,.inr ⟨by first | exact .inl rfl | exact .inr rfl,rfl⟩⟩
  | ((try refine ⟨by first | exact hEq.1 | exact hEq.2.1 | exact hEq.2.2.1 | exact hEq.2.2.2.1,.inl ⟨rfl,?_⟩⟩);first | (refine Zm Tryz.call43 kn ?_;simp only [List.map_toArray,List.map_cons,List.map_nil,hEq];done) | (refine .inl fun pos af=>?_;(clear kn;dsimp only [Sig.oper];generalize c.eval=ρ at *;go_simp;done)) | (refine .inl fun pos af=>?_;clear kn;dsimp only [Sig.oper];generalize c.eval=ρ at *;go_simp;simp at jz;omega))))
 exact Zj
noncomputable def RRC  : Array Oper:=Jg Tryz.f41 4
def LRC  : List Sig:=[⟨10,.move (.tmp 0),44,none⟩,⟨11,.move (.tmp 3),3,none⟩,⟨12,.indexAddr 44 (.tmp 10) (.tmp 11),0,none⟩,⟨13,.load 9 (.tmp 12),9,none⟩,⟨14,.call { callee:=.value (.func 43),args:=#[.tmp 13],argTypes:=#[9] },4,none⟩,⟨15,.unOp .not 4 (.tmp 14),4,none⟩,⟨16,.move (.tmp 15),4,none⟩,⟨17,.move (.tmp 3),3,some (6,false)⟩,⟨18,.binOp .gtr 3 (.tmp 17) (.const (.int .i64 0)) 3,4,some (6,false)⟩,⟨19,.move (.tmp 18),4,some (6,false)⟩,⟨20,.move (.tmp 0),44,some (9,true)⟩,⟨21,.move (.tmp 3),3,some (9,true)⟩,⟨22,.binOp .sub 3 (.tmp 21) (.const (.int .i64 1)) 3,3,some (9,true)⟩,⟨23,.indexAddr 44 (.tmp 20) (.tmp 22),0,some (9,true)⟩,⟨24,.load 9 (.tmp 23),9,some (9,true)⟩,⟨25,.move (.tmp 0),44,some (9,true)⟩,⟨26,.move (.tmp 3),3,some (9,true)⟩,⟨27,.indexAddr 44 (.tmp 25) (.tmp 26),0,some (9,true)⟩,⟨28,.load 9 (.tmp 27),9,some (9,true)⟩,⟨29,.call { callee:=.value (.func 102),args:=#[.tmp 24,.tmp 28],argTypes:=#[9,9] },3,some (9,true)⟩,⟨30,.binOp .geq 3 (.tmp 29) (.const (.int .i64 0)) 3,4,some (9,true)⟩,⟨31,.pick (.tmp 19) (.tmp 30) (.const (.bool false)),4,some (6,false)⟩,⟨32,.pick (.tmp 16) (.const (.bool true)) (.tmp 31),4,none⟩]
theorem Jg3  : Jq RRC=LRC.map some:=by kernel_rfl
def ARC  : List (List Nat):=[[],[],[0,1],[2],[3],[4],[5],[6],[6,7],[6,8],[9],[9],[9,11],[9,10,12],[9,13],[9],[9],[9,15,16],[9,17],[9,14,18],[9,19],[6,9,20],[6,21]]
def VRC (bl off kl kc j m:Nat) (x y:ByteArray) (z:Int) (b:Bool):List Value:=[.slice (some ⟨bl,off,none⟩) kl kc,.int .i64 (j:Int),.pointer (some ⟨bl,off+j,none⟩),.string x,.bool true,.bool false,.bool false,.int .i64 (j:Int),.bool true,.bool true,.slice (some ⟨bl,off,none⟩) kl kc,.int .i64 (j:Int),.int .i64 (m:Int),.pointer (some ⟨bl,off+m,none⟩),.string y,.slice (some ⟨bl,off,none⟩) kl kc,.int .i64 (j:Int),.pointer (some ⟨bl,off+j,none⟩),.string x,.int .i64 z,.bool b,.bool b,.bool b]
structure Zzb (bl off kl kc j m:Nat) (x y:ByteArray) (z:Int) (b:Bool) (c:Act):Prop where
 t0:c.eval (.tmp 0)=.slice (some ⟨bl,off,none⟩) kl kc
 t3:c.eval (.tmp 3)=.int .i64 (j:Int)
structure Zvq (bl off kl kc j m:Nat) (x y:ByteArray) (z:Int) (b:Bool) (w:World):Prop where
 cx:w.cell? ⟨bl,off+j,none⟩=some (.string x)
 cy:w.cell? ⟨bl,off+m,none⟩=some (.string y)
 kn:Calls Tryz.prog 43 #[.string x] w fun e w'=>e=.returned (.bool true)∧Below w.heap.size w w'
 kt:Calls Tryz.prog 102 #[.string y,.string x] w fun e w'=>e=.returned (.int .i64 z)∧Below w.heap.size w w'
 jp:decide ((0:Int)<(j:Int))=true
 kj:(j:Int) - 1=(m:Int)
 kw:IntKind.i64.wrap (m:Int)=(m:Int)
 mlt:m<kl
 zb:decide (z≥0)=b
 lt:j<kl
 le:kl≤9223372036854775807
theorem Zyp (bl off kl kc j m:Nat) (x y:ByteArray) (z:Int) (b:Bool) (Q:Exit→Act→World→Prop) (base:Act) (w0:World) (hsz:base.tmps.size=33) (hb:Zzb bl off kl kc j m x y z b base)
  (hW:∀ w,Below w0.heap.size w0 w→Zvq bl off kl kc j m x y z b w) (hQ:∀ c w,Zae RRC base c→Below w0.heap.size w0 w→c.eval (.tmp 32)=.bool b→Q .normal c w):(Code.region 4 RRC true).wp Tryz.prog Q base w0:=by
 refine Zr (B:=Zzb bl off kl kc j m x y z b) (T:=Zvq bl off kl kc j m x y z b) (n:=23) (k:=22) LRC ARC (VRC bl off kl kc j m x y z b) Jg3 rfl (by kernel_rfl) (by kernel_rfl) (by kernel_rfl) (by rw [hsz];kernel_rfl) (fun c hS=>⟨(Zc hS (by kernel_rfl)).trans hb.t0,(Zc hS (by kernel_rfl)).trans hb.t3⟩) hW ?_ (by decide) rfl rfl hQ
 clear hsz hb hW hQ
 iterate 23 (refine Zd ?_ (by
  intro c w hb hW hEq
  obtain ⟨t0,t3⟩:=hb
  obtain ⟨cx,cy,kn,kt,jp,kj,kw,mlt,zb,lt,le⟩:=hW
  have ec:=evc c
  have ef:=evf c
  dsimp only [ARC,LRC,VRC,nth,Zcm,Zbd,Jl] at hEq ⊢
  first
  | exact ⟨by first | exact hEq.1 | exact hEq.2.1 | exact hEq.2.2.1 | exact hEq.2.2.2.1,.inr ⟨by first | exact .inl rfl | exact .inr rfl,rfl⟩⟩
  | ((try refine ⟨by first | exact hEq.1 | exact hEq.2.1 | exact hEq.2.2.1 | exact hEq.2.2.2.1,.inl ⟨rfl,?_⟩⟩);first | (refine Zm Tryz.call43 kn ?_;simp only [List.map_toArray,List.map_cons,List.map_nil,hEq];done) | (refine Zm Tryz.call102 kt ?_;simp only [List.map_toArray,List.map_cons,List.map_nil,hEq];done) | (refine .inl fun pos af=>?_;(clear kn kt;dsimp only [Sig.oper];generalize c.eval=ρ at *;go_simp;done)) | (refine .inl fun pos af=>?_;clear kn kt;dsimp only [Sig.oper];generalize c.eval=ρ at *;go_simp;simp at jp;omega))))
 exact Zj
end
section
open Go.RowKit Go.Shelf
set_option linter.all false
attribute [local go_sem] Oper.semAt_some
def Zda  : Option ByteArray→List ByteArray→Bool
 | _,[]=>true
 | p,x::r=>Jn x.data.toList&&(match p with | none=>true | some y=>decide (Lib.compareBytes y.data.toList x.data.toList<0))&&Zda (some x) r
def Zd0 (ks:List ByteArray):Nat→Option ByteArray
 | 0=>none
 | j+1=>ks[j]?
theorem Zj3 {ks:List ByteArray} {j:Nat} {x:ByteArray} (h:ks[j]?=some x):Zda (Zd0 ks j) (ks.drop j)=(Jn x.data.toList&&(match Zd0 ks j with | none=>true | some y=>decide (Lib.compareBytes y.data.toList x.data.toList<0))&&Zda (Zd0 ks (j+1)) (ks.drop (j+1))):=by
 obtain ⟨hj,hx⟩:=List.getElem?_eq_some_iff.1 h
 have e:Zd0 ks (j+1)=some x:=h
 rw [List.drop_eq_getElem_cons hj,hx,e]
 cases Zd0 ks j<;>rfl
set_option maxRecDepth 100000 in
set_option maxHeartbeats 4000000 in
theorem Zsa (ks:List ByteArray) (B:Nat) (ka:Option Addr) (kc:Nat) (w:World) (hB:B≤w.heap.size) (hk:Jv B w ka ks) (h1:ks.length≤kc) (h2:kc≤9223372036854775807) (hs:∀ x ∈ ks,x.size≤140737488355328) :
  Calls Tryz.prog 41 #[.slice ka ks.length kc] w fun e w'=>e=.returned (.bool (Zda none ks))∧Below w.heap.size w w':=by
 have HK:=Zb hk
 have HS:=Zb hs
 obtain ⟨n,hn⟩:∃ n,ks.length=n:=⟨_,rfl⟩
 have HN:=Zb hn
 rw [hn] at h1 ⊢
 obtain ⟨res,hres⟩:∃ r,Zda none ks=r:=⟨_,rfl⟩
 have HR:=Zb hres
 rw [hres]
 clear hk hs hn hres
 go_enter Tryz.func41,Tryz.ntmps41
 go_wp2_with fail
 go_loopw [3] (fun i wr=>∃ j:Nat,j≤n∧i=.int .i64 j∧Below w.heap.size w wr∧Zda (Zd0 ks j) (ks.drop j)=res) (fun i _=>n - (intOf i).toNat)
 case atStart=>exact ⟨0,Nat.zero_le _,rfl,Below.refl _ _,HR.out⟩
 case round =>
  obtain ⟨j,hj,rfl,hbr,hrs⟩:=hrel
  have HBR:=Zb hbr
  have HRS:=Zb hrs
  clear hbr hrs
  have hwz:w.heap.size≤wr.heap.size:=HBR.out.size
  by_cases hlt:j<n
  ·have hlt':(j:Int)<n:=by omega
   obtain ⟨x,hx⟩:∃ x,ks[j]?=some x:=⟨_,List.getElem?_eq_getElem (by have:=HN.out;omega)⟩
   have HX:=Zb hx
   obtain ⟨bl,off,rfl,hbl,hc⟩:=HK.out.resolve_left (by intro e;rw [e] at hx;simp at hx)
   have hat:∀ i y,ks[i]?=some y→wr.cell? ⟨bl,off+i,none⟩=some (.string y):=fun i y hy=>by
    have hi:=(List.getElem?_eq_some_iff.1 hy).1
    have:=(hc i hi).1
    rw [List.getD_eq_getElem?_getD,hy] at this
    exact (HBR.out.cell (p:=⟨bl,off+i,none⟩) (by show bl<w.heap.size;omega)).trans this
   have cx:=hat j x hx
   have hxs:x.size≤140737488355328:=HS.out x (List.mem_of_getElem? hx)
   have HAT:=Zb hat
   have HNM:=Zb (fun W=>Zit x W hxs)
   clear hc hx hat
   cases hnx:Jn x.data.toList with
   | false =>
    rw [hnx] at HNM
    have HF:Hid (res=false):=by
     show _=_
     rw [← HRS.out,Zj3 HX.out,hnx];rfl
    clear hnx
    go_upto_region 4 with fail
    show (Code.region 4 RRA true).wp _ _ _ _
    refine Zyn bl off n kc j 0 x ⟨#[]⟩ 0 false _ _ _ rfl ⟨rfl,rfl⟩ ?_ ?_
    ·intro W hW
     exact ⟨(hW.cell (p:=⟨bl,off+j,none⟩) (by show bl<wr.heap.size;omega)).trans cx,(HNM.out W).mono fun e w' ⟨h1,h2⟩=>⟨h1,h2▸Below.refl _ _⟩,by omega,by omega⟩
    intro c W2 hS hB2 e32
    rw [Zs hS [10,11,12,13,14,15,16,17,18,19,20,21,22,23,24,25,26,27,28,29,30,31,32] (by kernel_rfl)]
    simp only [List.foldl_cons,List.foldl_nil,List.setIfInBounds_toArray,List.set_cons_succ,List.set_cons_zero,show Zcs c 32=_ from e32]
    clear e32 hS
    have HB2:=Zb (Za HBR.out hB2)
    clear hB2
    go_wp2_with fail
    go_ret
    exact ⟨by rw [HF.out];rfl,HB2.out⟩
   | true =>
    rw [hnx] at HNM
    by_cases hj0:j=0
    ·have hjz:decide ((0:Int)<(j:Int))=false:=by simp;omega
     have HN2:Hid (Zda (Zd0 ks (j+1)) (ks.drop (j+1))=res):=by
      show _=_
      rw [← HRS.out,Zj3 HX.out,hnx,hj0];rfl
     have HJ:=Zb hj0
     clear hnx hj0
     go_upto_region 4 with fail
     show (Code.region 4 RRB true).wp _ _ _ _
     refine Zyo bl off n kc j 0 x ⟨#[]⟩ 0 false _ _ _ rfl ⟨rfl,rfl⟩ ?_ ?_
     ·intro W hW
      exact ⟨(hW.cell (p:=⟨bl,off+j,none⟩) (by show bl<wr.heap.size;omega)).trans cx,(HNM.out W).mono fun e w' ⟨h1,h2⟩=>⟨h1,h2▸Below.refl _ _⟩,hjz,by omega,by omega⟩
     intro c W2 hS hB2 e32
     rw [Zs hS [10,11,12,13,14,15,16,17,18,19,20,21,22,23,24,25,26,27,28,29,30,31,32] (by kernel_rfl)]
     simp only [List.foldl_cons,List.foldl_nil,List.setIfInBounds_toArray,List.set_cons_succ,List.set_cons_zero,show Zcs c 32=_ from e32]
     clear e32 hS
     have HB2:=Zb (Za HBR.out hB2)
     clear hB2
     go_wp2_with fail
     go_roundw
     case rel=>exact ⟨j+1,by omega,by go_num,HB2.out,HN2.out⟩
     case measure=>simp [intOf];omega
    ·obtain ⟨m,hm⟩:∃ m,j=m+1:=⟨j - 1,by omega⟩
     obtain ⟨y,hy⟩:∃ y,ks[m]?=some y:=⟨_,List.getElem?_eq_getElem (by have:=HN.out;omega)⟩
     have cy:=HAT.out m y hy
     have hys:y.size≤140737488355328:=HS.out y (List.mem_of_getElem? hy)
     have hjp:decide ((0:Int)<(j:Int))=true:=by simp;omega
     have hjm:(j:Int) - 1=(m:Int):=by omega
     have hmw:IntKind.i64.wrap (m:Int)=(m:Int):=by rw [IntKind.wrap_i64];omega
     have hml:m<n:=by omega
     have HTX:=Zb (fun W=>Zl7 y x W (by omega) (by omega))
     obtain ⟨z,hz⟩:∃ z,Lib.compareBytes y.data.toList x.data.toList=z:=⟨_,rfl⟩
     rw [hz] at HTX
     obtain ⟨b,hb⟩:∃ b,decide (z≥0)=b:=⟨_,rfl⟩
     have HN2:Hid ((!b&&Zda (Zd0 ks (j+1)) (ks.drop (j+1)))=res):=by
      show _=_
      rw [← HRS.out,Zj3 HX.out,hnx]
      have e:Zd0 ks j=some y:=by rw [hm];exact hy
      rw [e]
      simp only [Bool.true_and]
      have e2:decide (Lib.compareBytes y.data.toList x.data.toList<0)=!b:=by
       rw [hz,← hb]
       by_cases h:z<0
       ·simp [h]
        try omega
       ·simp [h]
        try omega
      rw [e2]
     have HJM:=Zb hjm
     have HMW:=Zb hmw
     clear hnx hj0 hy hz hjm hmw hm
     go_upto_region 4 with fail
     show (Code.region 4 RRC true).wp _ _ _ _
     refine Zyp bl off n kc j m x y z b _ _ _ rfl ⟨rfl,rfl⟩ ?_ ?_
     ·intro W hW
      exact ⟨(hW.cell (p:=⟨bl,off+j,none⟩) (by show bl<wr.heap.size;omega)).trans cx,(hW.cell (p:=⟨bl,off+m,none⟩) (by show bl<wr.heap.size;omega)).trans cy,(HNM.out W).mono fun e w' ⟨h1,h2⟩=>⟨h1,h2▸Below.refl _ _⟩,(HTX.out W).mono fun e w' ⟨h1,q,h2⟩=>⟨h1,h2▸⟨rfl,rfl,rfl,Nat.le_refl _,fun _ _=>rfl⟩⟩,hjp,HJM.out,HMW.out,hml,hb,by omega,by omega⟩
     intro c W2 hS hB2 e32
     rw [Zs hS [10,11,12,13,14,15,16,17,18,19,20,21,22,23,24,25,26,27,28,29,30,31,32] (by kernel_rfl)]
     simp only [List.foldl_cons,List.foldl_nil,List.setIfInBounds_toArray,List.set_cons_succ,List.set_cons_zero,show Zcs c 32=_ from e32]
     clear e32 hS
     have HB2:=Zb (Za HBR.out hB2)
     clear hB2 hjp hb
     cases b with
     | true =>
      have HF:Hid (res=false):=HN2.out.symm
      go_wp2_with fail
      go_ret
      exact ⟨by rw [HF.out];rfl,HB2.out⟩
     | false =>
      have HN3:Hid (Zda (Zd0 ks (j+1)) (ks.drop (j+1))=res):=HN2.out
      go_wp2_with fail
      go_roundw
      case rel=>exact ⟨j+1,by omega,by go_num,HB2.out,HN3.out⟩
      case measure=>simp [intOf];omega
  ·have HF:Hid (res=true):=by
    show _=_
    rw [← HRS.out,List.drop_of_length_le (by have:=HN.out;omega)]
    cases Zd0 ks j<;>rfl
   have hlt':¬ (j:Int)<n:=by omega
   go_wp2_with fail
   go_ret
   exact ⟨by rw [HF.out];rfl,HBR.out⟩
end
