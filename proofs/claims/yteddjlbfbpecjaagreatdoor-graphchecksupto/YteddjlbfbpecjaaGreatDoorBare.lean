/- Whether what a value does not use is zero, as the document has it. -/
import Derived.Test.YteddjlbfbpecjaaGreatDoorJoin22
namespace Go.Proofs.YteddjlbfbpecjaaGreatDoor
open Go.RowKit Go.Shelf
set_option maxHeartbeats 2000000
set_option maxRecDepth 100000
set_option linter.unusedVariables false
def rbareB (k:Int) (b:Bool) (n:Int) (s:ByteArray) (kl ll:Nat):Bool :=
 ((k==1)||!b)&&(((k==2)||((k==6)||((k==7)||(n==0))))&&(((k==3)||s.toList.isEmpty)&&(((k==5)||decide (kl=0))&&((k==4)||((k==5)||decide (ll=0))))))
theorem rbare_1 (k:Int) (b:Bool) (n:Int) (s:ByteArray) (ka:Option Addr) (kl kc:Nat) (la:Option Addr) (ll lc:Nat) (w:World) (hk:k=1) :
  Calls Tryz.prog 153 #[.agg #[.int .i64 k,.bool b,.int .i64 n,.string s,.slice ka kl kc,.slice la ll lc]] w fun e w'=>e=.returned (.bool (rbareB k b n s kl ll))∧Below w.heap.size w w':=by
 have HB:=hidE ((Below.refl w.heap.size w).alloc (Nat.le_refl _) (.cells #[.int .i64 k,.bool b,.int .i64 n,.string s,.slice ka kl kc,.slice la ll lc] 60))
 have e1:(k==1)=true:=eq_bool hk
 have e2:(k==2)=false:=ne_bool (by omega)
 have e6:(k==6)=false:=ne_bool (by omega)
 have e7:(k==7)=false:=ne_bool (by omega)
 have e3:(k==3)=false:=ne_bool (by omega)
 have e5:(k==5)=false:=ne_bool (by omega)
 have e4:(k==4)=false:=ne_bool (by omega)
 clear hk
 cases en:(n==0) with
 | false =>
  have HR:Hid (rbareB k b n s kl ll=false):=by show _=_;simp [rbareB,e1,e2,e6,e7,e3,e5,e4,en]
  go_enter Tryz.func153,Tryz.ntmps153
  go_wp2_with fail
  go_ret
  exact ⟨by rw [HR.out];rfl,HB.out⟩
 | true =>
  cases es:s.toList.isEmpty with
  | false =>
   have HR:Hid (rbareB k b n s kl ll=false):=by show _=_;simp [rbareB,e1,e2,e6,e7,e3,e5,e4,en,es]
   go_enter Tryz.func153,Tryz.ntmps153
   go_wp2_with fail
   go_ret
   exact ⟨by rw [HR.out];rfl,HB.out⟩
  | true =>
   by_cases ek:kl=0
   case neg =>
    have ek2:((kl:Int)==0)=false:=ne_bool (by omega)
    have HR:Hid (rbareB k b n s kl ll=false):=by show _=_;simp [rbareB,e1,e2,e6,e7,e3,e5,e4,en,es,ek]
    go_enter Tryz.func153,Tryz.ntmps153
    go_wp2_with fail
    go_ret
    exact ⟨by rw [HR.out];rfl,HB.out⟩
   subst ek
   by_cases el:ll=0
   case neg =>
    have el2:((ll:Int)==0)=false:=ne_bool (by omega)
    have HR:Hid (rbareB k b n s 0 ll=false):=by show _=_;simp [rbareB,e1,e2,e6,e7,e3,e5,e4,en,es,el]
    go_enter Tryz.func153,Tryz.ntmps153
    go_wp2_with fail
    go_ret
    exact ⟨by rw [HR.out];rfl,HB.out⟩
   subst el
   have HR:Hid (rbareB k b n s 0 0=true):=by show _=_;simp [rbareB,e1,e2,e6,e7,e3,e5,e4,en,es]
   go_enter Tryz.func153,Tryz.ntmps153
   go_wp2_with fail
   go_ret
   exact ⟨by rw [HR.out];rfl,HB.out⟩
theorem rbare_2 (k:Int) (b:Bool) (n:Int) (s:ByteArray) (ka:Option Addr) (kl kc:Nat) (la:Option Addr) (ll lc:Nat) (w:World) (hk:k=2) :
  Calls Tryz.prog 153 #[.agg #[.int .i64 k,.bool b,.int .i64 n,.string s,.slice ka kl kc,.slice la ll lc]] w fun e w'=>e=.returned (.bool (rbareB k b n s kl ll))∧Below w.heap.size w w':=by
 have HB:=hidE ((Below.refl w.heap.size w).alloc (Nat.le_refl _) (.cells #[.int .i64 k,.bool b,.int .i64 n,.string s,.slice ka kl kc,.slice la ll lc] 60))
 have e1:(k==1)=false:=ne_bool (by omega)
 have e2:(k==2)=true:=eq_bool hk
 have e6:(k==6)=false:=ne_bool (by omega)
 have e7:(k==7)=false:=ne_bool (by omega)
 have e3:(k==3)=false:=ne_bool (by omega)
 have e5:(k==5)=false:=ne_bool (by omega)
 have e4:(k==4)=false:=ne_bool (by omega)
 clear hk
 cases b with
 | true =>
  have HR:Hid (rbareB k true n s kl ll=false):=by show _=_;simp [rbareB,e1,e2,e6,e7,e3,e5,e4]
  go_enter Tryz.func153,Tryz.ntmps153
  go_wp2_with fail
  go_ret
  exact ⟨by rw [HR.out];rfl,HB.out⟩
 | false =>
  cases es:s.toList.isEmpty with
  | false =>
   have HR:Hid (rbareB k false n s kl ll=false):=by show _=_;simp [rbareB,e1,e2,e6,e7,e3,e5,e4,es]
   go_enter Tryz.func153,Tryz.ntmps153
   go_wp2_with fail
   go_ret
   exact ⟨by rw [HR.out];rfl,HB.out⟩
  | true =>
   by_cases ek:kl=0
   case neg =>
    have ek2:((kl:Int)==0)=false:=ne_bool (by omega)
    have HR:Hid (rbareB k false n s kl ll=false):=by show _=_;simp [rbareB,e1,e2,e6,e7,e3,e5,e4,es,ek]
    go_enter Tryz.func153,Tryz.ntmps153
    go_wp2_with fail
    go_ret
    exact ⟨by rw [HR.out];rfl,HB.out⟩
   subst ek
   by_cases el:ll=0
   case neg =>
    have el2:((ll:Int)==0)=false:=ne_bool (by omega)
    have HR:Hid (rbareB k false n s 0 ll=false):=by show _=_;simp [rbareB,e1,e2,e6,e7,e3,e5,e4,es,el]
    go_enter Tryz.func153,Tryz.ntmps153
    go_wp2_with fail
    go_ret
    exact ⟨by rw [HR.out];rfl,HB.out⟩
   subst el
   have HR:Hid (rbareB k false n s 0 0=true):=by show _=_;simp [rbareB,e1,e2,e6,e7,e3,e5,e4,es]
   go_enter Tryz.func153,Tryz.ntmps153
   go_wp2_with fail
   go_ret
   exact ⟨by rw [HR.out];rfl,HB.out⟩
theorem rbare_3 (k:Int) (b:Bool) (n:Int) (s:ByteArray) (ka:Option Addr) (kl kc:Nat) (la:Option Addr) (ll lc:Nat) (w:World) (hk:k=3) :
  Calls Tryz.prog 153 #[.agg #[.int .i64 k,.bool b,.int .i64 n,.string s,.slice ka kl kc,.slice la ll lc]] w fun e w'=>e=.returned (.bool (rbareB k b n s kl ll))∧Below w.heap.size w w':=by
 have HB:=hidE ((Below.refl w.heap.size w).alloc (Nat.le_refl _) (.cells #[.int .i64 k,.bool b,.int .i64 n,.string s,.slice ka kl kc,.slice la ll lc] 60))
 have e1:(k==1)=false:=ne_bool (by omega)
 have e2:(k==2)=false:=ne_bool (by omega)
 have e6:(k==6)=false:=ne_bool (by omega)
 have e7:(k==7)=false:=ne_bool (by omega)
 have e3:(k==3)=true:=eq_bool hk
 have e5:(k==5)=false:=ne_bool (by omega)
 have e4:(k==4)=false:=ne_bool (by omega)
 clear hk
 cases b with
 | true =>
  have HR:Hid (rbareB k true n s kl ll=false):=by show _=_;simp [rbareB,e1,e2,e6,e7,e3,e5,e4]
  go_enter Tryz.func153,Tryz.ntmps153
  go_wp2_with fail
  go_ret
  exact ⟨by rw [HR.out];rfl,HB.out⟩
 | false =>
  cases en:(n==0) with
  | false =>
   have HR:Hid (rbareB k false n s kl ll=false):=by show _=_;simp [rbareB,e1,e2,e6,e7,e3,e5,e4,en]
   go_enter Tryz.func153,Tryz.ntmps153
   go_wp2_with fail
   go_ret
   exact ⟨by rw [HR.out];rfl,HB.out⟩
  | true =>
   by_cases ek:kl=0
   case neg =>
    have ek2:((kl:Int)==0)=false:=ne_bool (by omega)
    have HR:Hid (rbareB k false n s kl ll=false):=by show _=_;simp [rbareB,e1,e2,e6,e7,e3,e5,e4,en,ek]
    go_enter Tryz.func153,Tryz.ntmps153
    go_wp2_with fail
    go_ret
    exact ⟨by rw [HR.out];rfl,HB.out⟩
   subst ek
   by_cases el:ll=0
   case neg =>
    have el2:((ll:Int)==0)=false:=ne_bool (by omega)
    have HR:Hid (rbareB k false n s 0 ll=false):=by show _=_;simp [rbareB,e1,e2,e6,e7,e3,e5,e4,en,el]
    go_enter Tryz.func153,Tryz.ntmps153
    go_wp2_with fail
    go_ret
    exact ⟨by rw [HR.out];rfl,HB.out⟩
   subst el
   have HR:Hid (rbareB k false n s 0 0=true):=by show _=_;simp [rbareB,e1,e2,e6,e7,e3,e5,e4,en]
   go_enter Tryz.func153,Tryz.ntmps153
   go_wp2_with fail
   go_ret
   exact ⟨by rw [HR.out];rfl,HB.out⟩
theorem rbare_4 (k:Int) (b:Bool) (n:Int) (s:ByteArray) (ka:Option Addr) (kl kc:Nat) (la:Option Addr) (ll lc:Nat) (w:World) (hk:k=4) :
  Calls Tryz.prog 153 #[.agg #[.int .i64 k,.bool b,.int .i64 n,.string s,.slice ka kl kc,.slice la ll lc]] w fun e w'=>e=.returned (.bool (rbareB k b n s kl ll))∧Below w.heap.size w w':=by
 have HB:=hidE ((Below.refl w.heap.size w).alloc (Nat.le_refl _) (.cells #[.int .i64 k,.bool b,.int .i64 n,.string s,.slice ka kl kc,.slice la ll lc] 60))
 have e1:(k==1)=false:=ne_bool (by omega)
 have e2:(k==2)=false:=ne_bool (by omega)
 have e6:(k==6)=false:=ne_bool (by omega)
 have e7:(k==7)=false:=ne_bool (by omega)
 have e3:(k==3)=false:=ne_bool (by omega)
 have e5:(k==5)=false:=ne_bool (by omega)
 have e4:(k==4)=true:=eq_bool hk
 clear hk
 cases b with
 | true =>
  have HR:Hid (rbareB k true n s kl ll=false):=by show _=_;simp [rbareB,e1,e2,e6,e7,e3,e5,e4]
  go_enter Tryz.func153,Tryz.ntmps153
  go_wp2_with fail
  go_ret
  exact ⟨by rw [HR.out];rfl,HB.out⟩
 | false =>
  cases en:(n==0) with
  | false =>
   have HR:Hid (rbareB k false n s kl ll=false):=by show _=_;simp [rbareB,e1,e2,e6,e7,e3,e5,e4,en]
   go_enter Tryz.func153,Tryz.ntmps153
   go_wp2_with fail
   go_ret
   exact ⟨by rw [HR.out];rfl,HB.out⟩
  | true =>
   cases es:s.toList.isEmpty with
   | false =>
    have HR:Hid (rbareB k false n s kl ll=false):=by show _=_;simp [rbareB,e1,e2,e6,e7,e3,e5,e4,en,es]
    go_enter Tryz.func153,Tryz.ntmps153
    go_wp2_with fail
    go_ret
    exact ⟨by rw [HR.out];rfl,HB.out⟩
   | true =>
    by_cases ek:kl=0
    case neg =>
     have ek2:((kl:Int)==0)=false:=ne_bool (by omega)
     have HR:Hid (rbareB k false n s kl ll=false):=by show _=_;simp [rbareB,e1,e2,e6,e7,e3,e5,e4,en,es,ek]
     go_enter Tryz.func153,Tryz.ntmps153
     go_wp2_with fail
     go_ret
     exact ⟨by rw [HR.out];rfl,HB.out⟩
    subst ek
    have HR:Hid (rbareB k false n s 0 ll=true):=by show _=_;simp [rbareB,e1,e2,e6,e7,e3,e5,e4,en,es]
    go_enter Tryz.func153,Tryz.ntmps153
    go_wp2_with fail
    go_ret
    exact ⟨by rw [HR.out];rfl,HB.out⟩
theorem rbare_5 (k:Int) (b:Bool) (n:Int) (s:ByteArray) (ka:Option Addr) (kl kc:Nat) (la:Option Addr) (ll lc:Nat) (w:World) (hk:k=5) :
  Calls Tryz.prog 153 #[.agg #[.int .i64 k,.bool b,.int .i64 n,.string s,.slice ka kl kc,.slice la ll lc]] w fun e w'=>e=.returned (.bool (rbareB k b n s kl ll))∧Below w.heap.size w w':=by
 have HB:=hidE ((Below.refl w.heap.size w).alloc (Nat.le_refl _) (.cells #[.int .i64 k,.bool b,.int .i64 n,.string s,.slice ka kl kc,.slice la ll lc] 60))
 have e1:(k==1)=false:=ne_bool (by omega)
 have e2:(k==2)=false:=ne_bool (by omega)
 have e6:(k==6)=false:=ne_bool (by omega)
 have e7:(k==7)=false:=ne_bool (by omega)
 have e3:(k==3)=false:=ne_bool (by omega)
 have e5:(k==5)=true:=eq_bool hk
 have e4:(k==4)=false:=ne_bool (by omega)
 clear hk
 cases b with
 | true =>
  have HR:Hid (rbareB k true n s kl ll=false):=by show _=_;simp [rbareB,e1,e2,e6,e7,e3,e5,e4]
  go_enter Tryz.func153,Tryz.ntmps153
  go_wp2_with fail
  go_ret
  exact ⟨by rw [HR.out];rfl,HB.out⟩
 | false =>
  cases en:(n==0) with
  | false =>
   have HR:Hid (rbareB k false n s kl ll=false):=by show _=_;simp [rbareB,e1,e2,e6,e7,e3,e5,e4,en]
   go_enter Tryz.func153,Tryz.ntmps153
   go_wp2_with fail
   go_ret
   exact ⟨by rw [HR.out];rfl,HB.out⟩
  | true =>
   cases es:s.toList.isEmpty with
   | false =>
    have HR:Hid (rbareB k false n s kl ll=false):=by show _=_;simp [rbareB,e1,e2,e6,e7,e3,e5,e4,en,es]
    go_enter Tryz.func153,Tryz.ntmps153
    go_wp2_with fail
    go_ret
    exact ⟨by rw [HR.out];rfl,HB.out⟩
   | true =>
    have HR:Hid (rbareB k false n s kl ll=true):=by show _=_;simp [rbareB,e1,e2,e6,e7,e3,e5,e4,en,es]
    go_enter Tryz.func153,Tryz.ntmps153
    go_wp2_with fail
    go_ret
    exact ⟨by rw [HR.out];rfl,HB.out⟩
theorem rbare_6 (k:Int) (b:Bool) (n:Int) (s:ByteArray) (ka:Option Addr) (kl kc:Nat) (la:Option Addr) (ll lc:Nat) (w:World) (hk:k=6) :
  Calls Tryz.prog 153 #[.agg #[.int .i64 k,.bool b,.int .i64 n,.string s,.slice ka kl kc,.slice la ll lc]] w fun e w'=>e=.returned (.bool (rbareB k b n s kl ll))∧Below w.heap.size w w':=by
 have HB:=hidE ((Below.refl w.heap.size w).alloc (Nat.le_refl _) (.cells #[.int .i64 k,.bool b,.int .i64 n,.string s,.slice ka kl kc,.slice la ll lc] 60))
 have e1:(k==1)=false:=ne_bool (by omega)
 have e2:(k==2)=false:=ne_bool (by omega)
 have e6:(k==6)=true:=eq_bool hk
 have e7:(k==7)=false:=ne_bool (by omega)
 have e3:(k==3)=false:=ne_bool (by omega)
 have e5:(k==5)=false:=ne_bool (by omega)
 have e4:(k==4)=false:=ne_bool (by omega)
 clear hk
 cases b with
 | true =>
  have HR:Hid (rbareB k true n s kl ll=false):=by show _=_;simp [rbareB,e1,e2,e6,e7,e3,e5,e4]
  go_enter Tryz.func153,Tryz.ntmps153
  go_wp2_with fail
  go_ret
  exact ⟨by rw [HR.out];rfl,HB.out⟩
 | false =>
  cases es:s.toList.isEmpty with
  | false =>
   have HR:Hid (rbareB k false n s kl ll=false):=by show _=_;simp [rbareB,e1,e2,e6,e7,e3,e5,e4,es]
   go_enter Tryz.func153,Tryz.ntmps153
   go_wp2_with fail
   go_ret
   exact ⟨by rw [HR.out];rfl,HB.out⟩
  | true =>
   by_cases ek:kl=0
   case neg =>
    have ek2:((kl:Int)==0)=false:=ne_bool (by omega)
    have HR:Hid (rbareB k false n s kl ll=false):=by show _=_;simp [rbareB,e1,e2,e6,e7,e3,e5,e4,es,ek]
    go_enter Tryz.func153,Tryz.ntmps153
    go_wp2_with fail
    go_ret
    exact ⟨by rw [HR.out];rfl,HB.out⟩
   subst ek
   by_cases el:ll=0
   case neg =>
    have el2:((ll:Int)==0)=false:=ne_bool (by omega)
    have HR:Hid (rbareB k false n s 0 ll=false):=by show _=_;simp [rbareB,e1,e2,e6,e7,e3,e5,e4,es,el]
    go_enter Tryz.func153,Tryz.ntmps153
    go_wp2_with fail
    go_ret
    exact ⟨by rw [HR.out];rfl,HB.out⟩
   subst el
   have HR:Hid (rbareB k false n s 0 0=true):=by show _=_;simp [rbareB,e1,e2,e6,e7,e3,e5,e4,es]
   go_enter Tryz.func153,Tryz.ntmps153
   go_wp2_with fail
   go_ret
   exact ⟨by rw [HR.out];rfl,HB.out⟩
theorem rbare_7 (k:Int) (b:Bool) (n:Int) (s:ByteArray) (ka:Option Addr) (kl kc:Nat) (la:Option Addr) (ll lc:Nat) (w:World) (hk:k=7) :
  Calls Tryz.prog 153 #[.agg #[.int .i64 k,.bool b,.int .i64 n,.string s,.slice ka kl kc,.slice la ll lc]] w fun e w'=>e=.returned (.bool (rbareB k b n s kl ll))∧Below w.heap.size w w':=by
 have HB:=hidE ((Below.refl w.heap.size w).alloc (Nat.le_refl _) (.cells #[.int .i64 k,.bool b,.int .i64 n,.string s,.slice ka kl kc,.slice la ll lc] 60))
 have e1:(k==1)=false:=ne_bool (by omega)
 have e2:(k==2)=false:=ne_bool (by omega)
 have e6:(k==6)=false:=ne_bool (by omega)
 have e7:(k==7)=true:=eq_bool hk
 have e3:(k==3)=false:=ne_bool (by omega)
 have e5:(k==5)=false:=ne_bool (by omega)
 have e4:(k==4)=false:=ne_bool (by omega)
 clear hk
 cases b with
 | true =>
  have HR:Hid (rbareB k true n s kl ll=false):=by show _=_;simp [rbareB,e1,e2,e6,e7,e3,e5,e4]
  go_enter Tryz.func153,Tryz.ntmps153
  go_wp2_with fail
  go_ret
  exact ⟨by rw [HR.out];rfl,HB.out⟩
 | false =>
  cases es:s.toList.isEmpty with
  | false =>
   have HR:Hid (rbareB k false n s kl ll=false):=by show _=_;simp [rbareB,e1,e2,e6,e7,e3,e5,e4,es]
   go_enter Tryz.func153,Tryz.ntmps153
   go_wp2_with fail
   go_ret
   exact ⟨by rw [HR.out];rfl,HB.out⟩
  | true =>
   by_cases ek:kl=0
   case neg =>
    have ek2:((kl:Int)==0)=false:=ne_bool (by omega)
    have HR:Hid (rbareB k false n s kl ll=false):=by show _=_;simp [rbareB,e1,e2,e6,e7,e3,e5,e4,es,ek]
    go_enter Tryz.func153,Tryz.ntmps153
    go_wp2_with fail
    go_ret
    exact ⟨by rw [HR.out];rfl,HB.out⟩
   subst ek
   by_cases el:ll=0
   case neg =>
    have el2:((ll:Int)==0)=false:=ne_bool (by omega)
    have HR:Hid (rbareB k false n s 0 ll=false):=by show _=_;simp [rbareB,e1,e2,e6,e7,e3,e5,e4,es,el]
    go_enter Tryz.func153,Tryz.ntmps153
    go_wp2_with fail
    go_ret
    exact ⟨by rw [HR.out];rfl,HB.out⟩
   subst el
   have HR:Hid (rbareB k false n s 0 0=true):=by show _=_;simp [rbareB,e1,e2,e6,e7,e3,e5,e4,es]
   go_enter Tryz.func153,Tryz.ntmps153
   go_wp2_with fail
   go_ret
   exact ⟨by rw [HR.out];rfl,HB.out⟩
theorem rbare_x (k:Int) (b:Bool) (n:Int) (s:ByteArray) (ka:Option Addr) (kl kc:Nat) (la:Option Addr) (ll lc:Nat) (w:World) (h1:k≠1) (h2:k≠2) (h6:k≠6) (h7:k≠7) (h3:k≠3) (h5:k≠5) (h4:k≠4) :
  Calls Tryz.prog 153 #[.agg #[.int .i64 k,.bool b,.int .i64 n,.string s,.slice ka kl kc,.slice la ll lc]] w fun e w'=>e=.returned (.bool (rbareB k b n s kl ll))∧Below w.heap.size w w':=by
 have HB:=hidE ((Below.refl w.heap.size w).alloc (Nat.le_refl _) (.cells #[.int .i64 k,.bool b,.int .i64 n,.string s,.slice ka kl kc,.slice la ll lc] 60))
 have e1:(k==1)=false:=ne_bool h1
 have e2:(k==2)=false:=ne_bool h2
 have e6:(k==6)=false:=ne_bool h6
 have e7:(k==7)=false:=ne_bool h7
 have e3:(k==3)=false:=ne_bool h3
 have e5:(k==5)=false:=ne_bool h5
 have e4:(k==4)=false:=ne_bool h4
 clear h1 h2 h6 h7 h3 h5 h4
 cases b with
 | true =>
  have HR:Hid (rbareB k true n s kl ll=false):=by show _=_;simp [rbareB,e1,e2,e6,e7,e3,e5,e4]
  go_enter Tryz.func153,Tryz.ntmps153
  go_wp2_with fail
  go_ret
  exact ⟨by rw [HR.out];rfl,HB.out⟩
 | false =>
  cases en:(n==0) with
  | false =>
   have HR:Hid (rbareB k false n s kl ll=false):=by show _=_;simp [rbareB,e1,e2,e6,e7,e3,e5,e4,en]
   go_enter Tryz.func153,Tryz.ntmps153
   go_wp2_with fail
   go_ret
   exact ⟨by rw [HR.out];rfl,HB.out⟩
  | true =>
   cases es:s.toList.isEmpty with
   | false =>
    have HR:Hid (rbareB k false n s kl ll=false):=by show _=_;simp [rbareB,e1,e2,e6,e7,e3,e5,e4,en,es]
    go_enter Tryz.func153,Tryz.ntmps153
    go_wp2_with fail
    go_ret
    exact ⟨by rw [HR.out];rfl,HB.out⟩
   | true =>
    by_cases ek:kl=0
    case neg =>
     have ek2:((kl:Int)==0)=false:=ne_bool (by omega)
     have HR:Hid (rbareB k false n s kl ll=false):=by show _=_;simp [rbareB,e1,e2,e6,e7,e3,e5,e4,en,es,ek]
     go_enter Tryz.func153,Tryz.ntmps153
     go_wp2_with fail
     go_ret
     exact ⟨by rw [HR.out];rfl,HB.out⟩
    subst ek
    by_cases el:ll=0
    case neg =>
     have el2:((ll:Int)==0)=false:=ne_bool (by omega)
     have HR:Hid (rbareB k false n s 0 ll=false):=by show _=_;simp [rbareB,e1,e2,e6,e7,e3,e5,e4,en,es,el]
     go_enter Tryz.func153,Tryz.ntmps153
     go_wp2_with fail
     go_ret
     exact ⟨by rw [HR.out];rfl,HB.out⟩
    subst el
    have HR:Hid (rbareB k false n s 0 0=true):=by show _=_;simp [rbareB,e1,e2,e6,e7,e3,e5,e4,en,es]
    go_enter Tryz.func153,Tryz.ntmps153
    go_wp2_with fail
    go_ret
    exact ⟨by rw [HR.out];rfl,HB.out⟩
theorem rbare_any (k:Int) (b:Bool) (n:Int) (s:ByteArray) (ka:Option Addr) (kl kc:Nat) (la:Option Addr) (ll lc:Nat) (w:World) :
  Calls Tryz.prog 153 #[.agg #[.int .i64 k,.bool b,.int .i64 n,.string s,.slice ka kl kc,.slice la ll lc]] w fun e w'=>e=.returned (.bool (rbareB k b n s kl ll))∧Below w.heap.size w w':=by
 by_cases h1:k=1
 ·exact rbare_1 _ _ _ _ _ _ _ _ _ _ _ h1
 by_cases h2:k=2
 ·exact rbare_2 _ _ _ _ _ _ _ _ _ _ _ h2
 by_cases h6:k=6
 ·exact rbare_6 _ _ _ _ _ _ _ _ _ _ _ h6
 by_cases h7:k=7
 ·exact rbare_7 _ _ _ _ _ _ _ _ _ _ _ h7
 by_cases h3:k=3
 ·exact rbare_3 _ _ _ _ _ _ _ _ _ _ _ h3
 by_cases h5:k=5
 ·exact rbare_5 _ _ _ _ _ _ _ _ _ _ _ h5
 by_cases h4:k=4
 ·exact rbare_4 _ _ _ _ _ _ _ _ _ _ _ h4
 exact rbare_x _ _ _ _ _ _ _ _ _ _ _ h1 h2 h6 h7 h3 h5 h4
end Go.Proofs.YteddjlbfbpecjaaGreatDoor
