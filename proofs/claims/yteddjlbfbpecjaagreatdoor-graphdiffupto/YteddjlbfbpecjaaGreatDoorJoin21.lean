import Derived.Test.YteddjlbfbpecjaaGreatDoorJoin20
namespace Go.Proofs.YteddjlbfbpecjaaGreatDoor
set_option maxHeartbeats 4000000
set_option maxRecDepth 100000
set_option linter.all false
section
open Go.RowKit Go.Shelf
def rbareB (k:Int) (b:Bool) (n:Int) (s:ByteArray) (kl ll:Nat):Bool :=
 ((k==1)||!b)&&(((k==2)||((k==6)||((k==7)||(n==0))))&&(((k==3)||s.toList.isEmpty)&&(((k==5)||decide (kl=0))&&((k==4)||((k==5)||decide (ll=0))))))
theorem Jdd (k:Int) (b:Bool) (n:Int) (s:ByteArray) (ka:Option Addr) (kl kc:Nat) (la:Option Addr) (ll lc:Nat) (w:World) (l:k=1) :
  Calls Tryz.prog 153 #[.agg #[.int .i64 k,.bool b,.int .i64 n,.string s,.slice ka kl kc,.slice la ll lc]] w fun e w'=>e=.returned (.bool (rbareB k b n s kl ll))/\Below w.heap.size w w':=by
 have f:=Zb ((Below.refl w.heap.size w).alloc (Nat.le_refl _) (.cells #[.int .i64 k,.bool b,.int .i64 n,.string s,.slice ka kl kc,.slice la ll lc] 60))
 have e1:(k==1)=true:=Zah l
 have e2:(k==2)=false:=Zh (by omega)
 have j:(k==6)=false:=Zh (by omega)
 have h:(k==7)=false:=Zh (by omega)
 have g:(k==3)=false:=Zh (by omega)
 have i:(k==5)=false:=Zh (by omega)
 have d:(k==4)=false:=Zh (by omega)
 clear l
 cases en:(n==0) with
 | false =>
  have c:Hid (rbareB k b n s kl ll=false):=by show _=_;simp [rbareB,e1,e2,j,h,g,i,d,en]
  go_enter Tryz.func153,Tryz.ntmps153
  go_wp2_with fail
  go_ret
  exact ⟨by rw [c.out];rfl,f.out⟩
 | true =>
  cases es:s.toList.isEmpty with
  | false =>
   have c:Hid (rbareB k b n s kl ll=false):=by show _=_;simp [rbareB,e1,e2,j,h,g,i,d,en,es]
   go_enter Tryz.func153,Tryz.ntmps153
   go_wp2_with fail
   go_ret
   exact ⟨by rw [c.out];rfl,f.out⟩
  | true =>
   by_cases ek:kl=0
   case neg =>
    have m:((kl:Int)==0)=false:=Zh (by omega)
    have c:Hid (rbareB k b n s kl ll=false):=by show _=_;simp [rbareB,e1,e2,j,h,g,i,d,en,es,ek]
    go_enter Tryz.func153,Tryz.ntmps153
    go_wp2_with fail
    go_ret
    exact ⟨by rw [c.out];rfl,f.out⟩
   subst ek
   by_cases el:ll=0
   case neg =>
    have o:((ll:Int)==0)=false:=Zh (by omega)
    have c:Hid (rbareB k b n s 0 ll=false):=by show _=_;simp [rbareB,e1,e2,j,h,g,i,d,en,es,el]
    go_enter Tryz.func153,Tryz.ntmps153
    go_wp2_with fail
    go_ret
    exact ⟨by rw [c.out];rfl,f.out⟩
   subst el
   have c:Hid (rbareB k b n s 0 0=true):=by show _=_;simp [rbareB,e1,e2,j,h,g,i,d,en,es]
   go_enter Tryz.func153,Tryz.ntmps153
   go_wp2_with fail
   go_ret
   exact ⟨by rw [c.out];rfl,f.out⟩
theorem Jde (k:Int) (b:Bool) (n:Int) (s:ByteArray) (ka:Option Addr) (kl kc:Nat) (la:Option Addr) (ll lc:Nat) (w:World) (l:k=2) :
  Calls Tryz.prog 153 #[.agg #[.int .i64 k,.bool b,.int .i64 n,.string s,.slice ka kl kc,.slice la ll lc]] w fun e w'=>e=.returned (.bool (rbareB k b n s kl ll))/\Below w.heap.size w w':=by
 have f:=Zb ((Below.refl w.heap.size w).alloc (Nat.le_refl _) (.cells #[.int .i64 k,.bool b,.int .i64 n,.string s,.slice ka kl kc,.slice la ll lc] 60))
 have e1:(k==1)=false:=Zh (by omega)
 have e2:(k==2)=true:=Zah l
 have j:(k==6)=false:=Zh (by omega)
 have h:(k==7)=false:=Zh (by omega)
 have g:(k==3)=false:=Zh (by omega)
 have i:(k==5)=false:=Zh (by omega)
 have d:(k==4)=false:=Zh (by omega)
 clear l
 cases b with
 | true =>
  have c:Hid (rbareB k true n s kl ll=false):=by show _=_;simp [rbareB,e1,e2,j,h,g,i,d]
  go_enter Tryz.func153,Tryz.ntmps153
  go_wp2_with fail
  go_ret
  exact ⟨by rw [c.out];rfl,f.out⟩
 | false =>
  cases es:s.toList.isEmpty with
  | false =>
   have c:Hid (rbareB k false n s kl ll=false):=by show _=_;simp [rbareB,e1,e2,j,h,g,i,d,es]
   go_enter Tryz.func153,Tryz.ntmps153
   go_wp2_with fail
   go_ret
   exact ⟨by rw [c.out];rfl,f.out⟩
  | true =>
   by_cases ek:kl=0
   case neg =>
    have m:((kl:Int)==0)=false:=Zh (by omega)
    have c:Hid (rbareB k false n s kl ll=false):=by show _=_;simp [rbareB,e1,e2,j,h,g,i,d,es,ek]
    go_enter Tryz.func153,Tryz.ntmps153
    go_wp2_with fail
    go_ret
    exact ⟨by rw [c.out];rfl,f.out⟩
   subst ek
   by_cases el:ll=0
   case neg =>
    have o:((ll:Int)==0)=false:=Zh (by omega)
    have c:Hid (rbareB k false n s 0 ll=false):=by show _=_;simp [rbareB,e1,e2,j,h,g,i,d,es,el]
    go_enter Tryz.func153,Tryz.ntmps153
    go_wp2_with fail
    go_ret
    exact ⟨by rw [c.out];rfl,f.out⟩
   subst el
   have c:Hid (rbareB k false n s 0 0=true):=by show _=_;simp [rbareB,e1,e2,j,h,g,i,d,es]
   go_enter Tryz.func153,Tryz.ntmps153
   go_wp2_with fail
   go_ret
   exact ⟨by rw [c.out];rfl,f.out⟩
theorem Jdf (k:Int) (b:Bool) (n:Int) (s:ByteArray) (ka:Option Addr) (kl kc:Nat) (la:Option Addr) (ll lc:Nat) (w:World) (l:k=3) :
  Calls Tryz.prog 153 #[.agg #[.int .i64 k,.bool b,.int .i64 n,.string s,.slice ka kl kc,.slice la ll lc]] w fun e w'=>e=.returned (.bool (rbareB k b n s kl ll))/\Below w.heap.size w w':=by
 have f:=Zb ((Below.refl w.heap.size w).alloc (Nat.le_refl _) (.cells #[.int .i64 k,.bool b,.int .i64 n,.string s,.slice ka kl kc,.slice la ll lc] 60))
 have e1:(k==1)=false:=Zh (by omega)
 have e2:(k==2)=false:=Zh (by omega)
 have j:(k==6)=false:=Zh (by omega)
 have h:(k==7)=false:=Zh (by omega)
 have g:(k==3)=true:=Zah l
 have i:(k==5)=false:=Zh (by omega)
 have d:(k==4)=false:=Zh (by omega)
 clear l
 cases b with
 | true =>
  have c:Hid (rbareB k true n s kl ll=false):=by show _=_;simp [rbareB,e1,e2,j,h,g,i,d]
  go_enter Tryz.func153,Tryz.ntmps153
  go_wp2_with fail
  go_ret
  exact ⟨by rw [c.out];rfl,f.out⟩
 | false =>
  cases en:(n==0) with
  | false =>
   have c:Hid (rbareB k false n s kl ll=false):=by show _=_;simp [rbareB,e1,e2,j,h,g,i,d,en]
   go_enter Tryz.func153,Tryz.ntmps153
   go_wp2_with fail
   go_ret
   exact ⟨by rw [c.out];rfl,f.out⟩
  | true =>
   by_cases ek:kl=0
   case neg =>
    have m:((kl:Int)==0)=false:=Zh (by omega)
    have c:Hid (rbareB k false n s kl ll=false):=by show _=_;simp [rbareB,e1,e2,j,h,g,i,d,en,ek]
    go_enter Tryz.func153,Tryz.ntmps153
    go_wp2_with fail
    go_ret
    exact ⟨by rw [c.out];rfl,f.out⟩
   subst ek
   by_cases el:ll=0
   case neg =>
    have o:((ll:Int)==0)=false:=Zh (by omega)
    have c:Hid (rbareB k false n s 0 ll=false):=by show _=_;simp [rbareB,e1,e2,j,h,g,i,d,en,el]
    go_enter Tryz.func153,Tryz.ntmps153
    go_wp2_with fail
    go_ret
    exact ⟨by rw [c.out];rfl,f.out⟩
   subst el
   have c:Hid (rbareB k false n s 0 0=true):=by show _=_;simp [rbareB,e1,e2,j,h,g,i,d,en]
   go_enter Tryz.func153,Tryz.ntmps153
   go_wp2_with fail
   go_ret
   exact ⟨by rw [c.out];rfl,f.out⟩
theorem Jdg (k:Int) (b:Bool) (n:Int) (s:ByteArray) (ka:Option Addr) (kl kc:Nat) (la:Option Addr) (ll lc:Nat) (w:World) (l:k=4) :
  Calls Tryz.prog 153 #[.agg #[.int .i64 k,.bool b,.int .i64 n,.string s,.slice ka kl kc,.slice la ll lc]] w fun e w'=>e=.returned (.bool (rbareB k b n s kl ll))/\Below w.heap.size w w':=by
 have f:=Zb ((Below.refl w.heap.size w).alloc (Nat.le_refl _) (.cells #[.int .i64 k,.bool b,.int .i64 n,.string s,.slice ka kl kc,.slice la ll lc] 60))
 have e1:(k==1)=false:=Zh (by omega)
 have e2:(k==2)=false:=Zh (by omega)
 have j:(k==6)=false:=Zh (by omega)
 have h:(k==7)=false:=Zh (by omega)
 have g:(k==3)=false:=Zh (by omega)
 have i:(k==5)=false:=Zh (by omega)
 have d:(k==4)=true:=Zah l
 clear l
 cases b with
 | true =>
  have c:Hid (rbareB k true n s kl ll=false):=by show _=_;simp [rbareB,e1,e2,j,h,g,i,d]
  go_enter Tryz.func153,Tryz.ntmps153
  go_wp2_with fail
  go_ret
  exact ⟨by rw [c.out];rfl,f.out⟩
 | false =>
  cases en:(n==0) with
  | false =>
   have c:Hid (rbareB k false n s kl ll=false):=by show _=_;simp [rbareB,e1,e2,j,h,g,i,d,en]
   go_enter Tryz.func153,Tryz.ntmps153
   go_wp2_with fail
   go_ret
   exact ⟨by rw [c.out];rfl,f.out⟩
  | true =>
   cases es:s.toList.isEmpty with
   | false =>
    have c:Hid (rbareB k false n s kl ll=false):=by show _=_;simp [rbareB,e1,e2,j,h,g,i,d,en,es]
    go_enter Tryz.func153,Tryz.ntmps153
    go_wp2_with fail
    go_ret
    exact ⟨by rw [c.out];rfl,f.out⟩
   | true =>
    by_cases ek:kl=0
    case neg =>
     have m:((kl:Int)==0)=false:=Zh (by omega)
     have c:Hid (rbareB k false n s kl ll=false):=by show _=_;simp [rbareB,e1,e2,j,h,g,i,d,en,es,ek]
     go_enter Tryz.func153,Tryz.ntmps153
     go_wp2_with fail
     go_ret
     exact ⟨by rw [c.out];rfl,f.out⟩
    subst ek
    have c:Hid (rbareB k false n s 0 ll=true):=by show _=_;simp [rbareB,e1,e2,j,h,g,i,d,en,es]
    go_enter Tryz.func153,Tryz.ntmps153
    go_wp2_with fail
    go_ret
    exact ⟨by rw [c.out];rfl,f.out⟩
theorem Jdh (k:Int) (b:Bool) (n:Int) (s:ByteArray) (ka:Option Addr) (kl kc:Nat) (la:Option Addr) (ll lc:Nat) (w:World) (l:k=5) :
  Calls Tryz.prog 153 #[.agg #[.int .i64 k,.bool b,.int .i64 n,.string s,.slice ka kl kc,.slice la ll lc]] w fun e w'=>e=.returned (.bool (rbareB k b n s kl ll))/\Below w.heap.size w w':=by
 have f:=Zb ((Below.refl w.heap.size w).alloc (Nat.le_refl _) (.cells #[.int .i64 k,.bool b,.int .i64 n,.string s,.slice ka kl kc,.slice la ll lc] 60))
 have e1:(k==1)=false:=Zh (by omega)
 have e2:(k==2)=false:=Zh (by omega)
 have j:(k==6)=false:=Zh (by omega)
 have h:(k==7)=false:=Zh (by omega)
 have g:(k==3)=false:=Zh (by omega)
 have i:(k==5)=true:=Zah l
 have d:(k==4)=false:=Zh (by omega)
 clear l
 cases b with
 | true =>
  have c:Hid (rbareB k true n s kl ll=false):=by show _=_;simp [rbareB,e1,e2,j,h,g,i,d]
  go_enter Tryz.func153,Tryz.ntmps153
  go_wp2_with fail
  go_ret
  exact ⟨by rw [c.out];rfl,f.out⟩
 | false =>
  cases en:(n==0) with
  | false =>
   have c:Hid (rbareB k false n s kl ll=false):=by show _=_;simp [rbareB,e1,e2,j,h,g,i,d,en]
   go_enter Tryz.func153,Tryz.ntmps153
   go_wp2_with fail
   go_ret
   exact ⟨by rw [c.out];rfl,f.out⟩
  | true =>
   cases es:s.toList.isEmpty with
   | false =>
    have c:Hid (rbareB k false n s kl ll=false):=by show _=_;simp [rbareB,e1,e2,j,h,g,i,d,en,es]
    go_enter Tryz.func153,Tryz.ntmps153
    go_wp2_with fail
    go_ret
    exact ⟨by rw [c.out];rfl,f.out⟩
   | true =>
    have c:Hid (rbareB k false n s kl ll=true):=by show _=_;simp [rbareB,e1,e2,j,h,g,i,d,en,es]
    go_enter Tryz.func153,Tryz.ntmps153
    go_wp2_with fail
    go_ret
    exact ⟨by rw [c.out];rfl,f.out⟩
theorem Jdi (k:Int) (b:Bool) (n:Int) (s:ByteArray) (ka:Option Addr) (kl kc:Nat) (la:Option Addr) (ll lc:Nat) (w:World) (l:k=6) :
  Calls Tryz.prog 153 #[.agg #[.int .i64 k,.bool b,.int .i64 n,.string s,.slice ka kl kc,.slice la ll lc]] w fun e w'=>e=.returned (.bool (rbareB k b n s kl ll))/\Below w.heap.size w w':=by
 have f:=Zb ((Below.refl w.heap.size w).alloc (Nat.le_refl _) (.cells #[.int .i64 k,.bool b,.int .i64 n,.string s,.slice ka kl kc,.slice la ll lc] 60))
 have e1:(k==1)=false:=Zh (by omega)
 have e2:(k==2)=false:=Zh (by omega)
 have j:(k==6)=true:=Zah l
 have h:(k==7)=false:=Zh (by omega)
 have g:(k==3)=false:=Zh (by omega)
 have i:(k==5)=false:=Zh (by omega)
 have d:(k==4)=false:=Zh (by omega)
 clear l
 cases b with
 | true =>
  have c:Hid (rbareB k true n s kl ll=false):=by show _=_;simp [rbareB,e1,e2,j,h,g,i,d]
  go_enter Tryz.func153,Tryz.ntmps153
  go_wp2_with fail
  go_ret
  exact ⟨by rw [c.out];rfl,f.out⟩
 | false =>
  cases es:s.toList.isEmpty with
  | false =>
   have c:Hid (rbareB k false n s kl ll=false):=by show _=_;simp [rbareB,e1,e2,j,h,g,i,d,es]
   go_enter Tryz.func153,Tryz.ntmps153
   go_wp2_with fail
   go_ret
   exact ⟨by rw [c.out];rfl,f.out⟩
  | true =>
   by_cases ek:kl=0
   case neg =>
    have m:((kl:Int)==0)=false:=Zh (by omega)
    have c:Hid (rbareB k false n s kl ll=false):=by show _=_;simp [rbareB,e1,e2,j,h,g,i,d,es,ek]
    go_enter Tryz.func153,Tryz.ntmps153
    go_wp2_with fail
    go_ret
    exact ⟨by rw [c.out];rfl,f.out⟩
   subst ek
   by_cases el:ll=0
   case neg =>
    have o:((ll:Int)==0)=false:=Zh (by omega)
    have c:Hid (rbareB k false n s 0 ll=false):=by show _=_;simp [rbareB,e1,e2,j,h,g,i,d,es,el]
    go_enter Tryz.func153,Tryz.ntmps153
    go_wp2_with fail
    go_ret
    exact ⟨by rw [c.out];rfl,f.out⟩
   subst el
   have c:Hid (rbareB k false n s 0 0=true):=by show _=_;simp [rbareB,e1,e2,j,h,g,i,d,es]
   go_enter Tryz.func153,Tryz.ntmps153
   go_wp2_with fail
   go_ret
   exact ⟨by rw [c.out];rfl,f.out⟩
theorem Jdj (k:Int) (b:Bool) (n:Int) (s:ByteArray) (ka:Option Addr) (kl kc:Nat) (la:Option Addr) (ll lc:Nat) (w:World) (l:k=7) :
  Calls Tryz.prog 153 #[.agg #[.int .i64 k,.bool b,.int .i64 n,.string s,.slice ka kl kc,.slice la ll lc]] w fun e w'=>e=.returned (.bool (rbareB k b n s kl ll))/\Below w.heap.size w w':=by
 have f:=Zb ((Below.refl w.heap.size w).alloc (Nat.le_refl _) (.cells #[.int .i64 k,.bool b,.int .i64 n,.string s,.slice ka kl kc,.slice la ll lc] 60))
 have e1:(k==1)=false:=Zh (by omega)
 have e2:(k==2)=false:=Zh (by omega)
 have j:(k==6)=false:=Zh (by omega)
 have h:(k==7)=true:=Zah l
 have g:(k==3)=false:=Zh (by omega)
 have i:(k==5)=false:=Zh (by omega)
 have d:(k==4)=false:=Zh (by omega)
 clear l
 cases b with
 | true =>
  have c:Hid (rbareB k true n s kl ll=false):=by show _=_;simp [rbareB,e1,e2,j,h,g,i,d]
  go_enter Tryz.func153,Tryz.ntmps153
  go_wp2_with fail
  go_ret
  exact ⟨by rw [c.out];rfl,f.out⟩
 | false =>
  cases es:s.toList.isEmpty with
  | false =>
   have c:Hid (rbareB k false n s kl ll=false):=by show _=_;simp [rbareB,e1,e2,j,h,g,i,d,es]
   go_enter Tryz.func153,Tryz.ntmps153
   go_wp2_with fail
   go_ret
   exact ⟨by rw [c.out];rfl,f.out⟩
  | true =>
   by_cases ek:kl=0
   case neg =>
    have m:((kl:Int)==0)=false:=Zh (by omega)
    have c:Hid (rbareB k false n s kl ll=false):=by show _=_;simp [rbareB,e1,e2,j,h,g,i,d,es,ek]
    go_enter Tryz.func153,Tryz.ntmps153
    go_wp2_with fail
    go_ret
    exact ⟨by rw [c.out];rfl,f.out⟩
   subst ek
   by_cases el:ll=0
   case neg =>
    have o:((ll:Int)==0)=false:=Zh (by omega)
    have c:Hid (rbareB k false n s 0 ll=false):=by show _=_;simp [rbareB,e1,e2,j,h,g,i,d,es,el]
    go_enter Tryz.func153,Tryz.ntmps153
    go_wp2_with fail
    go_ret
    exact ⟨by rw [c.out];rfl,f.out⟩
   subst el
   have c:Hid (rbareB k false n s 0 0=true):=by show _=_;simp [rbareB,e1,e2,j,h,g,i,d,es]
   go_enter Tryz.func153,Tryz.ntmps153
   go_wp2_with fail
   go_ret
   exact ⟨by rw [c.out];rfl,f.out⟩
theorem Jdk (k:Int) (b:Bool) (n:Int) (s:ByteArray) (ka:Option Addr) (kl kc:Nat) (la:Option Addr) (ll lc:Nat) (w:World) (h1:k≠1) (h2:k≠2) (r:k≠6) (p:k≠7) (h3:k≠3) (t:k≠5) (q:k≠4) :
  Calls Tryz.prog 153 #[.agg #[.int .i64 k,.bool b,.int .i64 n,.string s,.slice ka kl kc,.slice la ll lc]] w fun e w'=>e=.returned (.bool (rbareB k b n s kl ll))/\Below w.heap.size w w':=by
 have f:=Zb ((Below.refl w.heap.size w).alloc (Nat.le_refl _) (.cells #[.int .i64 k,.bool b,.int .i64 n,.string s,.slice ka kl kc,.slice la ll lc] 60))
 have e1:(k==1)=false:=Zh h1
 have e2:(k==2)=false:=Zh h2
 have j:(k==6)=false:=Zh r
 have h:(k==7)=false:=Zh p
 have g:(k==3)=false:=Zh h3
 have i:(k==5)=false:=Zh t
 have d:(k==4)=false:=Zh q
 clear h1 h2 r p h3 t q
 cases b with
 | true =>
  have c:Hid (rbareB k true n s kl ll=false):=by show _=_;simp [rbareB,e1,e2,j,h,g,i,d]
  go_enter Tryz.func153,Tryz.ntmps153
  go_wp2_with fail
  go_ret
  exact ⟨by rw [c.out];rfl,f.out⟩
 | false =>
  cases en:(n==0) with
  | false =>
   have c:Hid (rbareB k false n s kl ll=false):=by show _=_;simp [rbareB,e1,e2,j,h,g,i,d,en]
   go_enter Tryz.func153,Tryz.ntmps153
   go_wp2_with fail
   go_ret
   exact ⟨by rw [c.out];rfl,f.out⟩
  | true =>
   cases es:s.toList.isEmpty with
   | false =>
    have c:Hid (rbareB k false n s kl ll=false):=by show _=_;simp [rbareB,e1,e2,j,h,g,i,d,en,es]
    go_enter Tryz.func153,Tryz.ntmps153
    go_wp2_with fail
    go_ret
    exact ⟨by rw [c.out];rfl,f.out⟩
   | true =>
    by_cases ek:kl=0
    case neg =>
     have m:((kl:Int)==0)=false:=Zh (by omega)
     have c:Hid (rbareB k false n s kl ll=false):=by show _=_;simp [rbareB,e1,e2,j,h,g,i,d,en,es,ek]
     go_enter Tryz.func153,Tryz.ntmps153
     go_wp2_with fail
     go_ret
     exact ⟨by rw [c.out];rfl,f.out⟩
    subst ek
    by_cases el:ll=0
    case neg =>
     have o:((ll:Int)==0)=false:=Zh (by omega)
     have c:Hid (rbareB k false n s 0 ll=false):=by show _=_;simp [rbareB,e1,e2,j,h,g,i,d,en,es,el]
     go_enter Tryz.func153,Tryz.ntmps153
     go_wp2_with fail
     go_ret
     exact ⟨by rw [c.out];rfl,f.out⟩
    subst el
    have c:Hid (rbareB k false n s 0 0=true):=by show _=_;simp [rbareB,e1,e2,j,h,g,i,d,en,es]
    go_enter Tryz.func153,Tryz.ntmps153
    go_wp2_with fail
    go_ret
    exact ⟨by rw [c.out];rfl,f.out⟩
theorem Zxy (k:Int) (b:Bool) (n:Int) (s:ByteArray) (ka:Option Addr) (kl kc:Nat) (la:Option Addr) (ll lc:Nat) (w:World) :
  Calls Tryz.prog 153 #[.agg #[.int .i64 k,.bool b,.int .i64 n,.string s,.slice ka kl kc,.slice la ll lc]] w fun e w'=>e=.returned (.bool (rbareB k b n s kl ll))/\Below w.heap.size w w':=by
 by_cases h1:k=1
 ·exact Jdd _ _ _ _ _ _ _ _ _ _ _ h1
 by_cases h2:k=2
 ·exact Jde _ _ _ _ _ _ _ _ _ _ _ h2
 by_cases r:k=6
 ·exact Jdi _ _ _ _ _ _ _ _ _ _ _ r
 by_cases p:k=7
 ·exact Jdj _ _ _ _ _ _ _ _ _ _ _ p
 by_cases h3:k=3
 ·exact Jdf _ _ _ _ _ _ _ _ _ _ _ h3
 by_cases t:k=5
 ·exact Jdh _ _ _ _ _ _ _ _ _ _ _ t
 by_cases q:k=4
 ·exact Jdg _ _ _ _ _ _ _ _ _ _ _ q
 exact Jdk _ _ _ _ _ _ _ _ _ _ _ h1 h2 r p h3 t q
end
section
open Go.RowKit Go.Shelf
theorem Zl1 (a b:Int) (w:World):Calls Tryz.prog 148 #[.int .i64 a,.int .i64 b] w fun e w'=>e=.returned (.int .i64 (Zcs a b))/\w'=w:=by
 unfold Zcs
 by_cases h1:a<b
 ·rw [if_pos h1]
  go_enter Tryz.func148,Tryz.ntmps148
  go_wp2
  go_ret
  exact ⟨rfl,rfl⟩
 ·rw [if_neg h1]
  by_cases h2:b<a
  ·rw [if_pos h2]
   go_enter Tryz.func148,Tryz.ntmps148
   go_wp2
   go_ret
   exact ⟨rfl,rfl⟩
  ·rw [if_neg h2]
   go_enter Tryz.func148,Tryz.ntmps148
   go_wp2
   go_ret
   exact ⟨rfl,rfl⟩
theorem Zex {s:ByteArray} {i:Nat} (h:i<s.size):s.data.toList.drop i=s[i]::s.data.toList.drop (i+1):=by
 have r:i<s.data.toList.length:=by simpa using h
 rw [List.drop_eq_getElem_cons r]
 rfl
theorem Zn2 {s t:ByteArray} {i:Nat} (h:i=s.size\/i=t.size) (h1:i<=s.size) (h2:i<=t.size) :
  Lib.compareBytes (s.data.toList.drop i) (t.data.toList.drop i)=Zcs s.size t.size:=by
 unfold Zcs
 have l1:s.data.toList.length=s.size:=by simp
 have l2:t.data.toList.length=t.size:=by simp
 by_cases a1:s.size<t.size
 ·rw [if_pos (by omega),List.drop_of_length_le (by omega),List.drop_eq_getElem_cons (by omega:i<t.data.toList.length)];rfl
 ·rw [if_neg (by omega)]
  by_cases a2:t.size<s.size
  ·rw [if_pos (by omega),List.drop_of_length_le (l:=t.data.toList) (by omega),List.drop_eq_getElem_cons (by omega:i<s.data.toList.length)];rfl
  ·rw [if_neg (by omega),List.drop_of_length_le (by omega),List.drop_of_length_le (by omega)];rfl
theorem Zz7 {s t:ByteArray} {i:Nat} (h1:i<s.size) (h2:i<t.size) (h:s[i].toNat=t[i].toNat) :
  Lib.compareBytes (s.data.toList.drop i) (t.data.toList.drop i)=Lib.compareBytes (s.data.toList.drop (i+1)) (t.data.toList.drop (i+1)):=by
 have e:s[i]=t[i]:=UInt8.toNat_inj.mp h
 rw [Zex h1,Zex h2,Lib.compareBytes,e,if_neg (by simp),if_neg (by simp)]
theorem Zz8 {s t:ByteArray} {i:Nat} (h1:i<s.size) (h2:i<t.size) (h:s[i].toNat≠t[i].toNat) :
  Lib.compareBytes (s.data.toList.drop i) (t.data.toList.drop i)=Zcs s[i].toNat t[i].toNat:=by
 rw [Zex h1,Zex h2,Lib.compareBytes]
 unfold Zcs
 by_cases a:s[i].toNat<t[i].toNat
 ·rw [if_pos (UInt8.lt_iff_toNat_lt.mpr a),if_pos (by omega)]
 ·have p:t[i].toNat<s[i].toNat:=by omega
  rw [if_neg (fun c=>a (UInt8.lt_iff_toNat_lt.mp c)),if_pos (UInt8.lt_iff_toNat_lt.mpr p),if_neg (by omega),if_pos (by omega)]
theorem Zn3 (b:UInt8):IntKind.i64.wrap (b.toNat:Int)=b.toNat:=by
 have:=b.toNat_lt
 rw [IntKind.wrap_i64]
 omega
set_option maxHeartbeats 1000000 in
theorem Zn4 (s t:ByteArray) (w:World) (u:s.size<=9223372036854775807) (v:t.size<=9223372036854775807) :
  Calls Tryz.prog 102 #[.string s,.string t] w fun e w'=>e=.returned (.int .i64 (Lib.compareBytes s.data.toList t.data.toList))/\∃ q,w'=w.drewN q:=by
 go_enter Tryz.func102,Tryz.ntmps102
 go_wp2_with fail
 go_loopw [5] (fun i wr=>∃ j:Nat,j<=s.size/\j<=t.size/\i=.int .i64 j/\(∃ q,wr=w.drewN q)/\Lib.compareBytes (s.data.toList.drop j) (t.data.toList.drop j)=Lib.compareBytes s.data.toList t.data.toList) (fun i _=>s.size - (intOf i).toNat)
 case atStart=>exact ⟨0,Nat.zero_le _,Nat.zero_le _,rfl,⟨0,rfl⟩,rfl⟩
 case round =>
  obtain ⟨j,n,g,rfl,⟨q,m⟩,k⟩:=hrel
  subst m
  have d:Hid (Lib.compareBytes (s.data.toList.drop j) (t.data.toList.drop j)=Lib.compareBytes s.data.toList t.data.toList):=k
  clear k
  by_cases h1:j<s.size
  ·by_cases h2:j<t.size
   ·by_cases h3:s[j].toNat=t[j].toNat
    ·have f:Hid (Lib.compareBytes (s.data.toList.drop (j+1)) (t.data.toList.drop (j+1))=Lib.compareBytes s.data.toList t.data.toList):=(Zz7 h1 h2 h3).symm.trans d.out
     have o:((s[j].toNat:Int)==(t[j].toNat:Int))=true:=Zah (by omega)
     clear h3 d
     go_wp2_with fail
     go_quiet (fail)
     go_wp2_with fail
     go_roundw
     case rel=>exact ⟨j+1,by omega,by omega,by go_num,⟨_,rfl⟩,f.out⟩
     case measure=>simp [intOf];omega
    ·have f:Hid (Zcs s[j].toNat t[j].toNat=Lib.compareBytes s.data.toList t.data.toList):=(Zz8 h1 h2 h3).symm.trans d.out
     have o:((s[j].toNat:Int)==(t[j].toNat:Int))=false:=Zh (by omega)
     clear h3 d
     go_wp2_with fail
     go_quiet (fail)
     go_wp2_with fail
     go_region_with (go_at_call 148;refine (Zl1 _ _ _).mono ?_;rintro e w' ⟨rfl,rfl⟩)
     all_goals
      go_wp2_with fail
      go_ret
      exact ⟨by rw [Zn3,Zn3,<- f.out];rfl,_,rfl⟩
   ·have f:Hid (Zcs s.size t.size=Lib.compareBytes s.data.toList t.data.toList):=(Zn2 (.inr (by omega)) n g).symm.trans d.out
    clear d
    go_wp2_with fail
    refine (Zl1 _ _ _).mono ?_;rintro e w' ⟨rfl,rfl⟩
    go_wp2_with fail
    go_ret
    exact ⟨by rw [<- f.out];rfl,_,rfl⟩
  ·have f:Hid (Zcs s.size t.size=Lib.compareBytes s.data.toList t.data.toList):=(Zn2 (.inl (by omega)) n g).symm.trans d.out
   clear d
   go_wp2_with fail
   refine (Zl1 _ _ _).mono ?_;rintro e w' ⟨rfl,rfl⟩
   go_wp2_with fail
   go_ret
   exact ⟨by rw [<- f.out];rfl,_,rfl⟩
end
section
open Go.RowKit Go.Shelf Go.WideShapes
noncomputable def RRA  : Array Oper:=Zy Tryz.f41 4
def LRA  : List Sig:=[⟨10,.move (.tmp 0),44,none⟩,⟨11,.move (.tmp 3),3,none⟩,⟨12,.indexAddr 44 (.tmp 10) (.tmp 11),0,none⟩,⟨13,.load 9 (.tmp 12),9,none⟩,⟨14,.call { callee:=.value (.func 43),args:=#[.tmp 13],argTypes:=#[9] },4,none⟩,⟨15,.unOp .not 4 (.tmp 14),4,none⟩,⟨16,.move (.tmp 15),4,none⟩,⟨17,.move (.tmp 3),3,some (6,false)⟩,⟨18,.binOp .gtr 3 (.tmp 17) (.const (.int .i64 0)) 3,4,some (6,false)⟩,⟨19,.move (.tmp 18),4,some (6,false)⟩,⟨20,.move (.tmp 0),44,some (9,true)⟩,⟨21,.move (.tmp 3),3,some (9,true)⟩,⟨22,.binOp .sub 3 (.tmp 21) (.const (.int .i64 1)) 3,3,some (9,true)⟩,⟨23,.indexAddr 44 (.tmp 20) (.tmp 22),0,some (9,true)⟩,⟨24,.load 9 (.tmp 23),9,some (9,true)⟩,⟨25,.move (.tmp 0),44,some (9,true)⟩,⟨26,.move (.tmp 3),3,some (9,true)⟩,⟨27,.indexAddr 44 (.tmp 25) (.tmp 26),0,some (9,true)⟩,⟨28,.load 9 (.tmp 27),9,some (9,true)⟩,⟨29,.call { callee:=.value (.func 102),args:=#[.tmp 24,.tmp 28],argTypes:=#[9,9] },3,some (9,true)⟩,⟨30,.binOp .geq 3 (.tmp 29) (.const (.int .i64 0)) 3,4,some (9,true)⟩,⟨31,.pick (.tmp 19) (.tmp 30) (.const (.bool false)),4,some (6,false)⟩,⟨32,.pick (.tmp 16) (.const (.bool true)) (.tmp 31),4,none⟩]
theorem Jlb  : Jh RRA=LRA.map some:=by kernel_rfl
def ARA  : List (List Nat):=[[],[],[0,1],[2],[3],[4],[5],[6],[6,7],[6,8],[9],[9],[9,11],[9,10,12],[9,13],[9],[9],[9,15,16],[9,17],[9,14,18],[9,19],[6,9,20],[6,21]]
def VRA (a off kl kc j m:Nat) (x y:ByteArray) (z:Int) (b:Bool):List Value:=[.slice (some ⟨a,off,none⟩) kl kc,.int .i64 (j:Int),.pointer (some ⟨a,off+j,none⟩),.string x,.bool false,.bool true,.bool true,undef,undef,undef,undef,undef,undef,undef,undef,undef,undef,undef,undef,undef,undef,undef,.bool true]
structure Jca (a off kl kc j m:Nat) (x y:ByteArray) (z:Int) (b:Bool) (c:Act):Prop where
 t0:c.eval (.tmp 0)=.slice (some ⟨a,off,none⟩) kl kc
 t3:c.eval (.tmp 3)=.int .i64 (j:Int)
structure Zyu (a off kl kc j m:Nat) (x y:ByteArray) (z:Int) (b:Bool) (w:World):Prop where
 cx:w.cell? ⟨a,off+j,none⟩=some (.string x)
 kn:Calls Tryz.prog 43 #[.string x] w fun e w'=>e=.returned (.bool false)/\Below w.heap.size w w'
 lt:j<kl
 le:kl<=9223372036854775807
theorem Jbn (a off kl kc j m:Nat) (x y:ByteArray) (z:Int) (b:Bool) (Q:Exit->Act->World->Prop) (base:Act) (f:World) (g:base.tmps.size=33) (d:Jca a off kl kc j m x y z b base)
  (h:∀ w,Below f.heap.size f w->Zyu a off kl kc j m x y z b w) (l:∀ c w,Zaf RRA base c->Below f.heap.size f w->c.eval (.tmp 32)=.bool true->Q .normal c w):(Code.region 4 RRA true).wp Tryz.prog Q base f:=by
 refine Zn (B:=Jca a off kl kc j m x y z b) (T:=Zyu a off kl kc j m x y z b) (n:=23) (k:=22) LRA ARA (VRA a off kl kc j m x y z b) Jlb rfl (by kernel_rfl) (by kernel_rfl) (by kernel_rfl) (by rw [g];kernel_rfl) (fun c i=>⟨(Zc i (by kernel_rfl)).trans d.t0,(Zc i (by kernel_rfl)).trans d.t3⟩) h ?_ (by decide) rfl rfl l
 clear g d h l
 iterate 23 (refine Zd ?_ (by
  intro c w d h hEq
  obtain ⟨t0,t3⟩:=d
  obtain ⟨cx,kn,lt,le⟩:=h
  have p:=evc c
  have q:=evf c
  dsimp only [ARA,LRA,VRA,nth,Zbm,Za2,Jc] at hEq |-
  first
  | exact ⟨by simp only [hEq],.inr ⟨by first | exact .inl rfl | exact .inr rfl,rfl⟩⟩
  | ((try refine ⟨by simp only [hEq],.inl ⟨rfl,?_⟩⟩);first | (refine Zk Tryz.call43 kn ?_;simp only [List.map_toArray,List.map_cons,List.map_nil,hEq];done) | (refine .inl fun pos o=>?_;(clear kn;dsimp only [Sig.oper];generalize c.eval=ρ at *;go_simp;done)))))
 exact Zf
noncomputable def RRB  : Array Oper:=Zy Tryz.f41 4
def LRB  : List Sig:=[⟨10,.move (.tmp 0),44,none⟩,⟨11,.move (.tmp 3),3,none⟩,⟨12,.indexAddr 44 (.tmp 10) (.tmp 11),0,none⟩,⟨13,.load 9 (.tmp 12),9,none⟩,⟨14,.call { callee:=.value (.func 43),args:=#[.tmp 13],argTypes:=#[9] },4,none⟩,⟨15,.unOp .not 4 (.tmp 14),4,none⟩,⟨16,.move (.tmp 15),4,none⟩,⟨17,.move (.tmp 3),3,some (6,false)⟩,⟨18,.binOp .gtr 3 (.tmp 17) (.const (.int .i64 0)) 3,4,some (6,false)⟩,⟨19,.move (.tmp 18),4,some (6,false)⟩,⟨20,.move (.tmp 0),44,some (9,true)⟩,⟨21,.move (.tmp 3),3,some (9,true)⟩,⟨22,.binOp .sub 3 (.tmp 21) (.const (.int .i64 1)) 3,3,some (9,true)⟩,⟨23,.indexAddr 44 (.tmp 20) (.tmp 22),0,some (9,true)⟩,⟨24,.load 9 (.tmp 23),9,some (9,true)⟩,⟨25,.move (.tmp 0),44,some (9,true)⟩,⟨26,.move (.tmp 3),3,some (9,true)⟩,⟨27,.indexAddr 44 (.tmp 25) (.tmp 26),0,some (9,true)⟩,⟨28,.load 9 (.tmp 27),9,some (9,true)⟩,⟨29,.call { callee:=.value (.func 102),args:=#[.tmp 24,.tmp 28],argTypes:=#[9,9] },3,some (9,true)⟩,⟨30,.binOp .geq 3 (.tmp 29) (.const (.int .i64 0)) 3,4,some (9,true)⟩,⟨31,.pick (.tmp 19) (.tmp 30) (.const (.bool false)),4,some (6,false)⟩,⟨32,.pick (.tmp 16) (.const (.bool true)) (.tmp 31),4,none⟩]
theorem Jlc  : Jh RRB=LRB.map some:=by kernel_rfl
def ARB  : List (List Nat):=[[],[],[0,1],[2],[3],[4],[5],[6],[6,7],[6,8],[9],[9],[9,11],[9,10,12],[9,13],[9],[9],[9,15,16],[9,17],[9,14,18],[9,19],[6,9,20],[6,21]]
def VRB (a off kl kc j m:Nat) (x y:ByteArray) (z:Int) (b:Bool):List Value:=[.slice (some ⟨a,off,none⟩) kl kc,.int .i64 (j:Int),.pointer (some ⟨a,off+j,none⟩),.string x,.bool true,.bool false,.bool false,.int .i64 (j:Int),.bool false,.bool false,undef,undef,undef,undef,undef,undef,undef,undef,undef,undef,undef,.bool false,.bool false]
structure Jcb (a off kl kc j m:Nat) (x y:ByteArray) (z:Int) (b:Bool) (c:Act):Prop where
 t0:c.eval (.tmp 0)=.slice (some ⟨a,off,none⟩) kl kc
 t3:c.eval (.tmp 3)=.int .i64 (j:Int)
structure Zyv (a off kl kc j m:Nat) (x y:ByteArray) (z:Int) (b:Bool) (w:World):Prop where
 cx:w.cell? ⟨a,off+j,none⟩=some (.string x)
 kn:Calls Tryz.prog 43 #[.string x] w fun e w'=>e=.returned (.bool true)/\Below w.heap.size w w'
 jz:decide ((0:Int)<(j:Int))=false
 lt:j<kl
 le:kl<=9223372036854775807
theorem Jbo (a off kl kc j m:Nat) (x y:ByteArray) (z:Int) (b:Bool) (Q:Exit->Act->World->Prop) (base:Act) (f:World) (g:base.tmps.size=33) (d:Jcb a off kl kc j m x y z b base)
  (h:∀ w,Below f.heap.size f w->Zyv a off kl kc j m x y z b w) (l:∀ c w,Zaf RRB base c->Below f.heap.size f w->c.eval (.tmp 32)=.bool false->Q .normal c w):(Code.region 4 RRB true).wp Tryz.prog Q base f:=by
 refine Zn (B:=Jcb a off kl kc j m x y z b) (T:=Zyv a off kl kc j m x y z b) (n:=23) (k:=22) LRB ARB (VRB a off kl kc j m x y z b) Jlc rfl (by kernel_rfl) (by kernel_rfl) (by kernel_rfl) (by rw [g];kernel_rfl) (fun c i=>⟨(Zc i (by kernel_rfl)).trans d.t0,(Zc i (by kernel_rfl)).trans d.t3⟩) h ?_ (by decide) rfl rfl l
 clear g d h l
 iterate 23 (refine Zd ?_ (by
  intro c w d h hEq
  obtain ⟨t0,t3⟩:=d
  obtain ⟨cx,kn,jz,lt,le⟩:=h
  have p:=evc c
  have q:=evf c
  dsimp only [ARB,LRB,VRB,nth,Zbm,Za2,Jc] at hEq |-
  first
  | exact ⟨by simp only [hEq],.inr ⟨by first | exact .inl rfl | exact .inr rfl,rfl⟩⟩
  | ((try refine ⟨by simp only [hEq],.inl ⟨rfl,?_⟩⟩);first | (refine Zk Tryz.call43 kn ?_;simp only [List.map_toArray,List.map_cons,List.map_nil,hEq];done) | (refine .inl fun pos o=>?_;(clear kn;dsimp only [Sig.oper];generalize c.eval=ρ at *;go_simp;done)) | (refine .inl fun pos o=>?_;clear kn;dsimp only [Sig.oper];generalize c.eval=ρ at *;go_simp;simp at jz;omega))))
 exact Zf
noncomputable def RRC  : Array Oper:=Zy Tryz.f41 4
def LRC  : List Sig:=[⟨10,.move (.tmp 0),44,none⟩,⟨11,.move (.tmp 3),3,none⟩,⟨12,.indexAddr 44 (.tmp 10) (.tmp 11),0,none⟩,⟨13,.load 9 (.tmp 12),9,none⟩,⟨14,.call { callee:=.value (.func 43),args:=#[.tmp 13],argTypes:=#[9] },4,none⟩,⟨15,.unOp .not 4 (.tmp 14),4,none⟩,⟨16,.move (.tmp 15),4,none⟩,⟨17,.move (.tmp 3),3,some (6,false)⟩,⟨18,.binOp .gtr 3 (.tmp 17) (.const (.int .i64 0)) 3,4,some (6,false)⟩,⟨19,.move (.tmp 18),4,some (6,false)⟩,⟨20,.move (.tmp 0),44,some (9,true)⟩,⟨21,.move (.tmp 3),3,some (9,true)⟩,⟨22,.binOp .sub 3 (.tmp 21) (.const (.int .i64 1)) 3,3,some (9,true)⟩,⟨23,.indexAddr 44 (.tmp 20) (.tmp 22),0,some (9,true)⟩,⟨24,.load 9 (.tmp 23),9,some (9,true)⟩,⟨25,.move (.tmp 0),44,some (9,true)⟩,⟨26,.move (.tmp 3),3,some (9,true)⟩,⟨27,.indexAddr 44 (.tmp 25) (.tmp 26),0,some (9,true)⟩,⟨28,.load 9 (.tmp 27),9,some (9,true)⟩,⟨29,.call { callee:=.value (.func 102),args:=#[.tmp 24,.tmp 28],argTypes:=#[9,9] },3,some (9,true)⟩,⟨30,.binOp .geq 3 (.tmp 29) (.const (.int .i64 0)) 3,4,some (9,true)⟩,⟨31,.pick (.tmp 19) (.tmp 30) (.const (.bool false)),4,some (6,false)⟩,⟨32,.pick (.tmp 16) (.const (.bool true)) (.tmp 31),4,none⟩]
theorem Jld  : Jh RRC=LRC.map some:=by kernel_rfl
def ARC  : List (List Nat):=[[],[],[0,1],[2],[3],[4],[5],[6],[6,7],[6,8],[9],[9],[9,11],[9,10,12],[9,13],[9],[9],[9,15,16],[9,17],[9,14,18],[9,19],[6,9,20],[6,21]]
def VRC (a off kl kc j m:Nat) (x y:ByteArray) (z:Int) (b:Bool):List Value:=[.slice (some ⟨a,off,none⟩) kl kc,.int .i64 (j:Int),.pointer (some ⟨a,off+j,none⟩),.string x,.bool true,.bool false,.bool false,.int .i64 (j:Int),.bool true,.bool true,.slice (some ⟨a,off,none⟩) kl kc,.int .i64 (j:Int),.int .i64 (m:Int),.pointer (some ⟨a,off+m,none⟩),.string y,.slice (some ⟨a,off,none⟩) kl kc,.int .i64 (j:Int),.pointer (some ⟨a,off+j,none⟩),.string x,.int .i64 z,.bool b,.bool b,.bool b]
structure Jcc (a off kl kc j m:Nat) (x y:ByteArray) (z:Int) (b:Bool) (c:Act):Prop where
 t0:c.eval (.tmp 0)=.slice (some ⟨a,off,none⟩) kl kc
 t3:c.eval (.tmp 3)=.int .i64 (j:Int)
structure Zyw (a off kl kc j m:Nat) (x y:ByteArray) (z:Int) (b:Bool) (w:World):Prop where
 cx:w.cell? ⟨a,off+j,none⟩=some (.string x)
 cy:w.cell? ⟨a,off+m,none⟩=some (.string y)
 kn:Calls Tryz.prog 43 #[.string x] w fun e w'=>e=.returned (.bool true)/\Below w.heap.size w w'
 kt:Calls Tryz.prog 102 #[.string y,.string x] w fun e w'=>e=.returned (.int .i64 z)/\Below w.heap.size w w'
 jp:decide ((0:Int)<(j:Int))=true
 kj:(j:Int) - 1=(m:Int)
 kw:IntKind.i64.wrap (m:Int)=(m:Int)
 mlt:m<kl
 zb:decide (z>=0)=b
 lt:j<kl
 le:kl<=9223372036854775807
theorem Jbp (a off kl kc j m:Nat) (x y:ByteArray) (z:Int) (b:Bool) (Q:Exit->Act->World->Prop) (base:Act) (f:World) (g:base.tmps.size=33) (d:Jcc a off kl kc j m x y z b base)
  (h:∀ w,Below f.heap.size f w->Zyw a off kl kc j m x y z b w) (l:∀ c w,Zaf RRC base c->Below f.heap.size f w->c.eval (.tmp 32)=.bool b->Q .normal c w):(Code.region 4 RRC true).wp Tryz.prog Q base f:=by
 refine Zn (B:=Jcc a off kl kc j m x y z b) (T:=Zyw a off kl kc j m x y z b) (n:=23) (k:=22) LRC ARC (VRC a off kl kc j m x y z b) Jld rfl (by kernel_rfl) (by kernel_rfl) (by kernel_rfl) (by rw [g];kernel_rfl) (fun c i=>⟨(Zc i (by kernel_rfl)).trans d.t0,(Zc i (by kernel_rfl)).trans d.t3⟩) h ?_ (by decide) rfl rfl l
 clear g d h l
 iterate 23 (refine Zd ?_ (by
  intro c w d h hEq
  obtain ⟨t0,t3⟩:=d
  obtain ⟨cx,cy,kn,kt,jp,kj,kw,mlt,zb,lt,le⟩:=h
  have p:=evc c
  have q:=evf c
  dsimp only [ARC,LRC,VRC,nth,Zbm,Za2,Jc] at hEq |-
  first
  | exact ⟨by simp only [hEq],.inr ⟨by first | exact .inl rfl | exact .inr rfl,rfl⟩⟩
  | ((try refine ⟨by simp only [hEq],.inl ⟨rfl,?_⟩⟩);first | (refine Zk Tryz.call43 kn ?_;simp only [List.map_toArray,List.map_cons,List.map_nil,hEq];done) | (refine Zk Tryz.call102 kt ?_;simp only [List.map_toArray,List.map_cons,List.map_nil,hEq];done) | (refine .inl fun pos o=>?_;(clear kn kt;dsimp only [Sig.oper];generalize c.eval=ρ at *;go_simp;done)) | (refine .inl fun pos o=>?_;clear kn kt;dsimp only [Sig.oper];generalize c.eval=ρ at *;go_simp;simp at jp;omega))))
 exact Zf
end
section
open Go.RowKit Go.Shelf
attribute [local go_sem] Oper.semAt_some
def Zdm  : Option ByteArray->List ByteArray->Bool
 | _,[]=>true
 | p,x::r=>Ju x.data.toList&&(match p with | none=>true | some y=>decide (Lib.compareBytes y.data.toList x.data.toList<0))&&Zdm (some x) r
def Zea (ks:List ByteArray):Nat->Option ByteArray
 | 0=>none
 | j+1=>ks[j]?
theorem Zlk {ks:List ByteArray} {j:Nat} {x:ByteArray} (h:ks[j]?=some x):Zdm (Zea ks j) (ks.drop j)=(Ju x.data.toList&&(match Zea ks j with | none=>true | some y=>decide (Lib.compareBytes y.data.toList x.data.toList<0))&&Zdm (Zea ks (j+1)) (ks.drop (j+1))):=by
 obtain ⟨hj,u⟩:=List.getElem?_eq_some_iff.1 h
 have e:Zea ks (j+1)=some x:=h
 rw [List.drop_eq_getElem_cons hj,u,e]
 cases Zea ks j<;>rfl
set_option maxRecDepth 100000 in
set_option maxHeartbeats 4000000 in
theorem Zu2 (ks:List ByteArray) (B:Nat) (ka:Option Addr) (kc:Nat) (w:World) (hB:B<=w.heap.size) (hk:Zab B w ka ks) (h1:ks.length<=kc) (h2:kc<=9223372036854775807) (hs:∀ x ∈ ks,x.size<=140737488355328) :
  Calls Tryz.prog 41 #[.slice ka ks.length kc] w fun e w'=>e=.returned (.bool (Zdm none ks))/\Below w.heap.size w w':=by
 have HK:=Zb hk
 have HS:=Zb hs
 obtain ⟨n,Y⟩:∃ n,ks.length=n:=⟨_,rfl⟩
 have T:=Zb Y
 rw [Y] at h1 |-
 obtain ⟨res,l⟩:∃ r,Zdm none ks=r:=⟨_,rfl⟩
 have HR:=Zb l
 rw [l]
 clear hk hs Y l
 go_enter Tryz.func41,Tryz.ntmps41
 go_wp2_with fail
 go_loopw [3] (fun i wr=>∃ j:Nat,j<=n/\i=.int .i64 j/\Below w.heap.size w wr/\Zdm (Zea ks j) (ks.drop j)=res) (fun i _=>n - (intOf i).toNat)
 case atStart=>exact ⟨0,Nat.zero_le _,rfl,Below.refl _ _,HR.out⟩
 case round =>
  obtain ⟨j,hj,rfl,F,H⟩:=hrel
  have g:=Zb F
  have t:=Zb H
  clear F H
  have a2:w.heap.size<=wr.heap.size:=g.out.size
  by_cases hlt:j<n
  ·have M:(j:Int)<n:=by omega
   obtain ⟨x,u⟩:∃ x,ks[j]?=some x:=⟨_,List.getElem?_eq_getElem (by have:=T.out;omega)⟩
   have R:=Zb u
   obtain ⟨f,off,rfl,a1,hc⟩:=HK.out.resolve_left (by intro e;rw [e] at u;simp at u)
   have C:∀ i y,ks[i]?=some y->wr.cell? ⟨f,off+i,none⟩=some (.string y):=fun i y A=>by
    have hi:=(List.getElem?_eq_some_iff.1 A).1
    have:=(hc i hi).1
    rw [List.getD_eq_getElem?_getD,A] at this
    exact (g.out.cell (p:=⟨f,off+i,none⟩) (by show f<w.heap.size;omega)).trans this
   have cx:=C j x u
   have N:x.size<=140737488355328:=HS.out x (List.mem_of_getElem? u)
   have O:=Zb C
   have o:=Zb (fun W=>Zjs x W N)
   clear hc u C
   cases hnx:Ju x.data.toList with
   | false =>
    rw [hnx] at o
    have G:Hid (res=false):=by
     show _=_
     rw [<- t.out,Zlk R.out,hnx];rfl
    clear hnx
    go_upto_region 4 with fail
    show (Code.region 4 RRA true).wp _ _ _ _
    refine Jbn f off n kc j 0 x ⟨#[]⟩ 0 false _ _ _ rfl ⟨rfl,rfl⟩ ?_ ?_
    ·intro W D
     exact ⟨(D.cell (p:=⟨f,off+j,none⟩) (by show f<wr.heap.size;omega)).trans cx,(o.out W).mono fun e w' ⟨h1,h2⟩=>⟨h1,h2▸Below.refl _ _⟩,by omega,by omega⟩
    intro c W2 v d a
    rw [Zj v [10,11,12,13,14,15,16,17,18,19,20,21,22,23,24,25,26,27,28,29,30,31,32] (by kernel_rfl)]
    simp only [List.foldl_cons,List.foldl_nil,List.setIfInBounds_toArray,List.set_cons_succ,List.set_cons_zero,show Zbd c 32=_ from a]
    clear a v
    have k:=Zb (Za g.out d)
    clear d
    go_wp2_with fail
    go_ret
    exact ⟨by rw [G.out];rfl,k.out⟩
   | true =>
    rw [hnx] at o
    by_cases hj0:j=0
    ·have a0:decide ((0:Int)<(j:Int))=false:=by simp;omega
     have s:Hid (Zdm (Zea ks (j+1)) (ks.drop (j+1))=res):=by
      show _=_
      rw [<- t.out,Zlk R.out,hnx,hj0];rfl
     have HJ:=Zb hj0
     clear hnx hj0
     go_upto_region 4 with fail
     show (Code.region 4 RRB true).wp _ _ _ _
     refine Jbo f off n kc j 0 x ⟨#[]⟩ 0 false _ _ _ rfl ⟨rfl,rfl⟩ ?_ ?_
     ·intro W D
      exact ⟨(D.cell (p:=⟨f,off+j,none⟩) (by show f<wr.heap.size;omega)).trans cx,(o.out W).mono fun e w' ⟨h1,h2⟩=>⟨h1,h2▸Below.refl _ _⟩,a0,by omega,by omega⟩
     intro c W2 v d a
     rw [Zj v [10,11,12,13,14,15,16,17,18,19,20,21,22,23,24,25,26,27,28,29,30,31,32] (by kernel_rfl)]
     simp only [List.foldl_cons,List.foldl_nil,List.setIfInBounds_toArray,List.set_cons_succ,List.set_cons_zero,show Zbd c 32=_ from a]
     clear a v
     have k:=Zb (Za g.out d)
     clear d
     go_wp2_with fail
     go_roundw
     case rel=>exact ⟨j+1,by omega,by go_num,k.out,s.out⟩
     case measure=>simp [intOf];omega
    ·obtain ⟨m,hm⟩:∃ m,j=m+1:=⟨j - 1,by omega⟩
     obtain ⟨y,A⟩:∃ y,ks[m]?=some y:=⟨_,List.getElem?_eq_getElem (by have:=T.out;omega)⟩
     have cy:=O.out m y A
     have a3:y.size<=140737488355328:=HS.out y (List.mem_of_getElem? A)
     have I:decide ((0:Int)<(j:Int))=true:=by simp;omega
     have E:(j:Int) - 1=(m:Int):=by omega
     have K:IntKind.i64.wrap (m:Int)=(m:Int):=by rw [IntKind.wrap_i64];omega
     have S:m<n:=by omega
     have L:=Zb (fun W=>Zn4 y x W (by omega) (by omega))
     obtain ⟨z,U⟩:∃ z,Lib.compareBytes y.data.toList x.data.toList=z:=⟨_,rfl⟩
     rw [U] at L
     obtain ⟨b,P⟩:∃ b,decide (z>=0)=b:=⟨_,rfl⟩
     have s:Hid ((!b&&Zdm (Zea ks (j+1)) (ks.drop (j+1)))=res):=by
      show _=_
      rw [<- t.out,Zlk R.out,hnx]
      have e:Zea ks j=some y:=by rw [hm];exact A
      rw [e]
      simp only [Bool.true_and]
      have e2:decide (Lib.compareBytes y.data.toList x.data.toList<0)=!b:=by
       rw [U,<- P]
       by_cases h:z<0
       ·simp [h]
        try omega
       ·simp [h]
        try omega
      rw [e2]
     have Q:=Zb E
     have V:=Zb K
     clear hnx hj0 A U E K hm
     go_upto_region 4 with fail
     show (Code.region 4 RRC true).wp _ _ _ _
     refine Jbp f off n kc j m x y z b _ _ _ rfl ⟨rfl,rfl⟩ ?_ ?_
     ·intro W D
      exact ⟨(D.cell (p:=⟨f,off+j,none⟩) (by show f<wr.heap.size;omega)).trans cx,(D.cell (p:=⟨f,off+m,none⟩) (by show f<wr.heap.size;omega)).trans cy,(o.out W).mono fun e w' ⟨h1,h2⟩=>⟨h1,h2▸Below.refl _ _⟩,(L.out W).mono fun e w' ⟨h1,q,h2⟩=>⟨h1,h2▸⟨rfl,rfl,rfl,Nat.le_refl _,fun _ _=>rfl⟩⟩,I,Q.out,V.out,S,P,by omega,by omega⟩
     intro c W2 v d a
     rw [Zj v [10,11,12,13,14,15,16,17,18,19,20,21,22,23,24,25,26,27,28,29,30,31,32] (by kernel_rfl)]
     simp only [List.foldl_cons,List.foldl_nil,List.setIfInBounds_toArray,List.set_cons_succ,List.set_cons_zero,show Zbd c 32=_ from a]
     clear a v
     have k:=Zb (Za g.out d)
     clear d I P
     cases b with
     | true =>
      have G:Hid (res=false):=s.out.symm
      go_wp2_with fail
      go_ret
      exact ⟨by rw [G.out];rfl,k.out⟩
     | false =>
      have X:Hid (Zdm (Zea ks (j+1)) (ks.drop (j+1))=res):=s.out
      go_wp2_with fail
      go_roundw
      case rel=>exact ⟨j+1,by omega,by go_num,k.out,X.out⟩
      case measure=>simp [intOf];omega
  ·have G:Hid (res=true):=by
    show _=_
    rw [<- t.out,List.drop_of_length_le (by have:=T.out;omega)]
    cases Zea ks j<;>rfl
   have M:¬ (j:Int)<n:=by omega
   go_wp2_with fail
   go_ret
   exact ⟨by rw [G.out];rfl,g.out⟩
end
