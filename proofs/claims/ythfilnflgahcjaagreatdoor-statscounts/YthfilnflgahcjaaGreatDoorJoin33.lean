/- The document's order of two values, kind by kind. The document's order of two values of one kind. The document's order of two maps. The document's order of values is the program's. -/
import Derived.Test.YthfilnflgahcjaaGreatDoorJoin32
namespace Go.Proofs.YthfilnflgahcjaaGreatDoor
open Go.RowKit Go.Shelf
set_option linter.all false
theorem Jdy (k c:Int) (h:k≠c) (O:0<=k) (E:k<=7) (F:0<=c) (G:c<=7):cmpI (Zbd k) (Zbd c)≠0:=by
 have a:k=0\/k=1\/k=2\/k=3\/k=4\/k=5\/k=6\/k=7:=by omega
 have b:c=0\/c=1\/c=2\/c=3\/c=4\/c=5\/c=6\/c=7:=by omega
 rcases a with rfl | rfl | rfl | rfl | rfl | rfl | rfl | rfl<;>rcases b with rfl | rfl | rfl | rfl | rfl | rfl | rfl | rfl<;>first | exact absurd rfl h | decide
set_option maxRecDepth 100000 in
set_option maxHeartbeats 2000000 in
theorem Zxl (k:Int) (x:Bool) (n:Int) (s:ByteArray) (ka:Option Addr) (p kc:Nat) (la:Option Addr) (ll lc:Nat) (c:Int) (q:Bool) (u:Int) (t:ByteArray) (i:Option Addr) (m d:Nat) (o:Option Addr) (l j:Nat) (w:World) (B:k≠c) (O:0<=k) (E:k<=7) (F:0<=c) (G:c<=7) :
  Calls Tryz.prog 137 #[.agg #[.int .i64 k,.bool x,.int .i64 n,.string s,.slice ka p kc,.slice la ll lc],.agg #[.int .i64 c,.bool q,.int .i64 u,.string t,.slice i m d,.slice o l j]] w fun e w'=>e=.returned (.int .i64 (cmpI (Zbd k) (Zbd c)))/\Below w.heap.size w w':=by
 have H:Hid (∀ w1,Below ((w.alloc (.cells #[.int .i64 k,.bool x,.int .i64 n,.string s,.slice ka p kc,.slice la ll lc] 88)).alloc (.cells #[.int .i64 c,.bool q,.int .i64 u,.string t,.slice i m d,.slice o l j] 88)).heap.size ((w.alloc (.cells #[.int .i64 k,.bool x,.int .i64 n,.string s,.slice ka p kc,.slice la ll lc] 88)).alloc (.cells #[.int .i64 c,.bool q,.int .i64 u,.string t,.slice i m d,.slice o l j] 88)) w1->_):=fun w1 hb=>Zel (w:=w) (w1:=w1) (A:=#[.int .i64 k,.bool x,.int .i64 n,.string s,.slice ka p kc,.slice la ll lc]) (A':=#[.int .i64 c,.bool q,.int .i64 u,.string t,.slice i m d,.slice o l j]) hb
 have e1:(k==c)=false:=Zs B
 have v:=Za (And.intro (And.intro O E) (And.intro F G))
 clear B O E F G
 have C:Hid (∀ w1,Below ((w.alloc (.cells #[.int .i64 k,.bool x,.int .i64 n,.string s,.slice ka p kc,.slice la ll lc] 88)).alloc (.cells #[.int .i64 c,.bool q,.int .i64 u,.string t,.slice i m d,.slice o l j] 88)).heap.size ((w.alloc (.cells #[.int .i64 k,.bool x,.int .i64 n,.string s,.slice ka p kc,.slice la ll lc] 88)).alloc (.cells #[.int .i64 c,.bool q,.int .i64 u,.string t,.slice i m d,.slice o l j] 88)) w1->∀ r,Calls Tryz.prog 159 #[.int .i64 r] w1 (fun e w2=>e=.returned (.int .i64 (Zbd r))/\Below w1.heap.size w1 w2)->Calls Tryz.prog 159 #[.int .i64 r] w1 fun e w2=>e=.returned (.int .i64 (Zbd r))/\w2.cell? ⟨w.heap.size,0,none⟩=some (.int .i64 k)/\w2.cell? ⟨w.heap.size+1,0,none⟩=some (.int .i64 c)/\Hid (Below ((w.alloc (.cells #[.int .i64 k,.bool x,.int .i64 n,.string s,.slice ka p kc,.slice la ll lc] 88)).alloc (.cells #[.int .i64 c,.bool q,.int .i64 u,.string t,.slice i m d,.slice o l j] 88)).heap.size ((w.alloc (.cells #[.int .i64 k,.bool x,.int .i64 n,.string s,.slice ka p kc,.slice la ll lc] 88)).alloc (.cells #[.int .i64 c,.bool q,.int .i64 u,.string t,.slice i m d,.slice o l j] 88)) w2)):=by
  intro w1 hb r P
  refine P.mono ?_
  rintro e w2 ⟨he,K⟩
  have z:=Zm hb K
  obtain ⟨_,f,g⟩:=H.out w2 z
  exact ⟨he,f 0 _ rfl,g 0 _ rfl,z⟩
 have L:Hid (Calls Tryz.prog 159 #[.int .i64 k] ((w.alloc (.cells #[.int .i64 k,.bool x,.int .i64 n,.string s,.slice ka p kc,.slice la ll lc] 88)).alloc (.cells #[.int .i64 c,.bool q,.int .i64 u,.string t,.slice i m d,.slice o l j] 88)).drew fun e w2=>e=.returned (.int .i64 (Zbd k))/\w2.cell? ⟨w.heap.size,0,none⟩=some (.int .i64 k)/\w2.cell? ⟨w.heap.size+1,0,none⟩=some (.int .i64 c)/\Hid (Below ((w.alloc (.cells #[.int .i64 k,.bool x,.int .i64 n,.string s,.slice ka p kc,.slice la ll lc] 88)).alloc (.cells #[.int .i64 c,.bool q,.int .i64 u,.string t,.slice i m d,.slice o l j] 88)).heap.size ((w.alloc (.cells #[.int .i64 k,.bool x,.int .i64 n,.string s,.slice ka p kc,.slice la ll lc] 88)).alloc (.cells #[.int .i64 c,.bool q,.int .i64 u,.string t,.slice i m d,.slice o l j] 88)) w2)):=C.out _ (Below.refl _ _).drew _ (Ze7 k _ v.out.1.1 v.out.1.2)
 have I:Hid (Calls Tryz.prog 159 #[.int .i64 c] ((w.alloc (.cells #[.int .i64 k,.bool x,.int .i64 n,.string s,.slice ka p kc,.slice la ll lc] 88)).alloc (.cells #[.int .i64 c,.bool q,.int .i64 u,.string t,.slice i m d,.slice o l j] 88)).drew fun e w2=>e=.returned (.int .i64 (Zbd c))/\w2.cell? ⟨w.heap.size,0,none⟩=some (.int .i64 k)/\w2.cell? ⟨w.heap.size+1,0,none⟩=some (.int .i64 c)/\Hid (Below ((w.alloc (.cells #[.int .i64 k,.bool x,.int .i64 n,.string s,.slice ka p kc,.slice la ll lc] 88)).alloc (.cells #[.int .i64 c,.bool q,.int .i64 u,.string t,.slice i m d,.slice o l j] 88)).heap.size ((w.alloc (.cells #[.int .i64 k,.bool x,.int .i64 n,.string s,.slice ka p kc,.slice la ll lc] 88)).alloc (.cells #[.int .i64 c,.bool q,.int .i64 u,.string t,.slice i m d,.slice o l j] 88)) w2)):=C.out _ (Below.refl _ _).drew _ (Ze7 c _ v.out.2.1 v.out.2.2)
 have N:Hid (∀ w1,Hid (Below ((w.alloc (.cells #[.int .i64 k,.bool x,.int .i64 n,.string s,.slice ka p kc,.slice la ll lc] 88)).alloc (.cells #[.int .i64 c,.bool q,.int .i64 u,.string t,.slice i m d,.slice o l j] 88)).heap.size ((w.alloc (.cells #[.int .i64 k,.bool x,.int .i64 n,.string s,.slice ka p kc,.slice la ll lc] 88)).alloc (.cells #[.int .i64 c,.bool q,.int .i64 u,.string t,.slice i m d,.slice o l j] 88)) w1)->Calls Tryz.prog 159 #[.int .i64 c] w1 fun e w2=>e=.returned (.int .i64 (Zbd c))/\w2.cell? ⟨w.heap.size,0,none⟩=some (.int .i64 k)/\w2.cell? ⟨w.heap.size+1,0,none⟩=some (.int .i64 c)/\Hid (Below ((w.alloc (.cells #[.int .i64 k,.bool x,.int .i64 n,.string s,.slice ka p kc,.slice la ll lc] 88)).alloc (.cells #[.int .i64 c,.bool q,.int .i64 u,.string t,.slice i m d,.slice o l j] 88)).heap.size ((w.alloc (.cells #[.int .i64 k,.bool x,.int .i64 n,.string s,.slice ka p kc,.slice la ll lc] 88)).alloc (.cells #[.int .i64 c,.bool q,.int .i64 u,.string t,.slice i m d,.slice o l j] 88)) w2)):=fun w1 hb=>C.out _ hb.out _ (Ze7 c _ v.out.2.1 v.out.2.2)
 have M:Hid (∀ w1,Hid (Below ((w.alloc (.cells #[.int .i64 k,.bool x,.int .i64 n,.string s,.slice ka p kc,.slice la ll lc] 88)).alloc (.cells #[.int .i64 c,.bool q,.int .i64 u,.string t,.slice i m d,.slice o l j] 88)).heap.size ((w.alloc (.cells #[.int .i64 k,.bool x,.int .i64 n,.string s,.slice ka p kc,.slice la ll lc] 88)).alloc (.cells #[.int .i64 c,.bool q,.int .i64 u,.string t,.slice i m d,.slice o l j] 88)) w1)->Calls Tryz.prog 159 #[.int .i64 k] w1 fun e w2=>e=.returned (.int .i64 (Zbd k))/\w2.cell? ⟨w.heap.size,0,none⟩=some (.int .i64 k)/\w2.cell? ⟨w.heap.size+1,0,none⟩=some (.int .i64 c)/\Hid (Below ((w.alloc (.cells #[.int .i64 k,.bool x,.int .i64 n,.string s,.slice ka p kc,.slice la ll lc] 88)).alloc (.cells #[.int .i64 c,.bool q,.int .i64 u,.string t,.slice i m d,.slice o l j] 88)).heap.size ((w.alloc (.cells #[.int .i64 k,.bool x,.int .i64 n,.string s,.slice ka p kc,.slice la ll lc] 88)).alloc (.cells #[.int .i64 c,.bool q,.int .i64 u,.string t,.slice i m d,.slice o l j] 88)) w2)):=fun w1 hb=>C.out _ hb.out _ (Ze7 k _ v.out.1.1 v.out.1.2)
 have U:Hid (∀ w1,Hid (Below ((w.alloc (.cells #[.int .i64 k,.bool x,.int .i64 n,.string s,.slice ka p kc,.slice la ll lc] 88)).alloc (.cells #[.int .i64 c,.bool q,.int .i64 u,.string t,.slice i m d,.slice o l j] 88)).heap.size ((w.alloc (.cells #[.int .i64 k,.bool x,.int .i64 n,.string s,.slice ka p kc,.slice la ll lc] 88)).alloc (.cells #[.int .i64 c,.bool q,.int .i64 u,.string t,.slice i m d,.slice o l j] 88)) w1)->Below w.heap.size w w1):=fun w1 hb=>(H.out w1 hb.out).1
 clear C H v
 generalize Zbd k=rk at *
 generalize Zbd c=rk' at *
 go_enter Tryz.func137,Tryz.ntmps137
 go_wp2_with fail
 go_region_with (first
  | (go_at_call 158;refine (Zdd _ _ _).mono ?_;rintro e V ⟨rfl,rfl⟩)
  | (go_at_call 159;refine (N.out _ y).mono ?_;rintro e w2 ⟨rfl,T,R,D⟩)
  | (go_at_call 159;refine (M.out _ y).mono ?_;rintro e w2 ⟨rfl,T,R,D⟩)
  | (go_at_call 159;refine L.out.mono ?_;rintro e w1 ⟨rfl,Q,S,y⟩)
  | (go_at_call 159;refine I.out.mono ?_;rintro e w1 ⟨rfl,Q,S,y⟩))
 all_goals
  go_wp2_with fail
  go_ret
  exact ⟨rfl,U.out _ D⟩
end Go.Proofs.YthfilnflgahcjaaGreatDoor

namespace Go.Proofs.YthfilnflgahcjaaGreatDoor
open Go.RowKit Go.Shelf
set_option linter.all false
set_option maxRecDepth 100000 in
set_option maxHeartbeats 2000000 in
theorem Zv1 (k:Int) (x:Bool) (n:Int) (s:ByteArray) (ka:Option Addr) (m kc:Nat) (la:Option Addr) (ll lc:Nat) (h:Int) (j:Bool) (l:Int) (i:ByteArray) (f:Option Addr) (g d:Nat) (c:Option Addr) (b a:Nat) (w:World) (he:k=h) (E:k≠1) (D:k≠3) (F:k≠5) (C:k≠4) :
  Calls Tryz.prog 137 #[.agg #[.int .i64 k,.bool x,.int .i64 n,.string s,.slice ka m kc,.slice la ll lc],.agg #[.int .i64 h,.bool j,.int .i64 l,.string i,.slice f g d,.slice c b a]] w fun e w'=>e=.returned (.int .i64 (cmpI n l))/\Below w.heap.size w w':=by
 have p:Hid (∀ w1,Below ((w.alloc (.cells #[.int .i64 k,.bool x,.int .i64 n,.string s,.slice ka m kc,.slice la ll lc] 88)).alloc (.cells #[.int .i64 h,.bool j,.int .i64 l,.string i,.slice f g d,.slice c b a] 88)).heap.size ((w.alloc (.cells #[.int .i64 k,.bool x,.int .i64 n,.string s,.slice ka m kc,.slice la ll lc] 88)).alloc (.cells #[.int .i64 h,.bool j,.int .i64 l,.string i,.slice f g d,.slice c b a] 88)) w1->_):=fun w1 hb=>Zel (w:=w) (w1:=w1) (A:=#[.int .i64 k,.bool x,.int .i64 n,.string s,.slice ka m kc,.slice la ll lc]) (A':=#[.int .i64 h,.bool j,.int .i64 l,.string i,.slice f g d,.slice c b a]) hb
 have o:=Za (p.out _ (Below.refl _ _)).1
 have e1:(k==1)=false:=Zs E
 have z:(k==3)=false:=Zs D
 have v:(k==5)=false:=Zs F
 have y:(k==4)=false:=Zs C
 have u:(k==h)=true:=Za3 he
 clear he E D F C
 go_enter Tryz.func137,Tryz.ntmps137
 go_wp2_with fail
 refine (Zdd _ _ _).mono ?_
 rintro e w' ⟨rfl,rfl⟩
 go_wp2_with fail
 go_ret
 exact ⟨rfl,o.out⟩
set_option maxRecDepth 100000 in
set_option maxHeartbeats 2000000 in
theorem Zst (k:Int) (x:Bool) (n:Int) (s:ByteArray) (ka:Option Addr) (m kc:Nat) (la:Option Addr) (ll lc:Nat) (h:Int) (j:Bool) (l:Int) (i:ByteArray) (f:Option Addr) (g d:Nat) (c:Option Addr) (b a:Nat) (w:World) (he:k=h) (hk:k=1) :
  Calls Tryz.prog 137 #[.agg #[.int .i64 k,.bool x,.int .i64 n,.string s,.slice ka m kc,.slice la ll lc],.agg #[.int .i64 h,.bool j,.int .i64 l,.string i,.slice f g d,.slice c b a]] w fun e w'=>e=.returned (.int .i64 (cmpI (Zjl x) (Zjl j)))/\Below w.heap.size w w':=by
 have p:Hid (∀ w1,Below ((w.alloc (.cells #[.int .i64 k,.bool x,.int .i64 n,.string s,.slice ka m kc,.slice la ll lc] 88)).alloc (.cells #[.int .i64 h,.bool j,.int .i64 l,.string i,.slice f g d,.slice c b a] 88)).heap.size ((w.alloc (.cells #[.int .i64 k,.bool x,.int .i64 n,.string s,.slice ka m kc,.slice la ll lc] 88)).alloc (.cells #[.int .i64 h,.bool j,.int .i64 l,.string i,.slice f g d,.slice c b a] 88)) w1->_):=fun w1 hb=>Zel (w:=w) (w1:=w1) (A:=#[.int .i64 k,.bool x,.int .i64 n,.string s,.slice ka m kc,.slice la ll lc]) (A':=#[.int .i64 h,.bool j,.int .i64 l,.string i,.slice f g d,.slice c b a]) hb
 have o:=Za (p.out _ (Below.refl _ _)).1
 have e1:(k==1)=true:=Za3 hk
 have z:(k==3)=false:=Zs (by omega)
 have v:(k==5)=false:=Zs (by omega)
 have y:(k==4)=false:=Zs (by omega)
 have u:(k==h)=true:=Za3 he
 clear he hk
 cases x with
 | true =>
  cases j with
  | true =>
   go_enter Tryz.func137,Tryz.ntmps137
   go_wp2_with fail
   go_ret
   exact ⟨rfl,o.out⟩
  | false =>
   go_enter Tryz.func137,Tryz.ntmps137
   go_wp2_with fail
   go_ret
   exact ⟨rfl,o.out⟩
 | false =>
  cases j with
  | true =>
   go_enter Tryz.func137,Tryz.ntmps137
   go_wp2_with fail
   go_ret
   exact ⟨rfl,o.out⟩
  | false =>
   go_enter Tryz.func137,Tryz.ntmps137
   go_wp2_with fail
   go_ret
   exact ⟨rfl,o.out⟩
set_option maxRecDepth 100000 in
set_option maxHeartbeats 2000000 in
theorem Zsu (k:Int) (x:Bool) (n:Int) (s:ByteArray) (ka:Option Addr) (m kc:Nat) (la:Option Addr) (ll lc:Nat) (h:Int) (j:Bool) (l:Int) (i:ByteArray) (f:Option Addr) (g d:Nat) (c:Option Addr) (b a:Nat) (w:World) (he:k=h) (hk:k=3) (G:s.size<=9223372036854775807) (B:i.size<=9223372036854775807) :
  Calls Tryz.prog 137 #[.agg #[.int .i64 k,.bool x,.int .i64 n,.string s,.slice ka m kc,.slice la ll lc],.agg #[.int .i64 h,.bool j,.int .i64 l,.string i,.slice f g d,.slice c b a]] w fun e w'=>e=.returned (.int .i64 (Lib.compareBytes s.data.toList i.data.toList))/\Below w.heap.size w w':=by
 have p:Hid (∀ w1,Below ((w.alloc (.cells #[.int .i64 k,.bool x,.int .i64 n,.string s,.slice ka m kc,.slice la ll lc] 88)).alloc (.cells #[.int .i64 h,.bool j,.int .i64 l,.string i,.slice f g d,.slice c b a] 88)).heap.size ((w.alloc (.cells #[.int .i64 k,.bool x,.int .i64 n,.string s,.slice ka m kc,.slice la ll lc] 88)).alloc (.cells #[.int .i64 h,.bool j,.int .i64 l,.string i,.slice f g d,.slice c b a] 88)) w1->_):=fun w1 hb=>Zel (w:=w) (w1:=w1) (A:=#[.int .i64 k,.bool x,.int .i64 n,.string s,.slice ka m kc,.slice la ll lc]) (A':=#[.int .i64 h,.bool j,.int .i64 l,.string i,.slice f g d,.slice c b a]) hb
 have o:=Za (p.out _ (Below.refl _ _)).1
 have e1:(k==1)=false:=Zs (by omega)
 have z:(k==3)=true:=Za3 hk
 have v:(k==5)=false:=Zs (by omega)
 have y:(k==4)=false:=Zs (by omega)
 have u:(k==h)=true:=Za3 he
 clear he hk
 have K:Hid (∀ W,Calls Tryz.prog 160 #[.string s,.string i] W fun e w'=>e=.returned (.int .i64 (Lib.compareBytes s.data.toList i.data.toList))/\∃ q,w'=W.drewN q):=fun W=>Zp4 s i W G B
 go_enter Tryz.func137,Tryz.ntmps137
 go_wp2_with fail
 refine (K.out _).mono ?_
 rintro e w' ⟨rfl,q,rfl⟩
 go_wp2_with fail
 go_ret
 exact ⟨rfl,below_drewN o.out _⟩
set_option maxRecDepth 100000 in
set_option maxHeartbeats 2000000 in
theorem Zsv (k:Int) (x:Bool) (n:Int) (s:ByteArray) (ka:Option Addr) (m kc:Nat) (la:Option Addr) (ll lc:Nat) (h:Int) (j:Bool) (l:Int) (i:ByteArray) (f:Option Addr) (g d:Nat) (c:Option Addr) (b a:Nat) (w:World) (he:k=h) (hk:k=4) (t:Int) (H:Hid (∀ W,Below w.heap.size w W->Calls Tryz.prog 161 #[.slice la ll lc,.slice c b a] W fun e w'=>e=.returned (.int .i64 t)/\Below W.heap.size W w')) :
  Calls Tryz.prog 137 #[.agg #[.int .i64 k,.bool x,.int .i64 n,.string s,.slice ka m kc,.slice la ll lc],.agg #[.int .i64 h,.bool j,.int .i64 l,.string i,.slice f g d,.slice c b a]] w fun e w'=>e=.returned (.int .i64 (t))/\Below w.heap.size w w':=by
 have p:Hid (∀ w1,Below ((w.alloc (.cells #[.int .i64 k,.bool x,.int .i64 n,.string s,.slice ka m kc,.slice la ll lc] 88)).alloc (.cells #[.int .i64 h,.bool j,.int .i64 l,.string i,.slice f g d,.slice c b a] 88)).heap.size ((w.alloc (.cells #[.int .i64 k,.bool x,.int .i64 n,.string s,.slice ka m kc,.slice la ll lc] 88)).alloc (.cells #[.int .i64 h,.bool j,.int .i64 l,.string i,.slice f g d,.slice c b a] 88)) w1->_):=fun w1 hb=>Zel (w:=w) (w1:=w1) (A:=#[.int .i64 k,.bool x,.int .i64 n,.string s,.slice ka m kc,.slice la ll lc]) (A':=#[.int .i64 h,.bool j,.int .i64 l,.string i,.slice f g d,.slice c b a]) hb
 have o:=Za (p.out _ (Below.refl _ _)).1
 have e1:(k==1)=false:=Zs (by omega)
 have z:(k==3)=false:=Zs (by omega)
 have v:(k==5)=false:=Zs (by omega)
 have y:(k==4)=true:=Za3 hk
 have u:(k==h)=true:=Za3 he
 clear he hk
 have I:=Za (H.out _ o.out)
 go_enter Tryz.func137,Tryz.ntmps137
 go_wp2_with fail
 refine I.out.mono ?_
 rintro e w2 ⟨rfl,r⟩
 have L:=Za (Zm o.out r)
 clear r
 go_wp2_with fail
 go_ret
 exact ⟨rfl,L.out⟩
end Go.Proofs.YthfilnflgahcjaaGreatDoor

namespace Go.Proofs.YthfilnflgahcjaaGreatDoor
open Go.RowKit Go.Shelf
set_option linter.all false
theorem Zp6:∀ a:List UInt8,Lib.compareBytes a a=0
 | []=>rfl
 | a::r=>by rw [Lib.compareBytes,if_neg (by simp),if_neg (by simp)];exact Zp6 r
theorem Zp7:∀ {a b:List UInt8},Lib.compareBytes a b=0->a=b
 | [],[],_=>rfl
 | [],_::_,h=>by simp [Lib.compareBytes] at h
 | _::_,[],h=>by simp [Lib.compareBytes] at h
 | a::r,b::t,h=>by
  rw [Lib.compareBytes] at h
  by_cases X:a<b
  ·rw [if_pos X] at h;simp at h
  ·rw [if_neg X] at h
   by_cases Q:b<a
   ·rw [if_pos Q] at h;simp at h
   ·rw [if_neg Q] at h
    have e:a=b:=by
     apply UInt8.toNat_inj.mp
     have h3:¬ a.toNat<b.toNat:=fun c=>X (UInt8.lt_iff_toNat_lt.mpr c)
     have h4:¬ b.toNat<a.toNat:=fun c=>Q (UInt8.lt_iff_toNat_lt.mpr c)
     omega
    rw [e,Zp7 h]
theorem Jd0 {x y:ByteArray} (h:x≠y):Lib.compareBytes x.data.toList y.data.toList≠0:=by
 intro c
 apply h
 have:=Zp7 c
 cases x;cases y
 simp at this
 rw [this]
set_option maxRecDepth 100000 in
set_option maxHeartbeats 4000000 in
theorem Zvk (k:Int) (x:Bool) (n:Int) (s:ByteArray) (ka:Option Addr) (ks:List ByteArray) (kc:Nat) (la:Option Addr) (ll lc:Nat) (F:Int) (H:Bool) (L:Int) (K:ByteArray) (m:Option Addr) (d:List ByteArray) (l:Nat) (p:Option Addr) (u o:Nat) (w:World) (B:Nat) (hB:B<=w.heap.size) (hK:Zbh B w ka ks) (U:Zbh B w m d) (X:ks.length<=kc) (Q:kc<=maxLen) (h3:d.length<=l) (h4:l<=maxLen) (he:k=F) (hk:k=5) (N r:Int) (C:Hid (r=if agS ks d=0 then N else agS ks d)) (HR:Hid (∀ W,Below w.heap.size w W->Calls Tryz.prog 161 #[.slice la ll lc,.slice p u o] W fun e w'=>e=.returned (.int .i64 N)/\Below W.heap.size W w')) :
  Calls Tryz.prog 137 #[.agg #[.int .i64 k,.bool x,.int .i64 n,.string s,.slice ka ks.length kc,.slice la ll lc],.agg #[.int .i64 F,.bool H,.int .i64 L,.string K,.slice m d.length l,.slice p u o]] w fun e w'=>e=.returned (.int .i64 r)/\Below w.heap.size w w':=by
 unfold maxLen at Q h4
 have HX:Hid (∀ w1,Below ((w.alloc (.cells #[.int .i64 k,.bool x,.int .i64 n,.string s,.slice ka ks.length kc,.slice la ll lc] 88)).alloc (.cells #[.int .i64 F,.bool H,.int .i64 L,.string K,.slice m d.length l,.slice p u o] 88)).heap.size ((w.alloc (.cells #[.int .i64 k,.bool x,.int .i64 n,.string s,.slice ka ks.length kc,.slice la ll lc] 88)).alloc (.cells #[.int .i64 F,.bool H,.int .i64 L,.string K,.slice m d.length l,.slice p u o] 88)) w1->_):=fun w1 hb=>Zel (w:=w) (w1:=w1) (A:=#[.int .i64 k,.bool x,.int .i64 n,.string s,.slice ka ks.length kc,.slice la ll lc]) (A':=#[.int .i64 F,.bool H,.int .i64 L,.string K,.slice m d.length l,.slice p u o]) hb
 have e1:(k==1)=false:=Zs (by omega)
 have e3:(k==3)=false:=Zs (by omega)
 have e5:(k==5)=true:=Za3 hk
 have e4:(k==4)=false:=Zs (by omega)
 have ek:(k==F)=true:=Za3 he
 clear he hk
 have H0:=Za (Below.refl ((w.alloc (.cells #[.int .i64 k,.bool x,.int .i64 n,.string s,.slice ka ks.length kc,.slice la ll lc] 88)).alloc (.cells #[.int .i64 F,.bool H,.int .i64 L,.string K,.slice m d.length l,.slice p u o] 88)).heap.size ((w.alloc (.cells #[.int .i64 k,.bool x,.int .i64 n,.string s,.slice ka ks.length kc,.slice la ll lc] 88)).alloc (.cells #[.int .i64 F,.bool H,.int .i64 L,.string K,.slice m d.length l,.slice p u o] 88)))
 have a0:Hid (∀ w1,Below ((w.alloc (.cells #[.int .i64 k,.bool x,.int .i64 n,.string s,.slice ka ks.length kc,.slice la ll lc] 88)).alloc (.cells #[.int .i64 F,.bool H,.int .i64 L,.string K,.slice m d.length l,.slice p u o] 88)).heap.size ((w.alloc (.cells #[.int .i64 k,.bool x,.int .i64 n,.string s,.slice ka ks.length kc,.slice la ll lc] 88)).alloc (.cells #[.int .i64 F,.bool H,.int .i64 L,.string K,.slice m d.length l,.slice p u o] 88)) w1->Below w.heap.size w w1/\w1.cell? ⟨w.heap.size,4,none⟩=some (.slice ka ks.length kc)/\w1.cell? ⟨w.heap.size+1,4,none⟩=some (.slice m d.length l)/\w1.cell? ⟨w.heap.size,5,none⟩=some (.slice la ll lc)/\w1.cell? ⟨w.heap.size+1,5,none⟩=some (.slice p u o)):=by
  intro w1 hb
  obtain ⟨a,f,g⟩:=HX.out w1 hb
  exact ⟨a,f 4 _ rfl,g 4 _ rfl,f 5 _ rfl,g 5 _ rfl⟩
 clear HX
 have E:=Za (And.intro hK U)
 clear hK U
 go_enter Tryz.func137,Tryz.ntmps137
 go_wp2_with fail
 generalize ((w.alloc (.cells #[.int .i64 k,.bool x,.int .i64 n,.string s,.slice ka ks.length kc,.slice la ll lc] 88)).alloc (.cells #[.int .i64 F,.bool H,.int .i64 L,.string K,.slice m d.length l,.slice p u o] 88))=W1 at *
 go_loopw [5] (fun i wr=>∃ j:Nat,j<=ks.length/\j<=d.length/\i=.int .i64 j/\Below W1.heap.size W1 wr/\agS (ks.drop j) (d.drop j)=agS ks d) (fun i _=>ks.length - (intOf i).toNat)
 case atStart=>exact ⟨0,Nat.zero_le _,Nat.zero_le _,rfl,Below.refl _ _,rfl⟩
 case round =>
  obtain ⟨j,hj,a4,rfl,P,R⟩:=hrel
  have v:=Za R
  have Y:=Za P
  obtain ⟨T,q4,r4,q5,r5⟩:=a0.out wr P
  have z:=Za T
  clear R P T
  by_cases hja:j<ks.length
  ·by_cases hjb:j<d.length
   ·obtain ⟨bk,off,rfl,a3,M⟩:=(E.out.1.below (z.out.mono hB)).resolve_left (by intro e;subst e;simp at hja)
    obtain ⟨a5,a1,rfl,a2,G⟩:=(E.out.2.below (z.out.mono hB)).resolve_left (by intro e;subst e;simp at hjb)
    obtain ⟨hc,hz⟩:=M j hja
    obtain ⟨a6,S⟩:=G j hjb
    unfold maxLen at hz S
    have I:=Za (Zz4 (a:=ks) (b:=d) (i:=j) hja hjb)
    generalize ks.getD j ⟨#[]⟩=y at *
    generalize d.getD j ⟨#[]⟩=y' at *
    clear M G E
    by_cases hy:y=y'
    ·subst hy
     have D:Hid (agS (ks.drop (j+1)) (d.drop (j+1))=agS ks d):=by
      show _=_
      have:=I.out
      rw [if_pos (Zp6 _),v.out] at this
      exact this.symm
     clear I v
     go_wp2_with fail
     go_quiet (fail)
     go_wp2_with fail
     go_roundw
     case rel=>exact ⟨j+1,by omega,by omega,by go_num,below_drewN Y.out _,D.out⟩
     case measure=>simp [intOf];omega
    ·have HZ:=Za (Jd0 hy)
     have D:Hid (Lib.compareBytes y.data.toList y'.data.toList=agS ks d):=by
      show _=_
      have:=I.out
      rw [if_neg HZ.out,v.out] at this
      exact this.symm
     have O:Hid (r=Lib.compareBytes y.data.toList y'.data.toList):=by
      show _=_
      rw [C.out,<- D.out,if_neg HZ.out]
     have ey:(y.toList==y'.toList)=false:=beq_eq_false_iff_ne.2 (fun c=>hy (by have:=c;simp only [ByteArray.toList_eq] at this;cases y;cases y';simp at this;rw [this]))
     have HT:Hid (∀ W,Calls Tryz.prog 160 #[.string y,.string y'] W fun e w'=>e=.returned (.int .i64 (Lib.compareBytes y.data.toList y'.data.toList))/\∃ q,w'=W.drewN q):=fun W=>Zp4 y y' W hz S
     clear I v HZ D
     go_wp2_with fail
     go_quiet (fail)
     go_wp2_with fail
     go_region_with (go_at_call 160;refine (HT.out _).mono ?_;rintro e w' ⟨rfl,q,rfl⟩)
     all_goals
      go_wp2_with fail
      go_ret
      exact ⟨by rw [O.out];rfl,below_drewN z.out _⟩
   ·have D:Hid (agS ks d=cmpI ks.length d.length):=by show _=_;rw [<- v.out,Zwv (by omega)]
    clear v E
    by_cases hl:ks.length=d.length
    ·exfalso;omega
    ·have el:((ks.length:Int)==(d.length:Int))=false:=Zs (by omega)
     have O:Hid (r=cmpI ks.length d.length):=by
      show _=_
      rw [C.out,D.out,if_neg]
      unfold cmpI
      by_cases c:(ks.length:Int)<d.length
      ·rw [if_pos c];decide
      ·rw [if_neg c,if_pos (by omega)];decide
     clear D hl
     go_wp2_with fail
     refine (Zdd _ _ _).mono ?_
     rintro e w2 ⟨rfl,rfl⟩
     go_wp2_with fail
     go_ret
     exact ⟨by rw [O.out];rfl,z.out⟩
  ·have D:Hid (agS ks d=cmpI ks.length d.length):=by show _=_;rw [<- v.out,Zwv (by omega)]
   clear v E
   by_cases hl:ks.length=d.length
   ·have el:((ks.length:Int)==(d.length:Int))=true:=Za3 (by omega)
    have O:Hid (r=N):=by
     show _=_
     rw [C.out,if_pos (by rw [D.out,hl];exact Zpg _)]
    have HC:=Za (HR.out wr z.out)
    clear D
    go_wp2_with fail
    refine HC.out.mono ?_
    rintro e w2 ⟨rfl,V⟩
    have HF:=Za (Zm z.out V)
    clear V q4 r4 q5 r5
    go_wp2_with fail
    go_ret
    exact ⟨by rw [O.out];rfl,HF.out⟩
   ·have el:((ks.length:Int)==(d.length:Int))=false:=Zs (by omega)
    have O:Hid (r=cmpI ks.length d.length):=by
     show _=_
     rw [C.out,D.out,if_neg]
     unfold cmpI
     by_cases c:(ks.length:Int)<d.length
     ·rw [if_pos c];decide
     ·rw [if_neg c,if_pos (by omega)];decide
    clear D hl
    go_wp2_with fail
    refine (Zdd _ _ _).mono ?_
    rintro e w2 ⟨rfl,rfl⟩
    go_wp2_with fail
    go_ret
    exact ⟨by rw [O.out];rfl,z.out⟩
end Go.Proofs.YthfilnflgahcjaaGreatDoor

namespace Go.Proofs.YthfilnflgahcjaaGreatDoor
open Go.RowKit Go.Shelf
set_option linter.all false
theorem Zvu:∀ (T:Zd) (B:Nat) (v z:Value) (r:Zd) (w:World),B<=w.heap.size->Zb6 B w v T->Zb6 B w z r->Zeh T->Zeh r ->
  Calls Tryz.prog 137 #[v,z] w fun e w'=>e=.returned (.int .i64 (Ziy T r))/\Below w.heap.size w w':=by
 refine Zd.ind ?_
 intro k x n s ks ts Q B v z r w hB N t i b
 obtain ⟨j,m,p,o,c,a⟩:=r
 simp only [Zb6] at N t
 simp only [Zeh] at i b
 obtain ⟨ka,kc,la,lc,rfl,⟨O,D,L,F,H⟩,hk,ht⟩:=N
 obtain ⟨h,g,d,f,rfl,⟨P,E,A,C,y⟩,u,G⟩:=t
 have I:Ze3 B w la ts:=ht
 have q:Ze3 B w d a:=G
 have l:Ziy (.mk k x n s ks ts) (.mk j m p o c a)=(if cmpI (Zbd k) (Zbd j)=0 then
   (if k=5 then (if agS ks c=0 then ordL ts a else agS ks c) else if k=4 then ordL ts a else if k=3 then Lib.compareBytes s.data.toList o.data.toList else if k=1 then cmpI (Zjl x) (Zjl m) else cmpI n p)
  else cmpI (Zbd k) (Zbd j)):=by rw [Ziy]
 have M:Hid (∀ W,Below w.heap.size w W->Calls Tryz.prog 161 #[.slice la ts.length lc,.slice d a.length f] W fun e w'=>e=.returned (.int .i64 (ordL ts a))/\Below W.heap.size W w') :=
  fun W hb=>Zr7 ts Q B la d lc f a W (Nat.le_trans hB hb.size) (I.below (hb.mono hB)) (q.below (hb.mono hB)) F H C y i.2 b.2
 have hm:maxLen=9223372036854775807:=rfl
 by_cases hkk:k=j
 ·have K:cmpI (Zbd k) (Zbd j)=0:=by rw [hkk];exact Zpg _
  rw [l,if_pos K]
  by_cases k5:k=5
  ·rw [if_pos k5]
   exact Zvk k x n s ka ks kc la ts.length lc j m p o h c g d a.length f w B hB hk u D L E A hkk k5 (ordL ts a) _ rfl M
  rw [if_neg k5]
  by_cases k4:k=4
  ·rw [if_pos k4]
   exact Zsv k x n s ka ks.length kc la ts.length lc j m p o h c.length g d a.length f w hkk k4 _ M
  rw [if_neg k4]
  by_cases k3:k=3
  ·rw [if_pos k3]
   exact Zsu k x n s ka ks.length kc la ts.length lc j m p o h c.length g d a.length f w hkk k3 (by omega) (by omega)
  rw [if_neg k3]
  by_cases k1:k=1
  ·rw [if_pos k1]
   exact Zst k x n s ka ks.length kc la ts.length lc j m p o h c.length g d a.length f w hkk k1
  rw [if_neg k1]
  exact Zv1 k x n s ka ks.length kc la ts.length lc j m p o h c.length g d a.length f w hkk k1 k3 k5 k4
 ·have K:=Jdy k j hkk i.1.1 i.1.2 b.1.1 b.1.2
  rw [l,if_neg K]
  exact Zxl k x n s ka ks.length kc la ts.length lc j m p o h c.length g d a.length f w hkk i.1.1 i.1.2 b.1.1 b.1.2
end Go.Proofs.YthfilnflgahcjaaGreatDoor

