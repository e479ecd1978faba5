/- Values told, whatever they are. Text and Quote, whatever the value. Two values that may be have one text just if they are one: about rows of bytes alone. Two values that may be have one text just if they are one. -/
import Derived.Test.YthfilnflgahcjaaGreatDoorJoin30
import Derived.Test.YthfilnflgahcjaaGreatDoorTellR11
import Derived.Test.YthfilnflgahcjaaGreatDoorJoin17
import Derived.Lib.ItoaLen
namespace Go.Proofs.YthfilnflgahcjaaGreatDoor
open Go.RowKit Go.Shelf Go.WideShapes Go.Lib
set_option linter.all false
mutual
def Zc3:Zd->Prop
 | .mk k b n s ks ts=>(-9223372036854775808<=n/\n<=9223372036854775807)/\RangedL ts
def RangedL:List Zd->Prop
 | []=>True
 | t::ts=>Zc3 t/\RangedL ts
end
theorem RangedL.mem:∀ {ts:List Zd} {t:Zd},RangedL ts->t ∈ ts->Zc3 t
 | u::us,t,h,hm=>by
  simp only [RangedL] at h
  rcases List.mem_cons.1 hm with rfl | hm
  ·exact h.1
  ·exact RangedL.mem h.2 hm
theorem Zjy:∀ {ks:List ByteArray} {x:ByteArray},x ∈ ks->(x.size:Int)<=Zv ks
 | k::r,x,h=>by
  have:=Zu r
  simp only [Zv,List.map_cons,List.sum_cons] at this |-
  rcases List.mem_cons.1 h with rfl | h
  ·omega
  ·have E:=Zjy h
   simp only [Zv] at E
   omega
theorem Jb4 {k:Int} {b:Bool} {n:Int} {s:ByteArray} {ks:List ByteArray} {ts:List Zd} (h:Zi7 (.mk k b n s ks ts)=true) (ht:(Zd.mk k b n s ks ts).total<=1000000):k=5->ks.length=ts.length/\∀ x ∈ ks,Jcp x:=by
 intro q
 simp only [Zi7,Bool.and_eq_true] at h
 obtain ⟨K,E,_⟩:=h
 refine ⟨?_,fun x hx=>?_⟩
 ·simp only [badB,q] at K
  simp at K
  omega
 ·obtain ⟨i,hi,rfl⟩:=List.mem_iff_getElem.1 hx
  refine ⟨?_,?_,trivial⟩
  ·have U:=Zjy hx
   have h4:=totalL_len ts
   simp only [Zd.total] at ht
   omega
  ·have U:Zf7 ks i=true:=by
    unfold Zcq at E
    exact List.all_eq_true.1 E i (List.mem_range.2 hi)
   simp only [Zf7,Bool.and_eq_true] at U
   have h4:=U.1
   rwa [List.getD_eq_getElem?_getD,List.getElem?_eq_getElem hi] at h4
set_option maxRecDepth 100000 in
set_option maxHeartbeats 4000000 in
theorem Zy5:∀ T,Zi7 T=true->Zc3 T->T.total<=1000000->Zrv T:=by
 refine Zd.ind ?_
 intro k b nn s ks ts ih B d C base n v xs tv w N hB hl a0 hn
 have h5:=Jb4 B C
 have X:∀ t ∈ ts,Zi7 t=true:=by
  simp only [Zi7,Bool.and_eq_true] at B
  have:=B.2.2
  rw [Zn6] at this
  exact List.all_eq_true.1 this
 have hI:Jfk nn:=by
  simp only [Zc3] at d
  exact Zxt nn d.1.1 d.1.2
 have Y:(itoa nn).length<=21:=by
  simp only [Zc3] at d
  exact itoa_length_le nn d.1.1 d.1.2
 have a6:s.size<=1000000:=by
  have K:=Zu ks
  have E:=totalL_len ts
  simp only [Zd.total] at C
  omega
 have O:Hid (∀ t ∈ ts,Zrv t):=fun t ht=>ih t ht (X t ht) (by simp only [Zc3] at d;exact d.2.mem ht) (by
  have K:=Zu ks
  have E:=Zmu ht
  simp only [Zd.total] at C
  omega)
 have HL:=Za hl
 simp only [Zb6] at hl
 obtain ⟨ka,kc,la,lc,rfl,⟨a3,a7,a5,a8,a4⟩,-,-⟩:=hl
 obtain ⟨y,L⟩:∃ y,w.alloc (.cells #[.int .i64 k,.bool b,.int .i64 nn,.string s,.slice ka ks.length kc,.slice la ts.length lc] 88)=y:=⟨_,rfl⟩
 have F:Below w.heap.size w y:=L▸(Below.refl _ _).alloc (Nat.le_refl _) _
 have a2:y.heap[w.heap.size]?=some (.cells #[.int .i64 k,.bool b,.int .i64 nn,.string s,.slice ka ks.length kc,.slice la ts.length lc] 88 (0,0)):=L▸World.alloc_heap_new _ _
 have H:=Zcl N F
 have a1:base<=y.heap.size:=Nat.le_trans hB F.size
 have a:=Za (And.intro F (And.intro a2 (And.intro H (And.intro a1 (a0.on (F.mono hB))))))
 have j:=Za L
 have I:=Za hn
 have R:=Za hI
 have V:=Za h5
 clear F a2 H a1 L hn h5 ih a0 N B d C X hI
 unfold maxLen at a3 a5 a4
 go_enter Tryz.func152,Tryz.ntmps152
 by_cases k1:k=1
 ·have f:Hid (Jk (.mk k b nn s ks ts)=Zcm b):=by show _=_;rw [Jk,if_pos k1]
  subst k1
  go_wp2_with fail
  rw [j.out]
  refine (Zma b base n v xs y a.out.2.2.1 a.out.2.2.2.1 (by have:=I.out;omega)).mono ?_
  rintro e w' ⟨D,rfl,ht⟩
  have l:Hid (Zaa base n xs v w (Jk (.mk 1 b nn s ks ts)) D w'):=by show Zaa _ _ _ _ _ _ _ _;rw [f.out];exact ht.from a.out.1
  clear ht
  go_wp2_with fail
  go_ret
  exact ⟨_,rfl,l.out⟩
 have e1:(k==1)=false:=by simpa using k1
 by_cases k2:k=2
 ·have f:Hid (Jk (.mk k b nn s ks ts)=itoa nn):=by show _=_;rw [Jk,if_neg k1,if_pos k2]
  clear k1 e1 V
  subst k2
  go_wp2_with fail
  rw [j.out]
  refine (R.out base n v xs y a.out.2.2.1 a.out.2.2.2.1 (by have:=I.out;omega) a.out.2.2.2.2.tb).mono ?_
  rintro e w' ⟨D,rfl,ht⟩
  have l:Hid (Zaa base n xs v w (Jk (.mk 2 b nn s ks ts)) D w'):=by show Zaa _ _ _ _ _ _ _ _;rw [f.out];exact ht.from a.out.1
  clear ht
  go_wp2_with fail
  go_ret
  exact ⟨_,rfl,l.out⟩
 have e2:(k==2)=false:=by simpa using k2
 by_cases k3:k=3
 ·have f:Hid (Jk (.mk k b nn s ks ts)=Zhe s):=by show _=_;rw [Jk,if_neg k1,if_neg k2,if_pos k3]
  clear k1 e1 k2 e2 V R
  subst k3
  go_wp2_with fail
  rw [j.out]
  refine (Zx0 s (by omega) base n v xs y a.out.2.2.1 a.out.2.2.2.1 (by have:=I.out;omega)).mono ?_
  rintro e w' ⟨D,rfl,ht⟩
  have l:Hid (Zaa base n xs v w (Jk (.mk 3 b nn s ks ts)) D w'):=by show Zaa _ _ _ _ _ _ _ _;rw [f.out];exact ht.from a.out.1
  clear ht
  go_wp2_with fail
  go_ret
  exact ⟨_,rfl,l.out⟩
 have e3:(k==3)=false:=by simpa using k3
 by_cases o:k=4
 ·have f:Hid (Jk (.mk k b nn s ks ts)=[91]++tellAllG (decide (k=5)) ks 0 ts++[93]):=by show _=_;rw [Jk,if_neg k1,if_neg k2,if_neg k3,if_pos o];simp [o]
  have e4:(k==4)=true:=by simp [o]
  have Q:=Za (And.intro k1 (And.intro k2 (And.intro k3 o)))
  clear k1 k2 k3 o R
  go_upto_region 9 with fail
  rw [j.out]
  show (Code.region 9 RT9 true).wp _ _ _ _
  have p:=I.out
  rw [f.out] at p
  simp only [List.length_append,List.length_cons,List.length_nil] at p
  refine Jbu w.heap.size base n v xs k b nn s ka ks.length kc la ts.length lc (tellAllG (decide (k=5)) ks 0 ts) y _ _ ⟨rfl,rfl,rfl⟩ ⟨a.out.2.1,a.out.2.2.1,by omega,a.out.2.2.2.1,fun u z m w2 S A g hm=>?_⟩ ?_
  ·exact Zjs k b nn s ks ts O.out V.out base m u z _ w2 S A ((HL.out.below ((a.out.1.mono hB).trans g))) (a.out.2.2.2.2.on g) (by omega)
  intro c D w' G W ht
  have hl:c=⟨#[v,Value.agg #[Value.int IntKind.i64 k,Value.bool b,Value.int IntKind.i64 nn,Value.string s,Value.slice ka ks.length kc,Value.slice la ts.length lc],undef,Value.pointer (some { block:=w.heap.size,off:=0 }),c.eval (.tmp 4),Value.pointer (some { block:=w.heap.size,off:=0 }),Value.int IntKind.i64 k,Value.bool false,Value.bool false,undef,undef,undef,undef,Value.bool false,Value.bool false,undef,undef,undef,undef,Value.bool false,Value.bool false,undef,undef,undef,undef,Value.bool true,Value.bool true,c.eval (.tmp 27),c.eval (.tmp 28),c.eval (.tmp 29),c.eval (.tmp 30),c.eval (.tmp 31),c.eval (.tmp 32),c.eval (.tmp 33),undef,undef,undef,undef,undef,undef,undef,undef,undef,undef,undef,undef,undef,undef,undef,undef,undef,undef,undef,undef,undef,undef,undef,undef,undef,undef,undef,undef,undef],[]⟩:=(Zgp G).trans (by kernel_rfl)
  rw [W] at hl
  generalize c.eval (.tmp 27)=z27,c.eval (.tmp 28)=z28,c.eval (.tmp 29)=z29,c.eval (.tmp 30)=z30,c.eval (.tmp 31)=z31,c.eval (.tmp 32)=z32,c.eval (.tmp 33)=z33 at hl
  clear G W
  subst hl
  have l:Hid (Zaa base n xs v w (Jk (.mk k b nn s ks ts)) D w'):=by show Zaa _ _ _ _ _ _ _ _;rw [f.out];exact ht.from a.out.1
  clear ht
  go_wp2_with fail
  go_ret
  exact ⟨_,rfl,l.out⟩
 have e4:(k==4)=false:=by simpa using o
 by_cases q:k=5
 ·have f:Hid (Jk (.mk k b nn s ks ts)=[123]++tellAllG (decide (k=5)) ks 0 ts++[125]):=by show _=_;rw [Jk,if_neg k1,if_neg k2,if_neg k3,if_neg o,if_pos q];simp [q]
  have e5:(k==5)=true:=by simp [q]
  have Q:=Za (And.intro k1 (And.intro k2 (And.intro k3 (And.intro o q))))
  clear k1 k2 k3 o q R
  go_upto_region 11 with fail
  rw [j.out]
  show (Code.region 11 Zd5 true).wp _ _ _ _
  have p:=I.out
  rw [f.out] at p
  simp only [List.length_append,List.length_cons,List.length_nil] at p
  refine Zxv w.heap.size base n v xs k b nn s ka ks.length kc la ts.length lc (tellAllG (decide (k=5)) ks 0 ts) y _ _ ⟨rfl,rfl,rfl⟩ ⟨a.out.2.1,a.out.2.2.1,by omega,a.out.2.2.2.1,fun u z m w2 S A g hm=>?_⟩ ?_
  ·exact Zjs k b nn s ks ts O.out V.out base m u z _ w2 S A ((HL.out.below ((a.out.1.mono hB).trans g))) (a.out.2.2.2.2.on g) (by omega)
  intro c D w' G W ht
  have hl:c=⟨#[v,Value.agg #[Value.int IntKind.i64 k,Value.bool b,Value.int IntKind.i64 nn,Value.string s,Value.slice ka ks.length kc,Value.slice la ts.length lc],undef,Value.pointer (some { block:=w.heap.size,off:=0 }),c.eval (.tmp 4),Value.pointer (some { block:=w.heap.size,off:=0 }),Value.int IntKind.i64 k,Value.bool false,Value.bool false,undef,undef,undef,undef,Value.bool false,Value.bool false,undef,undef,undef,undef,Value.bool false,Value.bool false,undef,undef,undef,undef,Value.bool false,Value.bool false,undef,undef,undef,undef,undef,undef,undef,Value.bool true,Value.bool true,c.eval (.tmp 36),c.eval (.tmp 37),c.eval (.tmp 38),c.eval (.tmp 39),c.eval (.tmp 40),c.eval (.tmp 41),c.eval (.tmp 42),undef,undef,undef,undef,undef,undef,undef,undef,undef,undef,undef,undef,undef,undef,undef,undef,undef,undef,undef,undef],[]⟩:=(Zgp G).trans (by kernel_rfl)
  rw [W] at hl
  generalize c.eval (.tmp 36)=z36,c.eval (.tmp 37)=z37,c.eval (.tmp 38)=z38,c.eval (.tmp 39)=z39,c.eval (.tmp 40)=z40,c.eval (.tmp 41)=z41,c.eval (.tmp 42)=z42 at hl
  clear G W
  subst hl
  have l:Hid (Zaa base n xs v w (Jk (.mk k b nn s ks ts)) D w'):=by show Zaa _ _ _ _ _ _ _ _;rw [f.out];exact ht.from a.out.1
  clear ht
  go_wp2_with fail
  go_ret
  exact ⟨_,rfl,l.out⟩
 have e5:(k==5)=false:=by simpa using q
 by_cases M:k=6
 ·have f:Hid (Jk (.mk k b nn s ks ts)=[60,110]++itoa nn++[62]):=by show _=_;rw [Jk,if_neg k1,if_neg k2,if_neg k3,if_neg o,if_neg q,if_pos M]
  have e6:(k==6)=true:=by simp [M]
  have Q:=Za (And.intro k1 (And.intro k2 (And.intro k3 (And.intro o (And.intro q M)))))
  clear k1 k2 k3 o q M V
  go_upto_region 13 with fail
  rw [j.out]
  show (Code.region 13 Zfn true).wp _ _ _ _
  refine Zzc w.heap.size base n v xs k b nn s ka ks.length kc la ts.length lc y _ _ ⟨rfl,rfl,rfl⟩ ⟨a.out.2.2.1,a.out.2.2.2.1,by have:=I.out;omega,Y,a.out.2.1,fun u z m w2 S A g hm=>R.out base m u z w2 S A (by have K:=I.out;rw [f.out] at K;simp only [List.length_append,List.length_cons,List.length_nil] at K;omega) (a.out.2.2.2.2.on g).tb⟩ ?_
  intro c w' G ht
  have l:Hid (Zaa base n xs v w (Jk (.mk k b nn s ks ts)) (c.eval (.tmp 4)) w'):=by
   show Zaa _ _ _ _ _ _ _ _
   rw [f.out]
   have E:=ht.from a.out.1
   have U:(Zax w.heap.size base n v xs k b nn s ka ks.length kc la ts.length lc y).sofar 4=[60,110]++itoa nn++[62]:=by simp [Zax,Zad.sofar]
   rw [U] at E
   exact E
  have hl:c=⟨#[v,Value.agg #[Value.int IntKind.i64 k,Value.bool b,Value.int IntKind.i64 nn,Value.string s,Value.slice ka ks.length kc,Value.slice la ts.length lc],undef,Value.pointer (some { block:=w.heap.size,off:=0 }),c.eval (.tmp 4),Value.pointer (some { block:=w.heap.size,off:=0 }),Value.int IntKind.i64 k,Value.bool false,Value.bool false,undef,undef,undef,undef,Value.bool false,Value.bool false,undef,undef,undef,undef,Value.bool false,Value.bool false,undef,undef,undef,undef,Value.bool false,Value.bool false,undef,undef,undef,undef,undef,undef,undef,Value.bool false,Value.bool false,undef,undef,undef,undef,undef,undef,undef,Value.bool true,Value.bool true,c.eval (.tmp 45),c.eval (.tmp 46),c.eval (.tmp 47),c.eval (.tmp 48),c.eval (.tmp 49),c.eval (.tmp 50),c.eval (.tmp 51),undef,undef,undef,undef,undef,undef,undef,undef,undef,undef,undef],[]⟩:=(Zgp G).trans (by kernel_rfl)
  generalize c.eval (.tmp 4)=D at hl l
  generalize c.eval (.tmp 45)=z45,c.eval (.tmp 46)=z46,c.eval (.tmp 47)=z47,c.eval (.tmp 48)=z48,c.eval (.tmp 49)=z49,c.eval (.tmp 50)=z50,c.eval (.tmp 51)=z51 at hl
  clear G ht
  subst hl
  go_wp2_with fail
  go_ret
  exact ⟨_,rfl,l.out⟩
 have e6:(k==6)=false:=by simpa using M
 by_cases P:k=7
 ·have f:Hid (Jk (.mk k b nn s ks ts)=[60,114]++itoa nn++[62]):=by show _=_;rw [Jk,if_neg k1,if_neg k2,if_neg k3,if_neg o,if_neg q,if_neg M,if_pos P]
  have e7:(k==7)=true:=by simp [P]
  have Q:=Za (And.intro k1 (And.intro k2 (And.intro k3 (And.intro o (And.intro q P)))))
  clear k1 k2 k3 o q P V M
  go_upto_region 15 with fail
  rw [j.out]
  show (Code.region 15 Zfp true).wp _ _ _ _
  refine Zze w.heap.size base n v xs k b nn s ka ks.length kc la ts.length lc y _ _ ⟨rfl,rfl,rfl⟩ ⟨a.out.2.2.1,a.out.2.2.2.1,by have:=I.out;omega,Y,a.out.2.1,fun u z m w2 S A g hm=>R.out base m u z w2 S A (by have K:=I.out;rw [f.out] at K;simp only [List.length_append,List.length_cons,List.length_nil] at K;omega) (a.out.2.2.2.2.on g).tb⟩ ?_
  intro c w' G ht
  have l:Hid (Zaa base n xs v w (Jk (.mk k b nn s ks ts)) (c.eval (.tmp 4)) w'):=by
   show Zaa _ _ _ _ _ _ _ _
   rw [f.out]
   have E:=ht.from a.out.1
   have U:(Zay w.heap.size base n v xs k b nn s ka ks.length kc la ts.length lc y).sofar 4=[60,114]++itoa nn++[62]:=by simp [Zay,Zad.sofar]
   rw [U] at E
   exact E
  have hl:c=⟨#[v,Value.agg #[Value.int IntKind.i64 k,Value.bool b,Value.int IntKind.i64 nn,Value.string s,Value.slice ka ks.length kc,Value.slice la ts.length lc],undef,Value.pointer (some { block:=w.heap.size,off:=0 }),c.eval (.tmp 4),Value.pointer (some { block:=w.heap.size,off:=0 }),Value.int IntKind.i64 k,Value.bool false,Value.bool false,undef,undef,undef,undef,Value.bool false,Value.bool false,undef,undef,undef,undef,Value.bool false,Value.bool false,undef,undef,undef,undef,Value.bool false,Value.bool false,undef,undef,undef,undef,undef,undef,undef,Value.bool false,Value.bool false,undef,undef,undef,undef,undef,undef,undef,Value.bool false,Value.bool false,undef,undef,undef,undef,undef,undef,undef,Value.bool true,Value.bool true,c.eval (.tmp 54),c.eval (.tmp 55),c.eval (.tmp 56),c.eval (.tmp 57),c.eval (.tmp 58),c.eval (.tmp 59),c.eval (.tmp 60),undef,undef],[]⟩:=(Zgp G).trans (by kernel_rfl)
  generalize c.eval (.tmp 4)=D at hl l
  generalize c.eval (.tmp 54)=z54,c.eval (.tmp 55)=z55,c.eval (.tmp 56)=z56,c.eval (.tmp 57)=z57,c.eval (.tmp 58)=z58,c.eval (.tmp 59)=z59,c.eval (.tmp 60)=z60 at hl
  clear G ht
  subst hl
  go_wp2_with fail
  go_ret
  exact ⟨_,rfl,l.out⟩
 have e7:(k==7)=false:=by simpa using P
 have f:Hid (Jk (.mk k b nn s ks ts)=[110,117,108,108]):=by show _=_;rw [Jk,if_neg k1,if_neg k2,if_neg k3,if_neg o,if_neg q,if_neg M,if_neg P]
 clear k1 k2 k3 o q M P R V
 go_wp2_with (at_builtin;rw [j.out];refine Zab y rfl _ _ rfl base n v xs rfl a.out.2.2.1 ⟨#[110,117,108,108]⟩ rfl (by decide) (by have:=I.out;show n+4<=_;omega) a.out.2.2.2.1 ?_;intro D w' ht)
 have l:Hid (Zaa base n xs v w (Jk (.mk k b nn s ks ts)) D w'):=by show Zaa _ _ _ _ _ _ _ _;rw [f.out];exact ht.from a.out.1
 go_ret
 exact ⟨_,rfl,l.out⟩
end Go.Proofs.YthfilnflgahcjaaGreatDoor

namespace Go.Proofs.YthfilnflgahcjaaGreatDoor
open Go.RowKit Go.Shelf Go.Lib
set_option linter.all false
theorem Zxm {w:World} {base n:Nat} {v:Value} {xs:List Value} (h:w.ownsRow base 5 1 v n xs) (hn:0<n):∃ g cap,v=.slice (some ⟨g,0,none⟩) n cap:=by
 obtain ⟨_,⟨D,N⟩ | ⟨g,cap,a0,D,_⟩⟩:=h
 ·omega
 ·exact ⟨g,cap,D⟩
theorem Zxn {w:World} {base g cap:Nat} {bs:List UInt8} (h:w.ownsRow base 5 1 (.slice (some ⟨g,0,none⟩) bs.length cap) bs.length (byteCells bs)) :
  (convert 116 9 (.slice (some ⟨g,0,none⟩) bs.length cap)).run Tryz.prog w=.ok (.string ⟨bs.toArray⟩) w:=by
 refine run_convert_bytes_back (P:=Tryz.prog) w 116 9 5 ⟨g,0,none⟩ cap bs Tryz.underlying116 Tryz.underlying5 Tryz.underlying9 fun j Y=>?_
 refine h.cells (g:=g) rfl j _ ?_
 simp [byteCells,Y]
theorem Zoc (b:Bool):(Zcm b).length<=5:=by cases b<;>decide
theorem Zod (ks:List ByteArray) (i:Nat):(((ks.getD i ⟨#[]⟩).size:Int))+Zv (ks.drop (i+1))<=Zv (ks.drop i):=by
 by_cases h:i<ks.length
 ·rw [List.drop_eq_getElem_cons h,Ze6,List.getD_eq_getElem?_getD,List.getElem?_eq_getElem h]
  exact Int.le_refl _
 ·rw [List.drop_of_length_le (by omega),List.drop_of_length_le (by omega),List.getD_eq_getElem?_getD,List.getElem?_eq_none (by omega)]
  decide
mutual
theorem Zlc:∀ (T:Zd),Zc3 T->((Jk T).length:Int)+6<=30*T.total
 | .mk k b n s ks ts,h=>by
  simp only [Zc3] at h
  have D:=tellAllG_len ts h.2 true ks 0
  have N:=tellAllG_len ts h.2 false ks 0
  have h3:=Zoc b
  have h4:=itoa_length_le n h.1.1 h.1.2
  have h5:=Zmz s.data.toList
  have h6:s.data.toList.length=s.size:=rfl
  have h7:=Zu ks
  have h8:=totalL_len ts
  rw [List.drop_zero] at D N
  rw [Jk]
  simp only [Zd.total,Zhe]
  split
  ·omega
  ·split
   ·omega
   ·split
    ·simp only [List.length_append,List.length_cons,List.length_nil];omega
    ·split
     ·simp only [List.length_append,List.length_cons,List.length_nil];omega
     ·split
      ·simp only [List.length_append,List.length_cons,List.length_nil];omega
      ·split
       ·simp only [List.length_append,List.length_cons,List.length_nil];omega
       ·split
        ·simp only [List.length_append,List.length_cons,List.length_nil];omega
        ·simp only [List.length_cons,List.length_nil];omega
theorem tellAllG_len:∀ (ts:List Zd),RangedL ts->∀ (mp:Bool) (ks:List ByteArray) (i:Nat),((tellAllG mp ks i ts).length:Int)<=30*Zd.totalL ts+2*Zv (ks.drop i)
 | [],_,mp,ks,i=>by
  have:=Zu (ks.drop i)
  rw [tellAllG]
  simp only [Zd.totalL,List.length_nil]
  omega
 | t::ts,h,mp,ks,i=>by
  simp only [RangedL] at h
  have D:=Zlc t h.1
  have N:=tellAllG_len ts h.2 mp ks (i+1)
  have h3:=Zod ks i
  have h4:=Zy1 (ks.getD i ⟨#[]⟩)
  have h5:(Zaq (ks.getD i ⟨#[]⟩)).data.toList.length=(Zaq (ks.getD i ⟨#[]⟩)).size:=rfl
  have h6:(if i=0 then ([]:List UInt8) else [44,32]).length<=2:=by split<;>simp
  rw [tellAllG]
  simp only [Zd.totalL,List.length_append]
  cases mp
  ·simp only [Bool.false_eq_true,if_false,List.length_nil];omega
  ·simp only [if_true,List.length_append,List.length_cons,List.length_nil];omega
end
theorem Zxo:∀ (T:Zd),0<(Jk T).length
 | .mk k b n s ks ts=>by
  rw [Jk]
  split
  ·cases b<;>decide
  ·split
   ·unfold itoa;split
    ·simp
    ·exact Zi9 _
   ·split
    ·simp [Zhe]
    ·split
     ·simp
     ·split
      ·simp
      ·split
       ·simp
       ·split<;>simp
set_option maxHeartbeats 1000000 in
theorem Zxp (T:Zd) (I:Zbg T=0) (l:Zc3 T) (u:T.total<=1000000) (hm:T.height<100000000/\bytesOf (T.pre 1)<4611686018427387904) (B:Nat) (v:Value) (w:World) (hB:B<=w.heap.size) (Q:Zb6 B w v T) (M:Zyf w) :
  Calls Tryz.prog 127 #[v] w fun e w'=>e=.returned (.tuple #[.string ⟨(Jk T).toArray⟩,.int .i64 0])/\Below w.heap.size w w':=by
 have A:=Q
 have r:Zi7 T=true:=by
  rw [Zto] at I
  by_cases h:Zi7 T=true
  ·exact h
  ·rw [if_neg h] at I;omega
 have p:=Zxo T
 have E:=Zlc T l
 have HT:=Za (Zy5 T r l u)
 obtain ⟨k,b,nn,s,ks,ts⟩:=T
 simp only [Zb6] at Q
 obtain ⟨ka,kc,la,lc,rfl,-⟩:=Q
 obtain ⟨K,o⟩:∃ K,w.alloc (.cells #[.int .i64 k,.bool b,.int .i64 nn,.string s,.slice ka ks.length kc,.slice la ts.length lc] 88)=K:=⟨_,rfl⟩
 have f:Below w.heap.size w K:=o▸(Below.refl _ _).alloc (Nat.le_refl _) _
 have G:K.heap[w.heap.size]?=some (.cells #[.int .i64 k,.bool b,.int .i64 nn,.string s,.slice ka ks.length kc,.slice la ts.length lc] 88 (0,0)):=o▸World.alloc_heap_new _ _
 have x:=(A.below (f.mono hB)).mono (Nat.le_trans hB f.size)
 have S:=Za (Zlv _ _ _ x (Zn5.below M.e.tabs f) hm.1 hm.2)
 rw [I] at S
 have F:=Za (And.intro f (And.intro G x))
 have O:=Za o
 have U:=Za M
 have V:Hid (0<(Jk (.mk k b nn s ks ts)).length/\(Jk (.mk k b nn s ks ts)).length<=1000000000):=⟨p,by omega⟩
 clear o f G x M hm A I p E r l u
 go_enter Tryz.func127,Tryz.ntmps127
 go_wp2_with fail
 rw [O.out]
 refine S.out.mono ?_
 rintro e w2 ⟨rfl,m⟩
 have a:Below w.heap.size w w2:=Zm F.out.1 m
 have c:w2.heap[w.heap.size]?=some (.cells #[.int .i64 k,.bool b,.int .i64 nn,.string s,.slice ka ks.length kc,.slice la ts.length lc] 88 (0,0)) :=
  (m.block w.heap.size (Array.getElem?_eq_some_iff.1 F.out.2.1).1).trans F.out.2.1
 have y0:=Zbi c (i:=0) rfl
 have y1:=Zbi c (i:=1) rfl
 have y2:=Zbi c (i:=2) rfl
 have y3:=Zbi c (i:=3) rfl
 have X:=Zbi c (i:=4) rfl
 have W:=Zbi c (i:=5) rfl
 have H:=(F.out.2.2.below m).mono m.size
 have C:TBG w2.heap.size w2:=⟨fun w' h=>U.out.below (a.trans (h.mono a.size)),fun w' h=>Lib.tabBelow_of_tabIs U.out.pow w' (a.trans (h.mono a.size))⟩
 have z:=Za (HT.out w2.heap.size 0 (.slice none 0 0) [] _ w2 (World.ownsRow_nil _ _ _ _) (Nat.le_refl _) H C (by have:=V.out.2;omega))
 have q:=Za a
 clear m a c H C S F U
 go_wp2_with fail
 refine z.out.mono ?_
 rintro e w3 ⟨v',rfl,ht⟩
 have d:=ht.own
 rw [Nat.zero_add,List.nil_append] at d
 obtain ⟨g,cap,rfl⟩:=Zxm d V.out.1
 have L:=Zxn d
 have HF:Hid (Below w.heap.size w w3):=q.out.trans ((ht.below (World.ownsRow_nil _ _ _ _) (Nat.le_refl _)).mono q.out.size)
 clear ht d z y0 y1 y2 y3 X W
 obtain ⟨bs,y⟩:∃ bs,Jk (.mk k b nn s ks ts)=bs:=⟨_,rfl⟩
 have R:=Za y
 rw [y] at L |-
 clear y
 go_wp2_with fail
 go_ret2
 exact ⟨by rw [R.out];rfl,HF.out⟩
end Go.Proofs.YthfilnflgahcjaaGreatDoor

namespace Go.Proofs.YthfilnflgahcjaaGreatDoor
open Go.Lib
set_option linter.all false
/-! Runs -/
theorem Zsn {p:UInt8->Prop}:∀ {l l' r r':List UInt8},(∀ c ∈ l,p c)->(∀ c ∈ l',p c)->(∀ c ∈ r.head?,¬ p c)->(∀ c ∈ r'.head?,¬ p c)->l++r=l'++r'->l=l'/\r=r'
 | [],[],r,r',_,_,_,_,h=>⟨rfl,h⟩
 | [],c::l',r,r',_,g,h3,_,h=>by
  rw [List.nil_append,List.cons_append] at h
  rw [h] at h3
  exact absurd (g c (by simp)) (h3 c (by simp))
 | c::l,[],r,r',f,_,_,h4,h=>by
  rw [List.nil_append,List.cons_append] at h
  rw [<- h] at h4
  exact absurd (f c (by simp)) (h4 c (by simp))
 | c::l,d::l',r,r',f,g,h3,h4,h=>by
  rw [List.cons_append,List.cons_append,List.cons.injEq] at h
  obtain ⟨e1,e2⟩:=Zsn (fun x y=>f x (by simp [y])) (fun x y=>g x (by simp [y])) h3 h4 h.2
  exact ⟨by rw [h.1,e1],e2⟩
/-! Numbers -/
def Jhg (l:List UInt8):Nat:=l.foldl (fun a c=>10*a+(c.toNat - 48)) 0
theorem Zyx (l:List UInt8) (c:UInt8):Jhg (l++[c])=10*Jhg l+(c.toNat - 48):=by simp [Jhg]
theorem Zop {i:Nat} (h:i<10):(UInt8.ofNat (48+i)).toNat=48+i:=by
 rw [UInt8.toNat_ofNat'];omega
theorem Zls (u:Nat):Jhg (decDigits u)=u:=by
 induction u using Nat.strongRecOn with
 | _ u ih =>
  rw [decDigits]
  by_cases h:u<10
  ·rw [dif_pos h]
   show 10*0+((UInt8.ofNat (48+u)).toNat - 48)=u
   rw [Zop h];omega
  ·rw [dif_neg h,Zyx,ih _ (by omega),Zop (by omega)];omega
def Zer (c:UInt8):Prop:=48<=c.toNat/\c.toNat<=57
theorem Zje (u:Nat):∀ c ∈ decDigits u,Zer c:=by
 induction u using Nat.strongRecOn with
 | _ u ih =>
  intro c b
  rw [decDigits] at b
  by_cases h:u<10
  ·rw [dif_pos h] at b
   simp only [List.mem_cons,List.not_mem_nil,or_false] at b
   subst b
   unfold Zer;rw [Zop h];omega
  ·rw [dif_neg h] at b
   rcases List.mem_append.1 b with b | b
   ·exact ih _ (by omega) c b
   ·simp only [List.mem_cons,List.not_mem_nil,or_false] at b
    subst b
    unfold Zer;rw [Zop (by omega)];omega
theorem Zm8 {u v:Nat} {r r':List UInt8} (f:∀ c ∈ r.head?,¬ Zer c) (g:∀ c ∈ r'.head?,¬ Zer c) (h:decDigits u++r=decDigits v++r'):u=v/\r=r':=by
 obtain ⟨e1,e2⟩:=Zsn (Zje u) (Zje v) f g h
 have:=Zls u
 rw [e1,Zls v] at this
 exact ⟨this.symm,e2⟩
theorem Zfg (u:Nat):∃ c l,decDigits u=c::l/\Zer c:=by
 have h:=Zi9 u
 cases e:decDigits u with
 | nil=>rw [e] at h;simp at h
 | cons c l=>exact ⟨c,l,rfl,Zje u c (by rw [e];simp)⟩
theorem Zoq {n m:Int} {r r':List UInt8} (f:∀ c ∈ r.head?,¬ Zer c) (g:∀ c ∈ r'.head?,¬ Zer c) (h:itoa n++r=itoa m++r'):n=m/\r=r':=by
 unfold itoa at h
 by_cases hn:n<0
 ·by_cases hm:m<0
  ·rw [if_pos hn,if_pos hm,List.cons_append,List.cons_append,List.cons.injEq] at h
   obtain ⟨e1,e2⟩:=Zm8 f g h.2
   exact ⟨by omega,e2⟩
  ·rw [if_pos hn,if_neg hm] at h
   obtain ⟨c,l,e,b⟩:=Zfg m.toNat
   rw [e,List.cons_append,List.cons_append,List.cons.injEq] at h
   rw [<- h.1] at b
   exact absurd b (by unfold Zer;decide)
 ·by_cases hm:m<0
  ·rw [if_neg hn,if_pos hm] at h
   obtain ⟨c,l,e,b⟩:=Zfg n.toNat
   rw [e,List.cons_append,List.cons_append,List.cons.injEq] at h
   rw [h.1] at b
   exact absurd b (by unfold Zer;decide)
  ·rw [if_neg hn,if_neg hm] at h
   obtain ⟨e1,e2⟩:=Zm8 f g h
   exact ⟨by omega,e2⟩
/-! Texts -/
def Jew (c:UInt8):Nat:=if c.toNat<58 then c.toNat - 48 else c.toNat - 87
def Ji6:List UInt8->UInt8 × List UInt8
 | []=>(0,[])
 | c::X=>if c=92 then (match X with
   | []=>(0,[])
   | d::Y=>if d=110 then (10,Y) else if d=116 then (9,Y) else if d=114 then (13,Y) else if d=117 then (UInt8.ofNat (16*Jew (Y.getD 2 0)+Jew (Y.getD 3 0)),Y.drop 4) else (d,Y)) else (c,X)
theorem Jbx:∀ n:Nat,n<128->UInt8.ofNat (16*Jew (Ziz (n / 16))+Jew (Ziz (n % 16)))=UInt8.ofNat n:=by decide
theorem Zyy (c:UInt8) (X:List UInt8):Ji6 (Zg8 c++X)=(c,X):=by
 unfold Zg8
 split
 ·rename_i h
  rcases h with rfl | rfl<;>rfl
 ·split
  ·rename_i h;subst h;rfl
  ·split
   ·rename_i h;subst h;rfl
   ·split
    ·rename_i h;subst h;rfl
    ·split
     ·rename_i h
      have b:c.toNat<128:=by
       rcases h with h | h
       ·have:=UInt8.lt_iff_toNat_lt.1 h
        have e:(32:UInt8).toNat=32:=rfl
        omega
       ·rw [h];decide
      have:=Jbx c.toNat b
      have e:UInt8.ofNat c.toNat=c:=by simp
      rw [e] at this
      show (UInt8.ofNat (16*Jew (Ziz (c.toNat / 16))+Jew (Ziz (c.toNat % 16))),X)=(c,X)
      rw [this]
     ·rename_i h _ _ _ _
      have A:c≠92:=fun e=>h (.inr e)
      show (if c=92 then _ else (c,X))=(c,X)
      rw [if_neg A]
theorem Jei {c d:UInt8} {X Y:List UInt8} (h:Zg8 c++X=Zg8 d++Y):c=d/\X=Y:=by
 have f:=Zyy c X
 rw [h,Zyy d Y] at f
 simp only [Prod.mk.injEq] at f
 exact ⟨f.1.symm,f.2.symm⟩
theorem Zua (c:UInt8) (X:List UInt8):∃ d Y,Zg8 c++X=d::Y/\d≠39:=by
 unfold Zg8
 split
 ·exact ⟨_,_,rfl,by decide⟩
 ·rename_i h
  split
  ·exact ⟨_,_,rfl,by decide⟩
  ·split
   ·exact ⟨_,_,rfl,by decide⟩
   ·split
    ·exact ⟨_,_,rfl,by decide⟩
    ·split
     ·exact ⟨_,_,rfl,by decide⟩
     ·exact ⟨_,_,rfl,fun e=>h (.inl e)⟩
theorem Zfh (c:UInt8) (l:List UInt8):Zbj (c::l)=Zg8 c++Zbj l:=by simp [Zbj]
theorem Zm9:∀ {l l' r r':List UInt8},Zbj l++39::r=Zbj l'++39::r'->l=l'/\r=r'
 | [],[],r,r',h=>by
  simp only [Zbj,List.map_nil,List.flatten_nil,List.nil_append,List.cons.injEq,true_and] at h
  exact ⟨rfl,h⟩
 | [],c::l',r,r',h=>by
  rw [Zfh,List.append_assoc] at h
  obtain ⟨d,Y,e,j⟩:=Zua c (Zbj l'++39::r')
  rw [e] at h
  simp only [Zbj,List.map_nil,List.flatten_nil,List.nil_append,List.cons.injEq] at h
  exact absurd h.1.symm j
 | c::l,[],r,r',h=>by
  rw [Zfh,List.append_assoc] at h
  obtain ⟨d,Y,e,j⟩:=Zua c (Zbj l++39::r)
  rw [e] at h
  simp only [Zbj,List.map_nil,List.flatten_nil,List.nil_append,List.cons.injEq] at h
  exact absurd h.1 j
 | c::l,d::l',r,r',h=>by
  rw [Zfh,Zfh,List.append_assoc,List.append_assoc] at h
  obtain ⟨e1,e2⟩:=Jei h
  obtain ⟨q,o⟩:=Zm9 e2
  exact ⟨by rw [e1,q],o⟩
theorem bytes_inj {s k:ByteArray} (h:s.data.toList=k.data.toList):s=k:=by
 apply ByteArray.ext
 exact Array.toList_inj.1 h
theorem Zyz {s k:ByteArray} {r r':List UInt8} (h:Zhe s++r=Zhe k++r'):s=k/\r=r':=by
 unfold Zhe at h
 simp only [List.append_assoc,List.cons_append,List.nil_append,List.cons.injEq,true_and] at h
 obtain ⟨e1,e2⟩:=Zm9 h
 exact ⟨bytes_inj e1,e2⟩
/-! Keys -/
theorem Zso:∀ {l l' r r':List UInt8},Zj9 l++96::58::r=Zj9 l'++96::58::r'->l=l'/\r=r'
 | [],[],r,r',h=>by
  simp only [Zj9,List.map_nil,List.flatten_nil,List.nil_append,List.cons.injEq,true_and] at h
  exact ⟨rfl,h⟩
 | [],c::l',r,r',h=>by
  rw [Zdw] at h
  by_cases b:c=96
  ·rw [if_pos b] at h
   simp [Zj9] at h
  ·rw [if_neg b] at h
   simp [Zj9] at h
   exact absurd h.1.symm b
 | c::l,[],r,r',h=>by
  rw [Zdw] at h
  by_cases b:c=96
  ·rw [if_pos b] at h
   simp [Zj9] at h
  ·rw [if_neg b] at h
   simp [Zj9] at h
   exact absurd h.1 b
 | c::l,d::l',r,r',h=>by
  rw [Zdw,Zdw] at h
  by_cases b:c=96
  ·by_cases j:d=96
   ·rw [if_pos b,if_pos j] at h
    simp only [List.cons_append,List.nil_append,List.cons.injEq,true_and] at h
    obtain ⟨q,o⟩:=Zso h
    exact ⟨by rw [b,j,q],o⟩
   ·rw [if_pos b,if_neg j] at h
    simp only [List.cons_append,List.nil_append,List.cons.injEq] at h
    exact absurd h.1.symm j
  ·by_cases j:d=96
   ·rw [if_neg b,if_pos j] at h
    simp only [List.cons_append,List.nil_append,List.cons.injEq] at h
    exact absurd h.1 b
   ·rw [if_neg b,if_neg j] at h
    simp only [List.cons_append,List.nil_append,List.cons.injEq] at h
    obtain ⟨q,o⟩:=Zso h.2
    exact ⟨by rw [h.1,q],o⟩
theorem Zes {s:ByteArray} (h:Zck s=true):s.data.toList≠[]/\∀ c ∈ s.data.toList,c≠58/\c≠96:=by
 unfold Zck at h
 rw [Bool.and_eq_true] at h
 refine ⟨fun e=>?_,fun c b=>?_⟩
 ·have g:=of_decide_eq_true h.2
  have:s.size=s.data.toList.length:=rfl
  rw [this,e] at g
  simp at g
 ·obtain ⟨i,B,rfl⟩:=List.mem_iff_getElem.1 b
  have f:=List.all_eq_true.1 h.1 i (List.mem_range.2 B)
  have hb:s.get! i=s.data.toList[i]:=by
   have:i<s.size:=B
   simp [ByteArray.get!,this]
  unfold Zfi Zjf at f
  rw [hb] at f
  refine ⟨fun e=>?_,fun e=>?_⟩
  ·rw [e] at f;simp at f
  ·rw [e] at f;simp at f
theorem Jby {s k:ByteArray} {r r':List UInt8} (h:(Zaq s).data.toList++58::r=(Zaq k).data.toList++58::r'):s=k/\r=r':=by
 unfold Zaq at h
 have w:∀ x:ByteArray,(⟨#[96]⟩++⟨(Zj9 x.data.toList).toArray⟩++⟨#[96]⟩:ByteArray).data.toList=96::Zj9 x.data.toList++[96]:=fun x=>by simp
 by_cases f:Zck s=true
 ·by_cases g:Zck k=true
  ·rw [if_pos f,if_pos g] at h
   obtain ⟨e1,e2⟩:=Zsn (p:=fun c=>c≠58) (fun c b=>((Zes f).2 c b).1) (fun c b=>((Zes g).2 c b).1) (by simp) (by simp) h
   simp only [List.cons.injEq,true_and] at e2
   exact ⟨bytes_inj e1,e2⟩
  ·rw [if_pos f,if_neg g,w] at h
   obtain ⟨z,t⟩:=Zes f
   cases e:s.data.toList with
   | nil=>exact absurd e z
   | cons c l =>
    rw [e] at h t
    simp only [List.cons_append,List.cons.injEq] at h
    exact absurd h.1 (t c (by simp)).2
 ·by_cases g:Zck k=true
  ·rw [if_neg f,if_pos g,w] at h
   obtain ⟨z,t⟩:=Zes g
   cases e:k.data.toList with
   | nil=>exact absurd e z
   | cons c l =>
    rw [e] at h t
    simp only [List.cons_append,List.cons.injEq] at h
    exact absurd h.1.symm (t c (by simp)).2
  ·rw [if_neg f,if_neg g,w,w] at h
   simp only [List.cons_append,List.append_assoc,List.nil_append,List.cons.injEq,true_and] at h
   obtain ⟨e1,e2⟩:=Zso h
   exact ⟨bytes_inj e1,e2⟩
end Go.Proofs.YthfilnflgahcjaaGreatDoor

namespace Go.Proofs.YthfilnflgahcjaaGreatDoor
open Go.Lib
set_option linter.all false
theorem Zef {k:Int} {b:Bool} {n:Int} {s:ByteArray} {ks:List ByteArray} {ts:List Zd} (h:Zi7 (.mk k b n s ks ts)=true) :
  (k=1\/b=false)/\(k=2\/k=6\/k=7\/n=0)/\(k=3\/s=⟨#[]⟩)/\(k=5\/ks=[])/\(k=4\/k=5\/ts=[])/\(k=5->ks.length=ts.length)/\(0<=k/\k<=7)/\∀ t ∈ ts,Zi7 t=true:=by
 simp only [Zi7,Bool.and_eq_true] at h
 obtain ⟨p,_,N⟩:=h
 rw [Zn6] at N
 simp only [badB,Bool.not_eq_true',Bool.or_eq_false_iff,Bool.not_eq_false',Bool.and_eq_false_iff] at p
 obtain ⟨⟨⟨⟨⟨X,a2⟩,S⟩,_⟩,_⟩,Y⟩:=p
 simp only [rbareB,Bool.and_eq_true,Bool.or_eq_true,beq_iff_eq,Bool.not_eq_true',decide_eq_true_eq] at S
 obtain ⟨b1,b2,b3,b4,b5⟩:=S
 refine ⟨b1,b2,?_,?_,?_,?_,?_,List.all_eq_true.1 N⟩
 ·rcases b3 with e | e
  ·exact .inl e
  ·refine .inr (bytes_inj ?_)
   rw [ByteArray.toList_eq] at e
   simpa using e
 ·exact b4.imp id fun e=>List.eq_nil_of_length_eq_zero e
 ·exact b5.imp id fun e=>e.imp id fun e=>List.eq_nil_of_length_eq_zero e
 ·intro e
  rcases Y with a | a
  ·simp [e] at a
  ·simp at a;omega
 ·simp at X a2
  omega
def kOf:List UInt8->Int
 | []=>2
 | c::l=>if c=110 then 0 else if c=116\/c=102 then 1 else if c=39 then 3 else if c=91 then 4 else if c=123 then 5 else if c=60 then (if l.head?=some 110 then 6 else 7) else 2
theorem Zkx {c:UInt8} (h:Zer c) {d:UInt8} (hd:d.toNat<48\/57<d.toNat):c≠d:=fun e=>by
 subst e;unfold Zer at h;omega
theorem Jdb (n:Int) (r:List UInt8):kOf (itoa n++r)=2:=by
 unfold itoa
 by_cases hn:n<0
 ·rw [if_pos hn];rfl
 ·rw [if_neg hn]
  obtain ⟨c,l,e,m⟩:=Zfg n.toNat
  rw [e,List.cons_append,kOf,if_neg (Zkx m (by decide)),if_neg (fun h=>h.elim (Zkx m (by decide)) (Zkx m (by decide))),if_neg (Zkx m (by decide)),if_neg (Zkx m (by decide)),if_neg (Zkx m (by decide)),if_neg (Zkx m (by decide))]
theorem Znx {k:Int} (b:Bool) (n:Int) (s:ByteArray) (ks:List ByteArray) (ts:List Zd) (W:0<=k/\k<=7) (r:List UInt8):kOf (Jk (.mk k b n s ks ts)++r)=k:=by
 have:k=0\/k=1\/k=2\/k=3\/k=4\/k=5\/k=6\/k=7:=by omega
 rcases this with rfl | rfl | rfl | rfl | rfl | rfl | rfl | rfl
 ·rfl
 ·cases b<;>rfl
 ·exact Jdb n r
 ·rfl
 ·rfl
 ·rfl
 ·rfl
 ·rfl
theorem Zky {q:UInt8} (g:q=93\/q=125\/q=44) (r:List UInt8):kOf (q::r)=2/\¬ Zer q/\q≠45:=by
 rcases g with rfl | rfl | rfl<;>exact ⟨rfl,by unfold Zer;decide,by decide⟩
theorem Zmk (A:Zd) (h:Zi7 A=true) (q:UInt8) (g:q=93\/q=125\/q=44) (r r':List UInt8):q::r≠Jk A++r':=by
 intro e
 obtain ⟨k,b,n,s,ks,ts⟩:=A
 obtain ⟨_,_,_,_,_,_,W,_⟩:=Zef h
 have p:=Znx b n s ks ts W r'
 rw [<- e,(Zky g r).1] at p
 subst p
 have e2:Jk (.mk 2 b n s ks ts)=itoa n:=by rw [Jk,if_neg (by decide),if_pos rfl]
 rw [e2] at e
 unfold itoa at e
 by_cases hn:n<0
 ·rw [if_pos hn,List.cons_append,List.cons.injEq] at e
  exact (Zky g r).2.2 e.1
 ·rw [if_neg hn] at e
  obtain ⟨c,l,E,m⟩:=Zfg n.toNat
  rw [E,List.cons_append,List.cons.injEq] at e
  rw [<- e.1] at m
  exact (Zky g r).2.1 m
theorem Zml (s:ByteArray) (q:UInt8) (g:q=93\/q=125) (r r':List UInt8):q::r≠(Zaq s).data.toList++r':=by
 intro e
 unfold Zaq at e
 by_cases h:Zck s=true
 ·rw [if_pos h] at e
  have hb:=(Zes h).1
  cases hs:s.data.toList with
  | nil=>exact absurd hs hb
  | cons c l =>
   rw [hs,List.cons_append,List.cons.injEq] at e
   unfold Zck at h
   rw [Bool.and_eq_true] at h
   have P:0<s.size:=of_decide_eq_true h.2
   have p:=List.all_eq_true.1 h.1 0 (List.mem_range.2 P)
   have hg:s.get! 0=c:=by
    have:s.data[0]?=some c:=by
     have:=congrArg (fun l:List UInt8=>l[0]?) hs
     simpa using this
    have N:s.data[0]'P=c:=by
     rw [Array.getElem?_eq_getElem P] at this
     exact Option.some.inj this
    simp [ByteArray.get!,P]
    exact N
   unfold Zfi Zjf at p
   rw [hg,<- e.1] at p
   rcases g with rfl | rfl<;>simp at p
 ·rw [if_neg h] at e
  have qd:(⟨#[96]⟩++⟨(Zj9 s.data.toList).toArray⟩++⟨#[96]⟩:ByteArray).data.toList=96::Zj9 s.data.toList++[96]:=by simp
  rw [qd] at e
  simp only [List.cons_append,List.cons.injEq] at e
  rcases g with rfl | rfl<;>exact absurd e.1 (by decide)
def Zwq (r:List UInt8):Prop:=∀ c ∈ r.head?,c=44\/c=93\/c=125
theorem Zwq.dig {r:List UInt8} (h:Zwq r):∀ c ∈ r.head?,¬ Zer c:=fun c m=>by
 rcases h c m with rfl | rfl | rfl<;>(unfold Zer;decide)
def Zrf (A:Zd):Prop:=∀ (B:Zd) (r r':List UInt8),Zi7 B=true->Zwq r->Zwq r'->Jk A++r=Jk B++r'->A=B/\r=r'
theorem Zh3 (mp:Bool) (ks:List ByteArray) (i:Nat) (ts:List Zd) (q:UInt8) (g:q=93\/q=125) (r:List UInt8):Zwq (tellAllG mp ks (i+1) ts++q::r):=by
 intro c m
 cases ts with
 | nil =>
  rw [tellAllG] at m
  simp only [List.nil_append,List.head?_cons,Option.mem_def,Option.some.injEq] at m
  subst m
  rcases g with h | h
  ·exact .inr (.inl h)
  ·exact .inr (.inr h)
 | cons t ts =>
  rw [tellAllG,if_neg (by omega)] at m
  simp only [List.cons_append,List.nil_append,List.head?_cons,Option.mem_def,Option.some.injEq] at m
  exact .inl m.symm
theorem Zny (q:UInt8) (g:q=93\/q=125) (mp:Bool) (ks o:List ByteArray):∀ (ts f:List Zd) (i:Nat) (r r':List UInt8),(∀ t ∈ ts,Zrf t/\Zi7 t=true)->(∀ t ∈ f,Zi7 t=true) ->
  tellAllG mp ks i ts++q::r=tellAllG mp o i f++q::r'->ts=f/\r=r'/\(mp=true->∀ j,j<ts.length->ks.getD (i+j) ⟨#[]⟩=o.getD (i+j) ⟨#[]⟩)
 | [],[],i,r,r',_,_,h=>by
  rw [tellAllG,tellAllG,List.nil_append,List.nil_append,List.cons.injEq] at h
  exact ⟨rfl,h.2,fun _ j M=>by simp at M⟩
 | [],t::f,i,r,r',_,v,h=>by
  exfalso
  rw [tellAllG,tellAllG,List.nil_append] at h
  by_cases hi:i=0
  ·rw [if_pos hi] at h
   cases mp
   ·simp only [Bool.false_eq_true,if_false,List.nil_append,List.append_assoc] at h
    exact Zmk t (v t (by simp)) q (g.imp id .inl) _ _ h
   ·simp only [if_true,List.nil_append,List.append_assoc] at h
    exact Zml _ q g _ _ h
  ·rw [if_neg hi] at h
   simp only [List.cons_append,List.nil_append,List.append_assoc,List.cons.injEq] at h
   rcases g with e | e<;>(rw [e] at h;exact absurd h.1 (by decide))
 | t::ts,[],i,r,r',p,_,h=>by
  exfalso
  rw [tellAllG,tellAllG,List.nil_append] at h
  by_cases hi:i=0
  ·rw [if_pos hi] at h
   cases mp
   ·simp only [Bool.false_eq_true,if_false,List.nil_append,List.append_assoc] at h
    exact Zmk t (p t (by simp)).2 q (g.imp id .inl) _ _ h.symm
   ·simp only [if_true,List.nil_append,List.append_assoc] at h
    exact Zml _ q g _ _ h.symm
  ·rw [if_neg hi] at h
   simp only [List.cons_append,List.nil_append,List.append_assoc,List.cons.injEq] at h
   rcases g with e | e<;>(rw [e] at h;exact absurd h.1 (by decide))
 | t::ts,t'::f,i,r,r',p,v,h=>by
  rw [tellAllG,tellAllG] at h
  simp only [List.append_assoc] at h
  have h:=List.append_cancel_left h
  cases mp
  ·simp only [Bool.false_eq_true,if_false,List.nil_append] at h
   obtain ⟨e1,e2⟩:=(p t (by simp)).1 t' _ _ (v t' (by simp)) (Zh3 _ _ _ _ _ g _) (Zh3 _ _ _ _ _ g _) h
   obtain ⟨E,K,V⟩:=Zny q g false ks o ts f (i+1) r r' (fun x z=>p x (by simp [z])) (fun x z=>v x (by simp [z])) e2
   exact ⟨by rw [e1,E],K,fun h=>by cases h⟩
  ·simp only [if_true,List.append_assoc,List.cons_append,List.nil_append] at h
   obtain ⟨e0,e1⟩:=Jby h
   simp only [List.cons.injEq,true_and] at e1
   obtain ⟨e1,e2⟩:=(p t (by simp)).1 t' _ _ (v t' (by simp)) (Zh3 _ _ _ _ _ g _) (Zh3 _ _ _ _ _ g _) e1
   obtain ⟨E,K,V⟩:=Zny q g true ks o ts f (i+1) r r' (fun x z=>p x (by simp [z])) (fun x z=>v x (by simp [z])) e2
   refine ⟨by rw [e1,E],K,fun _ j M=>?_⟩
   cases j with
   | zero=>exact e0
   | succ j =>
    have:=V rfl j (by simpa using M)
    rwa [show i+1+j=i+(j+1) by omega] at this
theorem Jdc {ks o:List ByteArray} (hl:ks.length=o.length) (h:∀ j,j<ks.length->ks.getD (0+j) ⟨#[]⟩=o.getD (0+j) ⟨#[]⟩):ks=o:=by
 refine List.ext_getElem hl fun j p v=>?_
 have:=h j p
 rwa [Nat.zero_add,List.getD_eq_getElem?_getD,List.getD_eq_getElem?_getD,List.getElem?_eq_getElem p,List.getElem?_eq_getElem v] at this
theorem Zz1:∀ A,Zi7 A=true->Zrf A:=by
 refine Zd.ind ?_
 intro k b n s ks ts ih O B r r' hB hr R h
 obtain ⟨k',u,H,s',o,f⟩:=B
 obtain ⟨C,f2,f3,w,G,f6,f7,T⟩:=Zef O
 obtain ⟨F,g2,y,D,I,g6,g7,U⟩:=Zef hB
 have hk:k=k':=by
  have:=Znx b n s ks ts f7 r
  rw [h,Znx u H s' o f g7 r'] at this
  exact this.symm
 subst hk
 have L:∀ t ∈ ts,Zrf t/\Zi7 t=true:=fun t ht=>⟨ih t ht (T t ht),T t ht⟩
 have:k=0\/k=1\/k=2\/k=3\/k=4\/k=5\/k=6\/k=7:=by omega
 rcases this with rfl | rfl | rfl | rfl | rfl | rfl | rfl | rfl
 ·obtain rfl:b=false:=C.resolve_left (by decide)
  obtain rfl:u=false:=F.resolve_left (by decide)
  obtain rfl:n=0:=by omega
  obtain rfl:H=0:=by omega
  obtain rfl:=f3.resolve_left (by decide)
  obtain rfl:=y.resolve_left (by decide)
  obtain rfl:=w.resolve_left (by decide)
  obtain rfl:=D.resolve_left (by decide)
  obtain rfl:ts=[]:=(G.resolve_left (by decide)).resolve_left (by decide)
  obtain rfl:f=[]:=(I.resolve_left (by decide)).resolve_left (by decide)
  exact ⟨rfl,List.append_cancel_left h⟩
 ·obtain rfl:n=0:=by omega
  obtain rfl:H=0:=by omega
  obtain rfl:=f3.resolve_left (by decide)
  obtain rfl:=y.resolve_left (by decide)
  obtain rfl:=w.resolve_left (by decide)
  obtain rfl:=D.resolve_left (by decide)
  obtain rfl:ts=[]:=(G.resolve_left (by decide)).resolve_left (by decide)
  obtain rfl:f=[]:=(I.resolve_left (by decide)).resolve_left (by decide)
  rw [Jk,if_pos rfl,Jk,if_pos rfl] at h
  cases b<;>cases u
  ·exact ⟨rfl,List.append_cancel_left h⟩
  ·simp [Zcm] at h
  ·simp [Zcm] at h
  ·exact ⟨rfl,List.append_cancel_left h⟩
 ·obtain rfl:b=false:=C.resolve_left (by decide)
  obtain rfl:u=false:=F.resolve_left (by decide)
  obtain rfl:=f3.resolve_left (by decide)
  obtain rfl:=y.resolve_left (by decide)
  obtain rfl:=w.resolve_left (by decide)
  obtain rfl:=D.resolve_left (by decide)
  obtain rfl:ts=[]:=(G.resolve_left (by decide)).resolve_left (by decide)
  obtain rfl:f=[]:=(I.resolve_left (by decide)).resolve_left (by decide)
  rw [Jk,if_neg (by decide),if_pos rfl,Jk,if_neg (by decide),if_pos rfl] at h
  obtain ⟨e1,e2⟩:=Zoq hr.dig R.dig h
  exact ⟨by rw [e1],e2⟩
 ·obtain rfl:b=false:=C.resolve_left (by decide)
  obtain rfl:u=false:=F.resolve_left (by decide)
  obtain rfl:n=0:=by omega
  obtain rfl:H=0:=by omega
  obtain rfl:=w.resolve_left (by decide)
  obtain rfl:=D.resolve_left (by decide)
  obtain rfl:ts=[]:=(G.resolve_left (by decide)).resolve_left (by decide)
  obtain rfl:f=[]:=(I.resolve_left (by decide)).resolve_left (by decide)
  rw [Jk,if_neg (by decide),if_neg (by decide),if_pos rfl,Jk,if_neg (by decide),if_neg (by decide),if_pos rfl] at h
  obtain ⟨e1,e2⟩:=Zyz h
  exact ⟨by rw [e1],e2⟩
 ·obtain rfl:b=false:=C.resolve_left (by decide)
  obtain rfl:u=false:=F.resolve_left (by decide)
  obtain rfl:n=0:=by omega
  obtain rfl:H=0:=by omega
  obtain rfl:=f3.resolve_left (by decide)
  obtain rfl:=y.resolve_left (by decide)
  obtain rfl:=w.resolve_left (by decide)
  obtain rfl:=D.resolve_left (by decide)
  rw [Jk,if_neg (by decide),if_neg (by decide),if_neg (by decide),if_pos rfl,Jk,if_neg (by decide),if_neg (by decide),if_neg (by decide),if_pos rfl] at h
  simp only [List.append_assoc,List.cons_append,List.nil_append,List.cons.injEq,true_and] at h
  obtain ⟨e1,e2,_⟩:=Zny 93 (.inl rfl) false [] [] ts f 0 r r' L U h
  exact ⟨by rw [e1],e2⟩
 ·obtain rfl:b=false:=C.resolve_left (by decide)
  obtain rfl:u=false:=F.resolve_left (by decide)
  obtain rfl:n=0:=by omega
  obtain rfl:H=0:=by omega
  obtain rfl:=f3.resolve_left (by decide)
  obtain rfl:=y.resolve_left (by decide)
  rw [Jk,if_neg (by decide),if_neg (by decide),if_neg (by decide),if_neg (by decide),if_pos rfl,Jk,if_neg (by decide),if_neg (by decide),if_neg (by decide),if_neg (by decide),if_pos rfl] at h
  simp only [List.append_assoc,List.cons_append,List.nil_append,List.cons.injEq,true_and] at h
  obtain ⟨e1,e2,E⟩:=Zny 125 (.inr rfl) true ks o ts f 0 r r' L U h
  subst e1
  have hl:=f6 rfl
  have Q:=g6 rfl
  have K:=Jdc (hl.trans Q.symm) (fun j M=>E rfl j (by omega))
  exact ⟨by rw [K],e2⟩
 ·obtain rfl:b=false:=C.resolve_left (by decide)
  obtain rfl:u=false:=F.resolve_left (by decide)
  obtain rfl:=f3.resolve_left (by decide)
  obtain rfl:=y.resolve_left (by decide)
  obtain rfl:=w.resolve_left (by decide)
  obtain rfl:=D.resolve_left (by decide)
  obtain rfl:ts=[]:=(G.resolve_left (by decide)).resolve_left (by decide)
  obtain rfl:f=[]:=(I.resolve_left (by decide)).resolve_left (by decide)
  rw [Jk,if_neg (by decide),if_neg (by decide),if_neg (by decide),if_neg (by decide),if_neg (by decide),if_pos rfl,Jk,if_neg (by decide),if_neg (by decide),if_neg (by decide),if_neg (by decide),if_neg (by decide),if_pos rfl] at h
  simp only [List.append_assoc,List.cons_append,List.nil_append,List.cons.injEq,true_and] at h
  obtain ⟨e1,e2⟩:=Zoq (r:=62::r) (r':=62::r') (by simp [Zer]) (by simp [Zer]) h
  simp only [List.cons.injEq,true_and] at e2
  exact ⟨by rw [e1],e2⟩
 ·obtain rfl:b=false:=C.resolve_left (by decide)
  obtain rfl:u=false:=F.resolve_left (by decide)
  obtain rfl:=f3.resolve_left (by decide)
  obtain rfl:=y.resolve_left (by decide)
  obtain rfl:=w.resolve_left (by decide)
  obtain rfl:=D.resolve_left (by decide)
  obtain rfl:ts=[]:=(G.resolve_left (by decide)).resolve_left (by decide)
  obtain rfl:f=[]:=(I.resolve_left (by decide)).resolve_left (by decide)
  rw [Jk,if_neg (by decide),if_neg (by decide),if_neg (by decide),if_neg (by decide),if_neg (by decide),if_neg (by decide),if_pos rfl,Jk,if_neg (by decide),if_neg (by decide),if_neg (by decide),if_neg (by decide),if_neg (by decide),if_neg (by decide),if_pos rfl] at h
  simp only [List.append_assoc,List.cons_append,List.nil_append,List.cons.injEq,true_and] at h
  obtain ⟨e1,e2⟩:=Zoq (r:=62::r) (r':=62::r') (by simp [Zer]) (by simp [Zer]) h
  simp only [List.cons.injEq,true_and] at e2
  exact ⟨by rw [e1],e2⟩
theorem Zwr {A B:Zd} (O:Zi7 A=true) (hB:Zi7 B=true) (h:Jk A=Jk B):A=B :=
 (Zz1 A O B [] [] hB (by intro c m;simp at m) (by intro c m;simp at m) (by rw [h])).1
end Go.Proofs.YthfilnflgahcjaaGreatDoor

