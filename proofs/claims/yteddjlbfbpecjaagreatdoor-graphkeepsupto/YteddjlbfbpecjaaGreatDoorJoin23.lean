/- The document's Check is the program's. The document's word on what may be stored. May a value be, and be stored: the document's word. May properties be: the document's test of one property, in whatever order its operations are done. -/
import Derived.Test.YteddjlbfbpecjaaGreatDoorJoin22
import Derived.Test.YteddjlbfbpecjaaGreatDoorJoin12
import Derived.Test.YteddjlbfbpecjaaGreatDoorJoin2
import Derived.Test.YteddjlbfbpecjaaGreatDoorJoin21
import Derived.Test.YteddjlbfbpecjaaGreatDoorJoin14
namespace Go.Proofs.YteddjlbfbpecjaaGreatDoor
open Go.RowKit Go.WideShapes Go.Shelf
set_option linter.unusedVariables false
theorem empty_list  : (⟨#[]⟩:ByteArray).toList.isEmpty=true:=by
 rw [show (⟨#[]⟩:ByteArray)=ByteArray.empty from rfl];simp
theorem heavy_iff (l:List (Int × Tree)):∀ a:Int,a≤1048576→(heavy a l=true↔((∃ x ∈ l,64<x.1)∨(∃ x ∈ l,65536<x.2.kids.length)∨1048576<a+bytesOf l)):=by
 induction l with
 | nil=>intro a h;simp [heavy,bytesOf];omega
 | cons x r ih =>
  intro a h
  obtain ⟨d,t⟩:=x
  have hb:bytesOf ((d,t)::r)=t.bytes+bytesOf r:=by simp [bytesOf]
  have hn:=bytesOf_nonneg r
  rw [hb]
  simp only [heavy,Bool.or_eq_true,decide_eq_true_eq,List.mem_cons,exists_eq_or_imp]
  by_cases g:1048576<a+t.bytes
  ·have:1048576<a+(t.bytes+bytesOf r):=by omega
   simp [g,this]
  ·rw [ih (a+t.bytes) (by omega)]
   have e:a+t.bytes+bytesOf r=a+(t.bytes+bytesOf r):=by omega
   rw [e]
   simp only [g,or_false]
   constructor
   ·rintro ((h | h) | h | h | h)
    ·exact .inl (.inl h)
    ·exact .inr (.inl (.inl h))
    ·exact .inl (.inr h)
    ·exact .inr (.inl (.inr h))
    ·exact .inr (.inr h)
   ·rintro ((h | h) | (h | h) | h)
    ·exact .inl (.inl h)
    ·exact .inr (.inl h)
    ·exact .inl (.inr h)
    ·exact .inr (.inr (.inl h))
    ·exact .inr (.inr (.inr h))
mutual
theorem pre_bytes  : ∀ (T:Tree) (d:Int),bytesOf (T.pre d)=bytT T
 | .mk k b n s ks ts,d=>by
  have h:=preL_bytes ts (d+1)
  have e:bytesOf ((d,Tree.mk k b n s ks ts)::Tree.preL (d+1) ts)=bytesOf [(d,Tree.mk k b n s ks ts)]+bytesOf (Tree.preL (d+1) ts):=bytesOf_append [_] _
  rw [Tree.pre,e,bytesOf_one,h,bytT]
theorem preL_bytes  : ∀ (l:List Tree) (d:Int),bytesOf (Tree.preL d l)=bytL l
 | [],d=>by simp [Tree.preL,bytesOf,bytL]
 | t::ts,d=>by rw [Tree.preL,bytesOf_append,pre_bytes t d,preL_bytes ts d,bytL]
end
mutual
theorem pre_deep  : ∀ (T:Tree) (d L:Int),(∃ x ∈ T.pre d,L<x.1)↔L<d - 1+hgtT T
 | .mk k b n s ks ts,d,L=>by
  have h:=preL_deep ts (d+1) L
  rw [Tree.pre,hgtT]
  simp only [List.mem_cons,exists_eq_or_imp]
  have e:d+1 - 1=d:=by omega
  rw [e] at h
  have e2:d - 1+(hgtL ts+1)=d+hgtL ts:=by omega
  rw [e2,← h]
  exact Or.comm
theorem preL_deep  : ∀ (l:List Tree) (d L:Int),((∃ x ∈ Tree.preL d l,L<x.1)∨L<d - 1)↔L<d - 1+hgtL l
 | [],d,L=>by simp [Tree.preL,hgtL]
 | t::ts,d,L=>by
  have h1:=pre_deep t d L
  have h2:=preL_deep ts d L
  have h3:=(size_le t).2.2.2.1
  have h4:=(sizeL_le ts).2.2.2.1.1
  rw [Tree.preL,hgtL]
  simp only [List.mem_append,or_and_right,exists_or,or_assoc]
  rw [h1,h2]
  omega
end
mutual
theorem pre_long  : ∀ (T:Tree) (d:Int),(∃ x ∈ T.pre d,65536<x.2.kids.length)↔65536<lngT T
 | .mk k b n s ks ts,d=>by
  have h:=preL_long ts (d+1)
  rw [Tree.pre,lngT]
  simp only [List.mem_cons,exists_eq_or_imp]
  rw [h]
  show (65536<ts.length∨_)↔_
  omega
theorem preL_long  : ∀ (l:List Tree) (d:Int),(∃ x ∈ Tree.preL d l,65536<x.2.kids.length)↔65536<lngL l
 | [],d=>by simp [Tree.preL,lngL]
 | t::ts,d=>by
  have h1:=pre_long t d
  have h2:=preL_long ts d
  rw [Tree.preL,lngL]
  simp only [List.mem_append,or_and_right,exists_or]
  rw [h1,h2]
  omega
end
theorem rising_none {ks:List ByteArray} (h:ks.length=0):risingB ks=true:=rising_true fun i hi=>by omega
theorem shaped_head (k:Int) (b:Bool) (n:Int) (s:ByteArray) (ks:List ByteArray) (ts:List Tree):shapedB (.mk k b n s ks ts)=(!badB k b n s ks.length ts.length&&risingB ks):=by
 have hr:=@rising_none ks
 simp only [shapedB,badB,rbareB,blankB]
 generalize risingB ks=rz at *
 generalize Lib.validD s.data.toList=vd
 have he:(⟨#[]⟩:ByteArray).toList.isEmpty=true:=empty_list
 rw [he]
 generalize s.toList.isEmpty=se
 generalize ks.length=kl at *
 generalize ts.length=ll
 by_cases h0:k=0
 ·subst h0;cases b<;>cases se<;>cases vd<;>by_cases g1:n=0<;>by_cases g2:kl=0<;>by_cases g3:ll=0<;>simp_all
 by_cases h1:k=1
 ·subst h1;cases b<;>cases se<;>cases vd<;>by_cases g1:n=0<;>by_cases g2:kl=0<;>by_cases g3:ll=0<;>simp_all
 by_cases h2:k=2
 ·subst h2;cases b<;>cases se<;>cases vd<;>by_cases g2:kl=0<;>by_cases g3:ll=0<;>simp_all
 by_cases h6:k=6
 ·subst h6
  by_cases g1:n<0
  ·have e:(min n 0==0)=false:=by rw [beq_eq_false_iff_ne];omega
   cases b<;>cases se<;>cases vd<;>by_cases g2:kl=0<;>by_cases g3:ll=0<;>simp_all
  ·have e:(min n 0==0)=true:=by rw [beq_iff_eq];omega
   cases b<;>cases se<;>cases vd<;>by_cases g2:kl=0<;>by_cases g3:ll=0<;>simp_all
 by_cases h7:k=7
 ·subst h7
  by_cases g1:n<0
  ·have e:(min n 0==0)=false:=by rw [beq_eq_false_iff_ne];omega
   cases b<;>cases se<;>cases vd<;>by_cases g2:kl=0<;>by_cases g3:ll=0<;>simp_all
  ·have e:(min n 0==0)=true:=by rw [beq_iff_eq];omega
   cases b<;>cases se<;>cases vd<;>by_cases g2:kl=0<;>by_cases g3:ll=0<;>simp_all
 by_cases h3:k=3
 ·subst h3;cases b<;>cases se<;>cases vd<;>by_cases g1:n=0<;>by_cases g2:kl=0<;>by_cases g3:ll=0<;>simp_all
 by_cases h5:k=5
 ·subst h5
  by_cases g2:kl=ll
  ·subst g2
   cases b<;>cases se<;>cases vd<;>cases rz<;>by_cases g1:n=0<;>simp_all
  ·have e:((kl:Int) != (ll:Int))=true:=by rw [bne_iff_ne];omega
   have e':(kl==ll)=false:=beq_eq_false_iff_ne.2 g2
   rw [e,e']
   clear e e'
   cases b<;>cases se<;>cases vd<;>cases rz<;>by_cases g1:n=0<;>simp_all
 by_cases h4:k=4
 ·subst h4;cases b<;>cases se<;>cases vd<;>by_cases g1:n=0<;>by_cases g2:kl=0<;>simp_all
 have hk:(decide (k<0)||decide (7<k))=true:=by
  rw [Bool.or_eq_true,decide_eq_true_eq,decide_eq_true_eq]
  omega
 rw [hk]
 simp [h0,h1,h2,h3,h4,h5,h6,h7]
mutual
theorem may_pre  : ∀ (T:Tree) (d:Int),(T.pre d).all (fun x=>shapedB x.2)=mayT T
 | .mk k b n s ks ts,d=>by
  rw [Tree.pre,mayT,List.all_cons,may_preL ts (d+1),shaped_head,Bool.and_assoc]
theorem may_preL  : ∀ (l:List Tree) (d:Int),(Tree.preL d l).all (fun x=>shapedB x.2)=mayL l
 | [],d=>rfl
 | t::ts,d=>by rw [Tree.preL,mayL,List.all_append,may_pre t d,may_preL ts d]
end
theorem check_eq (T:Tree):checkN T=if mayT T=true then (if 64<hgtT T∨1048576<bytT T∨65536<lngT T then 3 else 0) else 110:=by
 unfold checkN
 rw [may_pre]
 have h:=heavy_iff (T.pre 1) 0 (by omega)
 rw [pre_deep,pre_long,pre_bytes] at h
 have e:(heavy 0 (T.pre 1)=true)=(64<hgtT T∨1048576<bytT T∨65536<lngT T):=propext (by rw [h];omega)
 simp only [e]
set_option maxRecDepth 100000 in
set_option maxHeartbeats 1000000 in
theorem rcheck_any (T:Tree) (B:Nat) (v:Value) (w:World) (hB:B≤w.heap.size) (hv:Lies B w v T) (hS:Sane T) (htot:T.total≤2000000) :
  Calls Tryz.prog 51 #[v] w fun e w'=>e=.returned (.int .i64 (checkN T))∧Below w.heap.size w w':=by
 have HM:Hid (∀ W,Below w.heap.size w W→Calls Tryz.prog 110 #[v] W fun e w'=>e=.returned (.bool (mayT T))∧Below W.heap.size W w'):=fun W hb =>
  may_any T B v W (Nat.le_trans hB hb.size) (hv.below (hb.mono hB)) hS
 have HS:Hid (∀ W,Below w.heap.size w W→Calls Tryz.prog 69 #[v] W fun e w'=>e=.returned (.tuple #[.int .i64 (cntT T),.int .i64 (hgtT T),.int .i64 (bytT T),.int .i64 (lngT T)])∧Below W.heap.size W w'):=fun W hb =>
  refsize_any T B v W (Nat.le_trans hB hb.size) (hv.below (hb.mono hB)) htot
 have HC:=hidE (check_eq T)
 generalize mayT T=m at *
 generalize cntT T=t1 at *
 generalize hgtT T=t2 at *
 generalize bytT T=t3 at *
 generalize lngT T=t4 at *
 obtain ⟨k,x,n,s,ks,ts⟩:=T
 simp only [Lies] at hv
 obtain ⟨ka,kc,la,lc,rfl,-⟩:=hv
 have HB0:=hidE ((Below.refl w.heap.size w).alloc (Nat.le_refl _) (.cells #[.int .i64 k,.bool x,.int .i64 n,.string s,.slice ka ks.length kc,.slice la ts.length lc] 60))
 generalize checkN (.mk k x n s ks ts)=res at *
 clear hB hS htot
 go_enter Tryz.func51,Tryz.ntmps51
 go_wp2_with fail
 refine (HM.out _ HB0.out).mono ?_
 rintro e w1 ⟨rfl,h1⟩
 obtain ⟨hb1,hc⟩:=box_cells h1
 have c0:=hc 0 _ rfl
 have c1:=hc 1 _ rfl
 have c2:=hc 2 _ rfl
 have c3:=hc 3 _ rfl
 have c4:=hc 4 _ rfl
 have c5:=hc 5 _ rfl
 have HB1:=hidE hb1
 clear hc h1 hb1 HB0 HM
 cases m
 ·go_wp2_with fail
  go_ret
  exact ⟨by rw [HC.out];rfl,HB1.out⟩
 ·go_wp2_with fail
  refine (HS.out _ HB1.out).mono ?_
  rintro e w2 ⟨rfl,h2⟩
  have HB2:=hidE (below_on HB1.out h2)
  clear h2 c0 c1 c2 c3 c4 c5 HS HB1
  by_cases g1:64<t2
  ·have HR:Hid (res=3):=HC.out.trans (by simp [g1])
   have d1:decide (64<t2)=true:=decide_eq_true g1
   clear HC g1
   go_wp2_with fail
   go_ret
   exact ⟨by rw [HR.out];rfl,HB2.out⟩
  ·have d1:decide (64<t2)=false:=decide_eq_false g1
   by_cases g2:1048576<t3
   ·have HR:Hid (res=3):=HC.out.trans (by simp [g2])
    have d2:decide (1048576<t3)=true:=decide_eq_true g2
    clear HC g1 g2
    go_wp2_with fail
    go_ret
    exact ⟨by rw [HR.out];rfl,HB2.out⟩
   ·have d2:decide (1048576<t3)=false:=decide_eq_false g2
    by_cases g3:65536<t4
    ·have HR:Hid (res=3):=HC.out.trans (by simp [g3])
     have d3:decide (65536<t4)=true:=decide_eq_true g3
     clear HC g1 g2 g3
     go_wp2_with fail
     go_ret
     exact ⟨by rw [HR.out];rfl,HB2.out⟩
    ·have HR:Hid (res=0):=HC.out.trans (by simp [g1,g2,g3])
     have d3:decide (65536<t4)=false:=decide_eq_false g3
     clear HC g1 g2 g3
     go_wp2_with fail
     go_ret
     exact ⟨by rw [HR.out];rfl,HB2.out⟩
end Go.Proofs.YteddjlbfbpecjaaGreatDoor

namespace Go.Proofs.YteddjlbfbpecjaaGreatDoor
open Go.RowKit Go.Shelf
set_option linter.unusedVariables false
set_option linter.unusedSimpArgs false
attribute [local go_sem] Oper.semAt_some
set_option maxRecDepth 100000 in
set_option maxHeartbeats 2000000 in
theorem refstor_any (T:Tree) (B:Nat) (v:Value) (w:World) (hB:B≤w.heap.size) (hv:Lies B w v T):Calls Tryz.prog 149 #[v] w fun e w'=>e=.returned (.bool (rstorB T))∧Below w.heap.size w w':=by
 obtain ⟨k,x,n,s,ks,ts⟩:=T
 simp only [Lies] at hv
 obtain ⟨ka,kc,la,lc,rfl,⟨hs1,hs2,hs3,hs4,hs5⟩,hk,ht⟩:=hv
 unfold maxLen at hs5
 obtain ⟨W1,hW1⟩:∃ W1,w.alloc (.cells #[.int .i64 k,.bool x,.int .i64 n,.string s,.slice ka ks.length kc,.slice la ts.length lc] 60)=W1:=⟨_,rfl⟩
 have hb1:Below w.heap.size w W1:=hW1▸(Below.refl _ _).alloc (Nat.le_refl _) _
 have hq1:W1.heap[w.heap.size]?=some (.cells #[.int .i64 k,.bool x,.int .i64 n,.string s,.slice ka ks.length kc,.slice la ts.length lc] 60 (0,0)):=hW1▸World.alloc_heap_new _ _
 have hlt1:w.heap.size<W1.heap.size:=(Array.getElem?_eq_some_iff.1 hq1).1
 have HX:Hid (∀ W,Below W1.heap.size W1 W→Below w.heap.size w W∧W.cell? ⟨w.heap.size,0,none⟩=some (.int .i64 k)∧W.cell? ⟨w.heap.size,5,none⟩=some (.slice la ts.length lc)):=fun W hb=>by
  have e:=(hb.block _ hlt1).trans hq1
  exact ⟨hb1.trans (hb.mono (by omega)),by unfold World.cell?;simp only [e];rfl,by unfold World.cell?;simp only [e];rfl⟩
 have HT:Hid (ts=[]∨∃ bl off,la=some ⟨bl,off,none⟩∧bl<B∧KidsLie B w bl off ts):=ht
 have HR:Hid (rstorB (.mk k x n s ks ts)=(sameK ts&&(if k=4 then (if ts=[] then true else plainB (firstK ts)) else plainB k))):=rfl
 have HW1:=hidE hW1
 clear hW1 hq1 ht hk
 go_enter Tryz.func149,Tryz.ntmps149
 go_wp2_with fail
 rw [HW1.out]
 clear HW1
 go_loopw [3] (fun i wr=>∃ j:Nat,j≤ts.length∧i=.int .i64 j∧Below W1.heap.size W1 wr∧(ts.take j).all (fun t=>t.kind==firstK ts)=true) (fun i _=>ts.length - (intOf i).toNat)
 case atStart=>exact ⟨0,Nat.zero_le _,rfl,Below.refl _ _,rfl⟩
 case round =>
  obtain ⟨j,hj,rfl,hbr,hal⟩:=hrel
  have HBR:=hidE hbr
  have HAL:=hidE hal
  obtain ⟨hbw,q0,q5⟩:=HX.out wr hbr
  have HBW:=hidE hbw
  clear hbr hbw hal
  by_cases hlt:j<ts.length
  ·obtain ⟨bl,off,rfl,hbl,hkk⟩:=HT.out.resolve_left (by intro e;subst e;simp at hlt)
   obtain ⟨⟨p0,p1,p2,p3,p4,p5⟩,hx⟩:∃ t,ts[j]?=some t:=⟨_,List.getElem?_eq_getElem hlt⟩
   have hkw:=hkk.below (HBW.out.mono hB) hbl
   obtain ⟨_,_,_,_,⟨c0,_⟩,_⟩:=hkw.cells hx
   have d0:=hkw.first (by omega)
   have HX2:=hidE hx
   obtain ⟨fk,hfk⟩:∃ f,firstK ts=f:=⟨_,rfl⟩
   rw [hfk] at d0
   have HFK:=hidE hfk
   have hl0:(0:Int)<ts.length:=by omega
   clear hkk hkw hx hfk
   go_wp2_with fail
   go_quiet (fail)
   by_cases e:p0=fk
   ·have e':(p0 != fk)=false:=by simp [e]
    go_wp2_with fail
    go_roundw
    case rel=>exact ⟨j+1,by omega,by go_num,below_drewN HBR.out _,take_all_snoc HAL.out HX2.out (by rw [HFK.out];simp [Tree.kind,e])⟩
    case measure=>simp [intOf];omega
   ·have e':(p0 != fk)=true:=by simp [e]
    have HRF:Hid (rstorB (.mk k x n s ks ts)=false):=by
     show _=_
     rw [HR.out]
     have:sameK ts=false:=all_false HX2.out (by rw [HFK.out];simp [Tree.kind,e])
     rw [this];rfl
    go_wp2_with fail
    go_ret
    exact ⟨by rw [HRF.out];rfl,below_drewN HBW.out _⟩
  ·have HSM:Hid (sameK ts=true):=by
    have:=HAL.out
    rw [List.take_of_length_le (by omega)] at this
    exact this
   have HR2:Hid (rstorB (.mk k x n s ks ts)=(if k=4 then (if ts=[] then true else plainB (firstK ts)) else plainB k)):=by
    show _=_;rw [HR.out,HSM.out,Bool.true_and]
   clear HAL HR HSM
   by_cases k4:k=4
   ·have k4':(k==4)=true:=by simp [k4]
    by_cases hl0:0<ts.length
    ·have hl0':(0:Int)<ts.length:=by omega
     obtain ⟨bl,off,rfl,hbl,hkk⟩:=HT.out.resolve_left (by intro e;subst e;simp at hl0)
     have d0:=(hkk.below (HBW.out.mono hB) hbl).first hl0
     have HR3:Hid (rstorB (.mk k x n s ks ts)=plainB (firstK ts)):=by
      show _=_;rw [HR2.out,if_pos k4,if_neg (by intro e;subst e;simp at hl0)]
     obtain ⟨fk,hfk⟩:∃ f,firstK ts=f:=⟨_,rfl⟩
     rw [hfk] at d0
     have HFK:=hidE hfk
     clear hkk hfk
     go_wp2_with fail
     all_goals
      go_ret
      refine ⟨?_,HBW.out⟩
      rw [HR3.out,HFK.out]
      simp_all [plainB]
    ·have hl0':¬ (0:Int)<ts.length:=by omega
     have HR3:Hid (rstorB (.mk k x n s ks ts)=true):=by
      show _=_;rw [HR2.out,if_pos k4,if_pos (List.eq_nil_of_length_eq_zero (by omega))]
     clear k4
     go_wp2_with fail
     go_ret
     exact ⟨by rw [HR3.out];rfl,HBW.out⟩
   ·have k4':(k==4)=false:=by simp [k4]
    have HR3:Hid (rstorB (.mk k x n s ks ts)=plainB k):=by
     show _=_;rw [HR2.out,if_neg k4]
    go_wp2_with fail
    all_goals
     go_ret
     refine ⟨?_,HBW.out⟩
     rw [HR3.out]
     simp_all [plainB]
end Go.Proofs.YteddjlbfbpecjaaGreatDoor

namespace Go.Proofs.YteddjlbfbpecjaaGreatDoor
open Go.RowKit Go.Shelf
set_option linter.unusedVariables false
set_option linter.unusedSimpArgs false
def storeB (T:Tree):Bool:=decide (checkN T=0)&&rstorB T
set_option maxRecDepth 100000 in
set_option maxHeartbeats 4000000 in
theorem rstorable_any (T:Tree) (B:Nat) (v:Value) (w:World) (hB:B≤w.heap.size) (hv:Lies B w v T) (hS:Sane T) (htot:T.total≤2000000):Calls Tryz.prog 103 #[v] w fun e w'=>e=.returned (.bool (storeB T))∧Below w.heap.size w w':=by
 have HV:=hidE hv
 obtain ⟨cn,hcn⟩:∃ c,checkN T=c:=⟨_,rfl⟩
 obtain ⟨sb,hsb⟩:∃ c,rstorB T=c:=⟨_,rfl⟩
 have HCK0:Hid (∀ W,Below w.heap.size w W→Calls Tryz.prog 51 #[v] W fun e w'=>e=.returned (.int .i64 cn)∧Below W.heap.size W w'):=fun W hb=>by
  rw [← hcn];exact rcheck_any T B v W (Nat.le_trans hB hb.size) (HV.out.below (hb.mono hB)) hS htot
 have HST0:Hid (∀ W,Below w.heap.size w W→Calls Tryz.prog 149 #[v] W fun e w'=>e=.returned (.bool sb)∧Below W.heap.size W w'):=fun W hb=>by
  rw [← hsb];exact refstor_any T B v W (Nat.le_trans hB hb.size) (HV.out.below (hb.mono hB))
 have HR:Hid (storeB T=(decide (cn=0)&&sb)):=by
  show _=_
  unfold storeB
  rw [hcn,hsb]
 obtain ⟨res,hres⟩:∃ r,storeB T=r:=⟨_,rfl⟩
 rw [hres] at HR ⊢
 clear hcn hsb hS htot HV hres
 obtain ⟨k,x,n,s,ks,ts⟩:=T
 simp only [Lies] at hv
 obtain ⟨ka,kc,la,lc,rfl,⟨hs1,hs2,hs3,hs4,hs5⟩,_,_⟩:=hv
 unfold maxLen at hs5
 obtain ⟨W1,hW1⟩:∃ W1,w.alloc (.cells #[.int .i64 k,.bool x,.int .i64 n,.string s,.slice ka ks.length kc,.slice la ts.length lc] 60)=W1:=⟨_,rfl⟩
 have hb1:Below w.heap.size w W1:=hW1▸(Below.refl _ _).alloc (Nat.le_refl _) _
 have hq1:W1.heap[w.heap.size]?=some (.cells #[.int .i64 k,.bool x,.int .i64 n,.string s,.slice ka ks.length kc,.slice la ts.length lc] 60 (0,0)):=hW1▸World.alloc_heap_new _ _
 have hlt1:w.heap.size<W1.heap.size:=(Array.getElem?_eq_some_iff.1 hq1).1
 have HX:Hid (∀ W,Below W1.heap.size W1 W→Below w.heap.size w W∧W.cell? ⟨w.heap.size,0,none⟩=some (.int .i64 k)∧W.cell? ⟨w.heap.size,1,none⟩=some (.bool x)∧W.cell? ⟨w.heap.size,2,none⟩=some (.int .i64 n)∧W.cell? ⟨w.heap.size,3,none⟩=some (.string s)∧W.cell? ⟨w.heap.size,4,none⟩=some (.slice ka ks.length kc)∧W.cell? ⟨w.heap.size,5,none⟩=some (.slice la ts.length lc)):=fun W hb=>by
  have e:=(hb.block _ hlt1).trans hq1
  refine ⟨hb1.trans (hb.mono (by omega)),?_,?_,?_,?_,?_,?_⟩<;>(unfold World.cell?;simp only [e];rfl)
 have HCK:=hidE (HCK0.out W1 hb1)
 have HW1:=hidE hW1
 have HH:=hidE hlt1
 clear hW1 hq1 HCK0
 go_enter Tryz.func103,Tryz.ntmps103
 go_wp2_with fail
 rw [HW1.out]
 refine HCK.out.mono ?_
 rintro e w2 ⟨rfl,hb2⟩
 obtain ⟨hbw2,q0,q1,q2,q3,q4,q5⟩:=HX.out w2 hb2
 have HBW2:=hidE hbw2
 have HST:=hidE (HST0.out w2 hbw2)
 clear hb2 hbw2 HW1 HCK
 by_cases hc:cn=0
 ·have hc':(cn==0)=true:=by simp [hc]
  have HR2:Hid (res=sb):=by
   show _=_
   rw [HR.out,hc];rfl
  clear hc
  go_wp2_with fail
  refine HST.out.mono ?_
  rintro e w3 ⟨rfl,hb3⟩
  have HB3:=hidE hb3
  clear hb3
  go_wp2_with fail
  go_ret
  exact ⟨by rw [HR2.out];rfl,HBW2.out.trans (HB3.out.mono HBW2.out.size)⟩
 ·have hc':(cn==0)=false:=by simp [hc]
  have HR2:Hid (res=false):=by
   show _=_
   rw [HR.out,decide_eq_false hc];rfl
  clear hc
  go_wp2_with fail
  go_ret
  exact ⟨by rw [HR2.out];rfl,HBW2.out⟩
end Go.Proofs.YteddjlbfbpecjaaGreatDoor

namespace Go.Proofs.YteddjlbfbpecjaaGreatDoor
open Go.RowKit Go.Shelf Go.WideShapes
set_option maxHeartbeats 4000000
set_option maxRecDepth 100000
set_option linter.unusedVariables false
set_option linter.unusedSimpArgs false
noncomputable def RPA  : Array Oper:=regionAt Tryz.f42 4
def LPA  : List Sig:=[⟨10,.move (.tmp 0),45,none⟩,⟨11,.move (.tmp 3),3,none⟩,⟨12,.indexAddr 45 (.tmp 10) (.tmp 11),0,none⟩,⟨13,.fieldAddr 79 (.tmp 12) 0,0,none⟩,⟨14,.load 9 (.tmp 13),9,none⟩,⟨15,.call { callee:=.value (.func 43),args:=#[.tmp 14],argTypes:=#[9] },4,none⟩,⟨16,.unOp .not 4 (.tmp 15),4,none⟩,⟨17,.move (.tmp 16),4,none⟩,⟨18,.move (.tmp 0),45,some (7,false)⟩,⟨19,.move (.tmp 3),3,some (7,false)⟩,⟨20,.indexAddr 45 (.tmp 18) (.tmp 19),0,some (7,false)⟩,⟨21,.fieldAddr 79 (.tmp 20) 1,0,some (7,false)⟩,⟨22,.load 60 (.tmp 21),60,some (7,false)⟩,⟨23,.call { callee:=.value (.func 103),args:=#[.tmp 22],argTypes:=#[60] },4,some (7,false)⟩,⟨24,.unOp .not 4 (.tmp 23),4,some (7,false)⟩,⟨25,.pick (.tmp 17) (.const (.bool true)) (.tmp 24),4,none⟩,⟨26,.move (.tmp 25),4,none⟩,⟨27,.move (.tmp 3),3,some (16,false)⟩,⟨28,.binOp .gtr 3 (.tmp 27) (.const (.int .i64 0)) 3,4,some (16,false)⟩,⟨29,.move (.tmp 28),4,some (16,false)⟩,⟨30,.move (.tmp 0),45,some (19,true)⟩,⟨31,.move (.tmp 3),3,some (19,true)⟩,⟨32,.binOp .sub 3 (.tmp 31) (.const (.int .i64 1)) 3,3,some (19,true)⟩,⟨33,.indexAddr 45 (.tmp 30) (.tmp 32),0,some (19,true)⟩,⟨34,.fieldAddr 79 (.tmp 33) 0,0,some (19,true)⟩,⟨35,.load 9 (.tmp 34),9,some (19,true)⟩,⟨36,.move (.tmp 0),45,some (19,true)⟩,⟨37,.move (.tmp 3),3,some (19,true)⟩,⟨38,.indexAddr 45 (.tmp 36) (.tmp 37),0,some (19,true)⟩,⟨39,.fieldAddr 79 (.tmp 38) 0,0,some (19,true)⟩,⟨40,.load 9 (.tmp 39),9,some (19,true)⟩,⟨41,.call { callee:=.value (.func 102),args:=#[.tmp 35,.tmp 40],argTypes:=#[9,9] },3,some (19,true)⟩,⟨42,.binOp .geq 3 (.tmp 41) (.const (.int .i64 0)) 3,4,some (19,true)⟩,⟨43,.pick (.tmp 29) (.tmp 42) (.const (.bool false)),4,some (16,false)⟩,⟨44,.pick (.tmp 26) (.const (.bool true)) (.tmp 43),4,none⟩]
theorem hLPA  : sigsOf RPA=LPA.map some:=by kernel_rfl
def APA  : List (List Nat):=[[],[],[0,1],[2],[3],[4],[5],[6],[7],[7],[7,8,9],[7,10],[7,11],[7,12],[7,13],[7,14],[15],[16],[16,17],[16,18],[19],[19],[19,21],[19,20,22],[19,23],[19,24],[19],[19],[19,26,27],[19,28],[19,29],[19,25,30],[19,31],[16,19,32],[16,33]]
def VPA (bl off kl kc j m:Nat) (x y:ByteArray) (z:Int) (b:Bool) (v0 v1 v2 v3 v4 v5:Value):List Value:=[.slice (some ⟨bl,off,none⟩) kl kc,.int .i64 (j:Int),.pointer (some ⟨bl,off+j*7,none⟩),.pointer (some ⟨bl,off+j*7,none⟩),.string x,.bool false,.bool true,.bool true,undef,undef,undef,undef,undef,undef,undef,.bool true,.bool true,undef,undef,undef,undef,undef,undef,undef,undef,undef,undef,undef,undef,undef,undef,undef,undef,undef,.bool true]
structure BasePA (bl off kl kc j m:Nat) (x y:ByteArray) (z:Int) (b:Bool) (v0 v1 v2 v3 v4 v5:Value) (c:Act):Prop where
 t0:c.eval (.tmp 0)=.slice (some ⟨bl,off,none⟩) kl kc
 t3:c.eval (.tmp 3)=.int .i64 (j:Int)
structure WorldPA (bl off kl kc j m:Nat) (x y:ByteArray) (z:Int) (b:Bool) (v0 v1 v2 v3 v4 v5:Value) (w:World):Prop where
 cx:w.cell? ⟨bl,off+j*7,none⟩=some (.string x)
 kn:Calls Tryz.prog 43 #[.string x] w fun e w'=>e=.returned (.bool false)∧Below w.heap.size w w'
 lt:j<kl
 le:kl≤9223372036854775807
theorem regionPA (bl off kl kc j m:Nat) (x y:ByteArray) (z:Int) (b:Bool) (v0 v1 v2 v3 v4 v5:Value) (Q:Exit→Act→World→Prop) (base:Act) (w0:World) (hsz:base.tmps.size=45) (hb:BasePA bl off kl kc j m x y z b v0 v1 v2 v3 v4 v5 base)
  (hW:∀ w,Below w0.heap.size w0 w→WorldPA bl off kl kc j m x y z b v0 v1 v2 v3 v4 v5 w) (hQ:∀ c w,Same RPA base c→Below w0.heap.size w0 w→c.eval (.tmp 44)=.bool true→Q .normal c w):(Code.region 4 RPA true).wp Tryz.prog Q base w0:=by
 refine told_rule (B:=BasePA bl off kl kc j m x y z b v0 v1 v2 v3 v4 v5) (T:=WorldPA bl off kl kc j m x y z b v0 v1 v2 v3 v4 v5) (n:=35) (k:=34) LPA APA (VPA bl off kl kc j m x y z b v0 v1 v2 v3 v4 v5) hLPA rfl (by kernel_rfl) (by kernel_rfl) (by kernel_rfl) (by rw [hsz];kernel_rfl) (fun c hS=>⟨(same_eval hS (by kernel_rfl)).trans hb.t0,(same_eval hS (by kernel_rfl)).trans hb.t3⟩) hW ?_ (by decide) rfl rfl hQ
 clear hsz hb hW hQ
 iterate 35 (refine below_succ ?_ (by
  intro c w hb hW hEq
  obtain ⟨t0,t3⟩:=hb
  obtain ⟨cx,kn,lt,le⟩:=hW
  have ec:=evc c
  have ef:=evf c
  dsimp only [APA,LPA,VPA,nth,EqAt,look,OpGoal] at hEq ⊢
  first
  | exact ⟨by first | exact hEq.1 | exact hEq.2.1 | exact hEq.2.2.1 | exact hEq.2.2.2.1,.inr ⟨.inl rfl,rfl⟩⟩
  | exact ⟨by first | exact hEq.1 | exact hEq.2.1 | exact hEq.2.2.1 | exact hEq.2.2.2.1,.inr ⟨.inr rfl,rfl⟩⟩
  | ((try refine ⟨by first | exact hEq.1 | exact hEq.2.1 | exact hEq.2.2.1 | exact hEq.2.2.2.1,.inl ⟨rfl,?_⟩⟩);first | (refine od_static Tryz.call43 kn ?_;simp only [List.map_toArray,List.map_cons,List.map_nil,hEq];done) | (refine .inl fun pos af=>?_;(clear kn;dsimp only [Sig.oper];generalize c.eval=ρ at *;go_simp;done)))))
 exact below_zero
noncomputable def RPB  : Array Oper:=regionAt Tryz.f42 4
def LPB  : List Sig:=[⟨10,.move (.tmp 0),45,none⟩,⟨11,.move (.tmp 3),3,none⟩,⟨12,.indexAddr 45 (.tmp 10) (.tmp 11),0,none⟩,⟨13,.fieldAddr 79 (.tmp 12) 0,0,none⟩,⟨14,.load 9 (.tmp 13),9,none⟩,⟨15,.call { callee:=.value (.func 43),args:=#[.tmp 14],argTypes:=#[9] },4,none⟩,⟨16,.unOp .not 4 (.tmp 15),4,none⟩,⟨17,.move (.tmp 16),4,none⟩,⟨18,.move (.tmp 0),45,some (7,false)⟩,⟨19,.move (.tmp 3),3,some (7,false)⟩,⟨20,.indexAddr 45 (.tmp 18) (.tmp 19),0,some (7,false)⟩,⟨21,.fieldAddr 79 (.tmp 20) 1,0,some (7,false)⟩,⟨22,.load 60 (.tmp 21),60,some (7,false)⟩,⟨23,.call { callee:=.value (.func 103),args:=#[.tmp 22],argTypes:=#[60] },4,some (7,false)⟩,⟨24,.unOp .not 4 (.tmp 23),4,some (7,false)⟩,⟨25,.pick (.tmp 17) (.const (.bool true)) (.tmp 24),4,none⟩,⟨26,.move (.tmp 25),4,none⟩,⟨27,.move (.tmp 3),3,some (16,false)⟩,⟨28,.binOp .gtr 3 (.tmp 27) (.const (.int .i64 0)) 3,4,some (16,false)⟩,⟨29,.move (.tmp 28),4,some (16,false)⟩,⟨30,.move (.tmp 0),45,some (19,true)⟩,⟨31,.move (.tmp 3),3,some (19,true)⟩,⟨32,.binOp .sub 3 (.tmp 31) (.const (.int .i64 1)) 3,3,some (19,true)⟩,⟨33,.indexAddr 45 (.tmp 30) (.tmp 32),0,some (19,true)⟩,⟨34,.fieldAddr 79 (.tmp 33) 0,0,some (19,true)⟩,⟨35,.load 9 (.tmp 34),9,some (19,true)⟩,⟨36,.move (.tmp 0),45,some (19,true)⟩,⟨37,.move (.tmp 3),3,some (19,true)⟩,⟨38,.indexAddr 45 (.tmp 36) (.tmp 37),0,some (19,true)⟩,⟨39,.fieldAddr 79 (.tmp 38) 0,0,some (19,true)⟩,⟨40,.load 9 (.tmp 39),9,some (19,true)⟩,⟨41,.call { callee:=.value (.func 102),args:=#[.tmp 35,.tmp 40],argTypes:=#[9,9] },3,some (19,true)⟩,⟨42,.binOp .geq 3 (.tmp 41) (.const (.int .i64 0)) 3,4,some (19,true)⟩,⟨43,.pick (.tmp 29) (.tmp 42) (.const (.bool false)),4,some (16,false)⟩,⟨44,.pick (.tmp 26) (.const (.bool true)) (.tmp 43),4,none⟩]
theorem hLPB  : sigsOf RPB=LPB.map some:=by kernel_rfl
def APB  : List (List Nat):=[[],[],[0,1],[2],[3],[4],[5],[6],[7],[7],[7,8,9],[7,10],[7,11],[7,12],[7,13],[7,14],[15],[16],[16,17],[16,18],[19],[19],[19,21],[19,20,22],[19,23],[19,24],[19],[19],[19,26,27],[19,28],[19,29],[19,25,30],[19,31],[16,19,32],[16,33]]
def VPB (bl off kl kc j m:Nat) (x y:ByteArray) (z:Int) (b:Bool) (v0 v1 v2 v3 v4 v5:Value):List Value:=[.slice (some ⟨bl,off,none⟩) kl kc,.int .i64 (j:Int),.pointer (some ⟨bl,off+j*7,none⟩),.pointer (some ⟨bl,off+j*7,none⟩),.string x,.bool true,.bool false,.bool false,.slice (some ⟨bl,off,none⟩) kl kc,.int .i64 (j:Int),.pointer (some ⟨bl,off+j*7,none⟩),.pointer (some ⟨bl,off+j*7+1,none⟩),.agg #[v0,v1,v2,v3,v4,v5],.bool false,.bool true,.bool true,.bool true,undef,undef,undef,undef,undef,undef,undef,undef,undef,undef,undef,undef,undef,undef,undef,undef,undef,.bool true]
structure BasePB (bl off kl kc j m:Nat) (x y:ByteArray) (z:Int) (b:Bool) (v0 v1 v2 v3 v4 v5:Value) (c:Act):Prop where
 t0:c.eval (.tmp 0)=.slice (some ⟨bl,off,none⟩) kl kc
 t3:c.eval (.tmp 3)=.int .i64 (j:Int)
structure WorldPB (bl off kl kc j m:Nat) (x y:ByteArray) (z:Int) (b:Bool) (v0 v1 v2 v3 v4 v5:Value) (w:World):Prop where
 cx:w.cell? ⟨bl,off+j*7,none⟩=some (.string x)
 kn:Calls Tryz.prog 43 #[.string x] w fun e w'=>e=.returned (.bool true)∧Below w.heap.size w w'
 ks:Calls Tryz.prog 103 #[.agg #[v0,v1,v2,v3,v4,v5]] w fun e w'=>e=.returned (.bool false)∧Below w.heap.size w w'
 c0:w.cell? ⟨bl,off+j*7+1,none⟩=some v0
 c1:w.cell? ⟨bl,off+j*7+2,none⟩=some v1
 c2:w.cell? ⟨bl,off+j*7+3,none⟩=some v2
 c3:w.cell? ⟨bl,off+j*7+4,none⟩=some v3
 c4:w.cell? ⟨bl,off+j*7+5,none⟩=some v4
 c5:w.cell? ⟨bl,off+j*7+6,none⟩=some v5
 lt:j<kl
 le:kl≤9223372036854775807
theorem regionPB (bl off kl kc j m:Nat) (x y:ByteArray) (z:Int) (b:Bool) (v0 v1 v2 v3 v4 v5:Value) (Q:Exit→Act→World→Prop) (base:Act) (w0:World) (hsz:base.tmps.size=45) (hb:BasePB bl off kl kc j m x y z b v0 v1 v2 v3 v4 v5 base)
  (hW:∀ w,Below w0.heap.size w0 w→WorldPB bl off kl kc j m x y z b v0 v1 v2 v3 v4 v5 w) (hQ:∀ c w,Same RPB base c→Below w0.heap.size w0 w→c.eval (.tmp 44)=.bool true→Q .normal c w):(Code.region 4 RPB true).wp Tryz.prog Q base w0:=by
 refine told_rule (B:=BasePB bl off kl kc j m x y z b v0 v1 v2 v3 v4 v5) (T:=WorldPB bl off kl kc j m x y z b v0 v1 v2 v3 v4 v5) (n:=35) (k:=34) LPB APB (VPB bl off kl kc j m x y z b v0 v1 v2 v3 v4 v5) hLPB rfl (by kernel_rfl) (by kernel_rfl) (by kernel_rfl) (by rw [hsz];kernel_rfl) (fun c hS=>⟨(same_eval hS (by kernel_rfl)).trans hb.t0,(same_eval hS (by kernel_rfl)).trans hb.t3⟩) hW ?_ (by decide) rfl rfl hQ
 clear hsz hb hW hQ
 iterate 35 (refine below_succ ?_ (by
  intro c w hb hW hEq
  obtain ⟨t0,t3⟩:=hb
  obtain ⟨cx,kn,ks,c0,c1,c2,c3,c4,c5,lt,le⟩:=hW
  have ec:=evc c
  have ef:=evf c
  dsimp only [APB,LPB,VPB,nth,EqAt,look,OpGoal] at hEq ⊢
  first
  | exact ⟨by first | exact hEq.1 | exact hEq.2.1 | exact hEq.2.2.1 | exact hEq.2.2.2.1,.inr ⟨.inl rfl,rfl⟩⟩
  | exact ⟨by first | exact hEq.1 | exact hEq.2.1 | exact hEq.2.2.1 | exact hEq.2.2.2.1,.inr ⟨.inr rfl,rfl⟩⟩
  | ((try refine ⟨by first | exact hEq.1 | exact hEq.2.1 | exact hEq.2.2.1 | exact hEq.2.2.2.1,.inl ⟨rfl,?_⟩⟩);first | (refine od_static Tryz.call43 kn ?_;simp only [List.map_toArray,List.map_cons,List.map_nil,hEq];done) | (refine od_static Tryz.call103 ks ?_;simp only [List.map_toArray,List.map_cons,List.map_nil,hEq];done) | (refine .inl fun pos af=>?_;(clear kn ks;dsimp only [Sig.oper];generalize c.eval=ρ at *;go_simp;done)))))
 exact below_zero
noncomputable def RPC  : Array Oper:=regionAt Tryz.f42 4
def LPC  : List Sig:=[⟨10,.move (.tmp 0),45,none⟩,⟨11,.move (.tmp 3),3,none⟩,⟨12,.indexAddr 45 (.tmp 10) (.tmp 11),0,none⟩,⟨13,.fieldAddr 79 (.tmp 12) 0,0,none⟩,⟨14,.load 9 (.tmp 13),9,none⟩,⟨15,.call { callee:=.value (.func 43),args:=#[.tmp 14],argTypes:=#[9] },4,none⟩,⟨16,.unOp .not 4 (.tmp 15),4,none⟩,⟨17,.move (.tmp 16),4,none⟩,⟨18,.move (.tmp 0),45,some (7,false)⟩,⟨19,.move (.tmp 3),3,some (7,false)⟩,⟨20,.indexAddr 45 (.tmp 18) (.tmp 19),0,some (7,false)⟩,⟨21,.fieldAddr 79 (.tmp 20) 1,0,some (7,false)⟩,⟨22,.load 60 (.tmp 21),60,some (7,false)⟩,⟨23,.call { callee:=.value (.func 103),args:=#[.tmp 22],argTypes:=#[60] },4,some (7,false)⟩,⟨24,.unOp .not 4 (.tmp 23),4,some (7,false)⟩,⟨25,.pick (.tmp 17) (.const (.bool true)) (.tmp 24),4,none⟩,⟨26,.move (.tmp 25),4,none⟩,⟨27,.move (.tmp 3),3,some (16,false)⟩,⟨28,.binOp .gtr 3 (.tmp 27) (.const (.int .i64 0)) 3,4,some (16,false)⟩,⟨29,.move (.tmp 28),4,some (16,false)⟩,⟨30,.move (.tmp 0),45,some (19,true)⟩,⟨31,.move (.tmp 3),3,some (19,true)⟩,⟨32,.binOp .sub 3 (.tmp 31) (.const (.int .i64 1)) 3,3,some (19,true)⟩,⟨33,.indexAddr 45 (.tmp 30) (.tmp 32),0,some (19,true)⟩,⟨34,.fieldAddr 79 (.tmp 33) 0,0,some (19,true)⟩,⟨35,.load 9 (.tmp 34),9,some (19,true)⟩,⟨36,.move (.tmp 0),45,some (19,true)⟩,⟨37,.move (.tmp 3),3,some (19,true)⟩,⟨38,.indexAddr 45 (.tmp 36) (.tmp 37),0,some (19,true)⟩,⟨39,.fieldAddr 79 (.tmp 38) 0,0,some (19,true)⟩,⟨40,.load 9 (.tmp 39),9,some (19,true)⟩,⟨41,.call { callee:=.value (.func 102),args:=#[.tmp 35,.tmp 40],argTypes:=#[9,9] },3,some (19,true)⟩,⟨42,.binOp .geq 3 (.tmp 41) (.const (.int .i64 0)) 3,4,some (19,true)⟩,⟨43,.pick (.tmp 29) (.tmp 42) (.const (.bool false)),4,some (16,false)⟩,⟨44,.pick (.tmp 26) (.const (.bool true)) (.tmp 43),4,none⟩]
theorem hLPC  : sigsOf RPC=LPC.map some:=by kernel_rfl
def APC  : List (List Nat):=[[],[],[0,1],[2],[3],[4],[5],[6],[7],[7],[7,8,9],[7,10],[7,11],[7,12],[7,13],[7,14],[15],[16],[16,17],[16,18],[19],[19],[19,21],[19,20,22],[19,23],[19,24],[19],[19],[19,26,27],[19,28],[19,29],[19,25,30],[19,31],[16,19,32],[16,33]]
def VPC (bl off kl kc j m:Nat) (x y:ByteArray) (z:Int) (b:Bool) (v0 v1 v2 v3 v4 v5:Value):List Value:=[.slice (some ⟨bl,off,none⟩) kl kc,.int .i64 (j:Int),.pointer (some ⟨bl,off+j*7,none⟩),.pointer (some ⟨bl,off+j*7,none⟩),.string x,.bool true,.bool false,.bool false,.slice (some ⟨bl,off,none⟩) kl kc,.int .i64 (j:Int),.pointer (some ⟨bl,off+j*7,none⟩),.pointer (some ⟨bl,off+j*7+1,none⟩),.agg #[v0,v1,v2,v3,v4,v5],.bool true,.bool false,.bool false,.bool false,.int .i64 (j:Int),.bool false,.bool false,undef,undef,undef,undef,undef,undef,undef,undef,undef,undef,undef,undef,undef,.bool false,.bool false]
structure BasePC (bl off kl kc j m:Nat) (x y:ByteArray) (z:Int) (b:Bool) (v0 v1 v2 v3 v4 v5:Value) (c:Act):Prop where
 t0:c.eval (.tmp 0)=.slice (some ⟨bl,off,none⟩) kl kc
 t3:c.eval (.tmp 3)=.int .i64 (j:Int)
structure WorldPC (bl off kl kc j m:Nat) (x y:ByteArray) (z:Int) (b:Bool) (v0 v1 v2 v3 v4 v5:Value) (w:World):Prop where
 cx:w.cell? ⟨bl,off+j*7,none⟩=some (.string x)
 kn:Calls Tryz.prog 43 #[.string x] w fun e w'=>e=.returned (.bool true)∧Below w.heap.size w w'
 ks:Calls Tryz.prog 103 #[.agg #[v0,v1,v2,v3,v4,v5]] w fun e w'=>e=.returned (.bool true)∧Below w.heap.size w w'
 jz:decide ((0:Int)<(j:Int))=false
 c0:w.cell? ⟨bl,off+j*7+1,none⟩=some v0
 c1:w.cell? ⟨bl,off+j*7+2,none⟩=some v1
 c2:w.cell? ⟨bl,off+j*7+3,none⟩=some v2
 c3:w.cell? ⟨bl,off+j*7+4,none⟩=some v3
 c4:w.cell? ⟨bl,off+j*7+5,none⟩=some v4
 c5:w.cell? ⟨bl,off+j*7+6,none⟩=some v5
 lt:j<kl
 le:kl≤9223372036854775807
theorem regionPC (bl off kl kc j m:Nat) (x y:ByteArray) (z:Int) (b:Bool) (v0 v1 v2 v3 v4 v5:Value) (Q:Exit→Act→World→Prop) (base:Act) (w0:World) (hsz:base.tmps.size=45) (hb:BasePC bl off kl kc j m x y z b v0 v1 v2 v3 v4 v5 base)
  (hW:∀ w,Below w0.heap.size w0 w→WorldPC bl off kl kc j m x y z b v0 v1 v2 v3 v4 v5 w) (hQ:∀ c w,Same RPC base c→Below w0.heap.size w0 w→c.eval (.tmp 44)=.bool false→Q .normal c w):(Code.region 4 RPC true).wp Tryz.prog Q base w0:=by
 refine told_rule (B:=BasePC bl off kl kc j m x y z b v0 v1 v2 v3 v4 v5) (T:=WorldPC bl off kl kc j m x y z b v0 v1 v2 v3 v4 v5) (n:=35) (k:=34) LPC APC (VPC bl off kl kc j m x y z b v0 v1 v2 v3 v4 v5) hLPC rfl (by kernel_rfl) (by kernel_rfl) (by kernel_rfl) (by rw [hsz];kernel_rfl) (fun c hS=>⟨(same_eval hS (by kernel_rfl)).trans hb.t0,(same_eval hS (by kernel_rfl)).trans hb.t3⟩) hW ?_ (by decide) rfl rfl hQ
 clear hsz hb hW hQ
 iterate 35 (refine below_succ ?_ (by
  intro c w hb hW hEq
  obtain ⟨t0,t3⟩:=hb
  obtain ⟨cx,kn,ks,jz,c0,c1,c2,c3,c4,c5,lt,le⟩:=hW
  have ec:=evc c
  have ef:=evf c
  dsimp only [APC,LPC,VPC,nth,EqAt,look,OpGoal] at hEq ⊢
  first
  | exact ⟨by first | exact hEq.1 | exact hEq.2.1 | exact hEq.2.2.1 | exact hEq.2.2.2.1,.inr ⟨.inl rfl,rfl⟩⟩
  | exact ⟨by first | exact hEq.1 | exact hEq.2.1 | exact hEq.2.2.1 | exact hEq.2.2.2.1,.inr ⟨.inr rfl,rfl⟩⟩
  | ((try refine ⟨by first | exact hEq.1 | exact hEq.2.1 | exact hEq.2.2.1 | exact hEq.2.2.2.1,.inl ⟨rfl,?_⟩⟩);first | (refine od_static Tryz.call43 kn ?_;simp only [List.map_toArray,List.map_cons,List.map_nil,hEq];done) | (refine od_static Tryz.call103 ks ?_;simp only [List.map_toArray,List.map_cons,List.map_nil,hEq];done) | (refine .inl fun pos af=>?_;(clear kn ks;dsimp only [Sig.oper];generalize c.eval=ρ at *;go_simp;done)) | (refine .inl fun pos af=>?_;clear kn ks;dsimp only [Sig.oper];generalize c.eval=ρ at *;go_simp;simp at jz;omega))))
 exact below_zero
noncomputable def RPD  : Array Oper:=regionAt Tryz.f42 4
def LPD  : List Sig:=[⟨10,.move (.tmp 0),45,none⟩,⟨11,.move (.tmp 3),3,none⟩,⟨12,.indexAddr 45 (.tmp 10) (.tmp 11),0,none⟩,⟨13,.fieldAddr 79 (.tmp 12) 0,0,none⟩,⟨14,.load 9 (.tmp 13),9,none⟩,⟨15,.call { callee:=.value (.func 43),args:=#[.tmp 14],argTypes:=#[9] },4,none⟩,⟨16,.unOp .not 4 (.tmp 15),4,none⟩,⟨17,.move (.tmp 16),4,none⟩,⟨18,.move (.tmp 0),45,some (7,false)⟩,⟨19,.move (.tmp 3),3,some (7,false)⟩,⟨20,.indexAddr 45 (.tmp 18) (.tmp 19),0,some (7,false)⟩,⟨21,.fieldAddr 79 (.tmp 20) 1,0,some (7,false)⟩,⟨22,.load 60 (.tmp 21),60,some (7,false)⟩,⟨23,.call { callee:=.value (.func 103),args:=#[.tmp 22],argTypes:=#[60] },4,some (7,false)⟩,⟨24,.unOp .not 4 (.tmp 23),4,some (7,false)⟩,⟨25,.pick (.tmp 17) (.const (.bool true)) (.tmp 24),4,none⟩,⟨26,.move (.tmp 25),4,none⟩,⟨27,.move (.tmp 3),3,some (16,false)⟩,⟨28,.binOp .gtr 3 (.tmp 27) (.const (.int .i64 0)) 3,4,some (16,false)⟩,⟨29,.move (.tmp 28),4,some (16,false)⟩,⟨30,.move (.tmp 0),45,some (19,true)⟩,⟨31,.move (.tmp 3),3,some (19,true)⟩,⟨32,.binOp .sub 3 (.tmp 31) (.const (.int .i64 1)) 3,3,some (19,true)⟩,⟨33,.indexAddr 45 (.tmp 30) (.tmp 32),0,some (19,true)⟩,⟨34,.fieldAddr 79 (.tmp 33) 0,0,some (19,true)⟩,⟨35,.load 9 (.tmp 34),9,some (19,true)⟩,⟨36,.move (.tmp 0),45,some (19,true)⟩,⟨37,.move (.tmp 3),3,some (19,true)⟩,⟨38,.indexAddr 45 (.tmp 36) (.tmp 37),0,some (19,true)⟩,⟨39,.fieldAddr 79 (.tmp 38) 0,0,some (19,true)⟩,⟨40,.load 9 (.tmp 39),9,some (19,true)⟩,⟨41,.call { callee:=.value (.func 102),args:=#[.tmp 35,.tmp 40],argTypes:=#[9,9] },3,some (19,true)⟩,⟨42,.binOp .geq 3 (.tmp 41) (.const (.int .i64 0)) 3,4,some (19,true)⟩,⟨43,.pick (.tmp 29) (.tmp 42) (.const (.bool false)),4,some (16,false)⟩,⟨44,.pick (.tmp 26) (.const (.bool true)) (.tmp 43),4,none⟩]
theorem hLPD  : sigsOf RPD=LPD.map some:=by kernel_rfl
def APD  : List (List Nat):=[[],[],[0,1],[2],[3],[4],[5],[6],[7],[7],[7,8,9],[7,10],[7,11],[7,12],[7,13],[7,14],[15],[16],[16,17],[16,18],[19],[19],[19,21],[19,20,22],[19,23],[19,24],[19],[19],[19,26,27],[19,28],[19,29],[19,25,30],[19,31],[16,19,32],[16,33]]
def VPD (bl off kl kc j m:Nat) (x y:ByteArray) (z:Int) (b:Bool) (v0 v1 v2 v3 v4 v5:Value):List Value:=[.slice (some ⟨bl,off,none⟩) kl kc,.int .i64 (j:Int),.pointer (some ⟨bl,off+j*7,none⟩),.pointer (some ⟨bl,off+j*7,none⟩),.string x,.bool true,.bool false,.bool false,.slice (some ⟨bl,off,none⟩) kl kc,.int .i64 (j:Int),.pointer (some ⟨bl,off+j*7,none⟩),.pointer (some ⟨bl,off+j*7+1,none⟩),.agg #[v0,v1,v2,v3,v4,v5],.bool true,.bool false,.bool false,.bool false,.int .i64 (j:Int),.bool true,.bool true,.slice (some ⟨bl,off,none⟩) kl kc,.int .i64 (j:Int),.int .i64 (m:Int),.pointer (some ⟨bl,off+m*7,none⟩),.pointer (some ⟨bl,off+m*7,none⟩),.string y,.slice (some ⟨bl,off,none⟩) kl kc,.int .i64 (j:Int),.pointer (some ⟨bl,off+j*7,none⟩),.pointer (some ⟨bl,off+j*7,none⟩),.string x,.int .i64 z,.bool b,.bool b,.bool b]
structure BasePD (bl off kl kc j m:Nat) (x y:ByteArray) (z:Int) (b:Bool) (v0 v1 v2 v3 v4 v5:Value) (c:Act):Prop where
 t0:c.eval (.tmp 0)=.slice (some ⟨bl,off,none⟩) kl kc
 t3:c.eval (.tmp 3)=.int .i64 (j:Int)
structure WorldPD (bl off kl kc j m:Nat) (x y:ByteArray) (z:Int) (b:Bool) (v0 v1 v2 v3 v4 v5:Value) (w:World):Prop where
 cx:w.cell? ⟨bl,off+j*7,none⟩=some (.string x)
 cy:w.cell? ⟨bl,off+m*7,none⟩=some (.string y)
 kn:Calls Tryz.prog 43 #[.string x] w fun e w'=>e=.returned (.bool true)∧Below w.heap.size w w'
 ks:Calls Tryz.prog 103 #[.agg #[v0,v1,v2,v3,v4,v5]] w fun e w'=>e=.returned (.bool true)∧Below w.heap.size w w'
 kt:Calls Tryz.prog 102 #[.string y,.string x] w fun e w'=>e=.returned (.int .i64 z)∧Below w.heap.size w w'
 jp:decide ((0:Int)<(j:Int))=true
 kj:(j:Int) - 1=(m:Int)
 kw:IntKind.i64.wrap (m:Int)=(m:Int)
 mlt:m<kl
 zb:decide (z≥0)=b
 c0:w.cell? ⟨bl,off+j*7+1,none⟩=some v0
 c1:w.cell? ⟨bl,off+j*7+2,none⟩=some v1
 c2:w.cell? ⟨bl,off+j*7+3,none⟩=some v2
 c3:w.cell? ⟨bl,off+j*7+4,none⟩=some v3
 c4:w.cell? ⟨bl,off+j*7+5,none⟩=some v4
 c5:w.cell? ⟨bl,off+j*7+6,none⟩=some v5
 lt:j<kl
 le:kl≤9223372036854775807
theorem regionPD (bl off kl kc j m:Nat) (x y:ByteArray) (z:Int) (b:Bool) (v0 v1 v2 v3 v4 v5:Value) (Q:Exit→Act→World→Prop) (base:Act) (w0:World) (hsz:base.tmps.size=45) (hb:BasePD bl off kl kc j m x y z b v0 v1 v2 v3 v4 v5 base)
  (hW:∀ w,Below w0.heap.size w0 w→WorldPD bl off kl kc j m x y z b v0 v1 v2 v3 v4 v5 w) (hQ:∀ c w,Same RPD base c→Below w0.heap.size w0 w→c.eval (.tmp 44)=.bool b→Q .normal c w):(Code.region 4 RPD true).wp Tryz.prog Q base w0:=by
 refine told_rule (B:=BasePD bl off kl kc j m x y z b v0 v1 v2 v3 v4 v5) (T:=WorldPD bl off kl kc j m x y z b v0 v1 v2 v3 v4 v5) (n:=35) (k:=34) LPD APD (VPD bl off kl kc j m x y z b v0 v1 v2 v3 v4 v5) hLPD rfl (by kernel_rfl) (by kernel_rfl) (by kernel_rfl) (by rw [hsz];kernel_rfl) (fun c hS=>⟨(same_eval hS (by kernel_rfl)).trans hb.t0,(same_eval hS (by kernel_rfl)).trans hb.t3⟩) hW ?_ (by decide) rfl rfl hQ
 clear hsz hb hW hQ
 iterate 35 (refine below_succ ?_ (by
  intro c w hb hW hEq
  obtain ⟨t0,t3⟩:=hb
  obtain ⟨cx,cy,kn,ks,kt,jp,kj,kw,mlt,zb,c0,c1,c2,c3,c4,c5,lt,le⟩:=hW
  have ec:=evc c
  have ef:=evf c
  dsimp only [APD,LPD,VPD,nth,EqAt,look,OpGoal] at hEq ⊢
  first
  | exact ⟨by first | exact hEq.1 | exact hEq.2.1 | exact hEq.2.2.1 | exact hEq.2.2.2.1,.inr ⟨.inl rfl,rfl⟩⟩
  | exact ⟨by first | exact hEq.1 | exact hEq.2.1 | exact hEq.2.2.1 | exact hEq.2.2.2.1,.inr ⟨.inr rfl,rfl⟩⟩
  | ((try refine ⟨by first | exact hEq.1 | exact hEq.2.1 | exact hEq.2.2.1 | exact hEq.2.2.2.1,.inl ⟨rfl,?_⟩⟩);first | (refine od_static Tryz.call43 kn ?_;simp only [List.map_toArray,List.map_cons,List.map_nil,hEq];done) | (refine od_static Tryz.call103 ks ?_;simp only [List.map_toArray,List.map_cons,List.map_nil,hEq];done) | (refine od_static Tryz.call102 kt ?_;simp only [List.map_toArray,List.map_cons,List.map_nil,hEq];done) | (refine .inl fun pos af=>?_;(clear kn ks kt;dsimp only [Sig.oper];generalize c.eval=ρ at *;go_simp;done)) | (refine .inl fun pos af=>?_;clear kn ks kt;dsimp only [Sig.oper];generalize c.eval=ρ at *;go_simp;simp at jp;omega))))
 exact below_zero
end Go.Proofs.YteddjlbfbpecjaaGreatDoor

