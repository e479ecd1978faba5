/- May all values of a graph's properties be: the document's word. Graphs are the same by the program's word just if they are by the document's, and their values may be. Where a node stands: the document's word. -/
import Derived.Test.YteddjlbfbpecjaaGreatDoorJoin5
import Derived.Test.YteddjlbfbpecjaaGreatDoorJoin25
import Derived.Test.YteddjlbfbpecjaaGreatDoorJoin6
import Derived.Test.YteddjlbfbpecjaaGreatDoorGsme
import Derived.Test.YteddjlbfbpecjaaGreatDoorRsam3
namespace Go.Proofs.YteddjlbfbpecjaaGreatDoor
open Go.RowKit Go.Shelf
set_option linter.unusedVariables false
set_option linter.unusedSimpArgs false
attribute [local go_sem] Oper.semAt_some
def fineP  : List (ByteArray × Tree)→Bool
 | []=>true
 | q::r=>(checkN q.2==0)&&fineP r
def fineN  : List NodeP→Bool
 | []=>true
 | n::r=>fineP n.props&&fineN r
def fineR  : List RelP→Bool
 | []=>true
 | n::r=>fineP n.props&&fineR r
def fineB (g:GraphP):Bool:=fineN g.nodes&&fineR g.rels
theorem fineP_at {ks:List (ByteArray × Tree)} {j:Nat} {x:ByteArray × Tree} (h:ks[j]?=some x):fineP (ks.drop j)=((checkN x.2==0)&&fineP (ks.drop (j+1))):=by
 obtain ⟨hj,hx⟩:=List.getElem?_eq_some_iff.1 h
 rw [List.drop_eq_getElem_cons hj,hx,fineP]
theorem fineN_at {ks:List NodeP} {j:Nat} {x:NodeP} (h:ks[j]?=some x):fineN (ks.drop j)=(fineP x.props&&fineN (ks.drop (j+1))):=by
 obtain ⟨hj,hx⟩:=List.getElem?_eq_some_iff.1 h
 rw [List.drop_eq_getElem_cons hj,hx,fineN]
theorem fineR_at {ks:List RelP} {j:Nat} {x:RelP} (h:ks[j]?=some x):fineR (ks.drop j)=(fineP x.props&&fineR (ks.drop (j+1))):=by
 obtain ⟨hj,hx⟩:=List.getElem?_eq_some_iff.1 h
 rw [List.drop_eq_getElem_cons hj,hx,fineR]
structure Sanely (g:GraphP):Prop where
 ofNode:∀ n ∈ g.nodes,∀ q ∈ n.props,Sane q.2∧q.2.total≤2000000
 ofRel:∀ r ∈ g.rels,∀ q ∈ r.props,Sane q.2∧q.2.total≤2000000
set_option maxRecDepth 100000 in
set_option maxHeartbeats 8000000 in
theorem fine_any (g:GraphP) (B:Nat) (v:Value) (w:World) (hB:B≤w.heap.size) (hg:GraphLies B w v g) (hz:Sanely g):Calls Tryz.prog 17 #[v] w fun e w'=>e=.returned (.bool (fineB g))∧Below w.heap.size w w':=by
 obtain ⟨na,nc,ra,rc,rfl,hn,hr⟩:=hg
 obtain ⟨hz1,hz2⟩:=hz
 obtain ⟨res,hres⟩:∃ r,fineB g=r:=⟨_,rfl⟩
 rw [hres]
 unfold fineB at hres
 obtain ⟨ns,rs,nn,nr⟩:=g
 simp only at hn hr hz1 hz2 hres ⊢
 have HRS:=hidE hres
 obtain ⟨a',c',e1,h1,h2,hp3⟩:=hn
 obtain ⟨rfl,rfl⟩:na=a'∧nc=c':=by injection e1 with e1 _ e2;exact ⟨e1,e2⟩
 obtain ⟨a',c',e2,r1,r2,hq3⟩:=hr
 obtain ⟨rfl,rfl⟩:ra=a'∧rc=c':=by injection e2 with e1 _ e2;exact ⟨e1,e2⟩
 have HP:=hidE hp3
 have HQ:=hidE hq3
 have HZ1:=hidE hz1
 have HZ2:=hidE hz2
 obtain ⟨n,hn⟩:∃ n,ns.length=n:=⟨_,rfl⟩
 have HN:=hidE hn
 obtain ⟨m,hm⟩:∃ m,rs.length=m:=⟨_,rfl⟩
 have HM:=hidE hm
 rw [hn] at h1
 rw [hm] at r1
 rw [hn,hm]
 clear hp3 hq3 hn hm e1 e2 hz1 hz2 hres
 go_enter Tryz.func17,Tryz.ntmps17
 go_upto_region 1 with fail
 generalize hW1:World.alloc _ _=W1
 have HB1:Hid (Below w.heap.size w W1):=by rw [← hW1];exact (Below.refl _ _).alloc (Nat.le_refl _) _
 have HR1:Hid (Rec W1 w.heap.size #[.slice na n nc,.slice ra m rc,.int .i64 nn,.int .i64 nr] 25):=by rw [← hW1];exact rec_new _ _ _
 clear hW1
 go_wp2_with fail
 go_loopw [3] (fun x wr=>∃ j:Nat,j≤n∧x=.int .i64 j∧Rec wr w.heap.size #[.slice na n nc,.slice ra m rc,.int .i64 nn,.int .i64 nr] 25∧Below w.heap.size w wr∧(fineN (ns.drop j)&&fineR rs)=res) (fun i _=>n - (intOf i).toNat)
 case atStart=>exact ⟨0,Nat.zero_le _,rfl,HR1.out,HB1.out,HRS.out⟩
 case round =>
  obtain ⟨j,hj,rfl,hrr,hbw,hrs⟩:=hrel
  have HRR:=hidE hrr
  have HBW:=hidE hbw
  have HRJ:=hidE hrs
  have q0:=hrr.cell 0 rfl
  clear hrr hbw hrs
  by_cases hlt:j<n
  ·have hlt':(j:Int)<n:=by omega
   obtain ⟨⟨xi,xl,xp⟩,hx⟩:∃ q,ns[j]?=some q:=⟨_,List.getElem?_eq_getElem (by have:=HN.out;omega)⟩
   obtain ⟨bl,off,rfl,hbl,hc⟩:=HP.out.resolve_left (by intro e;rw [e] at hx;simp at hx)
   have HAT:Hid (∀ W,Below w.heap.size w W→NodeAt B W bl (off+j*3) ⟨xi,xl,xp⟩):=fun W hb=>(hc j _ hx).below (hb.mono hB) hbl
   have HZX:Hid (∀ q ∈ xp,Sane q.2∧q.2.total≤2000000):=fun q hq=>HZ1.out _ (List.mem_of_getElem? hx) q hq
   have HRJ2:Hid ((fineP xp&&(fineN (ns.drop (j+1))&&fineR rs))=res):=by
    show _=_
    rw [← HRJ.out,fineN_at hx]
    all_goals simp only [Bool.and_assoc]
   clear hc hx
   obtain ⟨xm,hxm⟩:∃ n,xp.length=n:=⟨_,rfl⟩
   have HXM:=hidE hxm
   go_wp2_with fail
   clear q0
   go_loopw [4] (fun y wr=>∃ k:Nat,k≤xm∧y=.int .i64 k∧Rec wr w.heap.size #[.slice (some ⟨bl,off,none⟩) n nc,.slice ra m rc,.int .i64 nn,.int .i64 nr] 25∧Below w.heap.size w wr∧(fineP (xp.drop k)&&(fineN (ns.drop (j+1))&&fineR rs))=res) (fun i _=>xm - (intOf i).toNat)
   case atStart=>exact ⟨0,Nat.zero_le _,rfl,HRR.out,HBW.out,HRJ2.out⟩
   case round =>
    clear HRR HBW HRJ HRJ2
    obtain ⟨k,hk,rfl,hrr,hbw,hrs⟩:=hrel
    have HRR:=hidE hrr
    have HBW:=hidE hbw
    have HRJ:=hidE hrs
    have q0:=hrr.cell 0 rfl
    clear hrr hbw hrs
    have hat:=HAT.out wr HBW.out
    unfold NodeAt at hat
    simp only at hat
    obtain ⟨la,lc,pv,⟨c0,c1,c2⟩,_,_,hp⟩:=hat
    obtain ⟨pa,pc,rfl,p1,p2,p3⟩:=hp
    rw [HXM.out] at c2 p1
    by_cases hkt:k<xm
    ·have hkt':(k:Int)<xm:=by omega
     obtain ⟨y,hy⟩:∃ q,xp[k]?=some q:=⟨_,List.getElem?_eq_getElem (by have:=HXM.out;omega)⟩
     obtain ⟨bp,op,rfl,hbp,hpc⟩:=p3.resolve_left (by intro e;rw [e] at hy;simp at hy)
     obtain ⟨y0,_,v0,v1,v2,v3,v4,v5,⟨y1,y2,y3,y4,y5,y6⟩,hlv⟩:=hpc k _ hy
     have hsn:=HZX.out _ (List.mem_of_getElem? hy)
     have HCK:=hidE (rcheck_any y.2 B _ wr (Nat.le_trans hB HBW.out.size) hlv hsn.1 hsn.2)
     obtain ⟨c,hc⟩:∃ c,checkN y.2=c:=⟨_,rfl⟩
     rw [hc] at HCK
     have HR9:Hid (((c==0)&&(fineP (xp.drop (k+1))&&(fineN (ns.drop (j+1))&&fineR rs)))=res):=by
      show _=_
      rw [← HRJ.out,fineP_at hy,hc]
      all_goals simp only [Bool.and_assoc]
     have hvs:∃ i0 b1 i2 s3 k4 k4n k4c l5 l5n l5c,v0=.int .i64 i0∧v1=.bool b1∧v2=.int .i64 i2∧v3=.string s3∧v4=.slice k4 k4n k4c∧v5=.slice l5 l5n l5c:=by
      obtain ⟨y',yt⟩:=y
      obtain ⟨a,b,c,d,e,f⟩:=yt
      simp only [Lies] at hlv
      obtain ⟨ka,kc,la',lc',e9,_⟩:=hlv
      injection e9 with e9
      have e9:=congrArg Array.toList e9
      simp only [List.cons.injEq,and_true] at e9
      obtain ⟨e0,e1,e2,e3,e4,e5⟩:=e9
      exact ⟨_,_,_,_,_,_,_,_,_,_,e0,e1,e2,e3,e4,e5⟩
     obtain ⟨i0,b1,i2,s3,k4,k4n,k4c,l5,l5n,l5c,rfl,rfl,rfl,rfl,rfl,rfl⟩:=hvs
     clear hlv hsn hc hy y0 hpc
     go_wp2_with fail
     refine HCK.out.mono ?_
     rintro e w5 ⟨rfl,hb5⟩
     have HB5:=hidE (below_on HBW.out hb5)
     have HR5:=hidE (HRR.out.below hb5 HRR.out.lt)
     clear hb5 HCK y1 y2 y3 y4 y5 y6 c0 c1 c2 q0
     by_cases hc0:c=0
     ·have HR8:Hid ((fineP (xp.drop (k+1))&&(fineN (ns.drop (j+1))&&fineR rs))=res):=by
       show _=_
       rw [← HR9.out,hc0];rfl
      have hcb:(c != 0)=false:=by rw [hc0];rfl
      go_wp2_with fail
      go_roundw
      case rel=>exact ⟨k+1,by omega,by go_num,HR5.out,HB5.out,HR8.out⟩
      case measure=>simp [intOf];omega
     ·have HF:Hid (res=false):=by
       show _=_
       rw [← HR9.out,beq_eq_false_iff_ne.2 hc0];rfl
      have hcb:(c != 0)=true:=bne_iff_ne.2 hc0
      go_wp2_with fail
      go_ret
      exact ⟨by rw [HF.out];rfl,HB5.out⟩
    ·have hkt':¬ (k:Int)<xm:=by omega
     have HR8:Hid ((fineN (ns.drop (j+1))&&fineR rs)=res):=by
      show _=_
      rw [← HRJ.out,show xp.drop k=[] from List.drop_of_length_le (by have:=HXM.out;omega),fineP,Bool.true_and]
     go_wp2_with fail
     go_roundw
     case rel=>exact ⟨j+1,by omega,by go_num,HRR.out,HBW.out,HR8.out⟩
     case measure=>simp [intOf];omega
  ·have hlt':¬ (j:Int)<n:=by omega
   have HRN:Hid (fineR (rs.drop 0)=res):=by
    show _=_
    rw [← HRJ.out,show ns.drop j=[] from List.drop_of_length_le (by have:=HN.out;omega),fineN,Bool.true_and,List.drop_zero]
   go_wp2_with fail
   clear hlt hlt' hj q0 HRJ
   go_loopw [5] (fun x wr=>∃ j:Nat,j≤m∧x=.int .i64 j∧Rec wr w.heap.size #[.slice na n nc,.slice ra m rc,.int .i64 nn,.int .i64 nr] 25∧Below w.heap.size w wr∧fineR (rs.drop j)=res) (fun i _=>m - (intOf i).toNat)
   case atStart=>exact ⟨0,Nat.zero_le _,rfl,HRR.out,HBW.out,HRN.out⟩
   case round =>
    obtain ⟨j,hj,rfl,hrr,hbw,hrs⟩:=hrel
    have HRR:=hidE hrr
    have HBW:=hidE hbw
    have HRJ:=hidE hrs
    have q1:=hrr.cell 1 rfl
    clear hrr hbw hrs
    by_cases hlt:j<m
    ·have hlt':(j:Int)<m:=by omega
     obtain ⟨⟨xi,fr,tt,ty,xp⟩,hx⟩:∃ q,rs[j]?=some q:=⟨_,List.getElem?_eq_getElem (by have:=HM.out;omega)⟩
     obtain ⟨bl,off,rfl,hbl,hc⟩:=HQ.out.resolve_left (by intro e;rw [e] at hx;simp at hx)
     have HAT:Hid (∀ W,Below w.heap.size w W→RelAt B W bl (off+j*5) ⟨xi,fr,tt,ty,xp⟩):=fun W hb=>(hc j _ hx).below (hb.mono hB) hbl
     have HZX:Hid (∀ q ∈ xp,Sane q.2∧q.2.total≤2000000):=fun q hq=>HZ2.out _ (List.mem_of_getElem? hx) q hq
     have HRJ2:Hid ((fineP xp&&fineR (rs.drop (j+1)))=res):=by
      show _=_
      rw [← HRJ.out,fineR_at hx]
      all_goals simp only [Bool.and_assoc]
     clear hc hx
     obtain ⟨xm,hxm⟩:∃ n,xp.length=n:=⟨_,rfl⟩
     have HXM:=hidE hxm
     go_wp2_with fail
     clear q1
     go_loopw [6] (fun y wr=>∃ k:Nat,k≤xm∧y=.int .i64 k∧Rec wr w.heap.size #[.slice na n nc,.slice (some ⟨bl,off,none⟩) m rc,.int .i64 nn,.int .i64 nr] 25∧Below w.heap.size w wr∧(fineP (xp.drop k)&&fineR (rs.drop (j+1)))=res) (fun i _=>xm - (intOf i).toNat)
     case atStart=>exact ⟨0,Nat.zero_le _,rfl,HRR.out,HBW.out,HRJ2.out⟩
     case round =>
      clear HRR HBW HRJ HRJ2
      obtain ⟨k,hk,rfl,hrr,hbw,hrs⟩:=hrel
      have HRR:=hidE hrr
      have HBW:=hidE hbw
      have HRJ:=hidE hrs
      have q1:=hrr.cell 1 rfl
      clear hrr hbw hrs
      have hat:=HAT.out wr HBW.out
      unfold RelAt at hat
      simp only at hat
      obtain ⟨pv,⟨c0,c1,c2,c3,c4⟩,_,hp⟩:=hat
      obtain ⟨pa,pc,rfl,p1,p2,p3⟩:=hp
      rw [HXM.out] at c4 p1
      by_cases hkt:k<xm
      ·have hkt':(k:Int)<xm:=by omega
       obtain ⟨y,hy⟩:∃ q,xp[k]?=some q:=⟨_,List.getElem?_eq_getElem (by have:=HXM.out;omega)⟩
       obtain ⟨bp,op,rfl,hbp,hpc⟩:=p3.resolve_left (by intro e;rw [e] at hy;simp at hy)
       obtain ⟨y0,_,v0,v1,v2,v3,v4,v5,⟨y1,y2,y3,y4,y5,y6⟩,hlv⟩:=hpc k _ hy
       have hsn:=HZX.out _ (List.mem_of_getElem? hy)
       have HCK:=hidE (rcheck_any y.2 B _ wr (Nat.le_trans hB HBW.out.size) hlv hsn.1 hsn.2)
       obtain ⟨c,hc⟩:∃ c,checkN y.2=c:=⟨_,rfl⟩
       rw [hc] at HCK
       have HR9:Hid (((c==0)&&(fineP (xp.drop (k+1))&&fineR (rs.drop (j+1))))=res):=by
        show _=_
        rw [← HRJ.out,fineP_at hy,hc]
        all_goals simp only [Bool.and_assoc]
       have hvs:∃ i0 b1 i2 s3 k4 k4n k4c l5 l5n l5c,v0=.int .i64 i0∧v1=.bool b1∧v2=.int .i64 i2∧v3=.string s3∧v4=.slice k4 k4n k4c∧v5=.slice l5 l5n l5c:=by
        obtain ⟨y',yt⟩:=y
        obtain ⟨a,b,c,d,e,f⟩:=yt
        simp only [Lies] at hlv
        obtain ⟨ka,kc,la',lc',e9,_⟩:=hlv
        injection e9 with e9
        have e9:=congrArg Array.toList e9
        simp only [List.cons.injEq,and_true] at e9
        obtain ⟨e0,e1,e2,e3,e4,e5⟩:=e9
        exact ⟨_,_,_,_,_,_,_,_,_,_,e0,e1,e2,e3,e4,e5⟩
       obtain ⟨i0,b1,i2,s3,k4,k4n,k4c,l5,l5n,l5c,rfl,rfl,rfl,rfl,rfl,rfl⟩:=hvs
       clear hlv hsn hc hy y0 hpc
       go_wp2_with fail
       refine HCK.out.mono ?_
       rintro e w5 ⟨rfl,hb5⟩
       have HB5:=hidE (below_on HBW.out hb5)
       have HR5:=hidE (HRR.out.below hb5 HRR.out.lt)
       clear hb5 HCK y1 y2 y3 y4 y5 y6 c0 c1 c2 c3 c4 q1
       by_cases hc0:c=0
       ·have HR8:Hid ((fineP (xp.drop (k+1))&&fineR (rs.drop (j+1)))=res):=by
         show _=_
         rw [← HR9.out,hc0];rfl
        have hcb:(c != 0)=false:=by rw [hc0];rfl
        go_wp2_with fail
        go_roundw
        case rel=>exact ⟨k+1,by omega,by go_num,HR5.out,HB5.out,HR8.out⟩
        case measure=>simp [intOf];omega
       ·have HF:Hid (res=false):=by
         show _=_
         rw [← HR9.out,beq_eq_false_iff_ne.2 hc0];rfl
        have hcb:(c != 0)=true:=bne_iff_ne.2 hc0
        go_wp2_with fail
        go_ret
        exact ⟨by rw [HF.out];rfl,HB5.out⟩
      ·have hkt':¬ (k:Int)<xm:=by omega
       have HR8:Hid (fineR (rs.drop (j+1))=res):=by
        show _=_
        rw [← HRJ.out,show xp.drop k=[] from List.drop_of_length_le (by have:=HXM.out;omega),fineP,Bool.true_and]
       go_wp2_with fail
       go_roundw
       case rel=>exact ⟨j+1,by omega,by go_num,HRR.out,HBW.out,HR8.out⟩
       case measure=>simp [intOf];omega
    ·have hlt':¬ (j:Int)<m:=by omega
     have HF:Hid (res=true):=by
      show _=_
      rw [← HRJ.out,show rs.drop j=[] from List.drop_of_length_le (by have:=HM.out;omega)];rfl
     go_wp2_with fail
     go_ret
     exact ⟨by rw [HF.out];rfl,HBW.out⟩
end Go.Proofs.YteddjlbfbpecjaaGreatDoor

namespace Go.Proofs.YteddjlbfbpecjaaGreatDoor
open Go.RowKit Go.Shelf
set_option linter.unusedVariables false
theorem len_test {α:Type} (a b:List α):(!((a.length:Int) != (b.length:Int)))=decide (a.length=b.length):=by
 rw [Bool.eq_iff_iff];simp
 omega
theorem propsSame_eq  : ∀ (a b:List (ByteArray × Tree)),a.length=b.length→propsSame a b=(propsAlike a b&&fineP a)
 | [],[],_=>rfl
 | [],_::_,h=>by simp at h
 | _::_,[],h=>by simp at h
 | p::r,q::t,h=>by
  rw [propsSame,propsAlike,fineP,same_alike,propsSame_eq r t (by simpa using h)]
  cases (p.1.toList==q.1.toList)<;>cases alikeT p.2 q.2<;>cases (checkN p.2==0)<;>cases propsAlike r t<;>rfl
theorem samePropsP_eq (a b:List (ByteArray × Tree)):samePropsP a b=(samePropsB a b&&fineP a):=by
 unfold samePropsP samePropsB
 rw [len_test]
 by_cases h:a.length=b.length
 ·rw [decide_eq_true h,Bool.true_and,Bool.true_and,propsSame_eq a b h]
 ·rw [decide_eq_false h];rfl
theorem sameNodeP_eq (a b:NodeP):sameNodeP a b=(sameNodeB a b&&fineP a.props):=by
 unfold sameNodeP sameNodeB
 rw [samePropsP_eq]
 cases (a.id==b.id)<;>cases sameTextsB a.labels b.labels<;>cases samePropsB a.props b.props<;>rfl
theorem sameRelP_eq (a b:RelP):sameRelP a b=(sameRelB a b&&fineP a.props):=by
 unfold sameRelP sameRelB
 rw [samePropsP_eq]
 cases (a.id==b.id)<;>cases (a.fr==b.fr)<;>cases (a.tt==b.tt)<;>cases (a.type.toList==b.type.toList)<;>cases samePropsB a.props b.props<;>rfl
theorem nodesSame_eq  : ∀ (a b:List NodeP),a.length=b.length→nodesSame a b=(nodesAlike a b&&fineN a)
 | [],[],_=>rfl
 | [],_::_,h=>by simp at h
 | _::_,[],h=>by simp at h
 | p::r,q::t,h=>by
  rw [nodesSame,nodesAlike,fineN,sameNodeP_eq,nodesSame_eq r t (by simpa using h)]
  cases sameNodeB p q<;>cases fineP p.props<;>cases nodesAlike r t<;>rfl
theorem relsSame_eq  : ∀ (a b:List RelP),a.length=b.length→relsSame a b=(relsAlike a b&&fineR a)
 | [],[],_=>rfl
 | [],_::_,h=>by simp at h
 | _::_,[],h=>by simp at h
 | p::r,q::t,h=>by
  rw [relsSame,relsAlike,fineR,sameRelP_eq,relsSame_eq r t (by simpa using h)]
  cases sameRelB p q<;>cases fineP p.props<;>cases relsAlike r t<;>rfl
theorem sameG_eq (a b:GraphP):sameGP a b=(sameGraphB a b&&fineB a):=by
 unfold sameGP sameGraphB sameNodesP sameRelsP fineB
 rw [len_test,len_test]
 have e1:(!(a.nn != b.nn))=(a.nn==b.nn):=by cases h:(a.nn==b.nn)<;>simp [bne,h]
 have e2:(!(a.nr != b.nr))=(a.nr==b.nr):=by cases h:(a.nr==b.nr)<;>simp [bne,h]
 rw [e1,e2]
 by_cases h:a.nodes.length=b.nodes.length
 ·rw [decide_eq_true h,nodesSame_eq _ _ h]
  by_cases h2:a.rels.length=b.rels.length
  ·rw [decide_eq_true h2,relsSame_eq _ _ h2]
   cases (a.nn==b.nn)<;>cases (a.nr==b.nr)<;>cases nodesAlike a.nodes b.nodes<;>cases relsAlike a.rels b.rels<;>cases fineN a.nodes<;>rfl
  ·rw [decide_eq_false h2]
   cases (a.nn==b.nn)<;>cases (a.nr==b.nr)<;>simp
 ·rw [decide_eq_false h]
  cases (a.nn==b.nn)<;>cases (a.nr==b.nr)<;>simp
theorem sameTexts_self (a:List ByteArray):sameTextsB a a=true:=by unfold sameTextsB;rw [len_test,textsB_self];simp
theorem propsAlike_self  : ∀ (a:List (ByteArray × Tree)),propsAlike a a=true
 | []=>rfl
 | p::r=>by rw [propsAlike,alikeT_self,propsAlike_self r];simp
theorem sameProps_self (a:List (ByteArray × Tree)):samePropsB a a=true:=by unfold samePropsB;rw [len_test,propsAlike_self];simp
theorem nodesAlike_self  : ∀ (a:List NodeP),nodesAlike a a=true
 | []=>rfl
 | p::r=>by rw [nodesAlike,nodesAlike_self r];unfold sameNodeB;rw [sameTexts_self,sameProps_self];simp
theorem relsAlike_self  : ∀ (a:List RelP),relsAlike a a=true
 | []=>rfl
 | p::r=>by rw [relsAlike,relsAlike_self r];unfold sameRelB;rw [sameProps_self];simp
theorem sameGraph_self (g:GraphP):sameGraphB g g=true:=by
 unfold sameGraphB
 rw [len_test,len_test,nodesAlike_self,relsAlike_self]
 simp
end Go.Proofs.YteddjlbfbpecjaaGreatDoor

namespace Go.Proofs.YteddjlbfbpecjaaGreatDoor
open Go.RowKit Go.Shelf
set_option linter.unusedVariables false
set_option linter.unusedSimpArgs false
attribute [local go_sem] Oper.semAt_some
set_option maxRecDepth 100000 in
set_option maxHeartbeats 4000000 in
theorem rfind_any (g:GraphP) (id:Int) (B:Nat) (v:Value) (w:World) (hB:B≤w.heap.size) (hg:GraphLies B w v g):Calls Tryz.prog 44 #[v,.int .i64 id] w fun e w'=>e=.returned (.int .i64 (findI id g.nodes 0))∧Below w.heap.size w w':=by
 obtain ⟨na,nc,ra,rc,rfl,hn,_⟩:=hg
 obtain ⟨ns,rs,nn,nr⟩:=g
 simp only at hn ⊢
 obtain ⟨a',c',e1,h1,h2,hp3⟩:=hn
 obtain ⟨rfl,rfl⟩:na=a'∧nc=c':=by injection e1 with e1 _ e2;exact ⟨e1,e2⟩
 have HP:=hidE hp3
 obtain ⟨n,hn⟩:∃ n,ns.length=n:=⟨_,rfl⟩
 have HN:=hidE hn
 rw [hn] at h1 ⊢
 obtain ⟨m,hm⟩:∃ m,rs.length=m:=⟨_,rfl⟩
 rw [hm]
 obtain ⟨res,hres⟩:∃ r,findI id ns 0=r:=⟨_,rfl⟩
 have HR:=hidE hres
 rw [hres]
 clear hp3 hn hres hm e1
 obtain ⟨W1,hW1⟩:∃ W1,w.alloc (.cells #[.slice na n nc,.slice ra m rc,.int .i64 nn,.int .i64 nr] 25)=W1:=⟨_,rfl⟩
 have hb1:Below w.heap.size w W1:=hW1▸(Below.refl _ _).alloc (Nat.le_refl _) _
 have q0:W1.cell? ⟨w.heap.size,0,none⟩=some (.slice na n nc):=hW1▸cell_new _ _ _ _ _ rfl
 have HB1:=hidE hb1
 have HW1:=hidE hW1
 clear hb1 hW1
 go_enter Tryz.func44,Tryz.ntmps44
 go_upto_region 1 with fail
 rw [HW1.out]
 clear HW1
 go_wp2_with fail
 go_loopw [5] (fun i wr=>∃ j:Nat,j≤n∧i=.int .i64 j∧wr=W1∧findI id (ns.drop j) j=res) (fun i _=>n - (intOf i).toNat)
 case atStart=>exact ⟨0,Nat.zero_le _,rfl,rfl,HR.out⟩
 case round =>
  obtain ⟨j,hj,rfl,rfl,hrs⟩:=hrel
  have HRS:=hidE hrs
  clear hrs
  by_cases hlt:j<n
  ·have hlt':(j:Int)<n:=by omega
   obtain ⟨⟨xi,xl,xp⟩,hx⟩:∃ q,ns[j]?=some q:=⟨_,List.getElem?_eq_getElem (by have:=HN.out;omega)⟩
   have HX:=hidE hx
   obtain ⟨bl,off,rfl,hbl,hc⟩:=HP.out.resolve_left (by intro e;rw [e] at hx;simp at hx)
   obtain ⟨la,lc,pv,⟨c0,c1,c2⟩,_⟩:=(hc j _ hx).below (HB1.out.mono hB) hbl
   simp only at c0
   clear hc hx c1 c2
   by_cases he:xi=id
   ·have he':(xi==id)=true:=by simp [he]
    have HF:Hid (res=(j:Int)):=by
     show _=_
     rw [← HRS.out,findI_at HX.out];exact if_pos he
    clear he
    go_wp2_with fail
    go_ret
    exact ⟨by rw [HF.out];rfl,HB1.out⟩
   ·have he':(xi==id)=false:=by simp [he]
    have HF:Hid (findI id (ns.drop (j+1)) (j+1)=res):=by
     show _=_
     rw [← HRS.out,findI_at HX.out];exact (if_neg he).symm
    clear he
    go_wp2_with fail
    go_roundw
    case rel=>exact ⟨j+1,by omega,by go_num,trivial,HF.out⟩
    case measure=>simp [intOf];omega
  ·have HF:Hid (res=-1):=by
    show _=_
    rw [← HRS.out,List.drop_of_length_le (by have:=HN.out;omega)]
    rfl
   have hlt':¬ (j:Int)<n:=by omega
   go_wp2_with fail
   go_ret
   exact ⟨by rw [HF.out];rfl,HB1.out⟩
end Go.Proofs.YteddjlbfbpecjaaGreatDoor

