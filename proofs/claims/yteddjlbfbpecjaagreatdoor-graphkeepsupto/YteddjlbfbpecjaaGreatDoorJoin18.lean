/- The same node, the same relationship: the document's word. Copies of a relationship, of a node. A copy of a node. -/
import Derived.Test.YteddjlbfbpecjaaGreatDoorRsam
import Derived.Test.YteddjlbfbpecjaaGreatDoorJoin17
import Derived.Test.YteddjlbfbpecjaaGreatDoorJoin16
namespace Go.Proofs.YteddjlbfbpecjaaGreatDoor
open Go.RowKit Go.Shelf
set_option maxHeartbeats 8000000
set_option maxRecDepth 100000
set_option linter.unusedVariables false
set_option linter.unusedSimpArgs false
attribute [local go_sem] Oper.semAt_some
theorem boxes_two {w w1:World} {A A':Array Value} {ty:TypeId} (hb:Below ((w.alloc (.cells A ty)).alloc (.cells A' ty)).heap.size ((w.alloc (.cells A ty)).alloc (.cells A' ty)) w1) :
  Below w.heap.size w w1∧(∀ i v,A[i]?=some v→w1.cell? ⟨w.heap.size,i,none⟩=some v)∧(∀ i v,A'[i]?=some v→w1.cell? ⟨w.heap.size+1,i,none⟩=some v):=by
 simp only [World.size_alloc] at hb
 refine ⟨(((Below.refl _ w).alloc (Nat.le_refl _) _).alloc (by simp) _).trans (hb.mono (by omega)),fun i v hi=>?_,fun i v hi=>?_⟩
 ·rw [hb.cell (p:=⟨w.heap.size,i,none⟩) (by show w.heap.size<_;omega),World.cell?_of_block (Below.heap_alloc _ _ _ (by simp))]
  exact cell_new _ _ _ _ _ hi
 ·rw [hb.cell (p:=⟨w.heap.size+1,i,none⟩) (by show w.heap.size+1<_;omega)]
  have:=cell_new (w.alloc (.cells A ty)) A' ty i v hi
  rwa [World.size_alloc] at this
def NodeLies (B:Nat) (w:World) (v:Value) (n:NodeP):Prop:=∃ la lc pa pc,v=.agg #[.int .i64 n.id,.slice la n.labels.length lc,.slice pa n.props.length pc]∧(n.labels.length≤lc∧lc≤9223372036854775807)∧KeysLie B w la n.labels∧PropsLie B w (.slice pa n.props.length pc) n.props
def RelLies (B:Nat) (w:World) (v:Value) (n:RelP):Prop:=∃ pa pc,v=.agg #[.int .i64 n.id,.int .i64 n.fr,.int .i64 n.tt,.string n.type,.slice pa n.props.length pc]∧PropsLie B w (.slice pa n.props.length pc) n.props
theorem NodeLies.below {B:Nat} {w w':World} (h:Below B w w') {v:Value} {n:NodeP} (hn:NodeLies B w v n):NodeLies B w' v n:=by
 obtain ⟨la,lc,pa,pc,e,hs,hk,hp⟩:=hn
 exact ⟨la,lc,pa,pc,e,hs,hk.below h,hp.below h⟩
theorem RelLies.below {B:Nat} {w w':World} (h:Below B w w') {v:Value} {n:RelP} (hn:RelLies B w v n):RelLies B w' v n:=by
 obtain ⟨pa,pc,e,hp⟩:=hn
 exact ⟨pa,pc,e,hp.below h⟩
theorem NodeAt.lies {B:Nat} {w:World} {bl off:Nat} {n:NodeP} (h:NodeAt B w bl off n):∃ v0 v1 v2,(w.cell? ⟨bl,off,none⟩=some v0∧w.cell? ⟨bl,off+1,none⟩=some v1∧w.cell? ⟨bl,off+2,none⟩=some v2)∧NodeLies B w (.agg #[v0,v1,v2]) n:=by
 obtain ⟨la,lc,pv,hc,hs,hk,hp⟩:=h
 have hp2:=hp
 obtain ⟨pa,pc,rfl,_⟩:=hp
 exact ⟨_,_,_,hc,la,lc,pa,pc,rfl,hs,hk,hp2⟩
theorem RelAt.lies {B:Nat} {w:World} {bl off:Nat} {n:RelP} (h:RelAt B w bl off n):∃ v0 v1 v2 v3 v4,(w.cell? ⟨bl,off,none⟩=some v0∧w.cell? ⟨bl,off+1,none⟩=some v1∧w.cell? ⟨bl,off+2,none⟩=some v2∧w.cell? ⟨bl,off+3,none⟩=some v3∧w.cell? ⟨bl,off+4,none⟩=some v4)∧RelLies B w (.agg #[v0,v1,v2,v3,v4]) n:=by
 obtain ⟨pv,hc,hs,hp⟩:=h
 have hp2:=hp
 obtain ⟨pa,pc,rfl,_⟩:=hp
 exact ⟨_,_,_,_,_,hc,pa,pc,rfl,hp2⟩
def sameNodeB (a b:NodeP):Bool:=(a.id==b.id)&&(sameTextsB a.labels b.labels&&samePropsB a.props b.props)
def sameRelB (a b:RelP):Bool:=(a.id==b.id)&&((a.fr==b.fr)&&((a.tt==b.tt)&&((a.type.toList==b.type.toList)&&samePropsB a.props b.props)))
theorem sameNode_any (a b:NodeP) (B:Nat) (v v':Value) (w:World) (hB:B≤w.heap.size) (hv:NodeLies B w v a) (hv':NodeLies B w v' b):Calls Tryz.prog 45 #[v,v'] w fun e w'=>e=.returned (.bool (sameNodeB a b))∧Below w.heap.size w w':=by
 obtain ⟨res,hres⟩:∃ r,sameNodeB a b=r:=⟨_,rfl⟩
 rw [hres]
 unfold sameNodeB at hres
 obtain ⟨la,lc,pa,pc,rfl,⟨h1,h2⟩,hk,hp⟩:=hv
 obtain ⟨la2,lc2,pa2,pc2,rfl,⟨g1,g2⟩,hk2,hp2⟩:=hv'
 have HK1:=hidE (fun W (hb:Below w.heap.size w W)=>sameTexts_any a.labels b.labels B la la2 lc lc2 W (by have:=hb.size;omega) (hk.below (hb.mono hB)) (hk2.below (hb.mono hB)) h1 h2 g1 g2)
 have HK2:=hidE (fun W (hb:Below w.heap.size w W)=>sameProps_any a.props b.props B pa pa2 pc pc2 W (by have:=hb.size;omega) (hp.below (hb.mono hB)) (hp2.below (hb.mono hB)))
 obtain ⟨bt,hbt⟩:∃ x,sameTextsB a.labels b.labels=x:=⟨_,rfl⟩
 obtain ⟨bp,hbp⟩:∃ x,samePropsB a.props b.props=x:=⟨_,rfl⟩
 rw [hbt] at HK1
 rw [hbp] at HK2
 rw [hbt,hbp] at hres
 obtain ⟨xi,xl,xp⟩:=a
 obtain ⟨yi,yl,yp⟩:=b
 simp only at HK1 HK2 hres ⊢
 have HR:=hidE hres
 generalize xl.length=ll at *
 generalize yl.length=ll2 at *
 generalize xp.length=pl at *
 generalize yp.length=pl2 at *
 clear hk hk2 hp hp2 hbt hbp hres h1 h2 g1 g2
 obtain ⟨W1,hW1⟩:∃ W1,((w.alloc (.cells #[.int .i64 xi,.slice la ll lc,.slice pa pl pc] 47)).alloc (.cells #[.int .i64 yi,.slice la2 ll2 lc2,.slice pa2 pl2 pc2] 47))=W1:=⟨_,rfl⟩
 have HX:Hid (∀ W,Below W1.heap.size W1 W→Below w.heap.size w W∧(∀ i v,(#[.int .i64 xi,.slice la ll lc,.slice pa pl pc]:Array Value)[i]?=some v→W.cell? ⟨w.heap.size,i,none⟩=some v)∧(∀ i v,(#[.int .i64 yi,.slice la2 ll2 lc2,.slice pa2 pl2 pc2]:Array Value)[i]?=some v→W.cell? ⟨w.heap.size+1,i,none⟩=some v)):=fun W hb=>by
  rw [← hW1] at hb
  exact boxes_two hb
 have HW1:=hidE hW1
 obtain ⟨hb1,g,h⟩:=HX.out W1 (Below.refl _ _)
 have q0:=g 0 _ rfl
 have q1:=g 1 _ rfl
 have w0:=h 0 _ rfl
 have w1:=h 1 _ rfl
 have HB1:=hidE hb1
 clear hW1 g h hb1
 go_enter Tryz.func45,Tryz.ntmps45
 go_upto_region 1 with fail
 rw [HW1.out]
 clear HW1
 by_cases a1:xi=yi
 ·have z1:(xi==yi)=true:=by simp [a1]
  clear a1
  go_wp2_with fail
  refine (HK1.out W1 HB1.out).mono ?_
  rintro e w2 ⟨rfl,hb2⟩
  obtain ⟨hbw,g,h⟩:=HX.out w2 hb2
  have q2:=g 2 _ rfl
  have w2':=h 2 _ rfl
  have HBW:=hidE hbw
  clear g h hbw hb2 q0 q1 w0 w1
  cases bt with
  | false =>
   have HF:Hid (res=false):=by
    show _=_
    rw [← HR.out,z1];rfl
   go_wp2_with fail
   go_ret
   exact ⟨by rw [HF.out];rfl,HBW.out⟩
  | true =>
   have HF:Hid (res=bp):=by
    show _=_
    rw [← HR.out,z1];rfl
   go_wp2_with fail
   refine (HK2.out w2 HBW.out).mono ?_
   rintro e w3 ⟨rfl,hb3⟩
   have HB3:=hidE (below_on HBW.out hb3)
   clear hb3
   go_wp2_with fail
   go_ret
   exact ⟨by rw [HF.out];rfl,HB3.out⟩
 ·have z1:(xi==yi)=false:=by simp [a1]
  clear a1
  have HF:Hid (res=false):=by
   show _=_
   rw [← HR.out,z1];rfl
  go_wp2_with fail
  go_ret
  exact ⟨by rw [HF.out];rfl,HB1.out⟩
theorem sameRel_any (a b:RelP) (B:Nat) (v v':Value) (w:World) (hB:B≤w.heap.size) (hv:RelLies B w v a) (hv':RelLies B w v' b):Calls Tryz.prog 46 #[v,v'] w fun e w'=>e=.returned (.bool (sameRelB a b))∧Below w.heap.size w w':=by
 obtain ⟨res,hres⟩:∃ r,sameRelB a b=r:=⟨_,rfl⟩
 rw [hres]
 unfold sameRelB at hres
 obtain ⟨pa,pc,rfl,hp⟩:=hv
 obtain ⟨pa2,pc2,rfl,hp2⟩:=hv'
 have HK2:=hidE (fun W (hb:Below w.heap.size w W)=>sameProps_any a.props b.props B pa pa2 pc pc2 W (by have:=hb.size;omega) (hp.below (hb.mono hB)) (hp2.below (hb.mono hB)))
 obtain ⟨bp,hbp⟩:∃ x,samePropsB a.props b.props=x:=⟨_,rfl⟩
 rw [hbp] at HK2
 rw [hbp] at hres
 obtain ⟨xi,xf,xt,xs,xp⟩:=a
 obtain ⟨yi,yf,yt,ys,yp⟩:=b
 simp only at HK2 hres ⊢
 have HR:=hidE hres
 generalize xp.length=pl at *
 generalize yp.length=pl2 at *
 clear hp hp2 hbp hres
 obtain ⟨W1,hW1⟩:∃ W1,((w.alloc (.cells #[.int .i64 xi,.int .i64 xf,.int .i64 xt,.string xs,.slice pa pl pc] 49)).alloc (.cells #[.int .i64 yi,.int .i64 yf,.int .i64 yt,.string ys,.slice pa2 pl2 pc2] 49))=W1:=⟨_,rfl⟩
 have HW1:=hidE hW1
 obtain ⟨hb1,g,h⟩:Below w.heap.size w W1∧(∀ i v,(#[.int .i64 xi,.int .i64 xf,.int .i64 xt,.string xs,.slice pa pl pc]:Array Value)[i]?=some v→W1.cell? ⟨w.heap.size,i,none⟩=some v)∧(∀ i v,(#[.int .i64 yi,.int .i64 yf,.int .i64 yt,.string ys,.slice pa2 pl2 pc2]:Array Value)[i]?=some v→W1.cell? ⟨w.heap.size+1,i,none⟩=some v):=by
  rw [← hW1]
  exact boxes_two (Below.refl _ _)
 have q0:=g 0 _ rfl
 have w0:=h 0 _ rfl
 have q1:=g 1 _ rfl
 have w1:=h 1 _ rfl
 have q2:=g 2 _ rfl
 have w2:=h 2 _ rfl
 have q3:=g 3 _ rfl
 have w3:=h 3 _ rfl
 have q4:=g 4 _ rfl
 have w4:=h 4 _ rfl
 have HB1:=hidE hb1
 clear hW1 g h hb1
 go_enter Tryz.func46,Tryz.ntmps46
 go_upto_region 1 with fail
 rw [HW1.out]
 clear HW1
 by_cases az1:(xi==yi)=false
 ·have z1:=az1
  have HF:Hid (res=false):=by
   show _=_
   rw [← HR.out,z1];rfl
  go_wp2_with fail
  go_ret
  exact ⟨by rw [HF.out];rfl,HB1.out⟩
 ·have z1:(xi==yi)=true:=by simpa using az1
  clear az1
  by_cases az2:(xf==yf)=false
  ·have z2:=az2
   have HF:Hid (res=false):=by
    show _=_
    rw [← HR.out,z1,z2];rfl
   go_wp2_with fail
   go_ret
   exact ⟨by rw [HF.out];rfl,HB1.out⟩
  ·have z2:(xf==yf)=true:=by simpa using az2
   clear az2
   by_cases az3:(xt==yt)=false
   ·have z3:=az3
    have HF:Hid (res=false):=by
     show _=_
     rw [← HR.out,z1,z2,z3];rfl
    go_wp2_with fail
    go_ret
    exact ⟨by rw [HF.out];rfl,HB1.out⟩
   ·have z3:(xt==yt)=true:=by simpa using az3
    clear az3
    by_cases az4:(xs.toList==ys.toList)=false
    ·have z4:=az4
     have HF:Hid (res=false):=by
      show _=_
      rw [← HR.out,z1,z2,z3,z4];rfl
     go_wp2_with fail
     go_ret
     exact ⟨by rw [HF.out];rfl,HB1.out⟩
    ·have z4:(xs.toList==ys.toList)=true:=by simpa using az4
     clear az4
     have HF:Hid (res=bp):=by
      show _=_
      rw [← HR.out,z1,z2,z3,z4];rfl
     go_wp2_with fail
     refine (HK2.out W1 HB1.out).mono ?_
     rintro e w3 ⟨rfl,hb3⟩
     have HB3:=hidE (below_on HB1.out hb3)
     clear hb3
     go_wp2_with fail
     go_ret
     exact ⟨by rw [HF.out];rfl,HB3.out⟩
end Go.Proofs.YteddjlbfbpecjaaGreatDoor

namespace Go.Proofs.YteddjlbfbpecjaaGreatDoor
open Go.RowKit Go.Shelf
set_option linter.unusedVariables false
set_option linter.unusedSimpArgs false
attribute [local go_sem] Oper.semAt_some
def RelIs (lo B:Nat) (w:World) (cs:List Value) (r:RelP):Prop:=∃ pv,cs=[.int .i64 r.id,.int .i64 r.fr,.int .i64 r.tt,.string r.type,pv]∧PropsF lo B w pv r.props
theorem rel_kept (lo:Nat):Kept lo (RelIs lo) where
 keep:=fun hk ⟨pv,e,hp⟩=>⟨pv,e,hp.keep hk⟩
 mono:=fun hB ⟨pv,e,hp⟩=>⟨pv,e,hp.mono (Nat.le_refl _) hB⟩
def NodeIs (lo B:Nat) (w:World) (cs:List Value) (n:NodeP):Prop:=∃ la lc pv,cs=[.int .i64 n.id,.slice la n.labels.length lc,pv]∧(n.labels.length≤lc∧lc≤maxLen)∧KeysF lo B w la n.labels∧PropsF lo B w pv n.props
theorem node_kept (lo:Nat):Kept lo (NodeIs lo) where
 keep:=fun hk ⟨la,lc,pv,e,hs,h1,hp⟩=>⟨la,lc,pv,e,hs,h1.keep hk,hp.keep hk⟩
 mono:=fun hB ⟨la,lc,pv,e,hs,h1,hp⟩=>⟨la,lc,pv,e,hs,h1.mono (Nat.le_refl _) hB,hp.mono (Nat.le_refl _) hB⟩
set_option maxRecDepth 100000 in
set_option maxHeartbeats 4000000 in
theorem copyRel_any (r:RelP) (v:Value) (B:Nat) (w:World) (hB:B≤w.heap.size) (hv:RelLies B w v r) (hn:r.props.length≤2000000) (ht:∀ q ∈ r.props,q.2.total≤2000000) :
  Calls Tryz.prog 38 #[v] w fun e w'=>∃ cs,e=.returned (.agg cs.toArray)∧RelIs w.heap.size w'.heap.size w' cs r∧Below w.heap.size w w':=by
 obtain ⟨pa,pc,rfl,hp⟩:=hv
 have HC0:=hidE (fun W (hb:Below w.heap.size w W)=>copiesP_any _ r.props B W (by have:=hb.size;omega) (hp.below (hb.mono hB)) hn ht)
 obtain ⟨xi,fr,tt,ty,xp⟩:=r
 simp only at HC0 ⊢
 obtain ⟨pl,hpl⟩:∃ n,xp.length=n:=⟨_,rfl⟩
 rw [hpl] at HC0 ⊢
 have HPL:=hidE hpl
 clear hp hn ht hpl
 go_enter Tryz.func38,Tryz.ntmps38
 go_upto_region 1 with fail
 generalize hW1:World.alloc _ _=W1
 have HB1:Hid (Below w.heap.size w W1):=by rw [← hW1];exact ((Below.refl _ _).alloc (Nat.le_refl _) _).alloc (by simp) _
 have HR1:Hid (Rec W1 w.heap.size #[.int .i64 xi,.int .i64 fr,.int .i64 tt,.string ty,.slice pa pl pc] 49):=by rw [← hW1];exact (rec_new _ _ _).alloc _
 have HZ1:Hid (Rec W1 (w.heap.size+1) #[.int .i64 0,.int .i64 0,.int .i64 0,.string ⟨#[]⟩,.slice none 0 0] 49):=by
  have h:=rec_new (w.alloc (.cells #[.int .i64 xi,.int .i64 fr,.int .i64 tt,.string ty,.slice pa pl pc] 49)) #[.int .i64 0,.int .i64 0,.int .i64 0,.string ⟨#[]⟩,.slice none 0 0] 49
  rw [World.size_alloc,hW1] at h
  exact h
 clear hW1
 have r4:=HR1.out.cell 4 rfl
 go_wp2_with fail
 refine (HC0.out W1 HB1.out).mono ?_
 rintro e w2 ⟨v2,rfl,hl,hb2⟩
 have HL:=hidE hl
 obtain ⟨pa',pc',rfl,_⟩:=hl
 have HB2:=hidE (below_on HB1.out hb2)
 have HR2:=hidE (HR1.out.below hb2 HR1.out.lt)
 have HZ2:=hidE (HZ1.out.below hb2 HZ1.out.lt)
 have hs2:w.heap.size+2≤W1.heap.size:=by have:=HZ1.out.lt;omega
 clear hb2 r4 HR1 HZ1
 have r4:=HR2.out.cell 4 rfl
 have z4:=HR2.out.z 4
 go_upto_region 2 with fail
 generalize hW3:World.setCell _ _ _=W3
 have HR3:Hid (Rec W3 w.heap.size #[.int .i64 xi,.int .i64 fr,.int .i64 tt,.string ty,.slice pa' xp.length pc'] 49):=by
  rw [← hW3];exact HR2.out.set 4 _
 have HZ3:Hid (Rec W3 (w.heap.size+1) #[.int .i64 0,.int .i64 0,.int .i64 0,.string ⟨#[]⟩,.slice none 0 0] 49):=by
  rw [← hW3];exact HZ2.out.other (by omega)
 have HB3:Hid (Below w.heap.size w W3):=by rw [← hW3];exact HB2.out.setCell (p:=⟨w.heap.size,4,none⟩) (Nat.le_refl _) _
 have hs3:W3.heap.size=w2.heap.size:=by rw [← hW3];simp
 have HF3:Hid (PropsF W1.heap.size W3.heap.size W3 (.slice pa' xp.length pc') xp):=by
  show PropsF _ _ _ _ _
  rw [hs3]
  refine HL.out.keep fun b o h1 h2=>?_
  have hne:w.heap.size≠b:=by omega
  have e:W3.heap[b]?=w2.heap[b]?:=by rw [← hW3,Below.heap_setCell _ _ _ _ (Ne.symm hne)]
  exact ⟨World.cell?_of_block e,by unfold World.frozen?;rw [e]⟩
 clear hW3 r4 z4
 have r0:=HR3.out.cell 0 rfl
 have r1:=HR3.out.cell 1 rfl
 have r2:=HR3.out.cell 2 rfl
 have r3:=HR3.out.cell 3 rfl
 have r4:=HR3.out.cell 4 rfl
 have q0:=HZ3.out.cell 0 rfl
 have z0:=HZ3.out.z 0
 have q1:=HZ3.out.cell 1 rfl
 have z1:=HZ3.out.z 1
 have q2:=HZ3.out.cell 2 rfl
 have z2:=HZ3.out.z 2
 have q3:=HZ3.out.cell 3 rfl
 have z3:=HZ3.out.z 3
 have q4:=HZ3.out.cell 4 rfl
 have z4:=HZ3.out.z 4
 go_wp2_with fail
 generalize hW4:World.setCell _ _ _=W4
 have HR4:Hid (Rec W4 (w.heap.size+1) #[.int .i64 xi,.int .i64 fr,.int .i64 tt,.string ty,.slice pa' xp.length pc'] 49):=by
  rw [← hW4]
  exact (((((HZ3.out.set 0 _).set 1 _).set 2 _).set 3 _).set 4 _)
 have HB4:Hid (Below w.heap.size w W4):=by
  rw [← hW4]
  exact (((((HB3.out.setCell (p:=⟨w.heap.size+1,0,none⟩) (Nat.le_succ _) _).setCell (p:=⟨w.heap.size+1,1,none⟩) (Nat.le_succ _) _).setCell (p:=⟨w.heap.size+1,2,none⟩) (Nat.le_succ _) _).setCell (p:=⟨w.heap.size+1,3,none⟩) (Nat.le_succ _) _).setCell (p:=⟨w.heap.size+1,4,none⟩) (Nat.le_succ _) _)
 have hs4:W4.heap.size=W3.heap.size:=by rw [← hW4];simp
 have HF4:Hid (PropsF w.heap.size W4.heap.size W4 (.slice pa' xp.length pc') xp):=by
  show PropsF _ _ _ _ _
  rw [hs4]
  refine PropsF.mono (by omega) (Nat.le_refl _) (HF3.out.keep fun b o h1 h2=>?_)
  have hne:w.heap.size+1≠b:=by omega
  have e:W4.heap[b]?=W3.heap[b]?:=by
   rw [← hW4]
   repeat rw [Below.heap_setCell _ _ _ _ (Ne.symm hne)]
  exact ⟨World.cell?_of_block e,by unfold World.frozen?;rw [e]⟩
 clear hW4 r0 r1 r2 r3 r4 q0 q1 q2 q3 q4 z0 z1 z2 z3 z4
 have p0:=HR4.out.cell 0 rfl
 have p1:=HR4.out.cell 1 rfl
 have p2:=HR4.out.cell 2 rfl
 have p3:=HR4.out.cell 3 rfl
 have p4:=HR4.out.cell 4 rfl
 refine bodyPost_ret (v:=.agg #[.int .i64 xi,.int .i64 fr,.int .i64 tt,.string ty,.slice pa' xp.length pc']) ?_ rfl ⟨[.int .i64 xi,.int .i64 fr,.int .i64 tt,.string ty,.slice pa' xp.length pc'],rfl,⟨_,rfl,HF4.out⟩,HB4.out⟩
 simp [results,Tryz.results38,go_sem,p0,p1,p2,p3,p4]
end Go.Proofs.YteddjlbfbpecjaaGreatDoor

namespace Go.Proofs.YteddjlbfbpecjaaGreatDoor
open Go.RowKit Go.Shelf
set_option linter.unusedVariables false
set_option linter.unusedSimpArgs false
attribute [local go_sem] Oper.semAt_some
set_option maxRecDepth 100000 in
set_option maxHeartbeats 4000000 in
theorem copyNode_any (r:NodeP) (v:Value) (B:Nat) (w:World) (hB:B≤w.heap.size) (hv:NodeLies B w v r) (hm:r.labels.length≤2000000) (hn:r.props.length≤2000000) (ht:∀ q ∈ r.props,q.2.total≤2000000) :
  Calls Tryz.prog 36 #[v] w fun e w'=>∃ cs,e=.returned (.agg cs.toArray)∧NodeIs w.heap.size w'.heap.size w' cs r∧Below w.heap.size w w':=by
 obtain ⟨la,lc,pa,pc,rfl,_,hk,hp⟩:=hv
 have HCN:=hidE (fun W (hb:Below w.heap.size w W)=>clone_anyF B la lc r.labels W (hk.below (hb.mono hB)) hm)
 have HCR:=hidE (fun W (hb:Below w.heap.size w W)=>copiesP_any _ r.props B W (by have:=hb.size;omega) (hp.below (hb.mono hB)) hn ht)
 obtain ⟨xi,xl,xp⟩:=r
 simp only at HCN HCR ⊢
 generalize hll:xl.length=ll at HCN ⊢
 generalize hpl:xp.length=pl at HCR ⊢
 have HLL:=hidE hll
 clear hk hp hm hn ht hll hpl
 go_enter Tryz.func36,Tryz.ntmps36
 go_upto_region 1 with fail
 generalize hW1:World.alloc _ _=W1
 have HB1:Hid (Below w.heap.size w W1):=by rw [← hW1];exact ((Below.refl _ _).alloc (Nat.le_refl _) _).alloc (by simp) _
 have HR1:Hid (Rec W1 w.heap.size #[.int .i64 xi,.slice la ll lc,.slice pa pl pc] 47):=by rw [← hW1];exact (rec_new _ _ _).alloc _
 have HZ1:Hid (Rec W1 (w.heap.size+1) #[.int .i64 0,.slice none 0 0,.slice none 0 0] 47):=by
  have h:=rec_new (w.alloc (.cells #[.int .i64 xi,.slice la ll lc,.slice pa pl pc] 47)) #[.int .i64 0,.slice none 0 0,.slice none 0 0] 47
  rw [World.size_alloc,hW1] at h
  exact h
 clear hW1
 have a1:=HR1.out.cell 1 rfl
 have a2:=HR1.out.cell 2 rfl
 go_region_with (first | (refine (HCN.out _ (by first | exact HB1.out | exact HB1.out.drew | exact HB1.out.drew.drew)).mono ?_;rintro e w2 ⟨ka',kc',rfl,hs,hkf,hb2⟩;have HS2:=hidE hs;have HK2:=hidE hkf;have HBB2:Hid (Below W1.heap.size W1 w2):=⟨hb2.1,hb2.2,hb2.3,hb2.4,hb2.5⟩;have HR2:=hidE (HR1.out.below HBB2.out HR1.out.lt);have b2:=HR2.out.cell 2 rfl;clear hs hkf hb2) | (refine (HCR.out _ (by first | exact below_on HB1.out HBB2.out | exact (below_on HB1.out HBB2.out).drew)).mono ?_;rintro e w3 ⟨v3,rfl,hpf,hb3⟩;have HP3:=hidE hpf;obtain ⟨pa3,pc3,rfl,hq1,hq2,hq3⟩:=hpf;clear hq1 hq2 hq3;have HBB3:Hid (Below w2.heap.size w2 w3):=⟨hb3.1,hb3.2,hb3.3,hb3.4,hb3.5⟩;have HR3:=hidE (HR2.out.below HBB3.out HR2.out.lt);have y1:=HR3.out.cell 1 rfl;have y2:=HR3.out.cell 2 rfl;have z1:=HR3.out.z 1;have z2:=HR3.out.z 2;clear hb3))
 all_goals
  clear a1 a2 b2 y1 y2 z1 z2
  have hs1:w.heap.size+2≤W1.heap.size:=by have:=HZ1.out.lt;omega
  have HZ3:=hidE ((HZ1.out.below HBB2.out HZ1.out.lt).below HBB3.out (HZ1.out.below HBB2.out HZ1.out.lt).lt)
  have HB3:=hidE (below_on (below_on HB1.out HBB2.out) HBB3.out)
  have HK3:Hid (KeysF W1.heap.size w3.heap.size w3 ka' xl):=(KeysF.keep (keeps_belowF HBB3.out (Nat.le_refl _)) HK2.out).mono (Nat.le_refl _) HBB3.out.size
  have HP3':Hid (PropsF w2.heap.size w3.heap.size w3 (.slice pa3 xp.length pc3) xp):=HP3.out
  have hs2:W1.heap.size≤w2.heap.size:=HBB2.out.size
  generalize hW4:World.setCell _ _ _=W4
  have HR4:Hid (Rec W4 w.heap.size #[.int .i64 xi,.slice ka' ll kc',.slice pa3 xp.length pc3] 47):=by
   rw [← hW4];exact (HR3.out.set 1 _).set 2 _
  have HZ4:Hid (Rec W4 (w.heap.size+1) #[.int .i64 0,.slice none 0 0,.slice none 0 0] 47):=by
   rw [← hW4];exact (HZ3.out.other (by omega)).other (by omega)
  have HB4:Hid (Below w.heap.size w W4):=by rw [← hW4];exact (HB3.out.setCell (p:=⟨w.heap.size,1,none⟩) (Nat.le_refl _) _).setCell (p:=⟨w.heap.size,2,none⟩) (Nat.le_refl _) _
  have hs4:W4.heap.size=w3.heap.size:=by rw [← hW4];simp
  have HH4:Hid (∀ b,w.heap.size≠b→W4.heap[b]?=w3.heap[b]?):=fun b hb=>by
   rw [← hW4]
   repeat rw [Below.heap_setCell _ _ _ _ (Ne.symm hb)]
  clear hW4
  have r0:=HR4.out.cell 0 rfl
  have r1:=HR4.out.cell 1 rfl
  have r2:=HR4.out.cell 2 rfl
  have q0:=HZ4.out.cell 0 rfl
  have q1:=HZ4.out.cell 1 rfl
  have q2:=HZ4.out.cell 2 rfl
  have f0:=HZ4.out.z 0
  have f1:=HZ4.out.z 1
  have f2:=HZ4.out.z 2
  go_wp2_with fail
  generalize hW5:World.setCell _ _ _=W5
  have HR5:Hid (Rec W5 (w.heap.size+1) #[.int .i64 xi,.slice ka' ll kc',.slice pa3 xp.length pc3] 47):=by
   rw [← hW5];exact ((HZ4.out.set 0 _).set 1 _).set 2 _
  have HB5:Hid (Below w.heap.size w W5):=by
   rw [← hW5]
   exact ((HB4.out.setCell (p:=⟨w.heap.size+1,0,none⟩) (Nat.le_succ _) _).setCell (p:=⟨w.heap.size+1,1,none⟩) (Nat.le_succ _) _).setCell (p:=⟨w.heap.size+1,2,none⟩) (Nat.le_succ _) _
  have hs5:W5.heap.size=w3.heap.size:=by rw [← hW5];simp [hs4]
  have HH5:Hid (∀ b,W1.heap.size≤b→W5.heap[b]?=w3.heap[b]?):=fun b hb=>by
   have hne:w.heap.size+1≠b:=by omega
   rw [← hW5]
   repeat rw [Below.heap_setCell _ _ _ _ (Ne.symm hne)]
   exact HH4.out b (by omega)
  have HKF:Hid (KeepsF W1.heap.size w3.heap.size w3 W5):=fun b o h1 h2=>⟨World.cell?_of_block (HH5.out b h1),by unfold World.frozen?;rw [HH5.out b h1]⟩
  clear hW5 r0 r1 r2 q0 q1 q2 f0 f1 f2
  have p0:=HR5.out.cell 0 rfl
  have p1:=HR5.out.cell 1 rfl
  have p2:=HR5.out.cell 2 rfl
  have hll:=HLL.out
  subst hll
  refine bodyPost_ret (v:=.agg #[.int .i64 xi,.slice ka' xl.length kc',.slice pa3 xp.length pc3]) ?_ rfl ⟨[.int .i64 xi,.slice ka' xl.length kc',.slice pa3 xp.length pc3],rfl,⟨_,_,_,rfl,HS2.out,?_,?_⟩,HB5.out⟩
  ·simp [results,Tryz.results36,go_sem,p0,p1,p2]
  ·rw [hs5]
   exact (HK3.out.keep HKF.out).mono (by omega) (Nat.le_refl _)
  ·rw [hs5]
   exact PropsF.mono (by omega) (Nat.le_refl _) (HP3'.out.keep fun b o h1 h2=>HKF.out b o (by omega) h2)
end Go.Proofs.YteddjlbfbpecjaaGreatDoor

