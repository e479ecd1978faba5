/- A graph is told, as it lies there. -/
import Derived.Test.YteddjlbfbpecjaaGreatDoorJoin19
import Derived.Test.YteddjlbfbpecjaaGreatDoorJoin20
import Derived.Test.YteddjlbfbpecjaaGreatDoorJoin26
namespace Go.Proofs.YteddjlbfbpecjaaGreatDoor
section
open Go.RowKit Go.Shelf
set_option linter.all false
attribute [local go_sem] Oper.semAt_some
def Css {α:Type} (k:Nat) (L:Value→α→Prop) (css:List (List Value)) (xs:List α):Prop :=
 css.length=xs.length∧∀ (i:Nat) (x:α),xs[i]?=some x→∃ cs:List Value,css[i]?=some cs∧cs.length=k∧L (.agg cs.toArray) x
theorem Zb5 {α:Type} {k:Nat} {L:Value→α→Prop}:Css k L [] []:=⟨rfl,fun i x h=>by simp at h⟩
theorem Css.step {α:Type} {k:Nat} {L:Value→α→Prop} {css:List (List Value)} {xs:List α} {j:Nat} {x:α} {cs:List Value} (h:Css k L css (xs.take j)) (hx:xs[j]?=some x) (hl:cs.length=k) (hv:L (.agg cs.toArray) x):Css k L (css++[cs]) (xs.take (j+1)):=by
 have hj:=(List.getElem?_eq_some_iff.1 hx).1
 have hlen:(xs.take j).length=j:=by rw [List.length_take];omega
 have hcl:css.length=j:=by rw [h.1,hlen]
 rw [List.take_add_one,hx]
 refine ⟨by simp [h.1],fun i y hy=>?_⟩
 by_cases hi:i<j
 ·rw [List.getElem?_append_left (by omega)] at hy
  obtain ⟨u,h1,h2⟩:=h.2 i y hy
  exact ⟨u,by rw [List.getElem?_append_left (by omega)];exact h1,h2⟩
 ·rw [List.getElem?_append_right (by omega),hlen] at hy
  have hi0:i - j=0:=by
   have:=(List.getElem?_eq_some_iff.1 hy).1
   simp at this;omega
  rw [hi0] at hy
  simp only [Option.toList_some,List.getElem?_cons_zero,Option.some.injEq] at hy
  subst hy
  exact ⟨cs,by rw [List.getElem?_append_right (by omega),hcl,hi0];rfl,hl,hv⟩
theorem Zn6 {k:Nat}:∀ (css:List (List Value)) (i q:Nat) (cs:List Value),(∀ c ∈ css,c.length=k)→css[i]?=some cs→q<k→css.flatten[i*k+q]?=cs[q]?
 | [],i,q,cs,_,hi,_=>by simp at hi
 | c::r,0,q,cs,h,hi,hq=>by
  simp only [List.getElem?_cons_zero,Option.some.injEq] at hi
  subst hi
  rw [List.flatten_cons,Nat.zero_mul,Nat.zero_add,List.getElem?_append_left (by rw [h c List.mem_cons_self];exact hq)]
 | c::r,i+1,q,cs,h,hi,hq=>by
  simp only [List.getElem?_cons_succ] at hi
  have hc:=h c List.mem_cons_self
  rw [List.flatten_cons,List.getElem?_append_right (by rw [hc,Nat.add_mul];omega),hc,show (i+1)*k+q - k=i*k+q by rw [Nat.add_mul];omega]
  exact Zn6 r i q cs (fun d hd=>h d (List.mem_cons_of_mem _ hd)) hi hq
theorem Css.all {α:Type} {k:Nat} {L:Value→α→Prop} {css:List (List Value)} {xs:List α} (h:Css k L css xs):∀ c ∈ css,c.length=k:=by
 intro c hc
 obtain ⟨i,hi⟩:=List.getElem?_of_mem hc
 have hl:=(List.getElem?_eq_some_iff.1 hi).1
 obtain ⟨cs,h1,h2,_⟩:=h.2 i _ (List.getElem?_eq_getElem (by rw [← h.1];exact hl))
 rw [hi] at h1
 injection h1 with h1
 subst h1
 exact h2
theorem Jv.mono {B B':Nat} (hB:B≤B') {w:World} {ad:Option Addr} {ks:List ByteArray} (h:Jv B w ad ks):Jv B' w ad ks:=h.imp id fun ⟨b,o,e,hl,hc⟩=>⟨b,o,e,by omega,hc⟩
theorem Jh.mono {B B':Nat} (hB:B≤B') {w:World} {v:Value} {ps:List (ByteArray × Zk)} (h:Jh B w v ps):Jh B' w v ps:=by
 obtain ⟨pa,pc,e,h1,h2,h3⟩:=h
 refine ⟨pa,pc,e,h1,h2,h3.imp id fun ⟨bl,off,e,hl,hc⟩=>⟨bl,off,e,by omega,fun i q hq=>?_⟩⟩
 obtain ⟨c0,hs,v0,v1,v2,v3,v4,v5,hcs,hv⟩:=hc i q hq
 exact ⟨c0,hs,v0,v1,v2,v3,v4,v5,hcs,hv.mono hB⟩
theorem Zv.mono {B B':Nat} (hB:B≤B') {w:World} {v:Value} {n:Zp} (h:Zv B w v n):Zv B' w v n:=by
 obtain ⟨la,lc,pa,pc,e,hs,hk,hp⟩:=h
 exact ⟨la,lc,pa,pc,e,hs,hk.mono hB,hp.mono hB⟩
theorem Jc.mono {B B':Nat} (hB:B≤B') {w:World} {v:Value} {n:Jj} (h:Jc B w v n):Jc B' w v n:=by
 obtain ⟨pa,pc,e,hp⟩:=h
 exact ⟨pa,pc,e,hp.mono hB⟩
theorem Zik {w:World} {base e k n g cap:Nat} {css:List (List Value)} (h:w.ownsRow base e k (.slice (some ⟨g,0,none⟩) n cap) n css.flatten) (hk:∀ c ∈ css,c.length=k) {i:Nat} {cs:List Value} (hi:css[i]?=some cs) {q:Nat} {v:Value} (hq:cs[q]?=some v):w.cell? ⟨g,i*k+q,none⟩=some v:=by
 have hql:=(List.getElem?_eq_some_iff.1 hq).1
 have hcl:=hk cs (List.mem_of_getElem? hi)
 have:=h.cells (g:=g) rfl (i*k+q) v (by rw [Zn6 css i q cs hk hi (by omega)];exact hq)
 have hadd:(⟨g,0,none⟩:Addr).add (i*k+q)=⟨g,i*k+q,none⟩:=by unfold Addr.add;split<;>simp_all
 rwa [hadd] at this
theorem Zvi {B base:Nat} {w w':World} {v:Value} {css:List (List Value)} {ns:List Zp} (h:w'.ownsRow base 47 3 v ns.length css.flatten) (hc:Css 3 (Zv B w) css ns) (hb:Below B w w') (hB:B≤w'.heap.size):Zax w'.heap.size w' v ns:=by
 have h':=h
 obtain ⟨g1,⟨g2,g3⟩ | ⟨g,cap,cur,g2,g3,g4,g5,g6,g7⟩⟩:=h
 ·have:ns=[]:=List.eq_nil_of_length_eq_zero g3
  subst this
  exact ⟨none,0,g2,by simp,by omega,.inl rfl⟩
 ·subst g2
  refine ⟨_,cap,rfl,g5,by simp only [maxLen] at g6;omega,.inr ⟨g,0,rfl,(Array.getElem?_eq_some_iff.1 g4).1,fun i n hi=>?_⟩⟩
  obtain ⟨cs,k1,k2,k3⟩:=hc.2 i n hi
  obtain ⟨la,lc,pa,pc,e,hs,hk,hp⟩:=k3
  have e2:cs=[.int .i64 n.id,.slice la n.labels.length lc,.slice pa n.props.length pc]:=by
   injection e with e
   simpa using congrArg Array.toList e
  subst e2
  rw [Nat.zero_add]
  have hrc:=fun q v hq=>Zik h' hc.all k1 (q:=q) (v:=v) hq
  exact ⟨la,lc,_,⟨hrc 0 _ rfl,hrc 1 _ rfl,hrc 2 _ rfl⟩,hs,(hk.below hb).mono hB,(Jh.below hb hp).mono hB⟩
theorem Zyi {B base:Nat} {w w':World} {v:Value} {css:List (List Value)} {ns:List Jj} (h:w'.ownsRow base 49 5 v ns.length css.flatten) (hc:Css 5 (Jc B w) css ns) (hb:Below B w w') (hB:B≤w'.heap.size) (ht:∀ r ∈ ns,r.type.size≤maxLen):Zbe w'.heap.size w' v ns:=by
 have h':=h
 obtain ⟨g1,⟨g2,g3⟩ | ⟨g,cap,cur,g2,g3,g4,g5,g6,g7⟩⟩:=h
 ·have:ns=[]:=List.eq_nil_of_length_eq_zero g3
  subst this
  exact ⟨none,0,g2,by simp,by omega,.inl rfl⟩
 ·subst g2
  refine ⟨_,cap,rfl,g5,by simp only [maxLen] at g6;omega,.inr ⟨g,0,rfl,(Array.getElem?_eq_some_iff.1 g4).1,fun i n hi=>?_⟩⟩
  obtain ⟨cs,k1,k2,k3⟩:=hc.2 i n hi
  obtain ⟨pa,pc,e,hp⟩:=k3
  have e2:cs=[.int .i64 n.id,.int .i64 n.fr,.int .i64 n.tt,.string n.type,.slice pa n.props.length pc]:=by
   injection e with e
   simpa using congrArg Array.toList e
  subst e2
  rw [Nat.zero_add]
  have hrc:=fun q v hq=>Zik h' hc.all k1 (q:=q) (v:=v) hq
  exact ⟨_,⟨hrc 0 _ rfl,hrc 1 _ rfl,hrc 2 _ rfl,hrc 3 _ rfl,hrc 4 _ rfl⟩,ht n (List.mem_of_getElem? hi),(Jh.below hb hp).mono hB⟩
structure Ze1 (B:Nat) (w:World) (N R:List (Int × Value)) (ns:List Zp) (rs:List Jj):Prop where
 nl:N.length≤2000000
 rl:R.length≤2000000
 no:ns.map Zp.id=Ze4 (N.map Prod.fst)
 ro:rs.map Jj.id=Ze4 (R.map Prod.fst)
 nu:Zg1 N
 ru:Zg1 R
 ne:∀ n ∈ ns,∃ v,(n.id,v) ∈ N∧Zv B w v n
 re:∀ r ∈ rs,∃ v,(r.id,v) ∈ R∧Jc B w v r
 ty:∀ r ∈ rs,r.type.size≤maxLen
theorem Ze1.below {B:Nat} {w w':World} {N R:List (Int × Value)} {ns:List Zp} {rs:List Jj} (h:Ze1 B w N R ns rs) (hb:Below B w w'):Ze1 B w' N R ns rs :=
 ⟨h.nl,h.rl,h.no,h.ro,h.nu,h.ru,fun n hn=>by obtain ⟨v,h1,h2⟩:=h.ne n hn;exact ⟨v,h1,h2.below hb⟩,fun n hn=>by obtain ⟨v,h1,h2⟩:=h.re n hn;exact ⟨v,h1,h2.below hb⟩,h.ty⟩
theorem Zil (l:List Int):(Ze4 l).length=l.length:=by unfold Ze4;exact List.length_mergeSort _
theorem Ze1.nlen {B:Nat} {w:World} {N R:List (Int × Value)} {ns:List Zp} {rs:List Jj} (h:Ze1 B w N R ns rs):ns.length=N.length:=by
 have:=congrArg List.length h.no
 simpa [Zil] using this
theorem Ze1.rlen {B:Nat} {w:World} {N R:List (Int × Value)} {ns:List Zp} {rs:List Jj} (h:Ze1 B w N R ns rs):rs.length=R.length:=by
 have:=congrArg List.length h.ro
 simpa [Zil] using this
structure TlJ (w w4:World) (X:Nat) (nv rv:Value) (nn nr:Int) (wr:World):Prop where
 box:Rec wr X #[nv,rv,.int .i64 nn,.int .i64 nr] 25
 keep:Below w.heap.size w wr
 old:∀ i,i<w4.heap.size→i≠X→wr.heap[i]?=w4.heap[i]?
 sz:w4.heap.size≤wr.heap.size
def Jda (w:World) (g:Zy) (e:Ending) (w':World):Prop:=∃ v,e=.returned v∧Zq w'.heap.size w' v g∧Below w.heap.size w w'
set_option maxRecDepth 100000 in
set_option maxHeartbeats 16000000 in
theorem Zp0 {w:World} {p:GP} {nn nr:Int} {N R:List (Int × Value)} (h:PS w p nn nr N R) (B:Nat) (hB:B≤w.heap.size) (ns:List Zp) (rs:List Jj) (ht:Ze1 B w N R ns rs) :
  Calls Tryz.prog 52 #[.pointer (some ⟨p.g,0,none⟩)] w (Jda w ⟨ns,rs,nn,nr⟩):=by
 have HG:=Zb h
 have HT:=Zb ht
 have HI1:Hid (∀ q ∈ N,I64 q.1):=by obtain ⟨_,_,_,_,h3,_⟩:=h.n;exact h3
 have HI2:Hid (∀ q ∈ R,I64 q.1):=by obtain ⟨_,_,_,_,h3,_⟩:=h.r;exact h3
 have hnl:=ht.nlen
 have hrl:=ht.rlen
 have hnm:=ht.nl
 have hrm:=ht.rl
 obtain ⟨n,hn⟩:∃ n,ns.length=n:=⟨_,rfl⟩
 obtain ⟨m,hm⟩:∃ m,rs.length=m:=⟨_,rfl⟩
 rw [hn] at hnl
 rw [hm] at hrl
 have HN:=Zb hn
 have HM:=Zb hm
 have HNL:=Zb hnl
 have HRL:=Zb hrl
 have hn2:n≤2000000:=by omega
 have hm2:m≤2000000:=by omega
 clear h ht hn hm hnl hrl
 go_enter Tryz.func52,Tryz.ntmps52
 go_upto_region 1 with fail
 generalize hW1:World.alloc _ _=W1
 have HB1:Hid (Below w.heap.size w W1):=by rw [← hW1];exact (Below.refl _ _).alloc (Nat.le_refl _) _
 have HZ1:Hid (Rec W1 w.heap.size #[.slice none 0 0,.slice none 0 0,.int .i64 0,.int .i64 0] 25):=by rw [← hW1];exact Zl _ _ _
 have HG1:=Zb (HG.out.below HB1.out)
 clear hW1
 show (Code.region 1 Zqe true).wp _ _ _ _
 refine Zr4 p nn nr W1.heap.size _ _ _ rfl ⟨rfl⟩ ?_ ?_
 ·intro W hW
  exact ⟨(hW.cell (p:=⟨p.g,2,none⟩) HG1.out.lt).trans HG1.out.c2,(hW.cell (p:=⟨p.g,3,none⟩) HG1.out.lt).trans HG1.out.c3,hW.size⟩
 rintro c W2 hS hB2 e16 ⟨X,e3,hX,hr2⟩
 obtain ⟨W3,hrun,hput⟩:=Jaj c.eval X W2 _ _ _ _ nn nr hr2 e3 e16
 refine ⟨W3,hrun,?_⟩
 clear hrun
 rw [Zao hS [8,9,10,11,12,13,14,15,16,3] (by kernel_rfl)]
 obtain ⟨y8,q8⟩:∃ y,c.eval (.tmp 8)=y:=⟨_,rfl⟩
 obtain ⟨y9,q9⟩:∃ y,c.eval (.tmp 9)=y:=⟨_,rfl⟩
 obtain ⟨y10,q10⟩:∃ y,c.eval (.tmp 10)=y:=⟨_,rfl⟩
 obtain ⟨y11,q11⟩:∃ y,c.eval (.tmp 11)=y:=⟨_,rfl⟩
 obtain ⟨y12,q12⟩:∃ y,c.eval (.tmp 12)=y:=⟨_,rfl⟩
 obtain ⟨y13,q13⟩:∃ y,c.eval (.tmp 13)=y:=⟨_,rfl⟩
 obtain ⟨y14,q14⟩:∃ y,c.eval (.tmp 14)=y:=⟨_,rfl⟩
 obtain ⟨y15,q15⟩:∃ y,c.eval (.tmp 15)=y:=⟨_,rfl⟩
 obtain ⟨y16,q16⟩:∃ y,c.eval (.tmp 16)=y:=⟨_,rfl⟩
 obtain ⟨y3,q3⟩:∃ y,c.eval (.tmp 3)=y:=⟨_,rfl⟩
 simp only [List.foldl_cons,List.foldl_nil,q8,q9,q10,q11,q12,q13,q14,q15,q16,q3]
 rw [e3] at q3
 subst q3
 clear q8 q9 q10 q11 q12 q13 q14 q15 q16
 simp only [List.setIfInBounds_toArray,List.set_cons_succ,List.set_cons_zero]
 clear e3 e16 hS
 have hZl:w.heap.size<W1.heap.size:=HZ1.out.lt
 have HB3:Hid (Below W1.heap.size W1 W3):=hB2.trans (hput.below.mono hX)
 have HX3:=Zb hput.r
 have HG3:=Zb (HG1.out.below HB3.out)
 have HZ3:=Zb (HZ1.out.below HB3.out HZ1.out.lt)
 clear hput hr2 hB2 HG1 HZ1
 have c0:=HG3.out.c0
 have HNu:=Zb (Zlq HG3.out.n hnm)
 go_wp2_with fail
 refine HNu.out.mono ?_
 rintro e w4 ⟨v4,rfl,ho4,hb4⟩
 rw [← HNL.out] at ho4
 obtain ⟨va,vc,hv⟩:=Zw ho4
 subst hv
 have HO4:=Zb ho4
 have hcap4:n≤vc∧vc≤9223372036854775807:=by
  rcases ho4.2 with ⟨h1,h0⟩ | ⟨gb,gc,cur,h1,_,_,r1,r2,_⟩
  ·injection h1 with _ _ h3;omega
  ·injection h1 with _ _ h3;subst h3;exact ⟨r1,by unfold maxLen at r2;omega⟩
 obtain ⟨hcp1,hcp2⟩:=hcap4
 have HG4:=Zb (HG3.out.below hb4)
 have HX4:=Zb (HX3.out.below hb4 HX3.out.lt)
 have HZ4:=Zb (HZ3.out.below hb4 HZ3.out.lt)
 have hX4:X<w4.heap.size:=HX4.out.lt
 have HB4:Hid (Below w.heap.size w w4):=HB1.out.trans ((HB3.out.mono (by omega)).trans (hb4.mono (by have:=HB3.out.size;omega)))
 have HO4X:Hid (∀ i,i<w.heap.size→i≠X):=fun i hi=>by omega
 have HVB:Hid (∀ q,(Value.slice va n vc).ownBlock=some q→q≠X∧q<w4.heap.size):=fun q hq=>⟨fun e=>by have:=(ho4.lt q hq).1;have:=HX3.out.lt;omega,(ho4.lt q hq).2⟩
 clear ho4 hb4 c0 HNu HG3 HX3 HZ3
 have hwX:w.heap.size<X:=by omega
 clear hX hZl
 go_wp2_with fail
 go_loopw [23] (fun i wr=>∃ (j:Nat) (SV:Value) (css:List (List Value)),j≤n∧i=.int .i64 j∧TlJ w w4 X SV (.slice none 0 0) nn nr wr∧wr.ownsRow w4.heap.size 47 3 SV j css.flatten∧Css 3 (Zv B w) css (ns.take j)) (fun i _=>n - (intOf i).toNat)
 case atStart=>exact ⟨0,.slice none 0 0,[],Nat.zero_le _,rfl,⟨HX4.out,HB4.out,fun _ _ _=>rfl,Nat.le_refl _⟩,World.ownsRow_nil _ _ _ _,Zb5⟩
 case round =>
  obtain ⟨j,SV,css,hj,rfl,hjr,hown,hcss⟩:=hrel
  have HJR:=Zb hjr
  have HO:=Zb hown
  have HCS:=Zb hcss
  clear hjr hown hcss
  by_cases hlt:j<n
  ·have hlt':(j:Int)<n:=by omega
   obtain ⟨x,hx⟩:∃ q,ns[j]?=some q:=⟨_,List.getElem?_eq_getElem (by have:=HN.out;omega)⟩
   have HX:=Zb hx
   obtain ⟨xv,hmem,hlies⟩:=HT.out.ne x (List.mem_of_getElem? hx)
   have HLI:=Zb hlies
   obtain ⟨la,lc,pa,pc,rfl,hq1,hq2,hq3⟩:=hlies
   clear hq1 hq2 hq3
   have HLK:Hid (∀ W,MI W p.n N→(Instr.lookup 68 (.map (some p.n)) (.int .i64 x.id) false).run Tryz.prog W=.ok (.agg #[.int .i64 x.id,.slice la x.labels.length lc,.slice pa x.props.length pc]) W):=fun W hW =>
    (Zis (z:=.agg #[.int .i64 0,.slice none 0 0,.slice none 0 0]) Tryz.underlying68' hW x.id _ (HI1.out _ hmem) hmem (fun q hq e=>HT.out.nu q hq _ hmem e)).2
   have hnum:∃ gb,va=some ⟨gb,0,none⟩∧w4.cell? ⟨gb,j,none⟩=some (.int .i64 x.id)∧gb≠X∧gb<w4.heap.size:=by
    have h':=HO4.out
    rcases h'.2 with ⟨h1,h0⟩ | ⟨gb,gc,cur,h1,_⟩
    ·omega
    ·injection h1 with h1 _ h3
     subst h1
     refine ⟨gb,rfl,?_,HVB.out gb rfl⟩
     have:=h'.cells (g:=gb) rfl j (.int .i64 x.id) (by rw [← HT.out.no,List.map_map,List.getElem?_map,hx];rfl)
     have hadd:(⟨gb,0,none⟩:Addr).add j=⟨gb,j,none⟩:=by unfold Addr.add;split<;>simp_all
     rwa [hadd] at this
   obtain ⟨gb,rfl,hgc,hgX,hgl⟩:=hnum
   have hgj:wr.cell? ⟨gb,j,none⟩=some (.int .i64 x.id):=(World.cell?_of_block (a:=⟨gb,j,none⟩) (HJR.out.old gb hgl hgX)).trans hgc
   clear hx hmem hgc
   obtain ⟨xi,xl,xp⟩:=x
   simp only at hgj HLK HLI
   go_upto_region 5 with fail
   clear hgj
   have HRW:Hid (∀ W,wr.grownBy W SV.ownBlock→(∀ i,i<w4.heap.size→W.heap[i]?=wr.heap[i]?)∧(∀ q,SV.ownBlock=some q→q<W.heap.size)):=fun W hg =>
    ⟨fun i hi=>hg.block i (by have:=HJR.out.sz;omega) fun e=>by have:=(HO.out.lt i e.symm).1;omega,fun q hq=>by have h1:=(HO.out.lt q hq).2;have h2:=hg.size;omega⟩
   have HMN:Hid (MI wr p.n N):=HG4.out.n.block (HJR.out.old _ HG4.out.n.lt (by have:=HG.out.n.lt;omega))
   have HPG:Hid (wr.heap[p.g]?=w4.heap[p.g]?):=HJR.out.old _ HG4.out.lt (by have:=HG.out.lt;omega)
   show (Code.region 5 Zi4 true).wp _ _ _ _
   refine Zvm SV.ownBlock wr p xi X w4.heap.size SV j css.flatten xi la xl.length lc pa xp.length pc _ _ rfl ⟨rfl,rfl,rfl⟩ ?_ ?_ ?_
   ·intro W hW
    obtain ⟨k1,k3⟩:=HRW.out W hW
    exact ⟨(World.cell?_of_block (a:=⟨X,0,none⟩) (k1 _ hX4)).trans (HJR.out.box.cell 0 rfl),Zw HO.out,(World.cell?_of_block (a:=⟨p.g,0,none⟩) ((k1 _ HG4.out.lt).trans HPG.out)).trans HG4.out.c0,HLK.out W (HMN.out.block (k1 _ HG4.out.n.lt)),k3⟩
   ·intro W hW
    exact ⟨Zbm HO.out fun q hq=>hW.block q (HO.out.lt q hq).2,by omega,by have:=hW.size;have:=HJR.out.sz;omega,rfl,hW.size⟩
   rintro c W5 hS hg5 ⟨hown,ua,uc,e36⟩ e37
   rw [e36] at hown
   obtain ⟨k1,k3⟩:=HRW.out W5 hg5
   have hr5:=HJR.out.box.keep (k1 _ hX4)
   have x0:=hr5.cell 0 rfl
   have z0:=hr5.z 0
   obtain ⟨sa,sc,hsv⟩:=Zw HO.out
   rw [hsv] at x0
   refine ⟨W5.setCell ⟨X,0,none⟩ (.slice ua (j+1) uc),?_,?_⟩
   ·generalize c.eval=ρ at *
    clear hS hown hg5 k1 k3 hr5 hsv
    go_simp
   rw [Zao hS [27,28,29,30,31,32,33,34,35,36,37] (by kernel_rfl)]
   obtain ⟨y27,q27⟩:∃ y,c.eval (.tmp 27)=y:=⟨_,rfl⟩
   obtain ⟨y28,q28⟩:∃ y,c.eval (.tmp 28)=y:=⟨_,rfl⟩
   obtain ⟨y29,q29⟩:∃ y,c.eval (.tmp 29)=y:=⟨_,rfl⟩
   obtain ⟨y30,q30⟩:∃ y,c.eval (.tmp 30)=y:=⟨_,rfl⟩
   obtain ⟨y31,q31⟩:∃ y,c.eval (.tmp 31)=y:=⟨_,rfl⟩
   obtain ⟨y32,q32⟩:∃ y,c.eval (.tmp 32)=y:=⟨_,rfl⟩
   obtain ⟨y33,q33⟩:∃ y,c.eval (.tmp 33)=y:=⟨_,rfl⟩
   obtain ⟨y34,q34⟩:∃ y,c.eval (.tmp 34)=y:=⟨_,rfl⟩
   obtain ⟨y35,q35⟩:∃ y,c.eval (.tmp 35)=y:=⟨_,rfl⟩
   obtain ⟨y36,q36⟩:∃ y,c.eval (.tmp 36)=y:=⟨_,rfl⟩
   obtain ⟨y37,q37⟩:∃ y,c.eval (.tmp 37)=y:=⟨_,rfl⟩
   simp only [List.foldl_cons,List.foldl_nil,q27,q28,q29,q30,q31,q32,q33,q34,q35,q36,q37]
   clear q27 q28 q29 q30 q31 q32 q33 q34 q35 q36 q37
   simp only [List.setIfInBounds_toArray,List.set_cons_succ,List.set_cons_zero]
   clear hS e36 e37 x0 z0
   have HJ6:Hid (TlJ w w4 X (.slice ua (j+1) uc) (.slice none 0 0) nn nr (W5.setCell ⟨X,0,none⟩ (.slice ua (j+1) uc))):=by
    refine ⟨?_,?_,?_,?_⟩
    ·simpa using hr5.set 0 (.slice ua (j+1) uc)
    ·exact (HJR.out.keep.trans (Zg6 hg5 (fun q hq=>by have:=(HO.out.lt q hq).1;have:=HB4.out.size;omega) HJR.out.keep.size)).setCell (p:=⟨X,0,none⟩) (by show w.heap.size≤X;omega) _
    ·exact fun i h1 h2=>(Below.heap_setCell _ _ _ _ h2).trans ((k1 i h1).trans (HJR.out.old i h1 h2))
    ·have h1:=hg5.size
     have h2:=HJR.out.sz
     have h3:(W5.setCell ⟨X,0,none⟩ (.slice ua (j+1) uc)).heap.size=W5.heap.size:=by simp
     omega
   have HO6:Hid ((W5.setCell ⟨X,0,none⟩ (.slice ua (j+1) uc)).ownsRow w4.heap.size 47 3 (.slice ua (j+1) uc) (j+1) (css++([[.int .i64 xi,.slice la xl.length lc,.slice pa xp.length pc]]:List (List Value))).flatten):=by
    show World.ownsRow _ _ _ _ _ _ _
    rw [List.flatten_append]
    exact Zt (by simpa using hown) fun g hg _=>Below.heap_setCell _ _ _ _ (by show g≠X;omega)
   have HC6:Hid (Css 3 (Zv B w) (css++([[.int .i64 xi,.slice la xl.length lc,.slice pa xp.length pc]]:List (List Value))) (ns.take (j+1))):=HCS.out.step HX.out rfl HLI.out
   generalize W5.setCell ⟨X,0,none⟩ (.slice ua (j+1) uc)=W6 at *
   clear hown hr5 hg5 k1 k3 hsv
   go_wp2_with fail
   go_roundw
   case rel=>exact ⟨j+1,_,_,by omega,by go_num,HJ6.out,HO6.out,HC6.out⟩
   case measure=>simp [intOf];omega
  ·have hlt':¬ (j:Int)<n:=by omega
   have hjn:j=n:=by omega
   have HCA:Hid (Css 3 (Zv B w) css ns):=by
    have:=HCS.out
    rwa [List.take_of_length_le (by have:=HN.out;omega)] at this
   have HOA:Hid (wr.ownsRow w4.heap.size 47 3 SV n css.flatten):=by rw [← hjn];exact HO.out
   have hpl:=HG4.out.lt
   have hpX:p.g≠X:=by have:=HG.out.lt;omega
   have hrX:p.r≠X:=by have:=HG.out.r.lt;omega
   have c1:wr.cell? ⟨p.g,1,none⟩=some (.map (some p.r)):=(World.cell?_of_block (a:=⟨p.g,1,none⟩) (HJR.out.old _ hpl hpX)).trans HG4.out.c1
   have HMr:=Zb (HG4.out.r.block (HJR.out.old _ HG4.out.r.lt hrX))
   have HZ5:=Zb (HZ4.out.keep (HJR.out.old _ HZ4.out.lt (by omega)))
   have HPG:Hid (wr.heap[p.g]?=w4.heap[p.g]?):=HJR.out.old _ hpl hpX
   clear HCS HO hjn
   have HNr:=Zb (Zlr HMr.out hrm)
   go_wp2_with fail
   refine HNr.out.mono ?_
   rintro e w6 ⟨v6,rfl,ho6,hb6⟩
   rw [← HRL.out] at ho6
   obtain ⟨ta,tc,hv⟩:=Zw ho6
   subst hv
   have HO6:=Zb ho6
   have hcap6:m≤tc∧tc≤9223372036854775807:=by
    rcases ho6.2 with ⟨h1,h0⟩ | ⟨gb,gc,cur,h1,_,_,r1,r2,_⟩
    ·injection h1 with _ _ h3;omega
    ·injection h1 with _ _ h3;subst h3;exact ⟨r1,by unfold maxLen at r2;omega⟩
   obtain ⟨hcq1,hcq2⟩:=hcap6
   have HX6:=Zb (HJR.out.box.below hb6 HJR.out.box.lt)
   have HNR6:=Zb (Zt HOA.out fun g _ hg=>hb6.block g hg)
   have HZ6:=Zb (HZ5.out.below hb6 HZ5.out.lt)
   have HMr6:=Zb (HMr.out.below hb6 (Nat.le_refl _))
   have hXr:X<wr.heap.size:=HJR.out.box.lt
   have hpr:p.g<wr.heap.size:=by have:=HJR.out.sz;omega
   have HPG6:Hid (w6.cell? ⟨p.g,1,none⟩=some (.map (some p.r))):=(hb6.cell (p:=⟨p.g,1,none⟩) hpr).trans c1
   have HB6:Hid (Below w.heap.size w w6):=HJR.out.keep.trans (hb6.mono HJR.out.keep.size)
   have hwr:w4.heap.size≤wr.heap.size:=HJR.out.sz
   have hw6:wr.heap.size≤w6.heap.size:=hb6.size
   have HVB6:Hid (∀ q,(Value.slice ta m tc).ownBlock=some q→q≠X∧q<w6.heap.size):=fun q hq=>⟨fun e=>by have:=(ho6.lt q hq).1;omega,(ho6.lt q hq).2⟩
   clear ho6 hb6 HNr c1 HZ5 HOA HMr HPG
   go_wp2_with fail
   go_loopw [45] (fun i wr=>∃ (j:Nat) (RV:Value) (dss:List (List Value)),j≤m∧i=.int .i64 j∧TlJ w w6 X SV RV nn nr wr∧wr.ownsRow w6.heap.size 49 5 RV j dss.flatten∧Css 5 (Jc B w) dss (rs.take j)) (fun i _=>m - (intOf i).toNat)
   case atStart=>exact ⟨0,.slice none 0 0,[],Nat.zero_le _,rfl,⟨HX6.out,HB6.out,fun _ _ _=>rfl,Nat.le_refl _⟩,World.ownsRow_nil _ _ _ _,Zb5⟩
   case round =>
    clear HJR
    obtain ⟨j,RV,dss,hj,rfl,hjr,hown,hcss⟩:=hrel
    have HJR:=Zb hjr
    have HO:=Zb hown
    have HCS:=Zb hcss
    clear hjr hown hcss
    by_cases hlt:j<m
    ·have hlt':(j:Int)<m:=by omega
     obtain ⟨x,hx⟩:∃ q,rs[j]?=some q:=⟨_,List.getElem?_eq_getElem (by have:=HM.out;omega)⟩
     have HX:=Zb hx
     obtain ⟨xv,hmem,hlies⟩:=HT.out.re x (List.mem_of_getElem? hx)
     have HLI:=Zb hlies
     obtain ⟨pa,pc,rfl,hq3⟩:=hlies
     clear hq3
     have HLK:Hid (∀ W,MI W p.r R→(Instr.lookup 69 (.map (some p.r)) (.int .i64 x.id) false).run Tryz.prog W=.ok (.agg #[.int .i64 x.id,.int .i64 x.fr,.int .i64 x.tt,.string x.type,.slice pa x.props.length pc]) W):=fun W hW =>
      (Zis (z:=.agg #[.int .i64 0,.int .i64 0,.int .i64 0,.string ⟨#[]⟩,.slice none 0 0]) Tryz.underlying69' hW x.id _ (HI2.out _ hmem) hmem (fun q hq e=>HT.out.ru q hq _ hmem e)).2
     have hnum:∃ gb,ta=some ⟨gb,0,none⟩∧w6.cell? ⟨gb,j,none⟩=some (.int .i64 x.id)∧gb≠X∧gb<w6.heap.size:=by
      have h':=HO6.out
      rcases h'.2 with ⟨h1,h0⟩ | ⟨gb,gc,cur,h1,_⟩
      ·omega
      ·injection h1 with h1 _ h3
       subst h1
       refine ⟨gb,rfl,?_,HVB6.out gb rfl⟩
       have:=h'.cells (g:=gb) rfl j (.int .i64 x.id) (by rw [← HT.out.ro,List.map_map,List.getElem?_map,hx];rfl)
       have hadd:(⟨gb,0,none⟩:Addr).add j=⟨gb,j,none⟩:=by unfold Addr.add;split<;>simp_all
       rwa [hadd] at this
     obtain ⟨gb,rfl,hgc,hgX,hgl⟩:=hnum
     have hgj:wr.cell? ⟨gb,j,none⟩=some (.int .i64 x.id):=(World.cell?_of_block (a:=⟨gb,j,none⟩) (HJR.out.old gb hgl hgX)).trans hgc
     clear hx hmem hgc
     obtain ⟨xi,fr,tt,ty,xp⟩:=x
     simp only at hgj HLK HLI
     go_upto_region 10 with fail
     clear hgj
     have HRW:Hid (∀ W,wr.grownBy W RV.ownBlock→(∀ i,i<w6.heap.size→W.heap[i]?=wr.heap[i]?)∧(∀ q,RV.ownBlock=some q→q<W.heap.size)):=fun W hg =>
      ⟨fun i hi=>hg.block i (by have:=HJR.out.sz;omega) fun e=>by have:=(HO.out.lt i e.symm).1;omega,fun q hq=>by have h1:=(HO.out.lt q hq).2;have h2:=hg.size;omega⟩
     have HMN:Hid (MI wr p.r R):=HMr6.out.block (HJR.out.old _ HMr6.out.lt hrX)
     have HPG:Hid (wr.heap[p.g]?=w6.heap[p.g]?):=HJR.out.old _ (by omega) hpX
     show (Code.region 10 Zc9 true).wp _ _ _ _
     refine Zrl RV.ownBlock wr p xi X w6.heap.size RV j dss.flatten xi fr tt ty pa xp.length pc _ _ rfl ⟨rfl,rfl,rfl⟩ ?_ ?_ ?_
     ·intro W hW
      obtain ⟨k1,k3⟩:=HRW.out W hW
      exact ⟨(World.cell?_of_block (a:=⟨X,1,none⟩) (k1 X (by omega))).trans (HJR.out.box.cell 1 rfl),Zw HO.out,(World.cell?_of_block (a:=⟨p.g,1,none⟩) ((k1 p.g (by omega)).trans HPG.out)).trans HPG6.out,HLK.out W (HMN.out.block (k1 _ HMr6.out.lt)),k3⟩
     ·intro W hW
      exact ⟨Zbm HO.out fun q hq=>hW.block q (HO.out.lt q hq).2,by omega,by have:=hW.size;have:=HJR.out.sz;omega,rfl,hW.size⟩
     rintro c W5 hS hg5 ⟨hown,ua,uc,e58⟩ e59
     rw [e58] at hown
     obtain ⟨k1,k3⟩:=HRW.out W5 hg5
     have hr5:=HJR.out.box.keep (k1 X (by omega))
     have x0:=hr5.cell 1 rfl
     have z0:=hr5.z 1
     obtain ⟨sa,sc,hsv⟩:=Zw HO.out
     rw [hsv] at x0
     refine ⟨W5.setCell ⟨X,1,none⟩ (.slice ua (j+1) uc),?_,?_⟩
     ·generalize c.eval=ρ at *
      clear hS hown hg5 k1 k3 hr5 hsv
      go_simp
     rw [Zao hS [49,50,51,52,53,54,55,56,57,58,59] (by kernel_rfl)]
     obtain ⟨y49,q49⟩:∃ y,c.eval (.tmp 49)=y:=⟨_,rfl⟩
     obtain ⟨y50,q50⟩:∃ y,c.eval (.tmp 50)=y:=⟨_,rfl⟩
     obtain ⟨y51,q51⟩:∃ y,c.eval (.tmp 51)=y:=⟨_,rfl⟩
     obtain ⟨y52,q52⟩:∃ y,c.eval (.tmp 52)=y:=⟨_,rfl⟩
     obtain ⟨y53,q53⟩:∃ y,c.eval (.tmp 53)=y:=⟨_,rfl⟩
     obtain ⟨y54,q54⟩:∃ y,c.eval (.tmp 54)=y:=⟨_,rfl⟩
     obtain ⟨y55,q55⟩:∃ y,c.eval (.tmp 55)=y:=⟨_,rfl⟩
     obtain ⟨y56,q56⟩:∃ y,c.eval (.tmp 56)=y:=⟨_,rfl⟩
     obtain ⟨y57,q57⟩:∃ y,c.eval (.tmp 57)=y:=⟨_,rfl⟩
     obtain ⟨y58,q58⟩:∃ y,c.eval (.tmp 58)=y:=⟨_,rfl⟩
     obtain ⟨y59,q59⟩:∃ y,c.eval (.tmp 59)=y:=⟨_,rfl⟩
     simp only [List.foldl_cons,List.foldl_nil,q49,q50,q51,q52,q53,q54,q55,q56,q57,q58,q59]
     clear q49 q50 q51 q52 q53 q54 q55 q56 q57 q58 q59
     simp only [List.setIfInBounds_toArray,List.set_cons_succ,List.set_cons_zero]
     clear hS e58 e59 x0 z0
     have HJ6:Hid (TlJ w w6 X SV (.slice ua (j+1) uc) nn nr (W5.setCell ⟨X,1,none⟩ (.slice ua (j+1) uc))):=by
      refine ⟨?_,?_,?_,?_⟩
      ·simpa using hr5.set 1 (.slice ua (j+1) uc)
      ·exact (HJR.out.keep.trans (Zg6 hg5 (fun q hq=>by have:=(HO.out.lt q hq).1;have:=HB6.out.size;omega) HJR.out.keep.size)).setCell (p:=⟨X,1,none⟩) (by show w.heap.size≤X;omega) _
      ·exact fun i h1 h2=>(Below.heap_setCell _ _ _ _ h2).trans ((k1 i h1).trans (HJR.out.old i h1 h2))
      ·have h1:=hg5.size
       have h2:=HJR.out.sz
       have h3:(W5.setCell ⟨X,1,none⟩ (.slice ua (j+1) uc)).heap.size=W5.heap.size:=by simp
       omega
     have HO7:Hid ((W5.setCell ⟨X,1,none⟩ (.slice ua (j+1) uc)).ownsRow w6.heap.size 49 5 (.slice ua (j+1) uc) (j+1) (dss++([[.int .i64 xi,.int .i64 fr,.int .i64 tt,.string ty,.slice pa xp.length pc]]:List (List Value))).flatten):=by
      show World.ownsRow _ _ _ _ _ _ _
      rw [List.flatten_append]
      exact Zt (by simpa using hown) fun g hg _=>Below.heap_setCell _ _ _ _ (by show g≠X;omega)
     have HC6:Hid (Css 5 (Jc B w) (dss++([[.int .i64 xi,.int .i64 fr,.int .i64 tt,.string ty,.slice pa xp.length pc]]:List (List Value))) (rs.take (j+1))):=HCS.out.step HX.out rfl HLI.out
     generalize W5.setCell ⟨X,1,none⟩ (.slice ua (j+1) uc)=W6 at *
     clear hown hr5 hg5 k1 k3 hsv
     go_wp2_with fail
     go_roundw
     case rel=>exact ⟨j+1,_,_,by omega,by go_num,HJ6.out,HO7.out,HC6.out⟩
     case measure=>simp [intOf];omega
    ·have hlt':¬ (j:Int)<m:=by omega
     have hjm:j=m:=by omega
     have HCB:Hid (Css 5 (Jc B w) dss rs):=by
      have:=HCS.out
      rwa [List.take_of_length_le (by have:=HM.out;omega)] at this
     have HOB:Hid (wr.ownsRow w6.heap.size 49 5 RV m dss.flatten):=by rw [← hjm];exact HO.out
     have HNR7:Hid (wr.ownsRow w4.heap.size 47 3 SV n css.flatten):=Zt HNR6.out fun g hg hl=>HJR.out.old g hl (by omega)
     have HZ7:=Zb (HZ6.out.keep (HJR.out.old _ HZ6.out.lt (by omega)))
     obtain ⟨sa,sc,hsv⟩:=Zw HNR7.out
     obtain ⟨ua,uc,huv⟩:=Zw HOB.out
     subst hsv huv
     clear HCS HO hjm
     have x0:=HJR.out.box.cell 0 rfl
     have x1:=HJR.out.box.cell 1 rfl
     have x2:=HJR.out.box.cell 2 rfl
     have x3:=HJR.out.box.cell 3 rfl
     have b0:=HZ7.out.cell 0 rfl
     have b1:=HZ7.out.cell 1 rfl
     have b2:=HZ7.out.cell 2 rfl
     have b3:=HZ7.out.cell 3 rfl
     have y0:=HZ7.out.z 0
     have y1:=HZ7.out.z 1
     have y2:=HZ7.out.z 2
     have y3:=HZ7.out.z 3
     go_wp2_with fail
     generalize hW9:World.setCell _ _ _=W9
     have HR9:Hid (Rec W9 w.heap.size #[.slice sa n sc,.slice ua m uc,.int .i64 nn,.int .i64 nr] 25):=by rw [← hW9];exact (((HZ7.out.set 0 _).set 1 _).set 2 _).set 3 _
     have HB9:Hid (Below w.heap.size w W9):=by rw [← hW9];exact (((HJR.out.keep.setCell (Nat.le_refl _) _).setCell (Nat.le_refl _) _).setCell (Nat.le_refl _) _).setCell (Nat.le_refl _) _
     have HK9:Hid (∀ g,g≠w.heap.size→W9.heap[g]?=wr.heap[g]?):=fun g hg=>by
      rw [← hW9]
      exact (Below.heap_setCell _ _ _ _ hg).trans ((Below.heap_setCell _ _ _ _ hg).trans ((Below.heap_setCell _ _ _ _ hg).trans (Below.heap_setCell _ _ _ _ hg)))
     clear hW9
     have q0:=HR9.out.cell 0 rfl
     have q1:=HR9.out.cell 1 rfl
     have q2:=HR9.out.cell 2 rfl
     have q3:=HR9.out.cell 3 rfl
     have hBs:B≤W9.heap.size:=by have:=HB9.out.size;omega
     have HL9:Hid (Zq W9.heap.size W9 (.agg #[.slice sa n sc,.slice ua m uc,.int .i64 nn,.int .i64 nr]) ⟨ns,rs,nn,nr⟩):=by
      refine ⟨sa,sc,ua,uc,by simp only [HN.out,HM.out],?_,?_⟩
      ·simp only [HN.out]
       refine Zvi (base:=w4.heap.size) ?_ HCA.out (HB9.out.mono hB) hBs
       rw [HN.out]
       exact Zt HNR7.out fun g hg _=>HK9.out g (by omega)
      ·simp only [HM.out]
       refine Zyi (base:=w6.heap.size) ?_ HCB.out (HB9.out.mono hB) hBs HT.out.ty
       rw [HM.out]
       exact Zt HOB.out fun g hg _=>HK9.out g (by omega)
     refine bodyPost_ret (v:=.agg #[.slice sa n sc,.slice ua m uc,.int .i64 nn,.int .i64 nr]) ?_ rfl ⟨_,rfl,HL9.out,HB9.out⟩
     simp [results,Tryz.results52,go_sem,q0,q1,q2,q3]
end
section
open Go.RowKit Go.Shelf
set_option linter.all false
theorem Zdv.mono {B B':Nat} (hB:B≤B') {w:World} {bl off:Nat} {n:Zp} (h:Zdv B w bl off n):Zdv B' w bl off n:=by
 obtain ⟨la,lc,pv,hc,hs,hk,hp⟩:=h
 exact ⟨la,lc,pv,hc,hs,hk.mono hB,hp.mono hB⟩
theorem Zg2.mono {B B':Nat} (hB:B≤B') {w:World} {bl off:Nat} {n:Jj} (h:Zg2 B w bl off n):Zg2 B' w bl off n:=by
 obtain ⟨pv,hc,hs,hp⟩:=h
 exact ⟨pv,hc,hs,hp.mono hB⟩
theorem Zax.mono {B B':Nat} (hB:B≤B') {w:World} {v:Value} {ns:List Zp} (h:Zax B w v ns):Zax B' w v ns:=by
 obtain ⟨a,c,e,h1,h2,h3⟩:=h
 exact ⟨a,c,e,h1,h2,h3.imp id fun ⟨bl,off,e,hl,hc⟩=>⟨bl,off,e,by omega,fun i x hi=>(hc i x hi).mono hB⟩⟩
theorem Zbe.mono {B B':Nat} (hB:B≤B') {w:World} {v:Value} {ns:List Jj} (h:Zbe B w v ns):Zbe B' w v ns:=by
 obtain ⟨a,c,e,h1,h2,h3⟩:=h
 exact ⟨a,c,e,h1,h2,h3.imp id fun ⟨bl,off,e,hl,hc⟩=>⟨bl,off,e,by omega,fun i x hi=>(hc i x hi).mono hB⟩⟩
theorem Zq.mono {B B':Nat} (hB:B≤B') {w:World} {v:Value} {g:Zy} (h:Zq B w v g):Zq B' w v g:=by
 obtain ⟨na,nc,ra,rc,e,h1,h2⟩:=h
 exact ⟨na,nc,ra,rc,e,h1.mono hB,h2.mono hB⟩
end
section
open Go.RowKit Go.Shelf
set_option linter.all false
def Zkd (k:Nat) (L:Value→Prop) (w:World) (bl off:Nat) (cs:List Value):Prop:=cs.length=k∧(∀ v ∈ cs,v.oneCell'=true)∧(∀ q v,cs[q]?=some v→w.cell? ⟨bl,off+q,none⟩=some v)∧L (.agg cs.toArray)
theorem Zdr {B:Nat} {w:World} {v:Value} {ps:List (ByteArray × Zk)} (h:Jh B w v ps):∃ pa pc,v=.slice pa ps.length pc:=by
 obtain ⟨pa,pc,e,_⟩:=h
 exact ⟨pa,pc,e⟩
theorem Zqt {B:Nat} {w:World} {bl off:Nat} {n:Zp} (h:Zdv B w bl off n):∃ cs,Zkd 3 (fun v=>Zv B w v n) w bl off cs:=by
 obtain ⟨la,lc,pv,⟨c0,c1,c2⟩,hs,hk,hp⟩:=h
 obtain ⟨pa,pc,rfl⟩:=Zdr hp
 refine ⟨[.int .i64 n.id,.slice la n.labels.length lc,.slice pa n.props.length pc],rfl,?_,?_,la,lc,pa,pc,rfl,hs,hk,hp⟩
 ·intro v hv
  simp only [List.mem_cons,List.not_mem_nil,or_false] at hv
  rcases hv with rfl | rfl | rfl<;>rfl
 ·intro q v hq
  match q,hq with
  | 0,hq=>obtain rfl:=Option.some.inj hq;exact c0
  | 1,hq=>obtain rfl:=Option.some.inj hq;exact c1
  | 2,hq=>obtain rfl:=Option.some.inj hq;exact c2
theorem Ztm {B:Nat} {w:World} {bl off:Nat} {n:Jj} (h:Zg2 B w bl off n):∃ cs,Zkd 5 (fun v=>Jc B w v n) w bl off cs:=by
 obtain ⟨pv,⟨c0,c1,c2,c3,c4⟩,hs,hp⟩:=h
 obtain ⟨pa,pc,rfl⟩:=Zdr hp
 refine ⟨[.int .i64 n.id,.int .i64 n.fr,.int .i64 n.tt,.string n.type,.slice pa n.props.length pc],rfl,?_,?_,pa,pc,rfl,hp⟩
 ·intro v hv
  simp only [List.mem_cons,List.not_mem_nil,or_false] at hv
  rcases hv with rfl | rfl | rfl | rfl | rfl<;>rfl
 ·intro q v hq
  match q,hq with
  | 0,hq=>obtain rfl:=Option.some.inj hq;exact c0
  | 1,hq=>obtain rfl:=Option.some.inj hq;exact c1
  | 2,hq=>obtain rfl:=Option.some.inj hq;exact c2
  | 3,hq=>obtain rfl:=Option.some.inj hq;exact c3
  | 4,hq=>obtain rfl:=Option.some.inj hq;exact c4
def Zlx {α:Type} (k:Nat) (L:Value→α→Prop) (w:World) (bl off:Nat) (css:List (List Value)) (xs:List α):Prop :=
 css.length=xs.length∧∀ (i:Nat) (x:α) (cs:List Value),xs[i]?=some x→css[i]?=some cs→Zkd k (fun v=>L v x) w bl (off+i*k) cs
theorem Ztn {α:Type} {k:Nat} {At:World→Nat→Nat→α→Prop} {L:Value→α→Prop} {w:World} {bl:Nat} (hA:∀ off x,At w bl off x→∃ cs,Zkd k (fun v=>L v x) w bl off cs):∀ (xs:List α) (off:Nat),(∀ i x,xs[i]?=some x→At w bl (off+i*k) x)→∃ css,Zlx k L w bl off css xs
 | [],off,h=>⟨[],rfl,fun i x cs hx=>by simp at hx⟩
 | x::r,off,h=>by
  obtain ⟨cs,h1⟩:=hA off x (by have:=h 0 x rfl;rwa [Nat.zero_mul,Nat.add_zero] at this)
  obtain ⟨css,h2,h3⟩:=Ztn hA r (off+k) fun i y hy=>by
   have:=h (i+1) y (by simpa using hy)
   rwa [Nat.add_mul,Nat.one_mul,Nat.add_comm (i*k) k,← Nat.add_assoc] at this
  refine ⟨cs::css,by simp [h2],fun i y ds hy hd=>?_⟩
  cases i with
  | zero =>
   obtain rfl:=Option.some.inj hy
   obtain rfl:=Option.some.inj hd
   rw [Nat.zero_mul,Nat.add_zero];exact h1
  | succ i =>
   have:=h3 i y ds (by simpa using hy) (by simpa using hd)
   rwa [Nat.add_mul,Nat.one_mul,Nat.add_comm (i*k) k,← Nat.add_assoc]
theorem Zlx.all {α:Type} {k:Nat} {L:Value→α→Prop} {w:World} {bl off:Nat} {css:List (List Value)} {xs:List α} (h:Zlx k L w bl off css xs):∀ c ∈ css,c.length=k∧∀ v ∈ c,v.oneCell'=true:=fun c hc=>by
 obtain ⟨i,hi⟩:=List.getElem?_of_mem hc
 have hl:=(List.getElem?_eq_some_iff.1 hi).1
 have:=h.2 i _ c (List.getElem?_eq_getElem (by rw [← h.1];exact hl)) hi
 exact ⟨this.1,this.2.1⟩
theorem Zlx.css {α:Type} {k:Nat} {L:Value→α→Prop} {w:World} {bl off:Nat} {css:List (List Value)} {xs:List α} (h:Zlx k L w bl off css xs):Css k L css xs:=⟨h.1,fun i x hx=>by
 have hl:=(List.getElem?_eq_some_iff.1 hx).1
 obtain ⟨cs,hc⟩:∃ cs,css[i]?=some cs:=⟨_,List.getElem?_eq_getElem (by rw [h.1];exact hl)⟩
 have:=h.2 i x _ hx hc
 exact ⟨_,hc,this.1,this.2.2.2⟩⟩
theorem Za1 {k:Nat}:∀ (css:List (List Value)),(∀ c ∈ css,c.length=k)→css.flatten.length=css.length*k
 | [],_=>by simp
 | c::r,h=>by
  rw [List.flatten_cons,List.length_append,h c List.mem_cons_self,Za1 r (fun d hd=>h d (List.mem_cons_of_mem _ hd)),List.length_cons,Nat.add_mul,Nat.one_mul,Nat.add_comm]
theorem Zlx.cells {α:Type} {k:Nat} (hk:0<k) {L:Value→α→Prop} {w:World} {bl off:Nat} {css:List (List Value)} {xs:List α} (h:Zlx k L w bl off css xs) (i m:Nat) (hm:i+m≤xs.length):∀ j u,(((css.drop i).take m).flatten)[j]?=some u→w.cell? ⟨bl,off+i*k+j,none⟩=some u:=by
 intro j u hu
 have hall:∀ c ∈ (css.drop i).take m,c.length=k:=fun c hc=>(h.all c (List.mem_of_mem_drop (List.mem_of_mem_take hc))).1
 have hlen:((css.drop i).take m).length=m:=by rw [List.length_take,List.length_drop,h.1];omega
 have hj:j<m*k:=by
  have:=(List.getElem?_eq_some_iff.1 hu).1
  rwa [Za1 _ hall,hlen] at this
 have hq:j / k<m:=Nat.div_lt_of_lt_mul (by rwa [Nat.mul_comm] at hj)
 obtain ⟨cs,hcs⟩:∃ cs,((css.drop i).take m)[j / k]?=some cs:=⟨_,List.getElem?_eq_getElem (by omega)⟩
 have e:=Zn6 ((css.drop i).take m) (j / k) (j % k) cs hall hcs (Nat.mod_lt _ hk)
 have hdm:j / k*k+j % k=j:=by rw [Nat.mul_comm];exact Nat.div_add_mod j k
 rw [hdm,hu] at e
 have hcs2:css[i+j / k]?=some cs:=by
  rw [List.getElem?_take_of_lt hq,List.getElem?_drop] at hcs
  exact hcs
 have:=(h.2 (i+j / k) _ cs (List.getElem?_eq_getElem (by omega)) hcs2).2.2.1 (j % k) u e.symm
 have e2:off+i*k+j=off+(i+j / k)*k+j % k:=by rw [Nat.add_mul];omega
 rw [e2];exact this
theorem Css.app {α:Type} {k:Nat} {L:Value→α→Prop} {css des:List (List Value)} {xs ys:List α} (h:Css k L css xs) (h':Css k L des ys):Css k L (css++des) (xs++ys):=by
 refine ⟨by simp [h.1,h'.1],fun i x hx=>?_⟩
 by_cases hi:i<xs.length
 ·rw [List.getElem?_append_left hi] at hx
  obtain ⟨cs,h1,h2⟩:=h.2 i x hx
  exact ⟨cs,by rw [List.getElem?_append_left (by rw [h.1];exact hi)];exact h1,h2⟩
 ·rw [List.getElem?_append_right (by omega)] at hx
  obtain ⟨cs,h1,h2⟩:=h'.2 _ x hx
  exact ⟨cs,by rw [List.getElem?_append_right (by rw [h.1];omega),h.1];exact h1,h2⟩
theorem Css.drop {α:Type} {k:Nat} {L:Value→α→Prop} {css:List (List Value)} {xs:List α} (h:Css k L css xs) (i:Nat):Css k L (css.drop i) (xs.drop i) :=
 ⟨by simp [h.1],fun j x hx=>by rw [List.getElem?_drop] at hx ⊢;exact h.2 _ x hx⟩
theorem Css.take {α:Type} {k:Nat} {L:Value→α→Prop} {css:List (List Value)} {xs:List α} (h:Css k L css xs) (m:Nat):Css k L (css.take m) (xs.take m) :=
 ⟨by simp [h.1],fun j x hx=>by
  have hj:j<m:=by have:=(List.getElem?_eq_some_iff.1 hx).1;simp at this;omega
  rw [List.getElem?_take_of_lt hj] at hx ⊢
  exact h.2 _ x hx⟩
theorem Zje {t e ty k bytes base n m c:Nat} {i0:TypeInfo} {z:Value} (ht:Tryz.prog.underlying t=some (.slice e)) (hi:Tryz.prog.info? e=some i0) (hz:i0.zero=some z) (hsize:i0.size=k) (hby:i0.bytes=bytes) (hzs:z.cells.size=k) (hk:0<k) (hbb:bytes≤64)
  {v:Value} {xs news:List Value} {w:World} {a:Option Addr} (hown:w.ownsRow base e k v n xs) (hl:news.length=m*k) (h1:∀ u ∈ news,u.oneCell'=true) (hsrc:m=0∨∃ bl off,a=some ⟨bl,off,none⟩∧∀ j u,news[j]?=some u→w.cell? ⟨bl,off+j,none⟩=some u) (hn:n+m≤1000000) (hb:base≤w.heap.size) :
  ∃ v' w',(Builtin.append_ #[t,t] ty #[v,.slice a m c]).run Tryz.prog w=.ok v' w'∧w'.ownsRow base e k v' (n+m) (xs++news)∧Below base w w':=by
 have hbyt:(n+m)*bytes≤140737488355328:=Nat.le_trans (Nat.mul_le_mul hn hbb) (by decide)
 cases a with
 | none =>
  have hm:m=0:=hsrc.elim id fun ⟨_,_,h,_⟩=>by cases h
  subst hm
  have hnews:news=[]:=List.eq_nil_of_length_eq_zero (by rw [hl,Nat.zero_mul])
  subst hnews
  refine ⟨v,w,?_,by simpa using hown,Below.refl _ _⟩
  rcases hown.2 with ⟨rfl,rfl⟩ | ⟨g,cap,cur,rfl,_,_,hnc,_⟩
  ·simp [Builtin.append_,run_underlying ht,sizeOf,typeInfo,hi,Builtin.lenOf,Builtin.firstCells]
  ·simp [Builtin.append_,run_underlying ht,sizeOf,typeInfo,hi,Builtin.lenOf,Builtin.firstCells,hnc,storeCells]
 | some ad =>
  by_cases hm:m=0
  ·subst hm
   have hnews:news=[]:=List.eq_nil_of_length_eq_zero (by rw [hl,Nat.zero_mul])
   subst hnews
   obtain ⟨v',w',q1,q2,q3,_⟩:=run_append_own (P:=Tryz.prog) (w:=w) base t ty e i0 z k bytes ht hi hz hsize hby hzs hk v n xs hown ad 0 c [] (by simp) (fun j u hu=>by simp at hu) h1 (by unfold maxLen;omega) hbyt hb
   exact ⟨v',w',q1,q2,Zfr hown hb q3⟩
  ·obtain ⟨bl,off,e1,hc⟩:=hsrc.resolve_left hm
   obtain rfl:ad=⟨bl,off,none⟩:=Option.some.inj e1
   obtain ⟨v',w',q1,q2,q3,_⟩:=run_append_own (P:=Tryz.prog) (w:=w) base t ty e i0 z k bytes ht hi hz hsize hby hzs hk v n xs hown ⟨bl,off,none⟩ m c news hl (fun j u hu=>by
    have hadd:(⟨bl,off,none⟩:Addr).add j=⟨bl,off+j,none⟩:=by unfold Addr.add;split<;>simp_all
    rw [hadd];exact hc j u hu) h1 (by unfold maxLen;omega) hbyt hb
   exact ⟨v',w',q1,q2,Zfr hown hb q3⟩
end
