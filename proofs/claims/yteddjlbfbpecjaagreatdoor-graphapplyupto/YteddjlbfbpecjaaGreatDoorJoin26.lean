/- The parts of a graph: maps by numbers. -/
import Derived.Test.YteddjlbfbpecjaaGreatDoorJoin25
import Derived.Test.YteddjlbfbpecjaaGreatDoorJoin18
import Derived.Test.YteddjlbfbpecjaaGreatDoorJoin3
import Derived.Test.YteddjlbfbpecjaaGreatDoorJoin4
import Derived.Test.YteddjlbfbpecjaaGreatDoorJoin19
namespace Go.Proofs.YteddjlbfbpecjaaGreatDoor
section
open Go.RowKit Go.Shelf
set_option linter.all false
attribute [local go_sem] Oper.semAt_some
def Zm1 {α:Type} (key:α→Int) (L:World→Value→α→Prop) (w:World) (N:List (Int × Value)) (xs:List α):Prop :=
 N.length=xs.length∧∀ (i:Nat) (x:α),xs[i]?=some x→∃ v,N[i]?=some (key x,v)∧L w v x
theorem Zm1.turn {α:Type} {key:α→Int} {L:World→Value→α→Prop} {w w':World} {N:List (Int × Value)} {xs:List α} (h:Zm1 key L w N xs) (hk:∀ v x,x ∈ xs→L w v x→L w' v x):Zm1 key L w' N xs :=
 ⟨h.1,fun i x hx=>by obtain ⟨v,h1,h2⟩:=h.2 i x hx;exact ⟨v,h1,hk v x (List.mem_of_getElem? hx) h2⟩⟩
theorem Zmu {α:Type} {key:α→Int} {L:World→Value→α→Prop} (w:World):Zm1 key L w [] []:=⟨rfl,fun i x h=>by simp at h⟩
theorem Zm1.step {α:Type} {key:α→Int} {L:World→Value→α→Prop} {w:World} {N:List (Int × Value)} {xs:List α} {j:Nat} {x:α} {v:Value} (h:Zm1 key L w N (xs.take j)) (hx:xs[j]?=some x) (hv:L w v x):Zm1 key L w (N++[(key x,v)]) (xs.take (j+1)):=by
 have hj:=(List.getElem?_eq_some_iff.1 hx).1
 have hl:N.length=j:=by rw [h.1,List.length_take];omega
 rw [List.take_add_one,hx]
 refine ⟨by simp [h.1],fun i y hy=>?_⟩
 by_cases hi:i<j
 ·rw [List.getElem?_append_left (by rw [List.length_take];omega)] at hy
  obtain ⟨u,h1,h2⟩:=h.2 i y hy
  exact ⟨u,by rw [List.getElem?_append_left (by omega)];exact h1,h2⟩
 ·have hlen:(xs.take j).length=j:=by rw [List.length_take];omega
  rw [List.getElem?_append_right (by omega),hlen] at hy
  have hi0:i - j=0:=by
   have:=(List.getElem?_eq_some_iff.1 hy).1
   simp at this;omega
  rw [hi0] at hy
  simp only [Option.toList_some,List.getElem?_cons_zero,Option.some.injEq] at hy
  subst hy
  exact ⟨v,by rw [List.getElem?_append_right (by omega),hl,hi0];rfl,hv⟩
theorem Zm1.fresh {α:Type} {key:α→Int} {L:World→Value→α→Prop} {w:World} {N:List (Int × Value)} {xs:List α} {j:Nat} {x:α} (h:Zm1 key L w N (xs.take j)) (hx:xs[j]?=some x) (hd:(xs.map key).Nodup):∀ p ∈ N,p.1≠key x:=by
 intro p hp e
 obtain ⟨i,hi⟩:=List.getElem?_of_mem hp
 have hil:=(List.getElem?_eq_some_iff.1 hi).1
 have hj:=(List.getElem?_eq_some_iff.1 hx).1
 have hl:N.length=j:=by rw [h.1,List.length_take];omega
 obtain ⟨y,hy⟩:∃ y,(xs.take j)[i]?=some y:=⟨_,List.getElem?_eq_getElem (by rw [List.length_take];omega)⟩
 obtain ⟨v,h1,_⟩:=h.2 i y hy
 rw [hi] at h1
 injection h1 with h1
 rw [h1] at e
 rw [List.getElem?_take] at hy
 split at hy
 ·next hlt =>
  have h0:=List.pairwise_iff_getElem.1 hd i j (by simp;omega) (by simpa using hj) hlt
  apply h0
  rw [List.getElem_map,List.getElem_map,(List.getElem?_eq_some_iff.1 hy).2,(List.getElem?_eq_some_iff.1 hx).2]
  exact e
 ·cases hy
def Zef (B:Nat) (w:World) (N:List (Int × Value)) (ns:List Zp):Prop:=Zm1 Zp.id (Zv B) w N ns
def Zk3 (B:Nat) (w:World) (R:List (Int × Value)) (rs:List Jj):Prop:=Zm1 Jj.id (Jc B) w R rs
theorem Zef.below {B:Nat} {w w':World} {N:List (Int × Value)} {ns:List Zp} (h:Zef B w N ns) (hb:Below B w w'):Zef B w' N ns:=h.turn fun v x _ h2=>h2.below hb
theorem Zk3.below {B:Nat} {w w':World} {N:List (Int × Value)} {ns:List Jj} (h:Zk3 B w N ns) (hb:Below B w w'):Zk3 B w' N ns:=h.turn fun v x _ h2=>h2.below hb
def Zzc (B:Nat) (w:World) (n r:Nat) (ns:List Zp) (rs:List Jj):Prop:=∃ N R,MI w n N∧MI w r R∧Zef B w N ns∧Zk3 B w R rs
structure PtJ (w:World) (cs:Array Value) (nn nr:Int) (N R:List (Int × Value)) (wr:World):Prop where
 box:Rec wr w.heap.size cs 25
 res:Rec wr (w.heap.size+1) #[.map none,.map none,.int .i64 0,.int .i64 0] 71
 n:MI wr (w.heap.size+2) N
 r:MI wr (w.heap.size+2+1) R
 par:Rec wr (w.heap.size+2+1+1) #[.map (some (w.heap.size+2)),.map (some (w.heap.size+2+1)),.int .i64 nn,.int .i64 nr] 71
 keep:Below w.heap.size w wr
theorem PtJ.below {w wr wz:World} {cs:Array Value} {nn nr:Int} {N R:List (Int × Value)} (h:PtJ w cs nn nr N R wr) (hb:Below wr.heap.size wr wz):PtJ w cs nn nr N R wz :=
 ⟨h.box.below hb h.box.lt,h.res.below hb h.res.lt,h.n.below hb (Nat.le_refl _),h.r.below hb (Nat.le_refl _),h.par.below hb h.par.lt,Za h.keep hb⟩
set_option maxRecDepth 100000 in
set_option maxHeartbeats 8000000 in
theorem Zip (g:Zy) (B:Nat) (v:Value) (w:World) (hB:B≤w.heap.size) (hg:Zq B w v g) (hd:(g.nodes.map Zp.id).Nodup) (hd2:(g.rels.map Jj.id).Nodup) (hi:∀ n ∈ g.nodes,I64 n.id) (hi2:∀ r ∈ g.rels,I64 r.id) :
  Calls Tryz.prog 39 #[v] w fun e w'=>e=.returned (.agg #[.map (some (w.heap.size+2)),.map (some (w.heap.size+2+1)),.int .i64 g.nn,.int .i64 g.nr])∧Below w.heap.size w w'∧Zzc B w' (w.heap.size+2) (w.heap.size+2+1) g.nodes g.rels:=by
 have hm1:∀ W:World,(Instr.makeMap 68 none).run Tryz.prog W=.ok (.map (some W.heap.size)) (W.alloc (.map #[] 0)):=fun W=>rfl
 have hm2:∀ W:World,(Instr.makeMap 69 none).run Tryz.prog W=.ok (.map (some W.heap.size)) (W.alloc (.map #[] 0)):=fun W=>rfl
 obtain ⟨na,nc,ra,rc,rfl,hn,hr⟩:=hg
 obtain ⟨ns,rs,nn,nr⟩:=g
 simp only at hn hr hd hd2 hi hi2 ⊢
 obtain ⟨a',c',e1,h1,h2,hp3⟩:=hn
 obtain ⟨rfl,rfl⟩:na=a'∧nc=c':=by injection e1 with e1 _ e2;exact ⟨e1,e2⟩
 obtain ⟨a',c',e2,r1,r2,hq3⟩:=hr
 obtain ⟨rfl,rfl⟩:ra=a'∧rc=c':=by injection e2 with e1 _ e2;exact ⟨e1,e2⟩
 have HP:=Zb hp3
 have HQ:=Zb hq3
 have HD:=Zb hd
 have HD2:=Zb hd2
 have HI:=Zb hi
 have HI2:=Zb hi2
 obtain ⟨n,hn⟩:∃ n,ns.length=n:=⟨_,rfl⟩
 have HN:=Zb hn
 obtain ⟨m,hm⟩:∃ m,rs.length=m:=⟨_,rfl⟩
 have HM:=Zb hm
 rw [hn] at h1
 rw [hm] at r1
 rw [hn,hm]
 clear hp3 hq3 hn hm e1 e2 hd hi hi2 hd2
 go_enter Tryz.func39,Tryz.ntmps39
 go_upto_region 1 with fail
 generalize hW1:World.alloc _ _=W1
 have HB1:Hid (Below w.heap.size w W1):=by rw [← hW1];exact ((Below.refl _ _).alloc (Nat.le_refl _) _).alloc (by simp) _
 have HR1:Hid (Rec W1 w.heap.size #[.slice na n nc,.slice ra m rc,.int .i64 nn,.int .i64 nr] 25):=by rw [← hW1];exact (Zl _ _ _).alloc _
 have HR2:Hid (Rec W1 (w.heap.size+1) #[.map none,.map none,.int .i64 0,.int .i64 0] 71):=by
  rw [← hW1]
  have:=Zl (w.alloc (.cells #[.slice na n nc,.slice ra m rc,.int .i64 nn,.int .i64 nr] 25)) #[.map none,.map none,.int .i64 0,.int .i64 0] 71
  rwa [show (w.alloc (.cells #[.slice na n nc,.slice ra m rc,.int .i64 nn,.int .i64 nr] 25)).heap.size=w.heap.size+1 by simp] at this
 have hs1:W1.heap.size=w.heap.size+2:=by rw [← hW1];simp
 clear hW1
 have a2:=HR1.out.cell 2 rfl
 have a3:=HR1.out.cell 3 rfl
 go_upto_region 2 with fail
 generalize hW2:World.alloc _ _=W2
 have hj0:PtJ w #[.slice na n nc,.slice ra m rc,.int .i64 nn,.int .i64 nr] nn nr [] [] W2:=by
  rw [← hW2]
  refine ⟨((HR1.out.alloc _).alloc _).alloc _,((HR2.out.alloc _).alloc _).alloc _,?_,?_,?_,((HB1.out.alloc (by omega) _).alloc (by simp;omega) _).alloc (by simp;omega) _⟩
  ·have h:=Ziq W1
   rw [hs1] at h
   exact (h.block (Below.heap_alloc _ _ _ h.lt)).block (Below.heap_alloc _ _ _ (by simp;omega))
  ·have h:=Ziq (W1.alloc (.map #[] 0))
   rw [World.size_alloc,hs1] at h
   exact h.block (Below.heap_alloc _ _ _ h.lt)
  ·have h:=Zl ((W1.alloc (.map #[] 0)).alloc (.map #[] 0)) #[.map (some (w.heap.size+2)),.map (some (w.heap.size+2+1)),.int .i64 nn,.int .i64 nr] 71
   rwa [World.size_alloc,World.size_alloc,hs1] at h
 have HJ:=Zb hj0
 clear hW2 a2 a3 hj0 HR1 HR2 HB1 hs1 hm1 hm2
 have a0:=HJ.out.box.cell 0 rfl
 go_wp2_with fail
 clear a0
 go_loopw [18] (fun x wr=>∃ (j:Nat) (N:List (Int × Value)),j≤n∧x=.int .i64 j∧PtJ w #[.slice na n nc,.slice ra m rc,.int .i64 nn,.int .i64 nr] nn nr N [] wr∧Zef B wr N (ns.take j)) (fun i _=>n - (intOf i).toNat)
 case atStart=>exact ⟨0,[],Nat.zero_le _,rfl,HJ.out,Zmu _⟩
 case round =>
  obtain ⟨j,N,hj,rfl,hjr,hen⟩:=hrel
  have HJR:=Zb hjr
  have HEN:=Zb hen
  have q1:=hjr.box.cell 1 rfl
  clear hjr HJ hen
  by_cases hlt:j<n
  ·have hlt':(j:Int)<n:=by omega
   obtain ⟨x,hx⟩:∃ q,ns[j]?=some q:=⟨_,List.getElem?_eq_getElem (by have:=HN.out;omega)⟩
   obtain ⟨bl,off,rfl,hbl,hc⟩:=HP.out.resolve_left (by intro e;rw [e] at hx;simp at hx)
   have hat:=(hc j _ hx).below (HJR.out.keep.mono hB) hbl
   have HAT:=Zb hat
   have HX:=Zb hx
   have hxi:I64 x.id:=HI.out _ (List.mem_of_getElem? hx)
   have hnew:∀ p ∈ N,p.1≠x.id:=HEN.out.fresh hx HD.out
   obtain ⟨la,lc,pv,⟨c0,c1,c2⟩,hs,hks,hp⟩:=hat
   have HLI:Hid (∀ W,Below B wr W→Zv B W (.agg #[.int .i64 x.id,.slice la x.labels.length lc,pv]) x):=fun W hb=>by
    obtain ⟨pa,pc,e,q⟩:=hp
    subst e
    exact Zv.below hb ⟨la,lc,pa,pc,rfl,hs,hks,⟨pa,pc,rfl,q⟩⟩
   obtain ⟨pa,pc,rfl,_,_,_⟩:=hp
   clear hc hx q1 hs hks HAT
   obtain ⟨xi,xl,xp⟩:=x
   simp only at c0 c1 c2 hxi hnew HLI
   go_upto_region 5 with fail
   generalize hW2:World.alloc _ _=W2
   have hr2:=Zl wr #[.int .i64 xi,.slice la xl.length lc,.slice pa xp.length pc] 47
   rw [hW2] at hr2
   have HB2:Hid (Below wr.heap.size wr W2):=by rw [← hW2];exact (Below.refl _ _).alloc (Nat.le_refl _) _
   have k0:=hr2.cell 0 rfl
   have k1:=hr2.cell 1 rfl
   have k2:=hr2.cell 2 rfl
   have HJ2:=Zb (HJR.out.below HB2.out)
   have m0:=HJ2.out.par.cell 0 rfl
   have hszr:B≤wr.heap.size:=by have:=HJR.out.keep.size;omega
   obtain ⟨w9,hrun,hm9,hsz9,hot9,hbe9⟩:=Zf6 Tryz.underlying68' HJ2.out.n xi (.agg #[.int .i64 xi,.slice la xl.length lc,.slice pa xp.length pc]) hxi hnew
   have HB9:Hid (Below B W2 w9):=hbe9.mono (by omega)
   have HJ9:Hid (PtJ w #[.slice (some ⟨bl,off,none⟩) n nc,.slice ra m rc,.int .i64 nn,.int .i64 nr] nn nr (N++[(xi,.agg #[.int .i64 xi,.slice la xl.length lc,.slice pa xp.length pc])]) [] w9):=⟨HJ2.out.box.keep (hot9 _ (by omega)),HJ2.out.res.keep (hot9 _ (by omega)),hm9,HJ2.out.r.block (hot9 _ (by omega)),HJ2.out.par.keep (hot9 _ (by omega)),HJ2.out.keep.trans (hbe9.mono (by omega))⟩
   have HE9:Hid (Zef B w9 (N++[(xi,.agg #[.int .i64 xi,.slice la xl.length lc,.slice pa xp.length pc])]) (ns.take (j+1))):=Zm1.step (key:=Zp.id) (HEN.out.below (((HB2.out).mono hszr).trans HB9.out)) HX.out (HLI.out w9 (((HB2.out).mono hszr).trans HB9.out))
   clear hW2 hr2 c0 c1 c2 hm9 hsz9 hot9 hbe9 hnew
   go_wp2_with fail
   go_roundw
   case rel=>exact ⟨j+1,_,by omega,by go_num,HJ9.out,HE9.out⟩
   case measure=>simp [intOf];omega
  ·have hlt':¬ (j:Int)<n:=by omega
   have HEA:Hid (Zef B wr N ns):=by
    have:=HEN.out
    rwa [List.take_of_length_le (by have:=HN.out;omega)] at this
   go_wp2_with fail
   clear hlt hlt' hj q1 HEN
   go_loopw [31] (fun x wr=>∃ (j:Nat) (R:List (Int × Value)),j≤m∧x=.int .i64 j∧PtJ w #[.slice na n nc,.slice ra m rc,.int .i64 nn,.int .i64 nr] nn nr N R wr∧Zef B wr N ns∧Zk3 B wr R (rs.take j)) (fun i _=>m - (intOf i).toNat)
   case atStart=>exact ⟨0,[],Nat.zero_le _,rfl,HJR.out,HEA.out,Zmu _⟩
   case round =>
    clear HEA HJR
    obtain ⟨j,R,hj,rfl,hjr,hea,hen⟩:=hrel
    have HJR:=Zb hjr
    have HEA:=Zb hea
    have HEN:=Zb hen
    clear hjr hen hea
    by_cases hlt:j<m
    ·have hlt':(j:Int)<m:=by omega
     obtain ⟨x,hx⟩:∃ q,rs[j]?=some q:=⟨_,List.getElem?_eq_getElem (by have:=HM.out;omega)⟩
     obtain ⟨bl,off,rfl,hbl,hc⟩:=HQ.out.resolve_left (by intro e;rw [e] at hx;simp at hx)
     have hat:=(hc j _ hx).below (HJR.out.keep.mono hB) hbl
     have HX:=Zb hx
     have hxi:I64 x.id:=HI2.out _ (List.mem_of_getElem? hx)
     have hnew:∀ p ∈ R,p.1≠x.id:=HEN.out.fresh hx HD2.out
     obtain ⟨pv,⟨c0,c1,c2,c3,c4⟩,hs,hp⟩:=hat
     have HLI:Hid (∀ W,Below B wr W→Jc B W (.agg #[.int .i64 x.id,.int .i64 x.fr,.int .i64 x.tt,.string x.type,pv]) x):=fun W hb=>by
      obtain ⟨pa,pc,e,q⟩:=hp
      subst e
      exact Jc.below hb ⟨pa,pc,rfl,⟨pa,pc,rfl,q⟩⟩
     obtain ⟨pa,pc,rfl,_,_,_⟩:=hp
     clear hc hx hs
     obtain ⟨xi,fr,tt,ty,xp⟩:=x
     simp only at c0 c1 c2 c3 c4 hxi hnew HLI
     go_upto_region 10 with fail
     generalize hW2:World.alloc _ _=W2
     have hr2:=Zl wr #[.int .i64 xi,.int .i64 fr,.int .i64 tt,.string ty,.slice pa xp.length pc] 49
     rw [hW2] at hr2
     have HB2:Hid (Below wr.heap.size wr W2):=by rw [← hW2];exact (Below.refl _ _).alloc (Nat.le_refl _) _
     have k0:=hr2.cell 0 rfl
     have k1:=hr2.cell 1 rfl
     have k2:=hr2.cell 2 rfl
     have k3:=hr2.cell 3 rfl
     have k4:=hr2.cell 4 rfl
     have HJ2:=Zb (HJR.out.below HB2.out)
     have m1:=HJ2.out.par.cell 1 rfl
     have hszr:B≤wr.heap.size:=by have:=HJR.out.keep.size;omega
     obtain ⟨w9,hrun,hm9,hsz9,hot9,hbe9⟩:=Zf6 Tryz.underlying69' HJ2.out.r xi (.agg #[.int .i64 xi,.int .i64 fr,.int .i64 tt,.string ty,.slice pa xp.length pc]) hxi hnew
     have HB9:Hid (Below B W2 w9):=hbe9.mono (by omega)
     have HJ9:Hid (PtJ w #[.slice na n nc,.slice (some ⟨bl,off,none⟩) m rc,.int .i64 nn,.int .i64 nr] nn nr N (R++[(xi,.agg #[.int .i64 xi,.int .i64 fr,.int .i64 tt,.string ty,.slice pa xp.length pc])]) w9):=⟨HJ2.out.box.keep (hot9 _ (by omega)),HJ2.out.res.keep (hot9 _ (by omega)),HJ2.out.n.block (hot9 _ (by omega)),hm9,HJ2.out.par.keep (hot9 _ (by omega)),HJ2.out.keep.trans (hbe9.mono (by omega))⟩
     have HE9:Hid (Zk3 B w9 (R++[(xi,.agg #[.int .i64 xi,.int .i64 fr,.int .i64 tt,.string ty,.slice pa xp.length pc])]) (rs.take (j+1))):=Zm1.step (key:=Jj.id) (HEN.out.below (((HB2.out).mono hszr).trans HB9.out)) HX.out (HLI.out w9 (((HB2.out).mono hszr).trans HB9.out))
     have HEA9:Hid (Zef B w9 N ns):=HEA.out.below (((HB2.out).mono hszr).trans HB9.out)
     clear hW2 hr2 c0 c1 c2 c3 c4 hm9 hsz9 hot9 hbe9 hnew
     go_wp2_with fail
     go_roundw
     case rel=>exact ⟨j+1,_,by omega,by go_num,HJ9.out,HEA9.out,HE9.out⟩
     case measure=>simp [intOf];omega
    ·have hlt':¬ (j:Int)<m:=by omega
     have HER:Hid (Zk3 B wr R rs):=by
      have:=HEN.out
      rwa [List.take_of_length_le (by have:=HM.out;omega)] at this
     have c0:=HJR.out.par.cell 0 rfl
     have c1:=HJR.out.par.cell 1 rfl
     have c2:=HJR.out.par.cell 2 rfl
     have c3:=HJR.out.par.cell 3 rfl
     have y0:=HJR.out.res.z 0
     have y1:=HJR.out.res.z 1
     have y2:=HJR.out.res.z 2
     have y3:=HJR.out.res.z 3
     have b0:=HJR.out.res.cell 0 rfl
     have b1:=HJR.out.res.cell 1 rfl
     have b2:=HJR.out.res.cell 2 rfl
     have b3:=HJR.out.res.cell 3 rfl
     go_wp2_with fail
     generalize hW9:World.setCell _ _ _=W9
     have HR9:Hid (Rec W9 (w.heap.size+1) #[.map (some (w.heap.size+2)),.map (some (w.heap.size+2+1)),.int .i64 nn,.int .i64 nr] 71):=by rw [← hW9];exact (((HJR.out.res.set 0 _).set 1 _).set 2 _).set 3 _
     have HB9:Hid (Below w.heap.size w W9):=by rw [← hW9];exact (((HJR.out.keep.setCell (Nat.le_succ _) _).setCell (Nat.le_succ _) _).setCell (Nat.le_succ _) _).setCell (Nat.le_succ _) _
     have HBW:Hid (Below (w.heap.size+1) wr W9):=by rw [← hW9];exact ((((Below.refl _ _).setCell (p:=⟨w.heap.size+1,0,none⟩) (Nat.le_refl _) _).setCell (p:=⟨w.heap.size+1,1,none⟩) (Nat.le_refl _) _).setCell (p:=⟨w.heap.size+1,2,none⟩) (Nat.le_refl _) _).setCell (p:=⟨w.heap.size+1,3,none⟩) (Nat.le_refl _) _
     have HK:Hid (∀ i,i≠w.heap.size+1→W9.heap[i]?=wr.heap[i]?):=fun i hi=>by
      rw [← hW9]
      exact (Below.heap_setCell _ _ _ _ hi).trans ((Below.heap_setCell _ _ _ _ hi).trans ((Below.heap_setCell _ _ _ _ hi).trans (Below.heap_setCell _ _ _ _ hi)))
     clear hW9
     have q0:=HR9.out.cell 0 rfl
     have q1:=HR9.out.cell 1 rfl
     have q2:=HR9.out.cell 2 rfl
     have q3:=HR9.out.cell 3 rfl
     refine bodyPost_ret (v:=.agg #[.map (some (w.heap.size+2)),.map (some (w.heap.size+2+1)),.int .i64 nn,.int .i64 nr]) ?_ rfl ⟨rfl,HB9.out,⟨N,R,HJR.out.n.block (HK.out _ (by omega)),HJR.out.r.block (HK.out _ (by omega)),HEA.out.below (HBW.out.mono (by omega)),HER.out.below (HBW.out.mono (by omega))⟩⟩
     simp [results,Tryz.results39,go_sem,q0,q1,q2,q3]
end
section
open Go.RowKit Go.Shelf
set_option linter.all false
attribute [local go_sem] Oper.semAt_some
theorem Zb2.keep {lo B:Nat} {w w':World} {v:Value} {ps:List Zp} (hk:Zcc lo B w w') (h:Zb2 lo B w v ps):Zb2 lo B w' v ps:=by
 obtain ⟨pa,pc,e,h1,h2,h3⟩:=h
 exact ⟨pa,pc,e,h1,h2,h3.imp id fun ⟨g,e,hl,hg,hr,hf⟩=>⟨g,e,hl,hg,hr.keep hk hl hg,hf.keep (Zin _) hk hl hg⟩⟩
theorem Zb2.mono {lo lo' B B':Nat} {w:World} {v:Value} {ps:List Zp} (h1:lo'≤lo) (h2:B≤B') (h:Zb2 lo B w v ps):Zb2 lo' B' w v ps:=by
 obtain ⟨pa,pc,e,g1,g2,h3⟩:=h
 exact ⟨pa,pc,e,g1,g2,h3.imp id fun ⟨g,e,hl,hg,hr,hf⟩=>⟨g,e,by omega,by omega,hr,hf.mono (Zin _) h2⟩⟩
theorem Zde.keep {lo B:Nat} {w w':World} {v:Value} {ps:List Jj} (hk:Zcc lo B w w') (h:Zde lo B w v ps):Zde lo B w' v ps:=by
 obtain ⟨pa,pc,e,h1,h2,h3⟩:=h
 exact ⟨pa,pc,e,h1,h2,h3.imp id fun ⟨g,e,hl,hg,hr,hf⟩=>⟨g,e,hl,hg,hr.keep hk hl hg,hf.keep (Zk1 _) hk hl hg⟩⟩
theorem Zde.mono {lo lo' B B':Nat} {w:World} {v:Value} {ps:List Jj} (h1:lo'≤lo) (h2:B≤B') (h:Zde lo B w v ps):Zde lo' B' w v ps:=by
 obtain ⟨pa,pc,e,g1,g2,h3⟩:=h
 exact ⟨pa,pc,e,g1,g2,h3.imp id fun ⟨g,e,hl,hg,hr,hf⟩=>⟨g,e,by omega,by omega,hr,hf.mono (Zk1 _) h2⟩⟩
def Zcy (lo B:Nat) (w:World) (v:Value) (g:Zy):Prop:=∃ nv rv,v=.agg #[nv,rv,.int .i64 g.nn,.int .i64 g.nr]∧Zb2 lo B w nv g.nodes∧Zde lo B w rv g.rels
set_option maxRecDepth 100000 in
set_option maxHeartbeats 4000000 in
theorem Zfp (g:Zy) (v:Value) (B:Nat) (w:World) (hB:B≤w.heap.size) (hv:Zq B w v g) (hn:g.nodes.length≤2000000) (hm:g.rels.length≤2000000) (ht:∀ x ∈ g.nodes,x.labels.length≤2000000∧x.props.length≤2000000∧∀ q ∈ x.props,q.2.total≤2000000) (hu:∀ x ∈ g.rels,x.props.length≤2000000∧∀ q ∈ x.props,q.2.total≤2000000) :
  Calls Tryz.prog 12 #[v] w fun e w'=>∃ v',e=.returned v'∧Zcy w.heap.size w'.heap.size w' v' g∧Below w.heap.size w w':=by
 obtain ⟨na,nc,ra,rc,rfl,hk,hp⟩:=hv
 have HCN:=Zb (fun W (hb:Below w.heap.size w W)=>Znu _ g.nodes B W (by have:=hb.size;omega) (hk.below (hb.mono hB)) hn ht)
 have HCR:=Zb (fun W (hb:Below w.heap.size w W)=>Znw _ g.rels B W (by have:=hb.size;omega) (hp.below (hb.mono hB)) hm hu)
 obtain ⟨xl,xp,nn,nr⟩:=g
 simp only at HCN HCR ⊢
 generalize hll:xl.length=ll at HCN ⊢
 generalize hpl:xp.length=pl at HCR ⊢
 clear hk hp hm hn ht hu hll hpl
 go_enter Tryz.func12,Tryz.ntmps12
 go_upto_region 1 with fail
 generalize hW1:World.alloc _ _=W1
 have HB1:Hid (Below w.heap.size w W1):=by rw [← hW1];exact ((Below.refl _ _).alloc (Nat.le_refl _) _).alloc (by simp) _
 have HR1:Hid (Rec W1 w.heap.size #[.slice na ll nc,.slice ra pl rc,.int .i64 nn,.int .i64 nr] 25):=by rw [← hW1];exact (Zl _ _ _).alloc _
 have HZ1:Hid (Rec W1 (w.heap.size+1) #[.slice none 0 0,.slice none 0 0,.int .i64 0,.int .i64 0] 25):=by
  have h:=Zl (w.alloc (.cells #[.slice na ll nc,.slice ra pl rc,.int .i64 nn,.int .i64 nr] 25)) #[.slice none 0 0,.slice none 0 0,.int .i64 0,.int .i64 0] 25
  rw [World.size_alloc,hW1] at h
  exact h
 clear hW1
 have a1:=HR1.out.cell 0 rfl
 have a2:=HR1.out.cell 1 rfl
 go_region_with (first | (refine (HCN.out _ (by first | exact HB1.out | exact HB1.out.drew | exact HB1.out.drew.drew)).mono ?_;rintro e w2 ⟨v2,rfl,hkf,hb2⟩;have HK2:=Zb hkf;obtain ⟨na2,nc2,rfl,hq1,hq2,hq3⟩:=hkf;clear hq1 hq2 hq3;have HBB2:Hid (Below W1.heap.size W1 w2):=⟨hb2.1,hb2.2,hb2.3,hb2.4,hb2.5⟩;have HR2:=Zb (HR1.out.below HBB2.out HR1.out.lt);have b2:=HR2.out.cell 1 rfl;clear hb2) | (refine (HCR.out _ (by first | exact Za HB1.out HBB2.out | exact (Za HB1.out HBB2.out).drew)).mono ?_;rintro e w3 ⟨v3,rfl,hpf,hb3⟩;have HP3:=Zb hpf;obtain ⟨pa3,pc3,rfl,hq1,hq2,hq3⟩:=hpf;clear hq1 hq2 hq3;have HBB3:Hid (Below w2.heap.size w2 w3):=⟨hb3.1,hb3.2,hb3.3,hb3.4,hb3.5⟩;have HR3:=Zb (HR2.out.below HBB3.out HR2.out.lt);have y1:=HR3.out.cell 0 rfl;have y2:=HR3.out.cell 1 rfl;have z1:=HR3.out.z 0;have z2:=HR3.out.z 1;clear hb3))
 all_goals
  clear a1 a2 b2 y1 y2 z1 z2
  have hs1:w.heap.size+2≤W1.heap.size:=by have:=HZ1.out.lt;omega
  have HZ3:=Zb ((HZ1.out.below HBB2.out HZ1.out.lt).below HBB3.out (HZ1.out.below HBB2.out HZ1.out.lt).lt)
  have HB3:=Zb (Za (Za HB1.out HBB2.out) HBB3.out)
  have HK3:Hid (Zb2 W1.heap.size w3.heap.size w3 (.slice na2 xl.length nc2) xl):=(Zb2.keep (Zc5 HBB3.out (Nat.le_refl _)) HK2.out).mono (Nat.le_refl _) HBB3.out.size
  have HP3':Hid (Zde w2.heap.size w3.heap.size w3 (.slice pa3 xp.length pc3) xp):=HP3.out
  have hs2:W1.heap.size≤w2.heap.size:=HBB2.out.size
  generalize hW4:World.setCell _ _ _=W4
  have HR4:Hid (Rec W4 w.heap.size #[.slice na2 xl.length nc2,.slice pa3 xp.length pc3,.int .i64 nn,.int .i64 nr] 25):=by
   rw [← hW4];exact (HR3.out.set 0 _).set 1 _
  have HZ4:Hid (Rec W4 (w.heap.size+1) #[.slice none 0 0,.slice none 0 0,.int .i64 0,.int .i64 0] 25):=by
   rw [← hW4];exact (HZ3.out.other (by omega)).other (by omega)
  have HB4:Hid (Below w.heap.size w W4):=by rw [← hW4];exact (HB3.out.setCell (p:=⟨w.heap.size,0,none⟩) (Nat.le_refl _) _).setCell (p:=⟨w.heap.size,1,none⟩) (Nat.le_refl _) _
  have hs4:W4.heap.size=w3.heap.size:=by rw [← hW4];simp
  have HH4:Hid (∀ b,w.heap.size≠b→W4.heap[b]?=w3.heap[b]?):=fun b hb=>by
   rw [← hW4]
   repeat rw [Below.heap_setCell _ _ _ _ (Ne.symm hb)]
  clear hW4
  have r0:=HR4.out.cell 0 rfl
  have r1:=HR4.out.cell 1 rfl
  have r2:=HR4.out.cell 2 rfl
  have r3:=HR4.out.cell 3 rfl
  have q0:=HZ4.out.cell 0 rfl
  have q1:=HZ4.out.cell 1 rfl
  have q2:=HZ4.out.cell 2 rfl
  have q3:=HZ4.out.cell 3 rfl
  have f0:=HZ4.out.z 0
  have f1:=HZ4.out.z 1
  have f2:=HZ4.out.z 2
  have f3:=HZ4.out.z 3
  go_wp2_with fail
  generalize hW5:World.setCell _ _ _=W5
  have HR5:Hid (Rec W5 (w.heap.size+1) #[.slice na2 xl.length nc2,.slice pa3 xp.length pc3,.int .i64 nn,.int .i64 nr] 25):=by
   rw [← hW5];exact (((HZ4.out.set 0 _).set 1 _).set 2 _).set 3 _
  have HB5:Hid (Below w.heap.size w W5):=by
   rw [← hW5]
   exact (((HB4.out.setCell (p:=⟨w.heap.size+1,0,none⟩) (Nat.le_succ _) _).setCell (p:=⟨w.heap.size+1,1,none⟩) (Nat.le_succ _) _).setCell (p:=⟨w.heap.size+1,2,none⟩) (Nat.le_succ _) _).setCell (p:=⟨w.heap.size+1,3,none⟩) (Nat.le_succ _) _
  have hs5:W5.heap.size=w3.heap.size:=by rw [← hW5];simp [hs4]
  have HH5:Hid (∀ b,W1.heap.size≤b→W5.heap[b]?=w3.heap[b]?):=fun b hb=>by
   have hne:w.heap.size+1≠b:=by omega
   rw [← hW5]
   repeat rw [Below.heap_setCell _ _ _ _ (Ne.symm hne)]
   exact HH4.out b (by omega)
  have HKF:Hid (Zcc W1.heap.size w3.heap.size w3 W5):=fun b o h1 h2=>⟨World.cell?_of_block (HH5.out b h1),by unfold World.frozen?;rw [HH5.out b h1]⟩
  clear hW5 r0 r1 r2 r3 q0 q1 q2 q3 f0 f1 f2 f3
  have p0:=HR5.out.cell 0 rfl
  have p1:=HR5.out.cell 1 rfl
  have p2:=HR5.out.cell 2 rfl
  have p3:=HR5.out.cell 3 rfl
  refine bodyPost_ret (v:=.agg #[.slice na2 xl.length nc2,.slice pa3 xp.length pc3,.int .i64 nn,.int .i64 nr]) ?_ rfl ⟨_,rfl,⟨_,_,rfl,?_,?_⟩,HB5.out⟩
  ·simp [results,Tryz.results12,go_sem,p0,p1,p2,p3]
  ·rw [hs5]
   exact (HK3.out.keep HKF.out).mono (by omega) (Nat.le_refl _)
  ·rw [hs5]
   exact Zde.mono (by omega) (Nat.le_refl _) (HP3'.out.keep fun b o h1 h2=>HKF.out b o (by omega) h2)
end
section
open Go.RowKit Go.Shelf
set_option linter.all false
theorem Zb2.lie {lo B:Nat} {w:World} {v:Value} {ps:List Zp} (h:Zb2 lo B w v ps):Zax B w v ps:=by
 obtain ⟨pa,pc,e,h1,h2,h3⟩:=h
 refine ⟨pa,pc,e,h1,h2,h3.imp id fun ⟨g,e,hl,hg,_,hf⟩=>⟨g,0,e,hg,fun i q hq=>?_⟩⟩
 obtain ⟨cs,_,hc,la,lc,pv,rfl,hs,hk,hp⟩:=hf i q hq
 rw [Nat.zero_add]
 exact ⟨la,lc,pv,⟨hc 0 _ rfl,hc 1 _ rfl,hc 2 _ rfl⟩,⟨hs.1,by have:=hs.2;simp only [maxLen] at this;omega⟩,hk.lie,hp.lie⟩
theorem Zde.lie {lo B:Nat} {w:World} {v:Value} {ps:List Jj} (h:Zde lo B w v ps) (ht:∀ r ∈ ps,r.type.size≤maxLen):Zbe B w v ps:=by
 obtain ⟨pa,pc,e,h1,h2,h3⟩:=h
 refine ⟨pa,pc,e,h1,h2,h3.imp id fun ⟨g,e,hl,hg,_,hf⟩=>⟨g,0,e,hg,fun i q hq=>?_⟩⟩
 obtain ⟨cs,_,hc,pv,rfl,hp⟩:=hf i q hq
 rw [Nat.zero_add]
 exact ⟨pv,⟨hc 0 _ rfl,hc 1 _ rfl,hc 2 _ rfl,hc 3 _ rfl,hc 4 _ rfl⟩,ht _ (List.mem_of_getElem? hq),hp.lie⟩
theorem Zqm {B:Nat} {w:World} {v:Value} {rs:List Jj} (h:Zbe B w v rs):∀ r ∈ rs,r.type.size≤maxLen:=by
 obtain ⟨a,c,e,h1,h2,h3⟩:=h
 intro r hr
 rcases h3 with rfl | ⟨bl,off,e,hl,hc⟩
 ·cases hr
 ·obtain ⟨i,hi⟩:=List.getElem?_of_mem hr
  obtain ⟨pv,_,hs,_⟩:=hc i r hi
  exact hs
theorem Zq.types {B:Nat} {w:World} {v:Value} {g:Zy} (h:Zq B w v g):∀ r ∈ g.rels,r.type.size≤maxLen:=by
 obtain ⟨na,nc,ra,rc,_,_,h2⟩:=h
 exact Zqm h2
theorem Zcy.lie {lo B:Nat} {w:World} {v:Value} {g:Zy} (h:Zcy lo B w v g) (ht:∀ r ∈ g.rels,r.type.size≤maxLen):Zq B w v g:=by
 obtain ⟨nv,rv,e,hn,hr⟩:=h
 have h1:=hn.lie
 have h2:=hr.lie ht
 obtain ⟨na,nc,e1,_⟩:=hn
 obtain ⟨ra,rc,e2,_⟩:=hr
 subst e1 e2
 exact ⟨na,nc,ra,rc,e,h1,h2⟩
end
section
open Go.RowKit
set_option linter.all false
def Zc7 (k x:Int):List (Int × List Int)→List (Int × List Int)
 | []=>[(k,[x])]
 | (a,l)::r=>if a=k then (a,l++[x])::r else (a,l)::Zc7 k x r
theorem Zhx {k x:Int}:∀ {L:List (Int × List Int)},(∀ q ∈ L,q.1≠k)→Zc7 k x L=L++[(k,[x])]
 | [],_=>rfl
 | (a,l)::r,h=>by
  have h1:a≠k:=h (a,l) List.mem_cons_self
  rw [Zc7,if_neg h1,Zhx fun q hq=>h q (List.mem_cons_of_mem _ hq)];rfl
theorem Zhy {k x:Int}:∀ {L:List (Int × List Int)} {j:Nat} {l:List Int},L[j]?=some (k,l)→(L.map Prod.fst).Nodup→Zc7 k x L=L.set j (k,l++[x])
 | (a,m)::r,0,l,h,_=>by
  simp only [List.getElem?_cons_zero,Option.some.injEq,Prod.mk.injEq] at h
  obtain ⟨rfl,rfl⟩:=h
  simp [Zc7]
 | (a,m)::r,j+1,l,h,hd=>by
  simp only [List.getElem?_cons_succ] at h
  simp only [List.map_cons,List.nodup_cons] at hd
  have h1:a≠k:=fun e=>hd.1 (List.mem_map.2 ⟨_,List.mem_of_getElem? h,e.symm⟩)
  rw [Zc7,if_neg h1,Zhy h hd.2];rfl
theorem Zqq {k x:Int}:∀ {L:List (Int × List Int)},(L.map Prod.fst).Nodup→((Zc7 k x L).map Prod.fst).Nodup:=by
 intro L hd
 by_cases h:∃ (j:Nat) (l:List Int),L[j]?=some (k,l)
 ·obtain ⟨j,l,h⟩:=h
  rw [Zhy h hd,List.map_set]
  have:(L.map Prod.fst).set j (k,l++[x]).1=L.map Prod.fst:=by
   apply List.ext_getElem?
   intro i
   rw [List.getElem?_set]
   split
   ·next e =>
    subst e
    rw [List.getElem?_map,h]
    have hl:=(List.getElem?_eq_some_iff.1 h).1
    simp [hl]
   ·rfl
  rw [this];exact hd
 ·have hn:∀ q ∈ L,q.1≠k:=fun q hq e=>h (by
   obtain ⟨j,hj⟩:=List.getElem?_of_mem hq
   exact ⟨j,q.2,by rw [hj,← e]⟩)
  rw [Zhx hn,List.map_append]
  refine List.nodup_append.2 ⟨hd,by simp,?_⟩
  intro a ha b hb e
  simp only [List.map_cons,List.map_nil,List.mem_cons,List.not_mem_nil,or_false] at hb
  obtain ⟨q,hq,rfl⟩:=List.mem_map.1 ha
  exact hn q hq (e.trans hb)
theorem Zlu {k x:Int} {n:Nat}:∀ {L:List (Int × List Int)},(∀ q ∈ L,q.2.length≤n)→∀ q ∈ Zc7 k x L,q.2.length≤n+1
 | [],_,q,hq=>by
  simp only [Zc7,List.mem_cons,List.not_mem_nil,or_false] at hq
  subst hq;simp
 | (a,l)::r,h,q,hq=>by
  have h1:=h (a,l) List.mem_cons_self
  have h2:∀ q ∈ r,q.2.length≤n:=fun q hq=>h q (List.mem_cons_of_mem _ hq)
  rw [Zc7] at hq
  split at hq
  ·rcases List.mem_cons.1 hq with rfl | hq
   ·simp at h1 ⊢;omega
   ·exact Nat.le_succ_of_le (h2 q hq)
  ·rcases List.mem_cons.1 hq with rfl | hq
   ·exact Nat.le_succ_of_le h1
   ·exact Zlu h2 q hq
def Zew (l:List Value):Prop:=l.Pairwise fun a b=>∀ q,a.ownBlock=some q→b.ownBlock≠some q
theorem Zej {l m:List Value} (h:Zew (l++m)):Zew (m++l) :=
 (List.pairwise_append_comm (fun {x y} h q hy hx=>h q hx hy)).1 h
def Lists (lo:Nat) (w:World) (E:List (Int × Value)) (L:List (Int × List Int)):Prop :=
 E.length=L.length∧∀ (i:Nat) (k:Int) (l:List Int),L[i]?=some (k,l)→∃ v,E[i]?=some (k,v)∧w.ownsRow lo 2 1 v l.length (l.map (Value.int .i64))
theorem Zbm {lo e size n:Nat} {v:Value} {xs:List Value} {w w':World} (h:w.ownsRow lo e size v n xs) (hb:∀ q,v.ownBlock=some q→w'.heap[q]?=w.heap[q]?):w'.ownsRow lo e size v n xs:=by
 obtain ⟨g1,⟨g2,g3⟩ | ⟨g,cap,cur,g2,g3,g4,g5⟩⟩:=h
 ·exact ⟨g1,.inl ⟨g2,g3⟩⟩
 ·exact ⟨g1,.inr ⟨g,cap,cur,g2,g3,(hb g (by rw [g2];rfl)).trans g4,g5⟩⟩
theorem Lists.keep {lo:Nat} {w w':World} {E:List (Int × Value)} {L:List (Int × List Int)} (h:Lists lo w E L) (hb:∀ e ∈ E,∀ q,e.2.ownBlock=some q→q<w.heap.size→w'.heap[q]?=w.heap[q]?):Lists lo w' E L:=by
 refine ⟨h.1,fun i k l hi=>?_⟩
 obtain ⟨v,h1,h2⟩:=h.2 i k l hi
 exact ⟨v,h1,Zbm h2 fun q hq=>hb _ (List.mem_of_getElem? h1) q hq (h2.lt q hq).2⟩
theorem Lists.below {lo:Nat} {w w':World} {E:List (Int × Value)} {L:List (Int × List Int)} (h:Lists lo w E L) (hb:Below w.heap.size w w'):Lists lo w' E L:=h.keep fun e _ q _ hq=>hb.block q hq
theorem Zjc (lo:Nat) (w:World):Lists lo w [] []:=⟨rfl,fun i k l h=>by simp at h⟩
theorem Lists.entry {lo:Nat} {w:World} {E:List (Int × Value)} {L:List (Int × List Int)} (h:Lists lo w E L) {e:Int × Value} (he:e ∈ E):∃ l,(e.1,l) ∈ L∧w.ownsRow lo 2 1 e.2 l.length (l.map (Value.int .i64)):=by
 obtain ⟨i,hi⟩:=List.getElem?_of_mem he
 have hl:=(List.getElem?_eq_some_iff.1 hi).1
 obtain ⟨⟨k,l⟩,hL⟩:∃ q,L[i]?=some q:=⟨_,List.getElem?_eq_getElem (by rw [← h.1];exact hl)⟩
 obtain ⟨v,h1,h2⟩:=h.2 i k l hL
 rw [hi] at h1
 injection h1 with h1
 subst h1
 exact ⟨l,List.mem_of_getElem? hL,h2⟩
inductive Jbw (E:List (Int × Value)) (L:List (Int × List Int)) (k:Int) (SV v':Value) (n:Nat) (xs:List Value):List (Int × Value)→Prop
 | old (j:Nat) (l:List Int) (hL:L[j]?=some (k,l)) (hE:E[j]?=some (k,SV)) (hn:n=l.length) (hx:xs=l.map (Value.int .i64)):Jbw E L k SV v' n xs (E.set j (k,v'))
 | new (hL:∀ q ∈ L,q.1≠k) (hS:SV=.slice none 0 0) (hn:n=0) (hx:xs=[]):Jbw E L k SV v' n xs (E++[(k,v')])
theorem Zsz {l m:List Value} {j:Nat} {u v:Value} {b:Nat} (h:Zew (l++m)) (hj:l[j]?=some u) (hv:v.ownBlock=u.ownBlock∨∃ q,v.ownBlock=some q∧b≤q) (hb:∀ z ∈ l++m,∀ q,z.ownBlock=some q→q<b):Zew (l.set j v++m):=by
 have hjl:=(List.getElem?_eq_some_iff.1 hj).1
 have e:l.set j v++m=(l++m).set j v:=by rw [List.set_append_left _ _ hjl]
 rw [e]
 unfold Zew at *
 rw [List.pairwise_iff_getElem] at *
 intro i1 i2 h1 h2 hlt q hq hq2
 have hju:(l++m)[j]?=some u:=by rw [List.getElem?_append_left hjl];exact hj
 have hjx:=(List.getElem?_eq_some_iff.1 hju)
 obtain ⟨hjl2,hjx⟩:=hjx
 simp only [List.length_set] at h1 h2
 rw [List.getElem_set] at hq hq2
 by_cases e1:j=i1
 ·rw [if_pos e1] at hq
  rw [if_neg (by omega)] at hq2
  rcases hv with hv | ⟨q',hq',hb'⟩
  ·exact h i1 i2 h1 h2 hlt q (by subst e1;rw [hjx,← hv];exact hq) hq2
  ·rw [hq'] at hq
   have:=hb _ (List.getElem_mem h2) q hq2
   injection hq with hq
   omega
 ·rw [if_neg e1] at hq
  by_cases e2:j=i2
  ·rw [if_pos e2] at hq2
   rcases hv with hv | ⟨q',hq',hb'⟩
   ·exact h i1 i2 h1 h2 hlt q hq (by subst e2;rw [hjx,← hv];exact hq2)
   ·rw [hq'] at hq2
    have:=hb _ (List.getElem_mem h1) q hq
    injection hq2 with hq2
    omega
  ·rw [if_neg e2] at hq2
   exact h i1 i2 h1 h2 hlt q hq hq2
theorem Zs0 {l:List Value} {v:Value} {b:Nat} (h:Zew l) (hv:v.ownBlock=none∨∃ q,v.ownBlock=some q∧b≤q) (hb:∀ z ∈ l,∀ q,z.ownBlock=some q→q<b):Zew (l++[v]):=by
 refine List.pairwise_append.2 ⟨h,List.pairwise_singleton _ _,?_⟩
 intro z hz u hu q hq hq2
 simp only [List.mem_cons,List.not_mem_nil,or_false] at hu
 subst hu
 rcases hv with hv | ⟨q',hq',hb'⟩
 ·rw [hv] at hq2;cases hq2
 ·rw [hq'] at hq2
  have:=hb z hz q hq
  injection hq2 with hq2
  omega
theorem Zov {lo:Nat} {w0 W W3:World} {SV v':Value} {E E':List (Int × Value)} {L:List (Int × List Int)} {k x:Int} {n:Nat} {xs Z:List Value}
  (hL:Lists lo w0 E L) (hd:(L.map Prod.fst).Nodup) (hs:Jbw E L k SV v' n xs E') (hg:w0.grownBy W SV.ownBlock) (hv:W.ownsRow lo 2 1 v' (n+1) (xs++[.int .i64 x]))
  (hbl:v'.ownBlock=SV.ownBlock∨∃ q,v'.ownBlock=some q∧w0.heap.size≤q) (h3:∀ i,lo≤i→W3.heap[i]?=W.heap[i]?) (hap:Zew (E.map Prod.snd++Z)) (hZ:∀ z ∈ Z,∀ q,z.ownBlock=some q→q<w0.heap.size) :
  Lists lo W3 E' (Zc7 k x L)∧Zew (E'.map Prod.snd++Z):=by
 have hall:∀ z ∈ E.map Prod.snd++Z,∀ q,z.ownBlock=some q→q<w0.heap.size:=by
  intro z hz q hq
  rcases List.mem_append.1 hz with hz | hz
  ·obtain ⟨e,he,rfl⟩:=List.mem_map.1 hz
   obtain ⟨l,_,ho⟩:=hL.entry he
   exact (ho.lt q hq).2
  ·exact hZ z hz q hq
 have hv3:W3.ownsRow lo 2 1 v' (n+1) (xs++[.int .i64 x]):=Zbm hv fun q hq=>h3 q (hv.lt q hq).1
 cases hs with
 | old j l h1 h2 hn hx =>
  subst hn hx
  refine ⟨?_,?_⟩
  ·rw [Zhy h1 hd]
   refine ⟨by rw [List.length_set,List.length_set];exact hL.1,fun i k' l' hi=>?_⟩
   rw [List.getElem?_set] at hi ⊢
   have hjl:=(List.getElem?_eq_some_iff.1 h1).1
   by_cases e:j=i
   ·subst e
    rw [if_pos rfl,if_pos hjl] at hi
    injection hi with hi
    injection hi with e1 e2
    subst e1 e2
    refine ⟨v',by rw [if_pos rfl,if_pos (by rw [hL.1];exact hjl)],?_⟩
    simpa using hv3
   ·rw [if_neg e] at hi
    obtain ⟨v,hv1,hv2⟩:=hL.2 i k' l' hi
    refine ⟨v,by rw [if_neg e];exact hv1,Zbm hv2 fun q hq=>?_⟩
    have hlt:=hv2.lt q hq
    rw [h3 q hlt.1]
    refine hg.block q hlt.2 fun e2=>?_
    -- the rows are apart
    have hE1:(E.map Prod.snd++Z)[j]?=some SV:=by
     rw [List.getElem?_append_left (by rw [List.length_map];exact (List.getElem?_eq_some_iff.1 h2).1),List.getElem?_map,h2];rfl
    have hE2:(E.map Prod.snd++Z)[i]?=some v:=by
     rw [List.getElem?_append_left (by rw [List.length_map];exact (List.getElem?_eq_some_iff.1 hv1).1),List.getElem?_map,hv1];rfl
    obtain ⟨a1,a2⟩:=List.getElem?_eq_some_iff.1 hE1
    obtain ⟨b1,b2⟩:=List.getElem?_eq_some_iff.1 hE2
    unfold Zew at hap
    rw [List.pairwise_iff_getElem] at hap
    rcases Nat.lt_or_gt_of_ne e with hlt | hlt
    ·exact hap j i a1 b1 hlt q (by rw [a2];exact e2.symm) (by rw [b2];exact hq)
    ·exact hap i j b1 a1 hlt q (by rw [b2];exact hq) (by rw [a2];exact e2.symm)
  ·rw [List.map_set]
   exact Zsz hap (by rw [List.getElem?_map,h2];rfl) hbl hall
 | new h1 h2 hn hx =>
  subst hn hx h2
  have hgb:∀ q,q<w0.heap.size→W.heap[q]?=w0.heap[q]?:=fun q hq=>hg.block q hq (by simp [Value.ownBlock])
  refine ⟨?_,?_⟩
  ·rw [Zhx h1]
   refine ⟨by simp [hL.1],fun i k' l' hi=>?_⟩
   by_cases hil:i<L.length
   ·rw [List.getElem?_append_left hil] at hi
    obtain ⟨v,hv1,hv2⟩:=hL.2 i k' l' hi
    refine ⟨v,by rw [List.getElem?_append_left (by rw [hL.1];exact hil)];exact hv1,Zbm hv2 fun q hq=>?_⟩
    have hlt:=hv2.lt q hq
    rw [h3 q hlt.1]
    exact hgb q hlt.2
   ·rw [List.getElem?_append_right (by omega)] at hi
    have hi0:i - L.length=0:=by
     have:=(List.getElem?_eq_some_iff.1 hi).1
     simp at this;omega
    rw [hi0] at hi
    simp only [List.getElem?_cons_zero,Option.some.injEq,Prod.mk.injEq] at hi
    obtain ⟨rfl,rfl⟩:=hi
    refine ⟨v',by rw [List.getElem?_append_right (by rw [hL.1];omega),hL.1,hi0];rfl,?_⟩
    simpa using hv3
  ·have h9:=Zs0 (v:=v') (Zej hap) (b:=w0.heap.size) (hbl.imp (fun h=>by rw [h];rfl) id) (fun z hz=>hall z (by
    rcases List.mem_append.1 hz with h | h
    ·exact List.mem_append_right _ h
    ·exact List.mem_append_left _ h))
   rw [List.append_assoc] at h9
   have:=Zej h9
   rwa [show E.map Prod.snd++[v']=(E++[(k,v')]).map Prod.snd by simp] at this
end
