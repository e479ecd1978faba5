import Derived.Test.YteddjlbfbpecjaaGreatDoorJoin25
import Derived.Test.YteddjlbfbpecjaaGreatDoorJoin19
namespace Go.Proofs.YteddjlbfbpecjaaGreatDoor
set_option linter.all false
section
open Go.RowKit Go.Shelf
attribute [local go_sem] Oper.semAt_some
def Zo3 {α:Type} (key:α->Int) (L:World->Value->α->Prop) (w:World) (N:List (Int × Value)) (xs:List α):Prop :=
 N.length=xs.length/\∀ (i:Nat) (x:α),xs[i]?=some x->∃ v,N[i]?=some (key x,v)/\L w v x
theorem Zo3.turn {α:Type} {key:α->Int} {L:World->Value->α->Prop} {w w':World} {N:List (Int × Value)} {xs:List α} (h:Zo3 key L w N xs) (hk:∀ v x,x ∈ xs->L w v x->L w' v x):Zo3 key L w' N xs :=
 ⟨h.1,fun i x k=>by obtain ⟨v,h1,h2⟩:=h.2 i x k;exact ⟨v,h1,hk v x (List.mem_of_getElem? k) h2⟩⟩
theorem Zox {α:Type} {key:α->Int} {L:World->Value->α->Prop} (w:World):Zo3 key L w [] []:=⟨rfl,fun i x h=>by simp at h⟩
theorem Zo3.step {α:Type} {key:α->Int} {L:World->Value->α->Prop} {w:World} {N:List (Int × Value)} {xs:List α} {j:Nat} {x:α} {v:Value} (h:Zo3 key L w N (xs.take j)) (k:xs[j]?=some x) (hv:L w v x):Zo3 key L w (N++[(key x,v)]) (xs.take (j+1)):=by
 have hj:=(List.getElem?_eq_some_iff.1 k).1
 have hl:N.length=j:=by rw [h.1,List.length_take];omega
 rw [List.take_add_one,k]
 refine ⟨by simp [h.1],fun i y K=>?_⟩
 by_cases O:i<j
 ·rw [List.getElem?_append_left (by rw [List.length_take];omega)] at K
  obtain ⟨u,h1,h2⟩:=h.2 i y K
  exact ⟨u,by rw [List.getElem?_append_left (by omega)];exact h1,h2⟩
 ·have d1:(xs.take j).length=j:=by rw [List.length_take];omega
  rw [List.getElem?_append_right (by omega),d1] at K
  have b7:i - j=0:=by
   have:=(List.getElem?_eq_some_iff.1 K).1
   simp at this;omega
  rw [b7] at K
  simp only [Option.toList_some,List.getElem?_cons_zero,Option.some.injEq] at K
  subst K
  exact ⟨v,by rw [List.getElem?_append_right (by omega),hl,b7];rfl,hv⟩
theorem Zo3.fresh {α:Type} {key:α->Int} {L:World->Value->α->Prop} {w:World} {N:List (Int × Value)} {xs:List α} {j:Nat} {x:α} (h:Zo3 key L w N (xs.take j)) (k:xs[j]?=some x) (hd:(xs.map key).Nodup):∀ p ∈ N,p.1≠key x:=by
 intro p hp e
 obtain ⟨i,O⟩:=List.getElem?_of_mem hp
 have d9:=(List.getElem?_eq_some_iff.1 O).1
 have hj:=(List.getElem?_eq_some_iff.1 k).1
 have hl:N.length=j:=by rw [h.1,List.length_take];omega
 obtain ⟨y,K⟩:∃ y,(xs.take j)[i]?=some y:=⟨_,List.getElem?_eq_getElem (by rw [List.length_take];omega)⟩
 obtain ⟨v,h1,_⟩:=h.2 i y K
 rw [O] at h1
 injection h1 with h1
 rw [h1] at e
 rw [List.getElem?_take] at K
 split at K
 ·next hlt =>
  have h0:=List.pairwise_iff_getElem.1 hd i j (by simp;omega) (by simpa using hj) hlt
  apply h0
  rw [List.getElem_map,List.getElem_map,(List.getElem?_eq_some_iff.1 K).2,(List.getElem?_eq_some_iff.1 k).2]
  exact e
 ·cases K
def Zgq (B:Nat) (w:World) (N:List (Int × Value)) (C:List Zo):Prop:=Zo3 Zo.id (Ja B) w N C
def Zqe (B:Nat) (w:World) (R:List (Int × Value)) (rs:List Jg):Prop:=Zo3 Jg.id (Ji B) w R rs
theorem Zgq.below {B:Nat} {w w':World} {N:List (Int × Value)} {C:List Zo} (h:Zgq B w N C) (H:Below B w w'):Zgq B w' N C:=h.turn fun v x _ h2=>h2.below H
theorem Zqe.below {B:Nat} {w w':World} {N:List (Int × Value)} {C:List Jg} (h:Zqe B w N C) (H:Below B w w'):Zqe B w' N C:=h.turn fun v x _ h2=>h2.below H
def Jcd (B:Nat) (w:World) (n r:Nat) (C:List Zo) (rs:List Jg):Prop:=∃ N R,MI w n N/\MI w r R/\Zgq B w N C/\Zqe B w R rs
structure PtJ (w:World) (cs:Array Value) (nn nr:Int) (N R:List (Int × Value)) (wr:World):Prop where
 box:Rec wr w.heap.size cs 25
 res:Rec wr (w.heap.size+1) #[.map none,.map none,.int .i64 0,.int .i64 0] 71
 n:MI wr (w.heap.size+2) N
 r:MI wr (w.heap.size+2+1) R
 par:Rec wr (w.heap.size+2+1+1) #[.map (some (w.heap.size+2)),.map (some (w.heap.size+2+1)),.int .i64 nn,.int .i64 nr] 71
 keep:Below w.heap.size w wr
theorem PtJ.below {w wr wz:World} {cs:Array Value} {nn nr:Int} {N R:List (Int × Value)} (h:PtJ w cs nn nr N R wr) (H:Below wr.heap.size wr wz):PtJ w cs nn nr N R wz :=
 ⟨h.box.below H h.box.lt,h.res.below H h.res.lt,h.n.below H (Nat.le_refl _),h.r.below H (Nat.le_refl _),h.par.below H h.par.lt,Za h.keep H⟩
set_option maxRecDepth 100000 in
set_option maxHeartbeats 8000000 in
theorem Zjq (g:Zt) (B:Nat) (v:Value) (w:World) (hB:B<=w.heap.size) (hg:Zr B w v g) (hd:(g.nodes.map Zo.id).Nodup) (b4:(g.rels.map Jg.id).Nodup) (O:∀ n ∈ g.nodes,I64 n.id) (a7:∀ r ∈ g.rels,I64 r.id) :
  Calls Tryz.prog 39 #[v] w fun e w'=>e=.returned (.agg #[.map (some (w.heap.size+2)),.map (some (w.heap.size+2+1)),.int .i64 g.nn,.int .i64 g.nr])/\Below w.heap.size w w'/\Jcd B w' (w.heap.size+2) (w.heap.size+2+1) g.nodes g.rels:=by
 have d7:∀ W:World,(Instr.makeMap 68 none).run Tryz.prog W=.ok (.map (some W.heap.size)) (W.alloc (.map #[] 0)):=fun W=>rfl
 have d5:∀ W:World,(Instr.makeMap 69 none).run Tryz.prog W=.ok (.map (some W.heap.size)) (W.alloc (.map #[] 0)):=fun W=>rfl
 obtain ⟨na,nc,ra,rc,rfl,hn,hr⟩:=hg
 obtain ⟨C,rs,nn,nr⟩:=g
 simp only at hn hr hd b4 O a7 |-
 obtain ⟨a',c',e1,h1,h2,c5⟩:=hn
 obtain ⟨rfl,rfl⟩:na=a'/\nc=c':=by injection e1 with e1 _ e2;exact ⟨e1,e2⟩
 obtain ⟨a',c',e2,r1,r2,c9⟩:=hr
 obtain ⟨rfl,rfl⟩:ra=a'/\rc=c':=by injection e2 with e1 _ e2;exact ⟨e1,e2⟩
 have HP:=Zb c5
 have HQ:=Zb c9
 have HD:=Zb hd
 have d6:=Zb b4
 have HI:=Zb O
 have d4:=Zb a7
 obtain ⟨n,hn⟩:∃ n,C.length=n:=⟨_,rfl⟩
 have HN:=Zb hn
 obtain ⟨m,hm⟩:∃ m,rs.length=m:=⟨_,rfl⟩
 have HM:=Zb hm
 rw [hn] at h1
 rw [hm] at r1
 rw [hn,hm]
 clear c5 c9 hn hm e1 e2 hd O a7 b4
 go_enter Tryz.func39,Tryz.ntmps39
 go_upto_region 1 with fail
 generalize T:World.alloc _ _=W1
 have c6:Hid (Below w.heap.size w W1):=by rw [<- T];exact ((Below.refl _ _).alloc (Nat.le_refl _) _).alloc (by simp) _
 have a6:Hid (Rec W1 w.heap.size #[.slice na n nc,.slice ra m rc,.int .i64 nn,.int .i64 nr] 25):=by rw [<- T];exact (Zl _ _ _).alloc _
 have c7:Hid (Rec W1 (w.heap.size+1) #[.map none,.map none,.int .i64 0,.int .i64 0] 71):=by
  rw [<- T]
  have:=Zl (w.alloc (.cells #[.slice na n nc,.slice ra m rc,.int .i64 nn,.int .i64 nr] 25)) #[.map none,.map none,.int .i64 0,.int .i64 0] 71
  rwa [show (w.alloc (.cells #[.slice na n nc,.slice ra m rc,.int .i64 nn,.int .i64 nr] 25)).heap.size=w.heap.size+1 by simp] at this
 have a4:W1.heap.size=w.heap.size+2:=by rw [<- T];simp
 clear T
 have a2:=a6.out.cell 2 rfl
 have a3:=a6.out.cell 3 rfl
 go_upto_region 2 with fail
 generalize s:World.alloc _ _=W2
 have d0:PtJ w #[.slice na n nc,.slice ra m rc,.int .i64 nn,.int .i64 nr] nn nr [] [] W2:=by
  rw [<- s]
  refine ⟨((a6.out.alloc _).alloc _).alloc _,((c7.out.alloc _).alloc _).alloc _,?_,?_,?_,((c6.out.alloc (by omega) _).alloc (by simp;omega) _).alloc (by simp;omega) _⟩
  ·have h:=Zjr W1
   rw [a4] at h
   exact (h.block (Below.heap_alloc _ _ _ h.lt)).block (Below.heap_alloc _ _ _ (by simp;omega))
  ·have h:=Zjr (W1.alloc (.map #[] 0))
   rw [World.size_alloc,a4] at h
   exact h.block (Below.heap_alloc _ _ _ h.lt)
  ·have h:=Zl ((W1.alloc (.map #[] 0)).alloc (.map #[] 0)) #[.map (some (w.heap.size+2)),.map (some (w.heap.size+2+1)),.int .i64 nn,.int .i64 nr] 71
   rwa [World.size_alloc,World.size_alloc,a4] at h
 have HJ:=Zb d0
 clear s a2 a3 d0 a6 c7 c6 a4 d7 d5
 have a0:=HJ.out.box.cell 0 rfl
 go_wp2_with fail
 clear a0
 go_loopw [18] (fun x wr=>∃ (j:Nat) (N:List (Int × Value)),j<=n/\x=.int .i64 j/\PtJ w #[.slice na n nc,.slice ra m rc,.int .i64 nn,.int .i64 nr] nn nr N [] wr/\Zgq B wr N (C.take j)) (fun i _=>n - (intOf i).toNat)
 case atStart=>exact ⟨0,[],Nat.zero_le _,rfl,HJ.out,Zox _⟩
 case round =>
  obtain ⟨j,N,hj,rfl,M,P⟩:=hrel
  have b:=Zb M
  have A:=Zb P
  have q1:=M.box.cell 1 rfl
  clear M HJ P
  by_cases hlt:j<n
  ·have I:(j:Int)<n:=by omega
   obtain ⟨x,k⟩:∃ q,C[j]?=some q:=⟨_,List.getElem?_eq_getElem (by have:=HN.out;omega)⟩
   obtain ⟨bl,off,rfl,a9,hc⟩:=HP.out.resolve_left (by intro e;rw [e] at k;simp at k)
   have a5:=(hc j _ k).below (b.out.keep.mono hB) a9
   have d3:=Zb a5
   have HX:=Zb k
   have V:I64 x.id:=HI.out _ (List.mem_of_getElem? k)
   have l:∀ p ∈ N,p.1≠x.id:=A.out.fresh k HD.out
   obtain ⟨la,lc,pv,⟨c0,c1,c2⟩,hs,b6,hp⟩:=a5
   have X:Hid (∀ W,Below B wr W->Ja B W (.agg #[.int .i64 x.id,.slice la x.labels.length lc,pv]) x):=fun W H=>by
    obtain ⟨G,F,e,q⟩:=hp
    subst e
    exact Ja.below H ⟨la,lc,G,F,rfl,hs,b6,⟨G,F,rfl,q⟩⟩
   obtain ⟨G,F,rfl,_,_,_⟩:=hp
   clear hc k q1 hs b6 d3
   obtain ⟨xi,xl,xp⟩:=x
   simp only at c0 c1 c2 V l X
   go_upto_region 5 with fail
   generalize s:World.alloc _ _=W2
   have f:=Zl wr #[.int .i64 xi,.slice la xl.length lc,.slice G xp.length F] 47
   rw [s] at f
   have D:Hid (Below wr.heap.size wr W2):=by rw [<- s];exact (Below.refl _ _).alloc (Nat.le_refl _) _
   have k0:=f.cell 0 rfl
   have k1:=f.cell 1 rfl
   have k2:=f.cell 2 rfl
   have d:=Zb (b.out.below D.out)
   have m0:=d.out.par.cell 0 rfl
   have t:B<=wr.heap.size:=by have:=b.out.keep.size;omega
   obtain ⟨w9,b9,S,U,c,o⟩:=Zhj Tryz.underlying68' d.out.n xi (.agg #[.int .i64 xi,.slice la xl.length lc,.slice G xp.length F]) V l
   have E:Hid (Below B W2 w9):=o.mono (by omega)
   have a8:Hid (PtJ w #[.slice (some ⟨bl,off,none⟩) n nc,.slice ra m rc,.int .i64 nn,.int .i64 nr] nn nr (N++[(xi,.agg #[.int .i64 xi,.slice la xl.length lc,.slice G xp.length F])]) [] w9):=⟨d.out.box.keep (c _ (by omega)),d.out.res.keep (c _ (by omega)),S,d.out.r.block (c _ (by omega)),d.out.par.keep (c _ (by omega)),d.out.keep.trans (o.mono (by omega))⟩
   have b5:Hid (Zgq B w9 (N++[(xi,.agg #[.int .i64 xi,.slice la xl.length lc,.slice G xp.length F])]) (C.take (j+1))):=Zo3.step (key:=Zo.id) (A.out.below (((D.out).mono t).trans E.out)) HX.out (X.out w9 (((D.out).mono t).trans E.out))
   clear s f c0 c1 c2 S U c o l
   go_wp2_with fail
   go_roundw
   case rel=>exact ⟨j+1,_,by omega,by go_num,a8.out,b5.out⟩
   case measure=>simp [intOf];omega
  ·have I:¬ (j:Int)<n:=by omega
   have Q:Hid (Zgq B wr N C):=by
    have:=A.out
    rwa [List.take_of_length_le (by have:=HN.out;omega)] at this
   go_wp2_with fail
   clear hlt I hj q1 A
   go_loopw [31] (fun x wr=>∃ (j:Nat) (R:List (Int × Value)),j<=m/\x=.int .i64 j/\PtJ w #[.slice na n nc,.slice ra m rc,.int .i64 nn,.int .i64 nr] nn nr N R wr/\Zgq B wr N C/\Zqe B wr R (rs.take j)) (fun i _=>m - (intOf i).toNat)
   case atStart=>exact ⟨0,[],Nat.zero_le _,rfl,b.out,Q.out,Zox _⟩
   case round =>
    clear Q b
    obtain ⟨j,R,hj,rfl,M,c8,P⟩:=hrel
    have b:=Zb M
    have Q:=Zb c8
    have A:=Zb P
    clear M P c8
    by_cases hlt:j<m
    ·have I:(j:Int)<m:=by omega
     obtain ⟨x,k⟩:∃ q,rs[j]?=some q:=⟨_,List.getElem?_eq_getElem (by have:=HM.out;omega)⟩
     obtain ⟨bl,off,rfl,a9,hc⟩:=HQ.out.resolve_left (by intro e;rw [e] at k;simp at k)
     have a5:=(hc j _ k).below (b.out.keep.mono hB) a9
     have HX:=Zb k
     have V:I64 x.id:=d4.out _ (List.mem_of_getElem? k)
     have l:∀ p ∈ R,p.1≠x.id:=A.out.fresh k d6.out
     obtain ⟨pv,⟨c0,c1,c2,c3,c4⟩,hs,hp⟩:=a5
     have X:Hid (∀ W,Below B wr W->Ji B W (.agg #[.int .i64 x.id,.int .i64 x.fr,.int .i64 x.tt,.string x.type,pv]) x):=fun W H=>by
      obtain ⟨G,F,e,q⟩:=hp
      subst e
      exact Ji.below H ⟨G,F,rfl,⟨G,F,rfl,q⟩⟩
     obtain ⟨G,F,rfl,_,_,_⟩:=hp
     clear hc k hs
     obtain ⟨xi,fr,tt,ty,xp⟩:=x
     simp only at c0 c1 c2 c3 c4 V l X
     go_upto_region 10 with fail
     generalize s:World.alloc _ _=W2
     have f:=Zl wr #[.int .i64 xi,.int .i64 fr,.int .i64 tt,.string ty,.slice G xp.length F] 49
     rw [s] at f
     have D:Hid (Below wr.heap.size wr W2):=by rw [<- s];exact (Below.refl _ _).alloc (Nat.le_refl _) _
     have k0:=f.cell 0 rfl
     have k1:=f.cell 1 rfl
     have k2:=f.cell 2 rfl
     have k3:=f.cell 3 rfl
     have k4:=f.cell 4 rfl
     have d:=Zb (b.out.below D.out)
     have m1:=d.out.par.cell 1 rfl
     have t:B<=wr.heap.size:=by have:=b.out.keep.size;omega
     obtain ⟨w9,b9,S,U,c,o⟩:=Zhj Tryz.underlying69' d.out.r xi (.agg #[.int .i64 xi,.int .i64 fr,.int .i64 tt,.string ty,.slice G xp.length F]) V l
     have E:Hid (Below B W2 w9):=o.mono (by omega)
     have a8:Hid (PtJ w #[.slice na n nc,.slice (some ⟨bl,off,none⟩) m rc,.int .i64 nn,.int .i64 nr] nn nr N (R++[(xi,.agg #[.int .i64 xi,.int .i64 fr,.int .i64 tt,.string ty,.slice G xp.length F])]) w9):=⟨d.out.box.keep (c _ (by omega)),d.out.res.keep (c _ (by omega)),d.out.n.block (c _ (by omega)),S,d.out.par.keep (c _ (by omega)),d.out.keep.trans (o.mono (by omega))⟩
     have b5:Hid (Zqe B w9 (R++[(xi,.agg #[.int .i64 xi,.int .i64 fr,.int .i64 tt,.string ty,.slice G xp.length F])]) (rs.take (j+1))):=Zo3.step (key:=Jg.id) (A.out.below (((D.out).mono t).trans E.out)) HX.out (X.out w9 (((D.out).mono t).trans E.out))
     have d2:Hid (Zgq B w9 N C):=Q.out.below (((D.out).mono t).trans E.out)
     clear s f c0 c1 c2 c3 c4 S U c o l
     go_wp2_with fail
     go_roundw
     case rel=>exact ⟨j+1,_,by omega,by go_num,a8.out,d2.out,b5.out⟩
     case measure=>simp [intOf];omega
    ·have I:¬ (j:Int)<m:=by omega
     have d8:Hid (Zqe B wr R rs):=by
      have:=A.out
      rwa [List.take_of_length_le (by have:=HM.out;omega)] at this
     have c0:=b.out.par.cell 0 rfl
     have c1:=b.out.par.cell 1 rfl
     have c2:=b.out.par.cell 2 rfl
     have c3:=b.out.par.cell 3 rfl
     have y0:=b.out.res.z 0
     have y1:=b.out.res.z 1
     have y2:=b.out.res.z 2
     have y3:=b.out.res.z 3
     have b0:=b.out.res.cell 0 rfl
     have b1:=b.out.res.cell 1 rfl
     have b2:=b.out.res.cell 2 rfl
     have b3:=b.out.res.cell 3 rfl
     go_wp2_with fail
     generalize Y:World.setCell _ _ _=W9
     have a1:Hid (Rec W9 (w.heap.size+1) #[.map (some (w.heap.size+2)),.map (some (w.heap.size+2+1)),.int .i64 nn,.int .i64 nr] 71):=by rw [<- Y];exact (((b.out.res.set 0 _).set 1 _).set 2 _).set 3 _
     have E:Hid (Below w.heap.size w W9):=by rw [<- Y];exact (((b.out.keep.setCell (Nat.le_succ _) _).setCell (Nat.le_succ _) _).setCell (Nat.le_succ _) _).setCell (Nat.le_succ _) _
     have b8:Hid (Below (w.heap.size+1) wr W9):=by rw [<- Y];exact ((((Below.refl _ _).setCell (p:=⟨w.heap.size+1,0,none⟩) (Nat.le_refl _) _).setCell (p:=⟨w.heap.size+1,1,none⟩) (Nat.le_refl _) _).setCell (p:=⟨w.heap.size+1,2,none⟩) (Nat.le_refl _) _).setCell (p:=⟨w.heap.size+1,3,none⟩) (Nat.le_refl _) _
     have HK:Hid (∀ i,i≠w.heap.size+1->W9.heap[i]?=wr.heap[i]?):=fun i O=>by
      rw [<- Y]
      exact (Below.heap_setCell _ _ _ _ O).trans ((Below.heap_setCell _ _ _ _ O).trans ((Below.heap_setCell _ _ _ _ O).trans (Below.heap_setCell _ _ _ _ O)))
     clear Y
     have q0:=a1.out.cell 0 rfl
     have q1:=a1.out.cell 1 rfl
     have q2:=a1.out.cell 2 rfl
     have q3:=a1.out.cell 3 rfl
     refine bodyPost_ret (v:=.agg #[.map (some (w.heap.size+2)),.map (some (w.heap.size+2+1)),.int .i64 nn,.int .i64 nr]) ?_ rfl ⟨rfl,E.out,⟨N,R,b.out.n.block (HK.out _ (by omega)),b.out.r.block (HK.out _ (by omega)),Q.out.below (b8.out.mono (by omega)),d8.out.below (b8.out.mono (by omega))⟩⟩
     simp [results,Tryz.results39,go_sem,q0,q1,q2,q3]
end
section
open Go.RowKit Go.Shelf
attribute [local go_sem] Oper.semAt_some
theorem Zcd.keep {i B:Nat} {w w':World} {v:Value} {ps:List Zo} (N:Zb9 i B w w') (h:Zcd i B w v ps):Zcd i B w' v ps:=by
 obtain ⟨Y,Q,e,h1,h2,h3⟩:=h
 exact ⟨Y,Q,e,h1,h2,h3.imp id fun ⟨g,e,I,D,O,X⟩=>⟨g,e,I,D,O.keep N I D,X.keep (Zep _) N I D⟩⟩
theorem Zcd.mono {i t B B':Nat} {w:World} {v:Value} {ps:List Zo} (h1:t<=i) (h2:B<=B') (h:Zcd i B w v ps):Zcd t B' w v ps:=by
 obtain ⟨Y,Q,e,g1,g2,h3⟩:=h
 exact ⟨Y,Q,e,g1,g2,h3.imp id fun ⟨g,e,I,D,O,X⟩=>⟨g,e,by omega,by omega,O,X.mono (Zep _) h2⟩⟩
theorem Zdr.keep {i B:Nat} {w w':World} {v:Value} {ps:List Jg} (N:Zb9 i B w w') (h:Zdr i B w v ps):Zdr i B w' v ps:=by
 obtain ⟨Y,Q,e,h1,h2,h3⟩:=h
 exact ⟨Y,Q,e,h1,h2,h3.imp id fun ⟨g,e,I,D,O,X⟩=>⟨g,e,I,D,O.keep N I D,X.keep (Zgo _) N I D⟩⟩
theorem Zdr.mono {i t B B':Nat} {w:World} {v:Value} {ps:List Jg} (h1:t<=i) (h2:B<=B') (h:Zdr i B w v ps):Zdr t B' w v ps:=by
 obtain ⟨Y,Q,e,g1,g2,h3⟩:=h
 exact ⟨Y,Q,e,g1,g2,h3.imp id fun ⟨g,e,I,D,O,X⟩=>⟨g,e,by omega,by omega,O,X.mono (Zgo _) h2⟩⟩
def Zc6 (i B:Nat) (w:World) (v:Value) (g:Zt):Prop:=∃ nv rv,v=.agg #[nv,rv,.int .i64 g.nn,.int .i64 g.nr]/\Zcd i B w nv g.nodes/\Zdr i B w rv g.rels
set_option maxRecDepth 100000 in
set_option maxHeartbeats 4000000 in
theorem Zib (g:Zt) (v:Value) (B:Nat) (w:World) (hB:B<=w.heap.size) (hv:Zr B w v g) (hn:g.nodes.length<=2000000) (hm:g.rels.length<=2000000) (ht:∀ x ∈ g.nodes,x.labels.length<=2000000/\x.props.length<=2000000/\∀ q ∈ x.props,q.2.total<=2000000) (hu:∀ x ∈ g.rels,x.props.length<=2000000/\∀ q ∈ x.props,q.2.total<=2000000) :
  Calls Tryz.prog 12 #[v] w fun e w'=>∃ v',e=.returned v'/\Zc6 w.heap.size w'.heap.size w' v' g/\Below w.heap.size w w':=by
 obtain ⟨na,nc,ra,rc,rfl,N,hp⟩:=hv
 have S:=Zb (fun W (M:Below w.heap.size w W)=>Zpv _ g.nodes B W (by have:=M.size;omega) (N.below (M.mono hB)) hn ht)
 have P:=Zb (fun W (M:Below w.heap.size w W)=>Zpx _ g.rels B W (by have:=M.size;omega) (hp.below (M.mono hB)) hm hu)
 obtain ⟨xl,xp,nn,nr⟩:=g
 simp only at S P |-
 generalize b0:xl.length=ll at S |-
 generalize c0:xp.length=pl at P |-
 clear N hp hm hn ht hu b0 c0
 go_enter Tryz.func12,Tryz.ntmps12
 go_upto_region 1 with fail
 generalize L:World.alloc _ _=W1
 have k:Hid (Below w.heap.size w W1):=by rw [<- L];exact ((Below.refl _ _).alloc (Nat.le_refl _) _).alloc (by simp) _
 have F:Hid (Rec W1 w.heap.size #[.slice na ll nc,.slice ra pl rc,.int .i64 nn,.int .i64 nr] 25):=by rw [<- L];exact (Zl _ _ _).alloc _
 have u:Hid (Rec W1 (w.heap.size+1) #[.slice none 0 0,.slice none 0 0,.int .i64 0,.int .i64 0] 25):=by
  have h:=Zl (w.alloc (.cells #[.slice na ll nc,.slice ra pl rc,.int .i64 nn,.int .i64 nr] 25)) #[.slice none 0 0,.slice none 0 0,.int .i64 0,.int .i64 0] 25
  rw [World.size_alloc,L] at h
  exact h
 clear L
 have a1:=F.out.cell 0 rfl
 have a2:=F.out.cell 1 rfl
 go_region_with (first | (refine (S.out _ (by first | exact k.out | exact k.out.drew | exact k.out.drew.drew)).mono ?_;rintro e w2 ⟨v2,rfl,a3,l⟩;have b6:=Zb a3;obtain ⟨H,K,rfl,T,V,U⟩:=a3;clear T V U;have c:Hid (Below W1.heap.size W1 w2):=⟨l.1,l.2,l.3,l.4,l.5⟩;have R:=Zb (F.out.below c.out F.out.lt);have b2:=R.out.cell 1 rfl;clear l) | (refine (P.out _ (by first | exact Za k.out c.out | exact (Za k.out c.out).drew)).mono ?_;rintro e r ⟨v3,rfl,a4,m⟩;have b3:=Zb a4;obtain ⟨C,E,rfl,T,V,U⟩:=a4;clear T V U;have f:Hid (Below w2.heap.size w2 r):=⟨m.1,m.2,m.3,m.4,m.5⟩;have n:=Zb (R.out.below f.out R.out.lt);have y1:=n.out.cell 0 rfl;have y2:=n.out.cell 1 rfl;have z1:=n.out.z 0;have z2:=n.out.z 1;clear m))
 all_goals
  clear a1 a2 b2 y1 y2 z1 z2
  have c2:w.heap.size+2<=W1.heap.size:=by have:=u.out.lt;omega
  have b4:=Zb ((u.out.below c.out u.out.lt).below f.out (u.out.below c.out u.out.lt).lt)
  have b7:=Zb (Za (Za k.out c.out) f.out)
  have a9:Hid (Zcd W1.heap.size r.heap.size r (.slice H xl.length K) xl):=(Zcd.keep (Zde f.out (Nat.le_refl _)) b6.out).mono (Nat.le_refl _) f.out.size
  have a7:Hid (Zdr w2.heap.size r.heap.size r (.slice C xp.length E) xp):=b3.out
  have c1:W1.heap.size<=w2.heap.size:=c.out.size
  generalize j:World.setCell _ _ _=W4
  have G:Hid (Rec W4 w.heap.size #[.slice H xl.length K,.slice C xp.length E,.int .i64 nn,.int .i64 nr] 25):=by
   rw [<- j];exact (n.out.set 0 _).set 1 _
  have d:Hid (Rec W4 (w.heap.size+1) #[.slice none 0 0,.slice none 0 0,.int .i64 0,.int .i64 0] 25):=by
   rw [<- j];exact (b4.out.other (by omega)).other (by omega)
  have b8:Hid (Below w.heap.size w W4):=by rw [<- j];exact (b7.out.setCell (p:=⟨w.heap.size,0,none⟩) (Nat.le_refl _) _).setCell (p:=⟨w.heap.size,1,none⟩) (Nat.le_refl _) _
  have a8:W4.heap.size=r.heap.size:=by rw [<- j];simp
  have b1:Hid (∀ b,w.heap.size≠b->W4.heap[b]?=r.heap[b]?):=fun b M=>by
   rw [<- j]
   repeat rw [Below.heap_setCell _ _ _ _ (Ne.symm M)]
  clear j
  have r0:=G.out.cell 0 rfl
  have r1:=G.out.cell 1 rfl
  have r2:=G.out.cell 2 rfl
  have r3:=G.out.cell 3 rfl
  have q0:=d.out.cell 0 rfl
  have q1:=d.out.cell 1 rfl
  have q2:=d.out.cell 2 rfl
  have q3:=d.out.cell 3 rfl
  have f0:=d.out.z 0
  have f1:=d.out.z 1
  have f2:=d.out.z 2
  have f3:=d.out.z 3
  go_wp2_with fail
  generalize s:World.setCell _ _ _=W5
  have y:Hid (Rec W5 (w.heap.size+1) #[.slice H xl.length K,.slice C xp.length E,.int .i64 nn,.int .i64 nr] 25):=by
   rw [<- s];exact (((d.out.set 0 _).set 1 _).set 2 _).set 3 _
  have b9:Hid (Below w.heap.size w W5):=by
   rw [<- s]
   exact (((b8.out.setCell (p:=⟨w.heap.size+1,0,none⟩) (Nat.le_succ _) _).setCell (p:=⟨w.heap.size+1,1,none⟩) (Nat.le_succ _) _).setCell (p:=⟨w.heap.size+1,2,none⟩) (Nat.le_succ _) _).setCell (p:=⟨w.heap.size+1,3,none⟩) (Nat.le_succ _) _
  have a6:W5.heap.size=r.heap.size:=by rw [<- s];simp [a8]
  have a0:Hid (∀ b,W1.heap.size<=b->W5.heap[b]?=r.heap[b]?):=fun b M=>by
   have b5:w.heap.size+1≠b:=by omega
   rw [<- s]
   repeat rw [Below.heap_setCell _ _ _ _ (Ne.symm b5)]
   exact b1.out b (by omega)
  have a5:Hid (Zb9 W1.heap.size r.heap.size r W5):=fun b o h1 h2=>⟨World.cell?_of_block (a0.out b h1),by unfold World.frozen?;rw [a0.out b h1]⟩
  clear s r0 r1 r2 r3 q0 q1 q2 q3 f0 f1 f2 f3
  have p0:=y.out.cell 0 rfl
  have p1:=y.out.cell 1 rfl
  have p2:=y.out.cell 2 rfl
  have p3:=y.out.cell 3 rfl
  refine bodyPost_ret (v:=.agg #[.slice H xl.length K,.slice C xp.length E,.int .i64 nn,.int .i64 nr]) ?_ rfl ⟨_,rfl,⟨_,_,rfl,?_,?_⟩,b9.out⟩
  ·simp [results,Tryz.results12,go_sem,p0,p1,p2,p3]
  ·rw [a6]
   exact (a9.out.keep a5.out).mono (by omega) (Nat.le_refl _)
  ·rw [a6]
   exact Zdr.mono (by omega) (Nat.le_refl _) (a7.out.keep fun b o h1 h2=>a5.out b o (by omega) h2)
end
section
open Go.RowKit Go.Shelf
theorem Zcd.lie {f B:Nat} {w:World} {v:Value} {ps:List Zo} (h:Zcd f B w v ps):Jj B w v ps:=by
 obtain ⟨t,p,e,h1,h2,h3⟩:=h
 refine ⟨t,p,e,h1,h2,h3.imp id fun ⟨g,e,u,m,_,o⟩=>⟨g,0,e,m,fun i q l=>?_⟩⟩
 obtain ⟨cs,_,b,la,lc,k,rfl,j,G,s⟩:=o i q l
 rw [Nat.zero_add]
 exact ⟨la,lc,k,⟨b 0 _ rfl,b 1 _ rfl,b 2 _ rfl⟩,⟨j.1,by have:=j.2;simp only [maxLen] at this;omega⟩,G.lie,s.lie⟩
theorem Zdr.lie {f B:Nat} {w:World} {v:Value} {ps:List Jg} (h:Zdr f B w v ps) (n:∀ r ∈ ps,r.type.size<=maxLen):Jt B w v ps:=by
 obtain ⟨t,p,e,h1,h2,h3⟩:=h
 refine ⟨t,p,e,h1,h2,h3.imp id fun ⟨g,e,u,m,_,o⟩=>⟨g,0,e,m,fun i q l=>?_⟩⟩
 obtain ⟨cs,_,b,k,rfl,s⟩:=o i q l
 rw [Nat.zero_add]
 exact ⟨k,⟨b 0 _ rfl,b 1 _ rfl,b 2 _ rfl,b 3 _ rfl,b 4 _ rfl⟩,n _ (List.mem_of_getElem? l),s.lie⟩
theorem Zs2 {B:Nat} {w:World} {v:Value} {x:List Jg} (h:Jt B w v x):∀ r ∈ x,r.type.size<=maxLen:=by
 obtain ⟨a,c,e,h1,h2,h3⟩:=h
 intro r d
 rcases h3 with rfl | ⟨I,off,e,u,b⟩
 ·cases d
 ·obtain ⟨i,F⟩:=List.getElem?_of_mem d
  obtain ⟨k,_,j,_⟩:=b i r F
  exact j
theorem Zr.types {B:Nat} {w:World} {v:Value} {g:Zt} (h:Zr B w v g):∀ r ∈ g.rels,r.type.size<=maxLen:=by
 obtain ⟨E,D,z,y,_,_,h2⟩:=h
 exact Zs2 h2
theorem Zc6.lie {f B:Nat} {w:World} {v:Value} {g:Zt} (h:Zc6 f B w v g) (n:∀ r ∈ g.rels,r.type.size<=maxLen):Zr B w v g:=by
 obtain ⟨H,K,e,C,d⟩:=h
 have h1:=C.lie
 have h2:=d.lie n
 obtain ⟨E,D,e1,_⟩:=C
 obtain ⟨z,y,e2,_⟩:=d
 subst e1 e2
 exact ⟨E,D,z,y,e,h1,h2⟩
end
section
open Go.RowKit
theorem Zkh {a e size n:Nat} {v:Value} {xs:List Value} {w w':World} (h:w.ownsRow a e size v n xs) (b:∀ q,v.ownBlock=some q->w'.heap[q]?=w.heap[q]?):w'.ownsRow a e size v n xs:=by
 obtain ⟨g1,⟨g2,g3⟩ | ⟨g,cap,cur,g2,g3,c,d⟩⟩:=h
 ·exact ⟨g1,.inl ⟨g2,g3⟩⟩
 ·exact ⟨g1,.inr ⟨g,cap,cur,g2,g3,(b g (by rw [g2];rfl)).trans c,d⟩⟩
end
