/- A graph's keys, counted (keyCounts 46). -/
import Derived.Test.YthfilnflgahcjaaGreatDoorJoin21
import Derived.Test.YthfilnflgahcjaaGreatDoorJoin19
namespace Go.Proofs.YthfilnflgahcjaaGreatDoor
open Go.RowKit Go.Shelf Go.Maps
set_option linter.all false
attribute [local go_sem] Oper.semAt_some
set_option maxRecDepth 100000 in
set_option maxHeartbeats 16000000 in
theorem Jbh {le:Zav->Zav->Prop} {most:Nat} (l5:Zsa le most) (k8:most<=900000) (tx:Zd->ByteArray) (g:Zx) (v:Value) (B:Nat) (w:World) (hB:B<=w.heap.size) (h:Zp B w v g) (x3:g.nodes.length<=100000)
  (hT:∀ n ∈ g.nodes,∀ p ∈ n.props,okS (tx p.2)/\∀ (W:World) (u:Value),Below w.heap.size w W->Zb6 B W u p.2->Calls Tryz.prog 127 #[u] W fun e w'=>e=.returned (.tuple #[.string (tx p.2),.int .i64 0])/\Below W.heap.size W w')
  (hI:(Zq tx g.nodes).length<=1000000) (hW:Zju (Zq tx g.nodes)<=100000000) (hm:(Zds (Zci (Zq tx g.nodes)).2).length<=most) :
  Calls Tryz.prog 46 #[v] w fun e w'=>∃ v L,e=.returned v/\L.Perm (Zom (Zci (Zq tx g.nodes)).2)/\L.Pairwise le/\Jb 66 4 Zd3 w.heap.size w' v L/\Below w.heap.size w w':=by
 obtain ⟨na,nc,ra,rc,rfl,hn,hr⟩:=h
 obtain ⟨w8,qu7,qu3,n1,n2,n3⟩:=hn
 obtain ⟨rfl,rfl⟩:na=w8/\nc=qu7:=by injection qu3 with a b c;exact ⟨a,c⟩
 have o0:=Za n3
 have HT:=Za hT
 have HI:=Za hI
 have n6:=Za hW
 have t4:=Za hm
 obtain ⟨l1,j7⟩:∃ m,g.nodes.length=m:=⟨_,rfl⟩
 have qu0:=Za j7
 rw [j7] at x3 n1 |-
 generalize g.rels.length=l2 at *
 generalize g.nn=nn at *
 generalize g.nr=nr at *
 clear qu3 n3 j7 hT hI hW hm hr
 have y8:∀ W:World,(Instr.makeMap 152 none).run Tryz.prog W=.ok (.map (some W.heap.size)) (W.alloc (.map #[] 0)):=fun W=>rfl
 have y7:∀ W:World,(Instr.makeMap 157 none).run Tryz.prog W=.ok (.map (some W.heap.size)) (W.alloc (.map #[] 0)):=fun W=>rfl
 go_enter Tryz.func46,Tryz.ntmps46
 go_upto_region 2 with fail
 obtain ⟨Wa,c9⟩:∃ W,w.alloc (.cells #[.slice na l1 nc,.slice ra l2 rc,.int .i64 nn,.int .i64 nr] 25)=W:=⟨_,rfl⟩
 have q8:Rec Wa w.heap.size #[.slice na l1 nc,.slice ra l2 rc,.int .i64 nn,.int .i64 nr] 25:=by rw [<- c9];exact Zk _ _ _
 have j5:Wa.heap.size=w.heap.size+1:=by rw [<- c9];simp
 have qu6:Below w.heap.size w Wa:=by rw [<- c9];exact (Below.refl _ _).alloc (Nat.le_refl _) _
 try rw [c9]
 obtain ⟨Wb,b5⟩:∃ W,Wa.alloc (.map #[] 0)=W:=⟨_,rfl⟩
 have i8:Below Wa.heap.size Wa Wb:=by rw [<- b5];exact (Below.refl _ _).alloc (Nat.le_refl _) _
 have n0:MC Zpf okW Wb (w.heap.size+1) []:=by rw [<- b5,<- j5];exact Zc9 _
 have l0:Wb.heap.size=w.heap.size+1+1:=by rw [<- b5,<- j5];simp
 have j1:Hid (Rec Wb w.heap.size #[.slice na l1 nc,.slice ra l2 rc,.int .i64 nn,.int .i64 nr] 25):=q8.below i8 (by omega)
 have s9:Hid (Below w.heap.size w Wb):=Below.on qu6 i8
 have m2:=Za n0
 have j0:=Za l0
 try rw [b5]
 have m8:=Za (Zox Wb)
 clear c9 b5 j5 l0 qu6 i8 n0 q8
 go_wp2_with (go_at_call 96;refine m8.out.mono ?_;rintro e W2 ⟨bx,m,rfl,y1,T,y3,y4,y5,y6⟩;have HY:=Za (And.intro y1 (And.intro T (And.intro y3 (And.intro y4 (And.intro y5 y6)))));have c0:=(j1.out.below y6 j1.out.lt).cell 0 rfl;clear y1 T y3 y4 y5 y6)
 have t1:Hid (KcI w bx m (Zci (Zq tx (g.nodes.take 0))) W2):=by
  obtain ⟨y1,T,y3,y4,y5,y6⟩:=HY.out
  exact ⟨Below.on s9.out y6,y1,T,MG.block m2.out (y6.block _ (MG.lt m2.out))⟩
 have m4:w.heap.size+2<=m:=by have:=HY.out.2.2.2.1;have:=j0.out;omega
 have r9:w.heap.size+2<=bx:=by have:=HY.out.2.2.1;have:=j0.out;omega
 have p9:m<W2.heap.size:=MG.lt HY.out.2.1
 have t2:bx<W2.heap.size:=HY.out.1.lt
 have o8:bx≠m:=HY.out.2.2.2.2.1
 have m6:Hid (bx≠m):=o8
 have b8:Hid (w.heap.size+2<=m/\w.heap.size+2<=bx/\m<W2.heap.size/\bx<W2.heap.size):=⟨m4,r9,p9,t2⟩
 have z2:w.heap.size<=W2.heap.size:=by omega
 clear HY m8 m2 s9 j0 j1 m4 r9 p9 t2 o8 c0
 go_loopw [22] (fun i wr=>∃ j:Nat,j<=l1/\i=.int .i64 j/\KcI w bx m (Zci (Zq tx (g.nodes.take j))) wr/\W2.heap.size<=wr.heap.size) (fun i _=>l1 - (intOf i).toNat)
 case atStart=>exact ⟨0,Nat.zero_le _,rfl,t1.out,Nat.le_refl _⟩
 case round =>
  obtain ⟨j,hj,rfl,hk,l7⟩:=hrel
  have o:=Za hk
  have w4:=Za l7
  clear hk t1
  by_cases hlt:j<l1
  ·have n5:(j:Int)<l1:=by omega
   obtain ⟨x,N⟩:∃ q,g.nodes[j]?=some q:=⟨_,List.getElem?_eq_getElem (by have:=qu0.out;omega)⟩
   obtain ⟨bl,off,rfl,i7,hc⟩:=o0.out.resolve_left (by intro e;rw [e] at N;simp at N)
   obtain ⟨la,lc,pv,⟨d0,d1,d2⟩,⟨s1,s2⟩,s3,y0⟩:=hc j x N
   have O:=List.mem_of_getElem? N
   have x9:=Za (HT.out x O)
   have t6:=Za (Zm5 (tx:=tx) N)
   have k0:=Za (Zvw (tx:=tx) N)
   replace d0:=((o.out.bw.mono hB).cell (p:=⟨bl,off+j*3,none⟩) i7).trans d0
   replace d1:=((o.out.bw.mono hB).cell (p:=⟨bl,off+j*3+1,none⟩) i7).trans d1
   replace d2:=((o.out.bw.mono hB).cell (p:=⟨bl,off+j*3+2,none⟩) i7).trans d2
   obtain ⟨pa,pc,rfl,p1,p2,p3⟩:=y0
   have x6:=Za p3
   have qu9:=Za s3
   obtain ⟨np,k6⟩:∃ n,x.props.length=n:=⟨_,rfl⟩
   have n8:=Za k6
   rw [k6] at d2 p1
   obtain ⟨nl,j6⟩:∃ n,x.labels.length=n:=⟨_,rfl⟩
   have i4:=Za j6
   rw [j6] at d1 s1
   generalize x.id=xi at *
   obtain ⟨A,hA⟩:∃ A,Zq tx (g.nodes.take j)=A:=⟨_,rfl⟩
   rw [hA] at o t6 k0
   clear N hc s3 O p3 k6 j6 hA
   obtain ⟨W3,R⟩:∃ W,wr.alloc (.cells #[.int .i64 xi,.slice la nl lc,.slice pa np pc] 73)=W:=⟨_,rfl⟩
   have G:Below wr.heap.size wr W3:=by rw [<- R];exact (Below.refl _ _).alloc (Nat.le_refl _) _
   have rx:Rec W3 wr.heap.size #[.int .i64 xi,.slice la nl lc,.slice pa np pc] 73:=by rw [<- R];exact Zk _ _ _
   have t9:Hid (KcI w bx m (Zci (A++(x.props.take 0).map (Zbs tx x.labels))) W3):=by
    show KcI _ _ _ _ _
    have:=o.out.below G
    simpa using this
   have H:=Za rx
   have e2:=rx.cell 2 rfl
   have c2:wr.heap.size<=W3.heap.size:=G.size
   obtain ⟨nb,i0⟩:∃ n,wr.heap.size=n:=⟨_,rfl⟩
   rw [i0] at e2 H c2 l7
   have s6:nb<W3.heap.size:=H.out.lt
   clear rx G w4 o
   go_upto_region 6 with fail
   try rw [R]
   try rw [i0]
   clear R i0
   go_wp2_with fail
   go_loopw [29] (fun i wr=>∃ k:Nat,k<=np/\i=.int .i64 k/\KcI w bx m (Zci (A++(x.props.take k).map (Zbs tx x.labels))) wr/\Rec wr nb #[.int .i64 xi,.slice la nl lc,.slice pa np pc] 73) (fun i _=>np - (intOf i).toNat)
   case atStart=>exact ⟨0,Nat.zero_le _,rfl,t9.out,H.out⟩
   case round =>
    clear e2 c2 s6 t9 H d0 d1 d2
    obtain ⟨k,hk,rfl,E,Y⟩:=hrel
    have o:=Za E
    have H:=Za Y
    clear E Y
    by_cases hlt2:k<np
    ·have j2:(k:Int)<np:=by omega
     obtain ⟨q,M⟩:∃ q,x.props[k]?=some q:=⟨_,List.getElem?_eq_getElem (by have:=n8.out;omega)⟩
     obtain ⟨b2,o2,rfl,x1,a4⟩:=x6.out.resolve_left (by intro e;rw [e] at M;simp at M)
     obtain ⟨q0,qs,v0,v1,v2,v3,v4,v5,⟨q1,q2,q3,q4,q5,q6⟩,b9⟩:=(a4 k q M).below (o.out.bw.mono hB) x1
     obtain ⟨b4,d8⟩:=x9.out q (List.mem_of_getElem? M)
     have HO:Hid ((x.props.map (Zbs tx x.labels))[k]?=some (x.labels,q.1,tx q.2)):=by
      show _=_
      rw [List.getElem?_map,M];rfl
     obtain ⟨qk,⟨tk,tb,tn,ts,m1,k9⟩⟩:=q
     have o5:=Za b9
     simp only [Zb6] at b9
     obtain ⟨ka,kc,a7,X,eT,_⟩:=b9
     have eT:=Zi8 eT
     simp only [List.cons.injEq,and_true] at eT
     obtain ⟨rfl,rfl,rfl,rfl,rfl,rfl⟩:=eT
     simp only at b4 d8 HO qs q0
     obtain ⟨tt,t3⟩:∃ t,tx (.mk tk tb tn ts m1 k9)=t:=⟨_,rfl⟩
     rw [t3] at b4 d8 HO
     generalize m1.length=kl at *
     generalize k9.length=ll at *
     obtain ⟨W4,d6⟩:∃ W,wr.alloc (.cells #[.string qk,.int .i64 tk,.bool tb,.int .i64 tn,.string ts,.slice ka kl kc,.slice a7 ll X] 90)=W:=⟨_,rfl⟩
     have G:Below wr.heap.size wr W4:=by rw [<- d6];exact (Below.refl _ _).alloc (Nat.le_refl _) _
     have rp:Rec W4 wr.heap.size #[.string qk,.int .i64 tk,.bool tb,.int .i64 tn,.string ts,.slice ka kl kc,.slice a7 ll X] 90:=by rw [<- d6];exact Zk _ _ _
     have I:=Za (o.out.below G)
     have c3:=Za (H.out.below G H.out.lt)
     have a8:=Za rp
     obtain ⟨i9,qu1,c2,v7⟩:=Zdg (A++(x.props.take k).map (Zbs tx x.labels))
     have f9:(Zci (A++(x.props.take k).map (Zbs tx x.labels))).1.length<=1000000:=by
      have F:=k0.out.1
      have h2:=HI.out
      simp only [List.length_append,List.length_map,List.length_take] at qu1
      omega
     have a6:Zju (A++(x.props.take k).map (Zbs tx x.labels))+x.labels.length<=100000000:=by
      have F:=k0.out.2
      have h2:=n6.out
      have h3:=Zyn HO.out
      rw [<- List.map_take] at h3
      rw [Zcw]
      simp only at h3
      omega
     have g7:Hid (∀ W,Below W4.heap.size W4 W->Zb6 B W (.agg #[.int .i64 tk,.bool tb,.int .i64 tn,.string ts,.slice ka kl kc,.slice a7 ll X]) (.mk tk tb tn ts m1 k9)):=fun W hb=>o5.out.below ((Below.on G hb).mono (by have:=o.out.bw.size;omega))
     have d9:=Za (Zv4 tk tb tn ts ka a7 kl kc ll X tt 0 _ bx m W4 I.out.rb I.out.mt m6.out i9 f9 b4 (fun W hb=>d8 W _ (Below.on I.out.bw hb) (g7.out W hb)))
     obtain ⟨S,hS⟩:∃ S,Zci (A++(x.props.take k).map (Zbs tx x.labels))=S:=⟨_,rfl⟩
     have x4:=Za hS
     rw [hS] at i9 f9 d9 I o c2
     have a5:Hid (S.2.length+x.labels.length<=100000000):=by show _<=_;omega
     have w3:=Za f9
     have e1:=rp.cell 1 rfl
     have e2:=rp.cell 2 rfl
     have e3:=rp.cell 3 rfl
     have e4:=rp.cell 4 rfl
     have e5:=rp.cell 5 rfl
     have e6:=rp.cell 6 rfl
     obtain ⟨pb,l9⟩:∃ n,wr.heap.size=n:=⟨_,rfl⟩
     rw [l9] at e1 e2 e3 e4 e5 e6 a8
     have j9:Hid (nb<pb/\pb<W4.heap.size/\W2.heap.size<=nb):=by
      refine ⟨?_,a8.out.lt,?_⟩
      ·have:=H.out.lt
       omega
      ·omega
     clear rp G M a4 d8 b4 hS i9 qu1 c2 v7 f9 a6 o H t3
     go_upto_region 9 with fail
     try rw [d6]
     try rw [l9]
     clear d6 l9
     obtain ⟨z,hz⟩:∃ z,Zbm tt S.1=z:=⟨_,rfl⟩
     have l0:z<=1000000:=by
      have F:Zbm tt S.1<=S.1.length:=by
       by_cases hm:tt ∈ S.1
       ·exact Nat.le_of_lt (Zow hm)
       ·rw [Zgk hm];exact Nat.le_refl _
      have:=w3.out
      omega
     have HZ:=Za hz
     rw [hz] at d9
     clear hz
     go_wp2_with (go_at_call 126;refine d9.out.mono ?_;rintro e W5 ⟨rfl,y1,T,y3⟩
                  have x7:∀ i,i<W4.heap.size->i≠m->W5.heap[i]?=W4.heap[i]?:=T
                  have c7:Hid (Rec W5 nb #[.int .i64 xi,.slice la nl lc,.slice (some ⟨b2,o2,none⟩) np pc] 73):=c3.out.keep (T _ c3.out.lt (by have:=b8.out;have:=j9.out;omega))
                  have g9:Hid (Rec W5 pb #[.string qk,.int .i64 tk,.bool tb,.int .i64 tn,.string ts,.slice ka kl kc,.slice a7 ll X] 90):=a8.out.keep (T _ a8.out.lt (by have:=b8.out;have:=j9.out;omega))
                  have s4:Hid (KcI w bx m (Zdz tt S.1,S.2++(x.labels.take 0).map fun l=>((l,qk,0,0),(z:Int))) W5):=by
                   show KcI _ _ _ _ _
                   refine ⟨I.out.bw.trans (y3 _ (by have:=b8.out;omega) I.out.bw.size),I.out.rb.keep (T _ I.out.rb.lt m6.out),y1,?_⟩
                   simp only [List.take_zero,List.map_nil,List.append_nil]
                   exact MG.block I.out.mw (T _ (MG.lt I.out.mw) (by have:=b8.out;omega))
                  have cN:=c7.out.cell 1 rfl
                  clear y1 T y3 x7)
     clear e1 e2 e3 e4 e5 e6 cN d9 I o5 g7 c3 a8
     go_loopw [40] (fun i wr=>∃ r:Nat,r<=nl/\i=.int .i64 r/\KcI w bx m (Zdz tt S.1,S.2++(x.labels.take r).map fun l=>((l,qk,0,0),(z:Int))) wr/\Rec wr nb #[.int .i64 xi,.slice la nl lc,.slice (some ⟨b2,o2,none⟩) np pc] 73/\Rec wr pb #[.string qk,.int .i64 tk,.bool tb,.int .i64 tn,.string ts,.slice ka kl kc,.slice a7 ll X] 90) (fun i _=>nl - (intOf i).toNat)
     case atStart=>exact ⟨0,Nat.zero_le _,rfl,s4.out,c7.out,g9.out⟩
     case round =>
      clear s4 c7 g9
      obtain ⟨r,hr,rfl,E,Y,b6⟩:=hrel
      have o:=Za E
      have H:=Za Y
      have a8:=Za b6
      by_cases hlt3:r<nl
      ·have l3:(r:Int)<nl:=by omega
       obtain ⟨lb,c6⟩:∃ q,x.labels[r]?=some q:=⟨_,List.getElem?_eq_getElem (by have:=i4.out;omega)⟩
       obtain ⟨b3,o3,rfl,w7,m5⟩:=qu9.out.resolve_left (by intro e;rw [e] at c6;simp at c6)
       obtain ⟨cx,k7⟩:=m5 r (by have:=i4.out;omega)
       have n9:x.labels.getD r ⟨#[]⟩=lb:=by rw [List.getD_eq_getElem?_getD,c6];rfl
       rw [n9] at cx k7
       replace cx:=((E.bw.mono hB).cell (p:=⟨b3,o3+r,none⟩) w7).trans cx
       have g8:(S.2++(x.labels.take r).map fun l=>(((l,qk,0,0),(z:Int)):Zhl)).length<=1000000000:=by
        have F:=a5.out
        simp only [List.length_append,List.length_map,List.length_take]
        omega
       obtain ⟨st,w1,w2,c,a1,a2,a3,f1,f2,f3,f4,f5,f6,f7,f8⟩:=Zuy E.mw ((lb,qk,0,0),(z:Int)) ⟨⟨k7,qs,Zcg,Zcg⟩,w64 (by omega) (by omega)⟩ g8
       have g0:=b6.cell 0 rfl
       have s5:=j9.out
       have x2:=b8.out
       have f:Hid (KcI w bx m (Zdz tt S.1,S.2++(x.labels.take (r+1)).map fun l=>((l,qk,0,0),(z:Int))) w2/\Rec w2 nb #[.int .i64 xi,.slice (some ⟨b3,o3,none⟩) nl lc,.slice (some ⟨b2,o2,none⟩) np pc] 73/\Rec w2 pb #[.string qk,.int .i64 tk,.bool tb,.int .i64 tn,.string ts,.slice ka kl kc,.slice a7 ll X] 90):=by
        refine ⟨⟨E.bw.trans (f8.mono (by omega)),E.rb.keep (f7 _ (by omega)),MG.block E.mt (f7 _ (by omega)),?_⟩,Y.keep (f7 _ (by omega)),b6.keep (f7 _ (by omega))⟩
        rw [List.take_add_one,c6]
        simp only [Option.toList_some,List.map_append,List.map_cons,List.map_nil,<- List.append_assoc]
        exact f5
       simp only [Zpf] at f1 f2 f3 f4
       clear E Y b6 m5 c6 k7 n9 g8 f5 f6 f7 f8 s5 x2 o H a8
       go_upto_region 13 with fail
       apply Zir w2
       apply Exists.intro
       apply And.intro
       ·go_region_with fail
        all_goals exact ⟨rfl,rfl⟩
       ·clear f1 f2 f3 f4 cx g0
        go_wp2_with fail
        go_roundw
        case rel=>exact ⟨r+1,by omega,by go_num,f.out.1,f.out.2.1,f.out.2.2⟩
        case measure=>simp [intOf];omega
      ·have l3:¬ (r:Int)<nl:=by omega
       have f:Hid (KcI w bx m (Zci (A++(x.props.take (k+1)).map (Zbs tx x.labels))) wr):=by
        have F:=o.out
        rw [List.take_of_length_le (by have:=i4.out;omega)] at F
        have h2:(x.props.take (k+1)).map (Zbs tx x.labels)=(x.props.take k).map (Zbs tx x.labels)++[(x.labels,qk,tt)]:=by
         rw [List.map_take,List.map_take,List.take_add_one,HO.out];rfl
        show KcI _ _ _ _ _
        rw [h2,<- List.append_assoc,Zqm,x4.out]
        unfold Zgi
        simp only
        rw [HZ.out]
        exact F
       clear E Y b6
       go_wp2_with fail
       go_roundw
       case rel=>exact ⟨k+1,by omega,by go_num,f.out,H.out⟩
       case measure=>simp [intOf];omega
    ·have j2:¬ (k:Int)<np:=by omega
     have f:Hid (KcI w bx m (Zci (Zq tx (g.nodes.take (j+1)))) wr/\W2.heap.size<=wr.heap.size):=by
      refine ⟨?_,by have:=H.out.lt;omega⟩
      have F:=o.out
      rw [List.take_of_length_le (by have:=n8.out;omega),<- t6.out] at F
      exact F
     go_wp2_with fail
     go_roundw
     case rel=>exact ⟨j+1,by omega,by go_num,f.out.1,f.out.2⟩
     case measure=>simp [intOf];omega
  ·have n5:¬ (j:Int)<l1:=by omega
   have E:=o.out
   rw [List.take_of_length_le (by have:=qu0.out;omega)] at E
   have l6:w.heap.size+1<wr.heap.size:=MG.lt E.mw
   obtain ⟨ws,a6⟩:∃ s,(Zci (Zq tx g.nodes)).2=s:=⟨_,rfl⟩
   have a5:Hid (ws.length<=100000000/\∀ x ∈ ws,x.1.2.2=(0,0)):=by
    obtain ⟨_,_,k3,k4⟩:=Zdg (Zq tx g.nodes)
    rw [a6] at k3 k4
    exact ⟨by have:=n6.out;omega,k4⟩
   have h8:=t4
   rw [a6] at h8
   have v9:=Za a6
   have o6:=E.mw
   rw [a6] at o6
   have w6:=Za E.bw
   obtain ⟨K,d,hb,b0,h9,e8⟩:=o6
   have hn:K.size=(cnt ws).length:=by have:=congrArg List.length b0;simpa using this
   have h7:Hid (∀ x ∈ K.toList,∃ p ∈ cnt ws,okW p.1/\p.1.1.2.2=(0,0)/\x.key=Zpf p.1/\x.val=.int .i64 p.2):=fun x N=>by
    have F:(x.key,x.val) ∈ K.toList.map (fun e=>(e.key,e.val)):=List.mem_map.2 ⟨x,N,rfl⟩
    rw [b0] at F
    obtain ⟨q,M,e⟩:=List.mem_map.1 F
    have b4:=h9 q M
    obtain ⟨p,hp,rfl⟩:=List.mem_map.1 M
    obtain ⟨e1,e2⟩:=Prod.mk.inj e
    exact ⟨p,hp,b4,a5.out.2 _ ((Zdb ws p.1).1 (List.mem_map_of_mem hp)),e1.symm,e2.symm⟩
   have qu8:Hid (K.toList.map (fun e=>(e.key,e.val))=(cnt ws).map (fun p=>(Zpf p.1,Value.int .i64 p.2))):=by
    show _=_
    rw [b0,List.map_map];rfl
   have x5:Hid (K.toList.Nodup):=by
    have:=e8.2.1
    rw [List.nodup_iff_pairwise_ne] at *
    exact (List.pairwise_map.1 this).imp fun h e=>h (by rw [e])
   have k2:Hid (∀ x ∈ K.toList,∀ y ∈ K.toList,x.born=y.born->x=y):=fun x N y hy e=>by
    obtain ⟨i,hi⟩:=List.getElem?_of_mem N
    obtain ⟨j,hj⟩:=List.getElem?_of_mem hy
    have:=(List.getElem?_inj (l:=K.toList.map (·.born)) (by simpa using (List.getElem?_eq_some_iff.1 hi).1) e8.2.1 (i:=i) (j:=j)).1 (by rw [List.getElem?_map,List.getElem?_map,hi,hj,Option.map_some,Option.map_some,e])
    subst this
    rw [hi] at hj
    exact Option.some.inj hj
   have o4:Hid (∀ done:List MapEntry,done.Nodup->(∀ x ∈ done,x ∈ K.toList)->done.length<=100000000):=fun done F h2=>by
    have:=Zdi F h2
    have h3:=Zkt ws
    have h4:=a5.out.1
    simp only [Array.length_toList] at this
    omega
   have s0:=Za e8
   have HB:=Za hb
   obtain ⟨Z,hZ⟩:∃ Z,wr.heap.size=Z:=⟨_,rfl⟩
   obtain ⟨Wp,c5⟩:∃ W,wr.alloc (.map #[] 0)=W:=⟨_,rfl⟩
   have k5:Wp.heap.size=Z+1:=by rw [<- c5,<- hZ];simp
   have qu5:Below wr.heap.size wr Wp:=by rw [<- c5];exact (Below.refl _ _).alloc (Nat.le_refl _) _
   have t0:MC Zfw okK Wp Z []:=by rw [<- c5,<- hZ];exact Zc9 _
   obtain ⟨Wq,c1⟩:∃ W,Wp.alloc (.map #[] 0)=W:=⟨_,rfl⟩
   have k1:Wq.heap.size=Z+2:=by rw [<- c1];simp [k5]
   have l8:Below Wp.heap.size Wp Wq:=by rw [<- c1];exact (Below.refl _ _).alloc (Nat.le_refl _) _
   have t5:MC Zfw okK Wq (Z+1) []:=by rw [<- c1,<- k5];exact Zc9 _
   obtain ⟨Wr,b7⟩:∃ W,Wq.alloc (.cells #[.map (some (Z+1))] 157)=W:=⟨_,rfl⟩
   have j4:Wr.heap.size=Z+3:=by rw [<- b7];simp [k1]
   have g5:Below Wq.heap.size Wq Wr:=by rw [<- b7];exact (Below.refl _ _).alloc (Nat.le_refl _) _
   have r0:Rec Wr (Z+2) #[.map (some (Z+1))] 157:=by rw [<- b7,<- k1];exact Zk _ _ _
   have c4:Below wr.heap.size wr Wr:=Below.on (Below.on qu5 l8) g5
   have m3:Hid (KdI w Z [] Wr):=⟨Below.on w6.out c4,r0,MG.block (MG.block t0 (l8.block _ (by omega))) (g5.block _ (by omega)),MG.block t5 (g5.block _ (by omega))⟩
   have i6:Hid (Wr.heap[w.heap.size+1]?=some (.map K d)):=(c4.block _ (by omega)).trans HB.out
   have w9:=run_range_map (P:=Tryz.prog) Wr 152 156 2 (w.heap.size+1) K d (by kernel_rfl) i6.out
   have s7:Hid (w.heap.size+1<Z):=by show _<_;omega
   rw [j4] at w9
   have qu2:=Za j4
   clear E t0 t5 r0 qu5 l8 g5 c4 hb b0 h9 e8 hn a6
   go_upto_region 18 with fail
   try rw [hZ]
   try rw [c5]
   try rw [c1]
   try rw [b7]
   clear c5 c1 b7 k5 k1 j4 hZ l6 l7
   go_wp2_with fail
   go_loopw [] (fun wr=>∃ seen c0 done D,Jgc w K d (w.heap.size+1) (Z+3) Z wr seen c0 done D) (fun wr=>wr.rangeLeft (w.heap.size+1) (Z+3))
   case atStart =>
    refine ⟨#[],d,[],[],⟨?_,Nat.le_refl _,m3.out.below ((Below.refl _ _).alloc (Nat.le_refl _) _),(Below.heap_alloc _ _ _ (by have:=s7.out;have:=qu2.out;omega)).trans i6.out,rfl,List.nodup_nil,fun x N=>by simp at N,fun x N=>by simp⟩⟩
    rw [<- qu2.out]
    exact World.alloc_heap_new _ _
   case round =>
    obtain ⟨seen,c0,done,D,C⟩:=hrel
    have HW:=Za C
    clear m3 i6 t4 HI HT o0 o
    rcases run_next_at (P:=Tryz.prog) wr 0 (Z+3) (w.heap.size+1) d c0 seen K d C.it C.hb s0.out.1 C.cl with ⟨h0,l4⟩ | ⟨x,N,w1,c8,l4⟩
    ·have HF:Hid (D.Perm (cnt ws)):=by
      have hp:done.Perm K.toList:=(List.perm_ext_iff_of_nodup C.nd x5.out).2 fun x=>⟨C.sub x,fun N=>(C.has x N).1 (all_seen K seen h0 x N)⟩
      have F:=hp.map (fun e=>(e.key,e.val))
      rw [<- C.dn,qu8.out] at F
      exact Zee Jbs F
     have t7:Hid ((Jc (D.map fun p=>(p.1.1,p.2))).Perm (Zds ws)):=Zks (HF.out.map _)
     have x8:Hid (Zr9 (Jc (D.map fun p=>(p.1.1,(1:Int))))=Zr9 (Zbv ws)):=by
      show _=_
      refine Zyo fun x=>?_
      unfold Zbv
      rw [Jf,Jf]
      exact Zmf (HF.out.map _) x
     have w5:Hid (∀ p ∈ Jc (D.map fun p=>(p.1.1,p.2)),p.1.2.2=(0,0)):=fun p hp=>by
      have F:=(Zbc _ p.1).1 (List.mem_map_of_mem hp)
      rw [List.map_map] at F
      obtain ⟨q,M,e⟩:=List.mem_map.1 F
      have h2:=a5.out.2 _ ((Zdb ws q.1).1 (List.mem_map_of_mem (HF.out.mem_iff.1 M)))
      rw [<- e];exact h2
     have v8:=Za (Zvq l5 k8 C.i.mn (by rw [t7.out.length_eq];exact h8.out) (Z+2) (Z+1) _ C.i.rb C.i.mv (Jq _) w5.out)
     have m7:=Za C.i.bw
     clear C h0
     go_wp2_with (go_at_call 98;refine v8.out.mono ?_;rintro e W6 ⟨v6,L,rfl,y1,T,y3,y4⟩;have HY:=Za (And.intro y1 (And.intro T (And.intro y3 y4)));clear y1 T y3 y4)
     go_ret
     obtain ⟨y1,T,y3,y4⟩:=HY.out
     refine ⟨v6,L,rfl,?_,T,y3.base m7.out.size,Below.on m7.out y4⟩
     rw [v9.out]
     unfold Zom
     rw [<- x8.out]
     exact y1.trans (t7.out.map _)
    ·obtain ⟨O,o9⟩:=mem_left N
     obtain ⟨⟨⟨⟨l,kk,a,b⟩,vn⟩,z⟩,n7,m0,t8,ek,ev⟩:=h7.out x O
     obtain ⟨s8,qu4⟩:=Prod.mk.inj t8
     try simp only at s8 qu4
     subst s8 qu4
     simp only [Zpf] at ek ev
     have m9:=Zh1 ws _ n7
     simp only at m9
     obtain ⟨U,hU⟩:∃ V,Go.ChangeMaps.setBlock w1 (Z+3) (.mapIter (some (w.heap.size+1)) d (seen.push x.born) d)=V:=⟨_,rfl⟩
     rw [hU,ek,ev] at l4
     have g6:w1.heap[Z+3]?=some (.mapIter (some (w.heap.size+1)) d seen c0):=by rcases c8 with rfl | rfl<;>exact C.it
     have d4:=MapKept.heap_set (o':=.mapIter (some (w.heap.size+1)) d (seen.push x.born) d) g6
     have b1:∀ q,q≠Z+3->U.heap[q]?=wr.heap[q]?:=fun q M=>by
      rw [<- hU]
      have:w1.heap[q]?=wr.heap[q]?:=by rcases c8 with rfl | rfl<;>rfl
      exact (d4.2 q M).trans this
     have n4:U.heap.size=wr.heap.size:=by
      rw [<- hU]
      have:w1.heap.size=wr.heap.size:=by rcases c8 with rfl | rfl<;>rfl
      simp [Go.ChangeMaps.setBlock,this]
     have f0:U.heap[Z+3]?=some (.mapIter (some (w.heap.size+1)) d (seen.push x.born) d):=by rw [<- hU];exact d4.1
     have e9:U.os=wr.os/\U.tape=wr.tape/\U.output=wr.output:=by
      rw [<- hU]
      rcases c8 with rfl | rfl<;>exact ⟨rfl,rfl,rfl⟩
     have l6:=s7.out
     have j3:Below w.heap.size w U:=⟨e9.1.trans C.i.bw.os,e9.2.1.trans C.i.bw.tape,e9.2.2.trans C.i.bw.output,by rw [n4];exact C.i.bw.size,fun q M=>(b1 q (by omega)).trans (C.i.bw.block q M)⟩
     have j8:U.heap[w.heap.size+1]?=some (.map K d):=(b1 _ (by omega)).trans C.hb
     have q9:=run_entry_at (P:=Tryz.prog) U (Z+3) (w.heap.size+1) d seen K d x f0 j8 O s0.out.2.1
     rw [ek,ev] at q9
     have d5:(leftOf K (seen.push x.born)).size<(leftOf K seen).size:=left_shrinks K seen x N
     have a9:wr.rangeLeft (w.heap.size+1) (Z+3)=(leftOf K seen).size:=by simp only [World.rangeLeft,C.hb,C.it]
     have h6:Z+3<U.heap.size:=(Array.getElem?_eq_some_iff.1 f0).1
     have q7:KdI w Z D U:=⟨j3,C.i.rb.keep (b1 _ (by omega)),MG.block C.i.mn (b1 _ (by omega)),MG.block C.i.mv (b1 _ (by omega))⟩
     obtain ⟨W3,R⟩:∃ W,U.alloc (.cells #[.string l,.string kk,.int .i64 0,.int .i64 0,.int .i64 vn] 156)=W:=⟨_,rfl⟩
     have G:Below U.heap.size U W3:=by rw [<- R];exact (Below.refl _ _).alloc (Nat.le_refl _) _
     have rx:Rec W3 U.heap.size #[.string l,.string kk,.int .i64 0,.int .i64 0,.int .i64 vn] 156:=by rw [<- R];exact Zk _ _ _
     have e7:=q7.below G
     have x0:D.length<=100000000:=by
      have e1:=congrArg List.length C.dn
      simp only [List.length_map] at e1
      have e2:=o4.out done C.nd C.sub
      omega
     have o7:∀ p ∈ D,0<=p.2/\p.2<=100000000:=fun p hp=>by
      have F:(Zpf p.1,Value.int .i64 p.2) ∈ done.map (fun e=>(e.key,e.val)):=by rw [<- C.dn];exact List.mem_map.2 ⟨p,hp,rfl⟩
      obtain ⟨y,hy,e⟩:=List.mem_map.1 F
      obtain ⟨q,M,_,_,e3,e4⟩:=h7.out y (C.sub y hy)
      have h2:=Zh1 ws q M
      have h3:=a5.out.1
      have e5:Value.int .i64 p.2=.int .i64 q.2:=(Prod.mk.inj e).2.symm.trans e4
      have e6:p.2=q.2:=by injection e5
      omega
     have d7:=Zez (x:=((l,kk,(0:Int),(0:Int)):Zav)) (c:=100000000) (by omega) (l:=D.map fun p=>(p.1.1,p.2)) (fun q M=>by
      obtain ⟨p,hp,rfl⟩:=List.mem_map.1 M
      exact o7 p hp)
     have a4:=Zez (x:=((l,kk,(0:Int),(0:Int)):Zav)) (c:=1) (by omega) (l:=D.map fun p=>(p.1.1,(1:Int))) (fun q M=>by
      obtain ⟨p,hp,rfl⟩:=List.mem_map.1 M
      simp)
     rw [<- Jf] at d7 a4
     simp only [List.length_map] at d7 a4
     obtain ⟨st,f1,f2,p1,p2,p3,p4,p5,p6,p7,p8⟩:=Zta e7.mn (Jq _) (l,kk,0,0) m0.1 z
     have h5:MC Zfw okK f2 (Z+1) (Jc (D.map fun p=>(p.1.1,(1:Int)))):=MG.block e7.mv (p7 _ (by omega))
     obtain ⟨z1,f3,f4,r1,r2,r3,r4,r5,r6,r7,r8⟩:=Zta h5 (Jq _) (l,kk,0,0) m0.1 1
     obtain ⟨ca,o1⟩:∃ c,Zn ((l,kk,0,0):Zav) (Jc (D.map fun p=>(p.1.1,p.2)))=c:=⟨_,rfl⟩
     obtain ⟨cb,p0⟩:∃ c,Zn ((l,kk,0,0):Zav) (Jc (D.map fun p=>(p.1.1,(1:Int))))=c:=⟨_,rfl⟩
     rw [o1] at p1 p2 p3 p4 d7
     rw [p0] at r1 r2 r3 r4 a4
     have w0:0<=z/\z<=100000000:=by have:=a5.out.1;omega
     have z0:IntKind.i64.wrap (ca+z)=ca+z:=by rw [IntKind.wrap_i64];omega
     have y9:IntKind.i64.wrap (cb+1)=cb+1:=by rw [IntKind.wrap_i64];omega
     have d3:=rx.keep (p7 _ (by omega))
     have i5:=e7.rb.keep (p7 _ (by omega))
     have e0:=rx.cell 0 rfl
     have e1:=rx.cell 1 rfl
     have e2:=rx.cell 2 rfl
     have e3:=rx.cell 3 rfl
     have g0:=d3.cell 0 rfl
     have g1:=d3.cell 1 rfl
     have g2:=d3.cell 2 rfl
     have g3:=d3.cell 3 rfl
     have g4:=i5.cell 0 rfl
     have a0:∀ i,i≠Z->i≠Z+1->i<U.heap.size->f4.heap[i]?=U.heap[i]?:=fun i i1 i2 i3=>(r7 i i2).trans ((p7 i i1).trans (G.block i i3))
     have f:Hid (Jgc w K d (w.heap.size+1) (Z+3) Z f4 (seen.push x.born) d (done++[x]) (D++[(((l,kk,0,0),vn),z)])):=by
      refine ⟨(a0 _ (by omega) (by omega) h6).trans f0,Nat.le_refl _,⟨(Below.on j3 G).trans ((p8.mono (by omega)).trans (r8.mono (by omega))),i5.keep (r7 _ (by omega)),?_,?_⟩,(a0 _ (by omega) (by omega) (by omega)).trans j8,?_,?_,?_,?_⟩
      ·rw [List.map_append]
       show MC Zfw okK f4 Z (Jc (_++[((l,kk,0,0),z)]))
       rw [Zhk]
       exact MG.block p5 (r7 _ (by omega))
      ·rw [List.map_append]
       show MC Zfw okK f4 (Z+1) (Jc (_++[((l,kk,0,0),1)]))
       rw [Zhk]
       exact r5
      ·rw [List.map_append,List.map_append,C.dn]
       simp [Zpf,ek,ev]
      ·refine List.nodup_append.2 ⟨C.nd,by simp,fun a ha c hc=>?_⟩
       simp only [List.mem_singleton] at hc
       subst hc
       intro e
       subst e
       have:=(C.has _ O).2 ha
       rw [o9] at this
       cases this
      ·intro y hy
       rcases List.mem_append.1 hy with hy | hy
       ·exact C.sub y hy
       ·rw [List.mem_singleton.1 hy];exact O
      ·intro y hy
       rw [contains_push]
       simp only [Bool.or_eq_true,C.has y hy,beq_iff_eq,List.mem_append,List.mem_singleton]
       constructor
       ·rintro (F | F)
        ·exact .inl F
        ·exact .inr (k2.out y hy x O F)
       ·rintro (F | F)
        ·exact .inl F
        ·exact .inr (by rw [F])
     have HM:=Za (And.intro d5 a9)
     simp only [Zfw] at p1 p2 p3 p4 r1 r2 r3 r4
     obtain ⟨Q,hQ⟩:∃ Q,U.heap.size=Q:=⟨_,rfl⟩
     rw [hQ] at e0 e1 e2 e3 g0 g1 g2 g3
     clear C hU g6 d4 b1 n4 f0 e9 j3 j8 O o9 ek ev N c8 d5 a9 n7 m0 t8 m9 h6 q7 G rx e7 x0 o7 d7 a4 p5 p6 p7 p8 r5 r6 r7 r8 h5 o1 p0 w0 d3 i5 a0 l6
     go_upto_region 21 with fail
     try rw [R]
     try rw [hQ]
     clear R hQ q9 l4
     apply Zir f2
     apply Exists.intro
     apply And.intro
     ·go_region_with fail
      all_goals exact ⟨rfl,rfl⟩
     ·clear p1 p2 p3 p4 e0 e1 e2 e3
      go_upto_region 22 with fail
      apply Zir f4
      apply Exists.intro
      apply And.intro
      ·go_region_with fail
       all_goals exact ⟨rfl,rfl⟩
      ·clear r1 r2 r3 r4 g0 g1 g2 g3 g4
       go_wp2_with fail
       go_roundw
       case rel=>exact ⟨_,_,_,_,f.out⟩
       case measure =>
        have F:f4.rangeLeft (w.heap.size+1) (Z+3)=(leftOf K (seen.push x.born)).size:=by
         simp only [World.rangeLeft,f.out.hb,f.out.it]
        rw [F,HM.out.2]
        exact HM.out.1
end Go.Proofs.YthfilnflgahcjaaGreatDoor
