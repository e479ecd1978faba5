/- Counts held against each other: the document's own. -/
import Derived.Test.YthfilnflgahcjaaGreatDoorJoin11
namespace Go.Proofs.YthfilnflgahcjaaGreatDoor
open Go.RowKit Go.Shelf Go.Maps
set_option linter.all false
attribute [local go_sem] Oper.semAt_some
set_option maxRecDepth 100000 in
set_option maxHeartbeats 16000000 in
theorem Zgx (a b:Zak) (vl vt ve vk ul ut ue uk:Value) (B:Nat) (w:World) (hB:B<=w.heap.size) (ha:Zc0 B w vl vt ve vk a) (hb:Zc0 B w ul ut ue uk b):Calls Tryz.prog 14 #[Za4 a vl vt ve vk,Za4 b ul ut ue uk] w fun e w'=>e=.returned (.bool (Zdt a b))/\Below w.heap.size w w':=by
 obtain ⟨f8,d7,rfl,i3,j3,-⟩:=ha.hl
 obtain ⟨e8,d4,rfl,i1,k6,-⟩:=ha.ht
 obtain ⟨e9,e4,rfl,i6,j7,-⟩:=ha.he
 obtain ⟨g9,d6,rfl,i7,k9,-⟩:=ha.hk
 obtain ⟨e7,d8,rfl,i5,j9,-⟩:=hb.hl
 obtain ⟨g7,e5,rfl,i2,k7,-⟩:=hb.ht
 obtain ⟨f6,d9,rfl,i4,k3,-⟩:=hb.he
 obtain ⟨f7,e6,rfl,i0,j2,-⟩:=hb.hk
 unfold Za4
 obtain ⟨pn,h2⟩:∃ n,a.nodes=n:=⟨_,rfl⟩
 obtain ⟨pr,g6⟩:∃ n,a.rels=n:=⟨_,rfl⟩
 obtain ⟨M,c6⟩:∃ n,a.labels.length=n:=⟨_,rfl⟩
 obtain ⟨O,b8⟩:∃ n,a.types.length=n:=⟨_,rfl⟩
 obtain ⟨N,b6⟩:∃ n,a.ends.length=n:=⟨_,rfl⟩
 obtain ⟨L,b7⟩:∃ n,a.keys.length=n:=⟨_,rfl⟩
 obtain ⟨qn,g8⟩:∃ n,b.nodes=n:=⟨_,rfl⟩
 obtain ⟨qr,f9⟩:∃ n,b.rels=n:=⟨_,rfl⟩
 obtain ⟨a5,b4⟩:∃ n,b.labels.length=n:=⟨_,rfl⟩
 obtain ⟨a6,b9⟩:∃ n,b.types.length=n:=⟨_,rfl⟩
 obtain ⟨a7,a8⟩:∃ n,b.ends.length=n:=⟨_,rfl⟩
 obtain ⟨a4,b5⟩:∃ n,b.keys.length=n:=⟨_,rfl⟩
 have h:=Za (And.intro c6 (And.intro b8 (And.intro b6 (And.intro b7 (And.intro b4 (And.intro b9 (And.intro a8 b5)))))))
 have Q:=Za (And.intro h2 (And.intro g6 (And.intro g8 f9)))
 obtain ⟨D,hD⟩:∃ D,Zdt a b=D:=⟨_,rfl⟩
 have HD:=Za hD
 rw [hD]
 have a2:=Za ha
 have a3:=Za hb
 rw [c6] at i3 a2
 rw [b8] at i1 a2
 rw [b6] at i6 a2
 rw [b7] at i7 a2
 rw [b4] at i5 a3
 rw [b9] at i2 a3
 rw [a8] at i4 a3
 rw [b5] at i0 a3
 rw [h2,g6,g8,f9,c6,b8,b6,b7,b4,b9,a8,b5]
 clear ha hb hD h2 g6 g8 f9 c6 b8 b6 b7 b4 b9 a8 b5
 go_enter Tryz.func14,Tryz.ntmps14
 go_upto_region 1 with fail
 obtain ⟨W1,d5⟩:∃ W,w.alloc (.cells #[.int .i64 pn,.int .i64 pr,.slice f8 M d7,.slice e8 O d4,.slice e9 N e4,.slice g9 L d6] 33)=W:=⟨_,rfl⟩
 have h8:W1.heap.size=w.heap.size+1:=by rw [<- d5];simp
 have h3:=Za (Zde w (.int .i64 pn) (.int .i64 pr) (.slice f8 M d7) (.slice e8 O d4) (.slice e9 N e4) (.slice g9 L d6) 33)
 have h0:=Za (Zc w (.cells #[.int .i64 pn,.int .i64 pr,.slice f8 M d7,.slice e8 O d4,.slice e9 N e4,.slice g9 L d6] 33))
 rw [d5] at h3 h0
 obtain ⟨W2,h1⟩:∃ W,W1.alloc (.cells #[.int .i64 qn,.int .i64 qr,.slice e7 a5 d8,.slice g7 a6 e5,.slice f6 a7 d9,.slice f7 a4 e6] 33)=W:=⟨_,rfl⟩
 have R:=Za (Zde W1 (.int .i64 qn) (.int .i64 qr) (.slice e7 a5 d8) (.slice g7 a6 e5) (.slice f6 a7 d9) (.slice f7 a4 e6) 33)
 have a9:=Za (Zc W1 (.cells #[.int .i64 qn,.int .i64 qr,.slice e7 a5 d8,.slice g7 a6 e5,.slice f6 a7 d9,.slice f7 a4 e6] 33))
 rw [h1] at R a9
 rw [h8] at R
 have P:=Za (h3.out.keep a9.out)
 have v:=Za (Below.on h0.out a9.out)
 try rw [d5]
 try rw [h1]
 clear d5 h1 h8 h3 h0 a9
 have f0:=P.out.c0
 have g0:=R.out.c0
 have f1:=P.out.c1
 have g1:=R.out.c1
 have f2:=P.out.c2
 have g2:=R.out.c2
 have f3:=P.out.c3
 have g3:=R.out.c3
 have f4:=P.out.c4
 have g4:=R.out.c4
 have f5:=P.out.c5
 have g5:=R.out.c5
 by_cases en:pn=qn
 ·subst en
  by_cases er:pr=qr
  ·subst er
   by_cases el:M=a5
   ·subst el
    by_cases et:O=a6
    ·subst et
     by_cases ee:N=a7
     ·subst ee
      by_cases ek:L=a4
      ·subst ek
       go_wp2_with fail
       clear f0 g0 f1 g1 f2 g2 f3 g3 f4 g4 f5 g5
       go_loopw [5] (fun i wr=>∃ (j:Nat),j<=M/\i=.int .i64 j/\a.labels.take j=b.labels.take j/\Below W2.heap.size W2 wr) (fun i _=>M - (intOf i).toNat)
       case atStart=>exact ⟨0,Nat.zero_le _,rfl,rfl,Below.refl _ _⟩
       case round =>
        obtain ⟨j,hj,rfl,X,t⟩:=hrel
        have H:=Za X
        have r:=Za t
        have k:=Za (Below.on v.out t)
        have f2:=(P.out.keep t).c2
        have g2:=(R.out.keep t).c2
        clear X t
        by_cases hlt:j<M
        ·have T:(j:Int)<M:=by omega
         obtain ⟨⟨x0,x1⟩,I⟩:∃ q,a.labels[j]?=some q:=⟨_,List.getElem?_eq_getElem (by have:=h.out.1;omega)⟩
         obtain ⟨⟨y0,y1⟩,K⟩:∃ q,b.labels[j]?=some q:=⟨_,List.getElem?_eq_getElem (by have:=h.out.2.2.2.2.1;omega)⟩
         obtain ⟨_,_,ea,_,_,V⟩:=a2.out.hl
         obtain ⟨_,_,eb,_,_,a0⟩:=a3.out.hl
         injection ea with ea1 ea2 ea3
         injection eb with eb1 eb2 eb3
         subst ea1 ea3 eb1 eb3
         obtain ⟨bl,off,rfl,G,hc⟩:=V.resolve_left (by intro e;rw [e] at I;simp at I)
         obtain ⟨m,c,rfl,s,z⟩:=a0.resolve_left (by intro e;rw [e] at K;simp at K)
         have c0:=(k.out.cell (p:=⟨bl,off+j*2+0,none⟩) (Nat.lt_of_lt_of_le G hB)).trans (hc j _ I 0 _ rfl)
         have d0:=(k.out.cell (p:=⟨m,c+j*2+0,none⟩) (Nat.lt_of_lt_of_le s hB)).trans (z j _ K 0 _ rfl)
         have c1:=(k.out.cell (p:=⟨bl,off+j*2+1,none⟩) (Nat.lt_of_lt_of_le G hB)).trans (hc j _ I 1 _ rfl)
         have d1:=(k.out.cell (p:=⟨m,c+j*2+1,none⟩) (Nat.lt_of_lt_of_le s hB)).trans (z j _ K 1 _ rfl)
         rw [Nat.add_zero] at c0 d0
         simp only at c0 d0 c1 d1
         have y:∀ u:Up wr,u.x.cell? ⟨bl,off+j*2,none⟩=some (.string x0):=fun u=>u.cell c0
         have A:∀ u:Up wr,u.x.cell? ⟨m,c+j*2,none⟩=some (.string y0):=fun u=>u.cell d0
         have E:∀ u:Up wr,u.x.cell? ⟨bl,off+j*2+1,none⟩=some (.int .i64 x1):=fun u=>u.cell c1
         have C:∀ u:Up wr,u.x.cell? ⟨m,c+j*2+1,none⟩=some (.int .i64 y1):=fun u=>u.cell d1
         have fa:∀ u:Up wr,u.x.cell? ⟨w.heap.size,2,none⟩=some (.slice (some ⟨bl,off,none⟩) M d7):=fun u=>u.cell f2
         have fb:∀ u:Up wr,u.x.cell? ⟨w.heap.size+1,2,none⟩=some (.slice (some ⟨m,c,none⟩) M d8):=fun u=>u.cell g2
         have g:Nonempty (Up wr):=⟨⟨wr,Below.refl _ _⟩⟩
         have l:=Za (And.intro I K)
         clear I K hc z V a0 c0 d0 c1 d1
         by_cases e0:x0=y0
         ·subst e0
          have b0:=Zec (rfl:x0=x0)
          by_cases e1:x1=y1
          ·subst e1
           have b1:(x1==x1)=true:=beq_self_eq_true _
           have HS:=Za (Zd4 H.out l.out.1 l.out.2 rfl)
           go_upto_region 6 with fail
           clear f2 g2
           refine Zed (by kernel_rfl) (by kernel_rfl) ?_
           repeat (go_big_quiet_step (fail))
           refine wpQuiet_nil ?_
           rintro w4 ⟨⟨W4,f⟩,rfl⟩
           have o:=Za (Below.on r.out f)
           clear y A E C fa fb g f
           go_wp2_with fail
           go_roundw
           case rel=>exact ⟨j+1,by omega,by go_num,HS.out,o.out⟩
           case measure=>simp [intOf];omega
          ·have b1:(x1==y1)=false:=beq_eq_false_iff_ne.2 e1
           have d:a.labels≠b.labels:=Zj7 l.out.1 l.out.2 fun e=>e1 (by injections)
           have F:Hid (D=false):=by
            show _=_
            rw [<- HD.out]
            unfold Zdt
            rw [decide_eq_false d];simp
           clear e1 d
           go_upto_region 6 with fail
           clear f2 g2
           refine Zed (by kernel_rfl) (by kernel_rfl) ?_
           repeat (go_big_quiet_step (fail))
           refine wpQuiet_nil ?_
           rintro w4 ⟨⟨W4,f⟩,rfl⟩
           have o:=Za (Below.on r.out f)
           clear y A E C fa fb g f
           go_wp2_with fail
           go_ret
           exact ⟨by rw [F.out];rfl,Below.on v.out o.out⟩
         ·have b0:=Zfz e0
          have d:a.labels≠b.labels:=Zj7 l.out.1 l.out.2 fun e=>e0 (by injections)
          have F:Hid (D=false):=by
           show _=_
           rw [<- HD.out]
           unfold Zdt
           rw [decide_eq_false d];simp
          clear e0 d
          go_upto_region 6 with fail
          clear f2 g2
          refine Zed (by kernel_rfl) (by kernel_rfl) ?_
          repeat (go_big_quiet_step (fail))
          refine wpQuiet_nil ?_
          rintro w4 ⟨⟨W4,f⟩,rfl⟩
          have o:=Za (Below.on r.out f)
          clear y A E C fa fb g f
          go_wp2_with fail
          go_ret
          exact ⟨by rw [F.out];rfl,Below.on v.out o.out⟩
        ·have T:¬ (j:Int)<M:=by omega
         have h6:Hid (a.labels=b.labels):=Zfa H.out (by have:=h.out.1;omega) (by have:=h.out.2.2.2.2.1;omega)
         have c9:=Za r.out
         have j1:=Za k.out
         clear H r k g2
         have f3:=(P.out.keep c9.out).c3
         go_wp2_with fail
         clear f3
         go_loopw [6] (fun i wr=>∃ (j:Nat),j<=O/\i=.int .i64 j/\a.types.take j=b.types.take j/\Below W2.heap.size W2 wr) (fun i _=>O - (intOf i).toNat)
         case atStart=>exact ⟨0,Nat.zero_le _,rfl,rfl,c9.out⟩
         case round =>
          obtain ⟨j,hj,rfl,X,t⟩:=hrel
          have H:=Za X
          have r:=Za t
          have k:=Za (Below.on v.out t)
          have f3:=(P.out.keep t).c3
          have g3:=(R.out.keep t).c3
          clear c9
          clear X t
          by_cases hlt:j<O
          ·have T:(j:Int)<O:=by omega
           obtain ⟨⟨x0,x1⟩,I⟩:∃ q,a.types[j]?=some q:=⟨_,List.getElem?_eq_getElem (by have:=h.out.2.1;omega)⟩
           obtain ⟨⟨y0,y1⟩,K⟩:∃ q,b.types[j]?=some q:=⟨_,List.getElem?_eq_getElem (by have:=h.out.2.2.2.2.2.1;omega)⟩
           obtain ⟨_,_,ea,_,_,V⟩:=a2.out.ht
           obtain ⟨_,_,eb,_,_,a0⟩:=a3.out.ht
           injection ea with ea1 ea2 ea3
           injection eb with eb1 eb2 eb3
           subst ea1 ea3 eb1 eb3
           obtain ⟨bl,off,rfl,G,hc⟩:=V.resolve_left (by intro e;rw [e] at I;simp at I)
           obtain ⟨m,c,rfl,s,z⟩:=a0.resolve_left (by intro e;rw [e] at K;simp at K)
           have c0:=(k.out.cell (p:=⟨bl,off+j*2+0,none⟩) (Nat.lt_of_lt_of_le G hB)).trans (hc j _ I 0 _ rfl)
           have d0:=(k.out.cell (p:=⟨m,c+j*2+0,none⟩) (Nat.lt_of_lt_of_le s hB)).trans (z j _ K 0 _ rfl)
           have c1:=(k.out.cell (p:=⟨bl,off+j*2+1,none⟩) (Nat.lt_of_lt_of_le G hB)).trans (hc j _ I 1 _ rfl)
           have d1:=(k.out.cell (p:=⟨m,c+j*2+1,none⟩) (Nat.lt_of_lt_of_le s hB)).trans (z j _ K 1 _ rfl)
           rw [Nat.add_zero] at c0 d0
           simp only at c0 d0 c1 d1
           have y:∀ u:Up wr,u.x.cell? ⟨bl,off+j*2,none⟩=some (.string x0):=fun u=>u.cell c0
           have A:∀ u:Up wr,u.x.cell? ⟨m,c+j*2,none⟩=some (.string y0):=fun u=>u.cell d0
           have E:∀ u:Up wr,u.x.cell? ⟨bl,off+j*2+1,none⟩=some (.int .i64 x1):=fun u=>u.cell c1
           have C:∀ u:Up wr,u.x.cell? ⟨m,c+j*2+1,none⟩=some (.int .i64 y1):=fun u=>u.cell d1
           have fa:∀ u:Up wr,u.x.cell? ⟨w.heap.size,3,none⟩=some (.slice (some ⟨bl,off,none⟩) O d4):=fun u=>u.cell f3
           have fb:∀ u:Up wr,u.x.cell? ⟨w.heap.size+1,3,none⟩=some (.slice (some ⟨m,c,none⟩) O e5):=fun u=>u.cell g3
           have g:Nonempty (Up wr):=⟨⟨wr,Below.refl _ _⟩⟩
           have l:=Za (And.intro I K)
           clear I K hc z V a0 c0 d0 c1 d1
           by_cases e0:x0=y0
           ·subst e0
            have b0:=Zec (rfl:x0=x0)
            by_cases e1:x1=y1
            ·subst e1
             have b1:(x1==x1)=true:=beq_self_eq_true _
             have HS:=Za (Zd4 H.out l.out.1 l.out.2 rfl)
             go_upto_region 11 with fail
             clear f3 g3
             refine Zed (by kernel_rfl) (by kernel_rfl) ?_
             repeat (go_big_quiet_step (fail))
             refine wpQuiet_nil ?_
             rintro w4 ⟨⟨W4,f⟩,rfl⟩
             have o:=Za (Below.on r.out f)
             clear y A E C fa fb g f
             go_wp2_with fail
             go_roundw
             case rel=>exact ⟨j+1,by omega,by go_num,HS.out,o.out⟩
             case measure=>simp [intOf];omega
            ·have b1:(x1==y1)=false:=beq_eq_false_iff_ne.2 e1
             have d:a.types≠b.types:=Zj7 l.out.1 l.out.2 fun e=>e1 (by injections)
             have F:Hid (D=false):=by
              show _=_
              rw [<- HD.out]
              unfold Zdt
              rw [decide_eq_false d];simp
             clear e1 d
             go_upto_region 11 with fail
             clear f3 g3
             refine Zed (by kernel_rfl) (by kernel_rfl) ?_
             repeat (go_big_quiet_step (fail))
             refine wpQuiet_nil ?_
             rintro w4 ⟨⟨W4,f⟩,rfl⟩
             have o:=Za (Below.on r.out f)
             clear y A E C fa fb g f
             go_wp2_with fail
             go_ret
             exact ⟨by rw [F.out];rfl,Below.on v.out o.out⟩
           ·have b0:=Zfz e0
            have d:a.types≠b.types:=Zj7 l.out.1 l.out.2 fun e=>e0 (by injections)
            have F:Hid (D=false):=by
             show _=_
             rw [<- HD.out]
             unfold Zdt
             rw [decide_eq_false d];simp
            clear e0 d
            go_upto_region 11 with fail
            clear f3 g3
            refine Zed (by kernel_rfl) (by kernel_rfl) ?_
            repeat (go_big_quiet_step (fail))
            refine wpQuiet_nil ?_
            rintro w4 ⟨⟨W4,f⟩,rfl⟩
            have o:=Za (Below.on r.out f)
            clear y A E C fa fb g f
            go_wp2_with fail
            go_ret
            exact ⟨by rw [F.out];rfl,Below.on v.out o.out⟩
          ·have T:¬ (j:Int)<O:=by omega
           have h4:Hid (a.types=b.types):=Zfa H.out (by have:=h.out.2.1;omega) (by have:=h.out.2.2.2.2.2.1;omega)
           have c7:=Za r.out
           have i8:=Za k.out
           clear H r k g3
           have f4:=(P.out.keep c7.out).c4
           go_wp2_with fail
           clear f4
           go_loopw [7] (fun i wr=>∃ (j:Nat),j<=N/\i=.int .i64 j/\a.ends.take j=b.ends.take j/\Below W2.heap.size W2 wr) (fun i _=>N - (intOf i).toNat)
           case atStart=>exact ⟨0,Nat.zero_le _,rfl,rfl,c7.out⟩
           case round =>
            obtain ⟨j,hj,rfl,X,t⟩:=hrel
            have H:=Za X
            have r:=Za t
            have k:=Za (Below.on v.out t)
            have f4:=(P.out.keep t).c4
            have g4:=(R.out.keep t).c4
            clear c7
            clear X t
            by_cases hlt:j<N
            ·have T:(j:Int)<N:=by omega
             obtain ⟨⟨x0,x1,x2,x3⟩,I⟩:∃ q,a.ends[j]?=some q:=⟨_,List.getElem?_eq_getElem (by have:=h.out.2.2.1;omega)⟩
             obtain ⟨⟨y0,y1,y2,y3⟩,K⟩:∃ q,b.ends[j]?=some q:=⟨_,List.getElem?_eq_getElem (by have:=h.out.2.2.2.2.2.2.1;omega)⟩
             obtain ⟨_,_,ea,_,_,V⟩:=a2.out.he
             obtain ⟨_,_,eb,_,_,a0⟩:=a3.out.he
             injection ea with ea1 ea2 ea3
             injection eb with eb1 eb2 eb3
             subst ea1 ea3 eb1 eb3
             obtain ⟨bl,off,rfl,G,hc⟩:=V.resolve_left (by intro e;rw [e] at I;simp at I)
             obtain ⟨m,c,rfl,s,z⟩:=a0.resolve_left (by intro e;rw [e] at K;simp at K)
             have c0:=(k.out.cell (p:=⟨bl,off+j*4+0,none⟩) (Nat.lt_of_lt_of_le G hB)).trans (hc j _ I 0 _ rfl)
             have d0:=(k.out.cell (p:=⟨m,c+j*4+0,none⟩) (Nat.lt_of_lt_of_le s hB)).trans (z j _ K 0 _ rfl)
             have c1:=(k.out.cell (p:=⟨bl,off+j*4+1,none⟩) (Nat.lt_of_lt_of_le G hB)).trans (hc j _ I 1 _ rfl)
             have d1:=(k.out.cell (p:=⟨m,c+j*4+1,none⟩) (Nat.lt_of_lt_of_le s hB)).trans (z j _ K 1 _ rfl)
             have c2:=(k.out.cell (p:=⟨bl,off+j*4+2,none⟩) (Nat.lt_of_lt_of_le G hB)).trans (hc j _ I 2 _ rfl)
             have d2:=(k.out.cell (p:=⟨m,c+j*4+2,none⟩) (Nat.lt_of_lt_of_le s hB)).trans (z j _ K 2 _ rfl)
             have c3:=(k.out.cell (p:=⟨bl,off+j*4+3,none⟩) (Nat.lt_of_lt_of_le G hB)).trans (hc j _ I 3 _ rfl)
             have d3:=(k.out.cell (p:=⟨m,c+j*4+3,none⟩) (Nat.lt_of_lt_of_le s hB)).trans (z j _ K 3 _ rfl)
             rw [Nat.add_zero] at c0 d0
             simp only at c0 d0 c1 d1 c2 d2 c3 d3
             have y:∀ u:Up wr,u.x.cell? ⟨bl,off+j*4,none⟩=some (.string x0):=fun u=>u.cell c0
             have A:∀ u:Up wr,u.x.cell? ⟨m,c+j*4,none⟩=some (.string y0):=fun u=>u.cell d0
             have E:∀ u:Up wr,u.x.cell? ⟨bl,off+j*4+1,none⟩=some (.string x1):=fun u=>u.cell c1
             have C:∀ u:Up wr,u.x.cell? ⟨m,c+j*4+1,none⟩=some (.string y1):=fun u=>u.cell d1
             have S:∀ u:Up wr,u.x.cell? ⟨bl,off+j*4+2,none⟩=some (.bool x2):=fun u=>u.cell c2
             have U:∀ u:Up wr,u.x.cell? ⟨m,c+j*4+2,none⟩=some (.bool y2):=fun u=>u.cell d2
             have Y:∀ u:Up wr,u.x.cell? ⟨bl,off+j*4+3,none⟩=some (.int .i64 x3):=fun u=>u.cell c3
             have a1:∀ u:Up wr,u.x.cell? ⟨m,c+j*4+3,none⟩=some (.int .i64 y3):=fun u=>u.cell d3
             have fa:∀ u:Up wr,u.x.cell? ⟨w.heap.size,4,none⟩=some (.slice (some ⟨bl,off,none⟩) N e4):=fun u=>u.cell f4
             have fb:∀ u:Up wr,u.x.cell? ⟨w.heap.size+1,4,none⟩=some (.slice (some ⟨m,c,none⟩) N d9):=fun u=>u.cell g4
             have g:Nonempty (Up wr):=⟨⟨wr,Below.refl _ _⟩⟩
             have l:=Za (And.intro I K)
             clear I K hc z V a0 c0 d0 c1 d1 c2 d2 c3 d3
             by_cases e0:x0=y0
             ·subst e0
              have b0:=Zec (rfl:x0=x0)
              by_cases e1:x1=y1
              ·subst e1
               have b1:=Zec (rfl:x1=x1)
               by_cases e2:x2=y2
               ·subst e2
                have b2:(x2==x2)=true:=beq_self_eq_true _
                by_cases e3:x3=y3
                ·subst e3
                 have b3:(x3==x3)=true:=beq_self_eq_true _
                 have HS:=Za (Zd4 H.out l.out.1 l.out.2 rfl)
                 go_upto_region 16 with fail
                 clear f4 g4
                 refine Zed (by kernel_rfl) (by kernel_rfl) ?_
                 repeat (go_big_quiet_step (fail))
                 refine wpQuiet_nil ?_
                 rintro w4 ⟨⟨W4,f⟩,rfl⟩
                 have o:=Za (Below.on r.out f)
                 clear y A E C S U Y a1 fa fb g f
                 go_wp2_with fail
                 go_roundw
                 case rel=>exact ⟨j+1,by omega,by go_num,HS.out,o.out⟩
                 case measure=>simp [intOf];omega
                ·have b3:(x3==y3)=false:=beq_eq_false_iff_ne.2 e3
                 have d:a.ends≠b.ends:=Zj7 l.out.1 l.out.2 fun e=>e3 (by injections)
                 have F:Hid (D=false):=by
                  show _=_
                  rw [<- HD.out]
                  unfold Zdt
                  rw [decide_eq_false d];simp
                 clear e3 d
                 go_upto_region 16 with fail
                 clear f4 g4
                 refine Zed (by kernel_rfl) (by kernel_rfl) ?_
                 repeat (go_big_quiet_step (fail))
                 refine wpQuiet_nil ?_
                 rintro w4 ⟨⟨W4,f⟩,rfl⟩
                 have o:=Za (Below.on r.out f)
                 clear y A E C S U Y a1 fa fb g f
                 go_wp2_with fail
                 go_ret
                 exact ⟨by rw [F.out];rfl,Below.on v.out o.out⟩
               ·have b2:(x2==y2)=false:=beq_eq_false_iff_ne.2 e2
                have d:a.ends≠b.ends:=Zj7 l.out.1 l.out.2 fun e=>e2 (by injections)
                have F:Hid (D=false):=by
                 show _=_
                 rw [<- HD.out]
                 unfold Zdt
                 rw [decide_eq_false d];simp
                clear e2 d
                go_upto_region 16 with fail
                clear f4 g4
                refine Zed (by kernel_rfl) (by kernel_rfl) ?_
                repeat (go_big_quiet_step (fail))
                refine wpQuiet_nil ?_
                rintro w4 ⟨⟨W4,f⟩,rfl⟩
                have o:=Za (Below.on r.out f)
                clear y A E C S U Y a1 fa fb g f
                go_wp2_with fail
                go_ret
                exact ⟨by rw [F.out];rfl,Below.on v.out o.out⟩
              ·have b1:=Zfz e1
               have d:a.ends≠b.ends:=Zj7 l.out.1 l.out.2 fun e=>e1 (by injections)
               have F:Hid (D=false):=by
                show _=_
                rw [<- HD.out]
                unfold Zdt
                rw [decide_eq_false d];simp
               clear e1 d
               go_upto_region 16 with fail
               clear f4 g4
               refine Zed (by kernel_rfl) (by kernel_rfl) ?_
               repeat (go_big_quiet_step (fail))
               refine wpQuiet_nil ?_
               rintro w4 ⟨⟨W4,f⟩,rfl⟩
               have o:=Za (Below.on r.out f)
               clear y A E C S U Y a1 fa fb g f
               go_wp2_with fail
               go_ret
               exact ⟨by rw [F.out];rfl,Below.on v.out o.out⟩
             ·have b0:=Zfz e0
              have d:a.ends≠b.ends:=Zj7 l.out.1 l.out.2 fun e=>e0 (by injections)
              have F:Hid (D=false):=by
               show _=_
               rw [<- HD.out]
               unfold Zdt
               rw [decide_eq_false d];simp
              clear e0 d
              go_upto_region 16 with fail
              clear f4 g4
              refine Zed (by kernel_rfl) (by kernel_rfl) ?_
              repeat (go_big_quiet_step (fail))
              refine wpQuiet_nil ?_
              rintro w4 ⟨⟨W4,f⟩,rfl⟩
              have o:=Za (Below.on r.out f)
              clear y A E C S U Y a1 fa fb g f
              go_wp2_with fail
              go_ret
              exact ⟨by rw [F.out];rfl,Below.on v.out o.out⟩
            ·have T:¬ (j:Int)<N:=by omega
             have h5:Hid (a.ends=b.ends):=Zfa H.out (by have:=h.out.2.2.1;omega) (by have:=h.out.2.2.2.2.2.2.1;omega)
             have c8:=Za r.out
             have j0:=Za k.out
             clear H r k g4
             have f5:=(P.out.keep c8.out).c5
             go_wp2_with fail
             clear f5
             go_loopw [8] (fun i wr=>∃ (j:Nat),j<=L/\i=.int .i64 j/\a.keys.take j=b.keys.take j/\Below W2.heap.size W2 wr) (fun i _=>L - (intOf i).toNat)
             case atStart=>exact ⟨0,Nat.zero_le _,rfl,rfl,c8.out⟩
             case round =>
              obtain ⟨j,hj,rfl,X,t⟩:=hrel
              have H:=Za X
              have r:=Za t
              have k:=Za (Below.on v.out t)
              have f5:=(P.out.keep t).c5
              have g5:=(R.out.keep t).c5
              clear c8
              clear X t
              by_cases hlt:j<L
              ·have T:(j:Int)<L:=by omega
               obtain ⟨⟨x0,x1,x2,x3⟩,I⟩:∃ q,a.keys[j]?=some q:=⟨_,List.getElem?_eq_getElem (by have:=h.out.2.2.2.1;omega)⟩
               obtain ⟨⟨y0,y1,y2,y3⟩,K⟩:∃ q,b.keys[j]?=some q:=⟨_,List.getElem?_eq_getElem (by have:=h.out.2.2.2.2.2.2.2;omega)⟩
               obtain ⟨_,_,ea,_,_,V⟩:=a2.out.hk
               obtain ⟨_,_,eb,_,_,a0⟩:=a3.out.hk
               injection ea with ea1 ea2 ea3
               injection eb with eb1 eb2 eb3
               subst ea1 ea3 eb1 eb3
               obtain ⟨bl,off,rfl,G,hc⟩:=V.resolve_left (by intro e;rw [e] at I;simp at I)
               obtain ⟨m,c,rfl,s,z⟩:=a0.resolve_left (by intro e;rw [e] at K;simp at K)
               have c0:=(k.out.cell (p:=⟨bl,off+j*4+0,none⟩) (Nat.lt_of_lt_of_le G hB)).trans (hc j _ I 0 _ rfl)
               have d0:=(k.out.cell (p:=⟨m,c+j*4+0,none⟩) (Nat.lt_of_lt_of_le s hB)).trans (z j _ K 0 _ rfl)
               have c1:=(k.out.cell (p:=⟨bl,off+j*4+1,none⟩) (Nat.lt_of_lt_of_le G hB)).trans (hc j _ I 1 _ rfl)
               have d1:=(k.out.cell (p:=⟨m,c+j*4+1,none⟩) (Nat.lt_of_lt_of_le s hB)).trans (z j _ K 1 _ rfl)
               have c2:=(k.out.cell (p:=⟨bl,off+j*4+2,none⟩) (Nat.lt_of_lt_of_le G hB)).trans (hc j _ I 2 _ rfl)
               have d2:=(k.out.cell (p:=⟨m,c+j*4+2,none⟩) (Nat.lt_of_lt_of_le s hB)).trans (z j _ K 2 _ rfl)
               have c3:=(k.out.cell (p:=⟨bl,off+j*4+3,none⟩) (Nat.lt_of_lt_of_le G hB)).trans (hc j _ I 3 _ rfl)
               have d3:=(k.out.cell (p:=⟨m,c+j*4+3,none⟩) (Nat.lt_of_lt_of_le s hB)).trans (z j _ K 3 _ rfl)
               rw [Nat.add_zero] at c0 d0
               simp only at c0 d0 c1 d1 c2 d2 c3 d3
               have y:∀ u:Up wr,u.x.cell? ⟨bl,off+j*4,none⟩=some (.string x0):=fun u=>u.cell c0
               have A:∀ u:Up wr,u.x.cell? ⟨m,c+j*4,none⟩=some (.string y0):=fun u=>u.cell d0
               have E:∀ u:Up wr,u.x.cell? ⟨bl,off+j*4+1,none⟩=some (.string x1):=fun u=>u.cell c1
               have C:∀ u:Up wr,u.x.cell? ⟨m,c+j*4+1,none⟩=some (.string y1):=fun u=>u.cell d1
               have S:∀ u:Up wr,u.x.cell? ⟨bl,off+j*4+2,none⟩=some (.int .i64 x2):=fun u=>u.cell c2
               have U:∀ u:Up wr,u.x.cell? ⟨m,c+j*4+2,none⟩=some (.int .i64 y2):=fun u=>u.cell d2
               have Y:∀ u:Up wr,u.x.cell? ⟨bl,off+j*4+3,none⟩=some (.int .i64 x3):=fun u=>u.cell c3
               have a1:∀ u:Up wr,u.x.cell? ⟨m,c+j*4+3,none⟩=some (.int .i64 y3):=fun u=>u.cell d3
               have fa:∀ u:Up wr,u.x.cell? ⟨w.heap.size,5,none⟩=some (.slice (some ⟨bl,off,none⟩) L d6):=fun u=>u.cell f5
               have fb:∀ u:Up wr,u.x.cell? ⟨w.heap.size+1,5,none⟩=some (.slice (some ⟨m,c,none⟩) L e6):=fun u=>u.cell g5
               have g:Nonempty (Up wr):=⟨⟨wr,Below.refl _ _⟩⟩
               have l:=Za (And.intro I K)
               clear I K hc z V a0 c0 d0 c1 d1 c2 d2 c3 d3
               by_cases e0:x0=y0
               ·subst e0
                have b0:=Zec (rfl:x0=x0)
                by_cases e1:x1=y1
                ·subst e1
                 have b1:=Zec (rfl:x1=x1)
                 by_cases e2:x2=y2
                 ·subst e2
                  have b2:(x2==x2)=true:=beq_self_eq_true _
                  by_cases e3:x3=y3
                  ·subst e3
                   have b3:(x3==x3)=true:=beq_self_eq_true _
                   have HS:=Za (Zd4 H.out l.out.1 l.out.2 rfl)
                   go_upto_region 21 with fail
                   clear f5 g5
                   refine Zed (by kernel_rfl) (by kernel_rfl) ?_
                   repeat (go_big_quiet_step (fail))
                   refine wpQuiet_nil ?_
                   rintro w4 ⟨⟨W4,f⟩,rfl⟩
                   have o:=Za (Below.on r.out f)
                   clear y A E C S U Y a1 fa fb g f
                   go_wp2_with fail
                   go_roundw
                   case rel=>exact ⟨j+1,by omega,by go_num,HS.out,o.out⟩
                   case measure=>simp [intOf];omega
                  ·have b3:(x3==y3)=false:=beq_eq_false_iff_ne.2 e3
                   have d:a.keys≠b.keys:=Zj7 l.out.1 l.out.2 fun e=>e3 (by injections)
                   have F:Hid (D=false):=by
                    show _=_
                    rw [<- HD.out]
                    unfold Zdt
                    rw [decide_eq_false d];simp
                   clear e3 d
                   go_upto_region 21 with fail
                   clear f5 g5
                   refine Zed (by kernel_rfl) (by kernel_rfl) ?_
                   repeat (go_big_quiet_step (fail))
                   refine wpQuiet_nil ?_
                   rintro w4 ⟨⟨W4,f⟩,rfl⟩
                   have o:=Za (Below.on r.out f)
                   clear y A E C S U Y a1 fa fb g f
                   go_wp2_with fail
                   go_ret
                   exact ⟨by rw [F.out];rfl,Below.on v.out o.out⟩
                 ·have b2:(x2==y2)=false:=beq_eq_false_iff_ne.2 e2
                  have d:a.keys≠b.keys:=Zj7 l.out.1 l.out.2 fun e=>e2 (by injections)
                  have F:Hid (D=false):=by
                   show _=_
                   rw [<- HD.out]
                   unfold Zdt
                   rw [decide_eq_false d];simp
                  clear e2 d
                  go_upto_region 21 with fail
                  clear f5 g5
                  refine Zed (by kernel_rfl) (by kernel_rfl) ?_
                  repeat (go_big_quiet_step (fail))
                  refine wpQuiet_nil ?_
                  rintro w4 ⟨⟨W4,f⟩,rfl⟩
                  have o:=Za (Below.on r.out f)
                  clear y A E C S U Y a1 fa fb g f
                  go_wp2_with fail
                  go_ret
                  exact ⟨by rw [F.out];rfl,Below.on v.out o.out⟩
                ·have b1:=Zfz e1
                 have d:a.keys≠b.keys:=Zj7 l.out.1 l.out.2 fun e=>e1 (by injections)
                 have F:Hid (D=false):=by
                  show _=_
                  rw [<- HD.out]
                  unfold Zdt
                  rw [decide_eq_false d];simp
                 clear e1 d
                 go_upto_region 21 with fail
                 clear f5 g5
                 refine Zed (by kernel_rfl) (by kernel_rfl) ?_
                 repeat (go_big_quiet_step (fail))
                 refine wpQuiet_nil ?_
                 rintro w4 ⟨⟨W4,f⟩,rfl⟩
                 have o:=Za (Below.on r.out f)
                 clear y A E C S U Y a1 fa fb g f
                 go_wp2_with fail
                 go_ret
                 exact ⟨by rw [F.out];rfl,Below.on v.out o.out⟩
               ·have b0:=Zfz e0
                have d:a.keys≠b.keys:=Zj7 l.out.1 l.out.2 fun e=>e0 (by injections)
                have F:Hid (D=false):=by
                 show _=_
                 rw [<- HD.out]
                 unfold Zdt
                 rw [decide_eq_false d];simp
                clear e0 d
                go_upto_region 21 with fail
                clear f5 g5
                refine Zed (by kernel_rfl) (by kernel_rfl) ?_
                repeat (go_big_quiet_step (fail))
                refine wpQuiet_nil ?_
                rintro w4 ⟨⟨W4,f⟩,rfl⟩
                have o:=Za (Below.on r.out f)
                clear y A E C S U Y a1 fa fb g f
                go_wp2_with fail
                go_ret
                exact ⟨by rw [F.out];rfl,Below.on v.out o.out⟩
              ·have T:¬ (j:Int)<L:=by omega
               have h7:Hid (a.keys=b.keys):=Zfa H.out (by have:=h.out.2.2.2.1;omega) (by have:=h.out.2.2.2.2.2.2.2;omega)
               have i9:=Za r.out
               have h9:=Za k.out
               clear H r k g5
               have F:Hid (D=true):=by
                show _=_
                rw [<- HD.out]
                unfold Zdt
                rw [Q.out.1,Q.out.2.1,Q.out.2.2.1,Q.out.2.2.2,h6.out,h4.out,h5.out,h7.out]
                simp
               go_wp2_with fail
               go_ret
               exact ⟨by rw [F.out];rfl,h9.out⟩
      ·have bk:((L:Int)==a4)=false:=beq_eq_false_iff_ne.2 (by omega)
       have k8:((L:Int) != a4)=true:=bne_iff_ne.2 (by omega)
       have d:a.keys≠b.keys:=fun e=>ek (by rw [<- h.out.2.2.2.1,<- h.out.2.2.2.2.2.2.2,e])
       have F:Hid (D=false):=by
        show _=_
        rw [<- HD.out]
        unfold Zdt
        rw [decide_eq_false d];simp
       clear d
       have k4:¬ (L:Int)=a4:=by omega
       go_wp2_with fail
       all_goals first | (go_ret;exact ⟨by rw [F.out];rfl,v.out⟩) | (exfalso;simp_all;done) | (exfalso;omega)
     ·have be:((N:Int)==a7)=false:=beq_eq_false_iff_ne.2 (by omega)
      have k0:((N:Int) != a7)=true:=bne_iff_ne.2 (by omega)
      have d:a.ends≠b.ends:=fun e=>ee (by rw [<- h.out.2.2.1,<- h.out.2.2.2.2.2.2.1,e])
      have F:Hid (D=false):=by
       show _=_
       rw [<- HD.out]
       unfold Zdt
       rw [decide_eq_false d];simp
      clear d
      have j5:¬ (N:Int)=a7:=by omega
      go_wp2_with fail
      all_goals first | (go_ret;exact ⟨by rw [F.out];rfl,v.out⟩) | (exfalso;simp_all;done) | (exfalso;omega)
    ·have bt:((O:Int)==a6)=false:=beq_eq_false_iff_ne.2 (by omega)
     have k5:((O:Int) != a6)=true:=bne_iff_ne.2 (by omega)
     have d:a.types≠b.types:=fun e=>et (by rw [<- h.out.2.1,<- h.out.2.2.2.2.2.1,e])
     have F:Hid (D=false):=by
      show _=_
      rw [<- HD.out]
      unfold Zdt
      rw [decide_eq_false d];simp
     clear d
     have j8:¬ (O:Int)=a6:=by omega
     go_wp2_with fail
     all_goals first | (go_ret;exact ⟨by rw [F.out];rfl,v.out⟩) | (exfalso;simp_all;done) | (exfalso;omega)
   ·have bl:((M:Int)==a5)=false:=beq_eq_false_iff_ne.2 (by omega)
    have k1:((M:Int) != a5)=true:=bne_iff_ne.2 (by omega)
    have d:a.labels≠b.labels:=fun e=>el (by rw [<- h.out.1,<- h.out.2.2.2.2.1,e])
    have F:Hid (D=false):=by
     show _=_
     rw [<- HD.out]
     unfold Zdt
     rw [decide_eq_false d];simp
    clear d
    have j4:¬ (M:Int)=a5:=by omega
    go_wp2_with fail
    all_goals first | (go_ret;exact ⟨by rw [F.out];rfl,v.out⟩) | (exfalso;simp_all;done) | (exfalso;omega)
  ·have br:(pr==qr)=false:=beq_eq_false_iff_ne.2 er
   have j6:(pr != qr)=true:=bne_iff_ne.2 er
   have F:Hid (D=false):=by
    show _=_
    rw [<- HD.out]
    unfold Zdt
    rw [Q.out.1,Q.out.2.1,Q.out.2.2.1,Q.out.2.2.2,decide_eq_false er];simp
   go_wp2_with fail
   all_goals first | (go_ret;exact ⟨by rw [F.out];rfl,v.out⟩) | (exfalso;simp_all;done) | (exfalso;omega)
 ·have bn:(pn==qn)=false:=beq_eq_false_iff_ne.2 en
  have k2:(pn != qn)=true:=bne_iff_ne.2 en
  have F:Hid (D=false):=by
   show _=_
   rw [<- HD.out]
   unfold Zdt
   rw [Q.out.1,Q.out.2.1,Q.out.2.2.1,Q.out.2.2.2,decide_eq_false en];simp
  go_wp2_with fail
  all_goals first | (go_ret;exact ⟨by rw [F.out];rfl,v.out⟩) | (exfalso;simp_all;done) | (exfalso;omega)
end Go.Proofs.YthfilnflgahcjaaGreatDoor
