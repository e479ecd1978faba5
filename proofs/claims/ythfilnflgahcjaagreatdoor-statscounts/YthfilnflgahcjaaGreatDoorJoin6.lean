/- The first row of each key. Something of each row. What is reckoned from counts: relationships that begin or end at labels. -/
import Derived.Test.YthfilnflgahcjaaGreatDoorJoin4
import Derived.Deep.Cut
import Derived.Test.YthfilnflgahcjaaGreatDoorJoin5
namespace Go.Proofs.YthfilnflgahcjaaGreatDoor
open Go.RowKit Go.Shelf Go.Maps
set_option linter.all false
attribute [local go_sem] Oper.semAt_some
set_option maxRecDepth 100000 in
set_option maxHeartbeats 4000000 in
theorem Ja7 (b:List (Zae)) (keys:List (Zae)) (vr vk:Value) (B:Nat) (w:World) (hB:B<=w.heap.size) (hr:Zal 4 Zc7 B w vr b) (hk:Zal 4 Zc7 B w vk keys) (b1:∀ x ∈ b,okE x) (b3:∀ x ∈ keys,okE x) (f1:b.length<=900000) (f4:keys.length<=100000) :
  Calls Tryz.prog 110 #[vr,.func (.func 108) #[] #[],vk] w fun e w'=>∃ v,e=.returned v/\Jb 64 4 Zc7 w.heap.size w' v (Ji Zhz (⟨#[]⟩,⟨#[]⟩,false,0) b keys)/\Below w.heap.size w w':=by
 obtain ⟨ra,rc,rfl,r1,r2,r3⟩:=hr
 obtain ⟨ka,kc,rfl,k1,k2,k3⟩:=hk
 have e0:=Za r3
 have f6:=Za k3
 have g5:=Za b1
 have f0:=Za b3
 obtain ⟨m,hm⟩:∃ n,b.length=n:=⟨_,rfl⟩
 obtain ⟨n,hn⟩:∃ n,keys.length=n:=⟨_,rfl⟩
 have HM:=Za hm
 have HN:=Za hn
 rw [hm] at r1 f1 |-
 rw [hn] at k1 f4 |-
 clear r3 k3 b1 b3 hm hn
 have g6:∀ W:World,(Instr.makeMap 200 none).run Tryz.prog W=.ok (.map (some W.heap.size)) (W.alloc (.map #[] 0)):=fun W=>rfl
 go_enter Tryz.func110,Tryz.ntmps110
 go_wp2_with fail
 go_loopw [18] (fun i wr=>∃ j:Nat,j<=n/\i=.int .i64 j/\w.heap.size+1<=wr.heap.size/\Below w.heap.size w wr/\MS Zhc okE wr w.heap.size ((keys.take j).foldl Zhs [])) (fun i _=>n - (intOf i).toNat)
 case atStart=>exact ⟨0,Nat.zero_le _,rfl,by simp,(Below.refl _ _).alloc (Nat.le_refl _) _,Zc9 _⟩
 case round =>
  obtain ⟨j,hj,rfl,K,N,M⟩:=hrel
  have y:=Za N
  have S:=Za M
  have c9:=Za K
  clear N M K
  by_cases hlt:j<n
  ·have G:(j:Int)<n:=by omega
   obtain ⟨⟨s,t,p,q⟩,k⟩:∃ q,keys[j]?=some q:=⟨_,List.getElem?_eq_getElem (by have:=HN.out;omega)⟩
   obtain ⟨bl,off,rfl,e7,F⟩:=f6.out.resolve_left (by intro e;rw [e] at k;simp at k)
   have c6:=(y.out.cell (p:=⟨bl,off+j*4+0,none⟩) (show bl<w.heap.size by omega)).trans (F j (s,t,p,q) k 0 _ rfl)
   have e8:=(y.out.cell (p:=⟨bl,off+j*4+1,none⟩) (show bl<w.heap.size by omega)).trans (F j (s,t,p,q) k 1 _ rfl)
   have e6:=(y.out.cell (p:=⟨bl,off+j*4+2,none⟩) (show bl<w.heap.size by omega)).trans (F j (s,t,p,q) k 2 _ rfl)
   have e9:=(y.out.cell (p:=⟨bl,off+j*4+3,none⟩) (show bl<w.heap.size by omega)).trans (F j (s,t,p,q) k 3 _ rfl)
   rw [Nat.add_zero] at c6
   simp only at c6 e8 e6 e9
   have HX:=Za k
   have r:Below wr.heap.size wr (wr.alloc (.cells #[.string s,.string t,.bool p,.int .i64 q] 64)):=(Below.refl _ _).alloc (Nat.le_refl _) _
   have a0:(wr.alloc (.cells #[.string s,.string t,.bool p,.int .i64 q] 64)).heap.size=wr.heap.size+1:=by simp
   have f7:=Za r
   have f9:=Za a0
   obtain ⟨W,q1,q2,q3,q4,q5⟩:=Zuc Jfh Zpy (S.out.block (r.block _ S.out.lt)) (Zbo _ _ List.nodup_nil) (s,t,p,q) (f0.out _ (List.mem_of_getElem? k))
   simp only [Zhc] at q1
   have HQ:=Za (And.intro q2 (And.intro q3 q5))
   clear k F q2 q3 q4 q5 r a0
   go_wp2_with fail
   go_roundw
   case rel=>exact ⟨j+1,by omega,by go_num,by have:=c9.out;have:=HQ.out.2.1;have:=f9.out;omega,(y.out.trans (f7.out.mono y.out.size)).trans HQ.out.2.2,by rw [Znp HX.out];exact HQ.out.1⟩
   case measure=>simp [intOf];omega
  ·have G:¬ (j:Int)<n:=by omega
   have HL:=S.out
   rw [List.take_of_length_le (by have:=HN.out;omega)] at HL
   obtain ⟨W0,f8⟩:∃ W0,W0=wr:=⟨_,rfl⟩
   subst f8
   obtain ⟨K0,C⟩:∃ l,keys.foldl Zhs []=l:=⟨_,rfl⟩
   have f3:Hid (K0.Nodup):=by show _;rw [<- C];exact Zbo _ _ List.nodup_nil
   have e5:Hid (K0.length<=100000):=by
    have:=Zex keys ([]:List (Zae))
    rw [C] at this
    have h2:=HN.out
    show K0.length<=100000
    simp only [List.length_nil] at this;omega
   have d6:Hid (Ji Zhz (⟨#[]⟩,⟨#[]⟩,false,0) b keys=(Zy Zhz b K0).1++List.replicate (Zy Zhz b K0).2.length (⟨#[]⟩,⟨#[]⟩,false,0)):=by
    show _=_
    unfold Ji
    rw [C]
   rw [C] at HL
   have HL:=Za HL
   clear C S
   have b7:Hid (∀ (W:World) (v:Value) (out:List (Zae)) (left:List (Zae)),Below w.heap.size w W->w.heap.size+1<=W.heap.size->Jb 64 4 Zc7 (w.heap.size+1) W v out->out.length+left.length<=100000->∃ v' W',(Builtin.append_ #[30,3] 30 #[v,.int .i64 left.length]).run Tryz.prog W=.ok v' W'/\Jb 64 4 Zc7 w.heap.size W' v' (out++List.replicate left.length (⟨#[]⟩,⟨#[]⟩,false,0))/\Below w.heap.size w W'):=by
    intro W v out left hb hs ho hl
    obtain ⟨v',W',p1,p2,p3⟩:=Zd8 (ty:=30) (tn:=3) (x:=((⟨#[]⟩,⟨#[]⟩,false,0):Zae)) (m:=left.length) Zpz Tryz.underlying3 (fun x=>rfl) Zla rfl ho (by omega) hs
    exact ⟨v',W',p1,p2.base (by omega),hb.trans (p3.mono (by omega))⟩
   go_wp2_with fail
   go_loopw [10,28] (fun v i wr=>∃ (j:Nat) (out:List (Zae)) (left:List (Zae)),j<=m/\i=.int .i64 j/\w.heap.size+1<=wr.heap.size/\Below w.heap.size w wr/\MS Zhc okE wr w.heap.size left/\left.Nodup/\Jb 64 4 Zc7 (w.heap.size+1) wr v out/\out.length+left.length<=100000/\out++(Zy Zhz (b.drop j) left).1=(Zy Zhz b K0).1/\(Zy Zhz (b.drop j) left).2=(Zy Zhz b K0).2) (fun _ i _=>m - (intOf i).toNat)
   case atStart=>exact ⟨0,[],K0,Nat.zero_le _,rfl,c9.out,y.out,HL.out,f3.out,Jo _ _ _ _ _,by have:=e5.out;simpa using this,rfl,rfl⟩
   case round =>
    obtain ⟨j,out,left,hj,rfl,K,N,M,b5,d7,b6,e1,e2⟩:=hrel
    have o:=Za N
    have a1:=Za M
    have b0:=Za d7
    have a8:=Za b5
    have b4:=Za K
    have L:=Za b6
    have HE:=Za (And.intro e1 e2)
    clear N M d7 b5 K b6 e1 e2
    by_cases hlt:j<m
    ·have G:(j:Int)<m:=by omega
     obtain ⟨⟨s,t,p,q⟩,k⟩:∃ q,b[j]?=some q:=⟨_,List.getElem?_eq_getElem (by have:=HM.out;omega)⟩
     obtain ⟨bl,off,rfl,e7,F⟩:=e0.out.resolve_left (by intro e;rw [e] at k;simp at k)
     have c0:=(o.out.cell (p:=⟨bl,off+j*4+0,none⟩) (show bl<w.heap.size by omega)).trans (F j (s,t,p,q) k 0 _ rfl)
     have c1:=(o.out.cell (p:=⟨bl,off+j*4+1,none⟩) (show bl<w.heap.size by omega)).trans (F j (s,t,p,q) k 1 _ rfl)
     have c2:=(o.out.cell (p:=⟨bl,off+j*4+2,none⟩) (show bl<w.heap.size by omega)).trans (F j (s,t,p,q) k 2 _ rfl)
     have c3:=(o.out.cell (p:=⟨bl,off+j*4+3,none⟩) (show bl<w.heap.size by omega)).trans (F j (s,t,p,q) k 3 _ rfl)
     rw [Nat.add_zero] at c0
     simp only at c0 c1 c2 c3
     have HX:=Za k
     clear k F
     go_upto_region 11 with fail
     have g0:(wr.alloc (.cells #[.string s,.string t,.bool p,.int .i64 q] 64)).cell? ⟨wr.heap.size,0,none⟩=some _:=Zh _ _ _ _ _ rfl
     have g1:(wr.alloc (.cells #[.string s,.string t,.bool p,.int .i64 q] 64)).cell? ⟨wr.heap.size,1,none⟩=some _:=Zh _ _ _ _ _ rfl
     have g2:(wr.alloc (.cells #[.string s,.string t,.bool p,.int .i64 q] 64)).cell? ⟨wr.heap.size,2,none⟩=some _:=Zh _ _ _ _ _ rfl
     have g3:(wr.alloc (.cells #[.string s,.string t,.bool p,.int .i64 q] 64)).cell? ⟨wr.heap.size,3,none⟩=some _:=Zh _ _ _ _ _ rfl
     have D:Below wr.heap.size wr (wr.alloc (.cells #[.string s,.string t,.bool p,.int .i64 q] 64)):=(Below.refl _ _).alloc (Nat.le_refl _) _
     obtain ⟨W1,a2⟩:∃ W,wr.alloc (.cells #[.string s,.string t,.bool p,.int .i64 q] 64)=W:=⟨_,rfl⟩
     have a3:wr.heap.size<W1.heap.size:=by rw [<- a2];simp
     rw [a2] at g0 g1 g2 g3 D |-
     clear a2 c0 c1 c2 c3
     have I:Hid (MS Zhc okE W1 w.heap.size left):=a1.out.block (D.block _ a1.out.lt)
     have d8:Hid (Jb 64 4 Zc7 (w.heap.size+1) W1 _ out):=b0.out.below D
     have a6:=Za (o.out.trans (D.mono o.out.size))
     have T:=Za a3
     obtain ⟨X,hX⟩:∃ X,wr.heap.size=X:=⟨_,rfl⟩
     rw [hX] at g0 g1 g2 g3 a3 T |-
     have Q:Hid (w.heap.size+1<=X):=by show _<=_;rw [<- hX];exact b4.out
     clear D hX a3
     have H:=Zjw (ty:=3) Zpy I.out
     by_cases hl0:left=[]
     ·subst hl0
      simp only [List.length_nil] at H
      obtain ⟨v',W',p1,p2,p3⟩:=b7.out W1 _ out [] a6.out (by have:=Q.out;have:=T.out;omega) d8.out L.out
      simp only [List.length_nil,Int.ofNat_zero] at p1
      have HP:=Za (And.intro p2 p3)
      clear p2 p3
      go_wp2_with (at_builtin;refine Lib.wpList_append_run _ rfl _ _ _ _ rfl _ _ rfl rfl _ _ p1 ?_)
      go_ret
      refine ⟨_,rfl,?_,HP.out.2⟩
      have R:=HE.out
      rw [Zcz] at R
      rw [d6.out,<- R.1,<- R.2]
      simpa using HP.out.1
     ·have c8:(left.length:Int)≠0:=by
       have:left.length≠0:=fun e=>hl0 (List.eq_nil_of_length_eq_zero e)
       omega
      have h0:((left.length:Int)==0)=false:=beq_eq_false_iff_ne.2 c8
      have a7:=Za hl0
      clear hl0 c8
      have a9:Hid (okE (Zhz (s,t,p,q))):=(fun h=>⟨h.1,h.2.1,Zcg⟩:okE (s,t,p,q)->okE (Zhz (s,t,p,q))) (g5.out _ (List.mem_of_getElem? HX.out))
      obtain ⟨z,hz⟩:∃ z:Bool,(z=true↔(Zhz (s,t,p,q)) ∈ left):=by
       by_cases h:(Zhz (s,t,p,q)) ∈ left
       ·exact ⟨true,by simp [h]⟩
       ·exact ⟨false,by simp [h]⟩
      have HZ:=Za hz
      clear hz
      go_upto_region 13 with (go_at_call 108;refine (Ztk s t p q _).mono ?_;rintro e W2 ⟨rfl,U⟩;have c4:=Zkl Jfh Zpy Zn9 (I.out.block (U.block _ I.out.lt)) (Zhz (s,t,p,q)) a9.out z HZ.out;simp only [Zhc,Zhz] at c4;have c7:=Za U;have Y:=U.size;clear U)
      clear c4 H
      have f:Below W1.heap.size W1 (W2.alloc (.cells #[] 164)):=c7.out.alloc Y _
      have b2:W2.heap.size<(W2.alloc (.cells #[] 164)).heap.size:=by simp
      obtain ⟨W3,d0⟩:∃ W,W2.alloc (.cells #[] 164)=W:=⟨_,rfl⟩
      rw [d0] at f b2 |-
      have E:X<W1.heap.size:=T.out
      have V:X<W3.heap.size:=by omega
      have g4:=(f.cell (p:=⟨X,0,none⟩) E).trans g0
      have f2:=(f.cell (p:=⟨X,1,none⟩) E).trans g1
      have f5:=(f.cell (p:=⟨X,2,none⟩) E).trans g2
      have e4:=(f.cell (p:=⟨X,3,none⟩) E).trans g3
      have a5:Hid (MS Zhc okE W3 w.heap.size left):=I.out.block (f.block _ I.out.lt)
      have c5:Hid (Jb 64 4 Zc7 (w.heap.size+1) W3 _ out):=d8.out.below f
      have a4:Hid (Below w.heap.size w W3):=a6.out.trans (f.mono (by have:=a6.out.size;omega))
      have A:=Za V
      clear d0 f b2 Y c7 T E V g0 g1 g2 g3
      cases z with
      | true =>
       have hm:(Zhz (s,t,p,q)) ∈ left:=HZ.out.1 rfl
       go_upto_region 15 with (go_at_call 108;refine (Ztk s t p q _).mono ?_;rintro e W4 ⟨rfl,d⟩;obtain ⟨W5,d1,d2,d3,P,d5⟩:=Zue (ty:=0) Jfh Zpy (a5.out.block (d.block _ a5.out.lt)) a8.out (Zhz (s,t,p,q)) a9.out hm;simp only [Zhc,Zhz] at d1;have HD:=Za (And.intro d (And.intro d2 (And.intro d3 (And.intro P d5))));clear d d2 d3 P d5)
       obtain ⟨d,d2,d3,P,d5⟩:=HD.out
       have e3:X<W4.heap.size:=Nat.lt_of_lt_of_le A.out d.size
       have O:X≠w.heap.size:=by have:=Q.out;omega
       have g7:=((World.cell?_of_block (w:=W4) (a:=⟨X,0,none⟩) (P X O)).trans (d.cell (p:=⟨X,0,none⟩) A.out)).trans g4
       have g8:=((World.cell?_of_block (w:=W4) (a:=⟨X,1,none⟩) (P X O)).trans (d.cell (p:=⟨X,1,none⟩) A.out)).trans f2
       have k12:=((World.cell?_of_block (w:=W4) (a:=⟨X,2,none⟩) (P X O)).trans (d.cell (p:=⟨X,2,none⟩) A.out)).trans f5
       have g9:=((World.cell?_of_block (w:=W4) (a:=⟨X,3,none⟩) (P X O)).trans (d.cell (p:=⟨X,3,none⟩) A.out)).trans e4
       have d9:Jb 64 4 Zc7 (w.heap.size+1) W5 _ out:=(c5.out.below d).keep fun g hg _=>P g (by omega)
       have b9:w.heap.size+1<=W5.heap.size:=by have:=Q.out;omega
       have b8:Below w.heap.size w W5:=(a4.out.trans (d.mono a4.out.size)).trans (d5.mono (Nat.le_refl _))
       obtain ⟨v6,W6,p1,p2,p3,p4⟩:=Jd (ty:=30) (c:=1) (bl:=W5.heap.size) (off:=0) (x:=(s,t,p,q)) Zpz (fun x=>rfl) Zla (d9.below ((Below.refl _ _).alloc (Nat.le_refl _) (.cells #[.string s,.string t,.bool p,.int .i64 q] 64))) (fun jj u hu=>by
        rw [Nat.zero_add]
        exact Zh _ _ _ _ _ (by simpa [Zc7] using hu)) (by have:=L.out;omega) (by simp;omega)
       have HP:=Za (And.intro p2 (And.intro p3 (And.intro b8 (And.intro d2 b9))))
       clear d d2 d3 P d5 HD p2 p3 p4 b8 b9 d9 e3 O
       go_wp2_with (at_builtin;refine Lib.wpList_append_run _ rfl _ _ _ _ rfl _ _ rfl rfl _ _ p1 ?_)
       go_roundw
       case rel =>
        obtain ⟨p2,p3,p5,p6,p7⟩:=HP.out
        have r:Below W5.heap.size W5 (W5.alloc (.cells #[.string s,.string t,.bool p,.int .i64 q] 64)):=(Below.refl _ _).alloc (Nat.le_refl _) _
        have p8:=p6.block ((p3.block _ (by omega)).trans (r.block _ (by omega)))
        have hh:=Zew (key:=Zhz) HX.out a7.out hm
        have hE:=HE.out
        rw [hh] at hE
        refine ⟨j+1,out++[(s,t,p,q)],Zl8 (Zhz (s,t,p,q)) left,by omega,by go_num,?_,(p5.trans (r.mono (by omega))).trans (p3.mono (by omega)),p8,Zg2 a8.out _,p2,?_,?_,hE.2⟩
        ·have:=p3.size;have:=r.size;omega
        ·have R:=L.out
         have h2:=Zg3 hm
         simp only [List.length_append,List.length_cons,List.length_nil];omega
        ·rw [<- hE.1];simp
       case measure=>simp [intOf];omega
      | false =>
       have hm:¬ (Zhz (s,t,p,q)) ∈ left:=fun h=>by have:=HZ.out.2 h;cases this
       go_wp2_with fail
       go_roundw
       case rel=>exact ⟨j+1,out,left,by omega,by go_num,by have:=Q.out;have:=A.out;omega,a4.out,a5.out,a8.out,c5.out,L.out,by rw [<- Za5 HX.out a7.out hm];exact HE.out.1,by rw [<- Za5 HX.out a7.out hm];exact HE.out.2⟩
       case measure=>simp [intOf];omega
    ·have G:¬ (j:Int)<m:=by omega
     have H:=Zjw (ty:=3) Zpy a1.out
     obtain ⟨v',W',p1,p2,p3⟩:=b7.out wr _ out left o.out b4.out b0.out L.out
     have HP:=Za (And.intro p2 p3)
     clear p2 p3
     go_wp2_with (at_builtin;refine Lib.wpList_append_run _ rfl _ _ _ _ rfl _ _ rfl rfl _ _ p1 ?_)
     go_ret
     refine ⟨_,rfl,?_,HP.out.2⟩
     have R:=HE.out
     rw [List.drop_of_length_le (by have:=HM.out;omega)] at R
     simp only [Zy,List.append_nil] at R
     rw [d6.out,<- R.1,<- R.2]
     exact HP.out.1
end Go.Proofs.YthfilnflgahcjaaGreatDoor

namespace Go.Proofs.YthfilnflgahcjaaGreatDoor
open Go.RowKit Go.Shelf Go.Maps
set_option linter.all false
attribute [local go_sem] Oper.semAt_some
set_option maxRecDepth 100000 in
set_option maxHeartbeats 4000000 in
theorem Jb9 (a:List (Zae)) (E:Value) (B:Nat) (w:World) (hB:B<=w.heap.size) (hr:Zal 4 Zc7 B w E a) (A:a.length<=100000) :
  Calls Tryz.prog 109 #[E,.func (.func 111) #[] #[]] w fun e w'=>∃ v,e=.returned v/\Jb 2 1 Zkk w.heap.size w' v (a.map (fun x:Zae=>x.2.2.2))/\Below w.heap.size w w':=by
 obtain ⟨ra,rc,rfl,O,r2,H⟩:=hr
 have z:=Za H
 obtain ⟨m,hm⟩:∃ n,a.length=n:=⟨_,rfl⟩
 have F:=Za hm
 rw [hm] at O A |-
 clear H hm
 go_enter Tryz.func109,Tryz.ntmps109
 go_wp2_with fail
 go_loopw [5,10] (fun v i wr=>∃ j:Nat,j<=m/\i=.int .i64 j/\Below w.heap.size w wr/\Jb 2 1 Zkk w.heap.size wr v ((a.take j).map (fun x:Zae=>x.2.2.2))) (fun _ i _=>m - (intOf i).toNat)
 case atStart=>exact ⟨0,Nat.zero_le _,rfl,Below.refl _ _,Jo _ _ _ _ _⟩
 case round =>
  obtain ⟨j,S,rfl,o,h⟩:=hrel
  have b:=Za o
  have k:=Za h
  clear o h
  by_cases hlt:j<m
  ·have l:(j:Int)<m:=by omega
   obtain ⟨⟨s,t,p,q⟩,f⟩:∃ q,a[j]?=some q:=⟨_,List.getElem?_eq_getElem (by have:=F.out;omega)⟩
   obtain ⟨bl,off,rfl,Q,g⟩:=z.out.resolve_left (by intro e;rw [e] at f;simp at f)
   have c0:=(b.out.cell (p:=⟨bl,off+j*4+0,none⟩) (show bl<w.heap.size by omega)).trans (g j (s,t,p,q) f 0 _ rfl)
   have c1:=(b.out.cell (p:=⟨bl,off+j*4+1,none⟩) (show bl<w.heap.size by omega)).trans (g j (s,t,p,q) f 1 _ rfl)
   have c2:=(b.out.cell (p:=⟨bl,off+j*4+2,none⟩) (show bl<w.heap.size by omega)).trans (g j (s,t,p,q) f 2 _ rfl)
   have c3:=(b.out.cell (p:=⟨bl,off+j*4+3,none⟩) (show bl<w.heap.size by omega)).trans (g j (s,t,p,q) f 3 _ rfl)
   rw [Nat.add_zero] at c0
   simp only at c0 c1 c2 c3
   have P:=Za f
   clear f g
   have y:Hid (Below wr.heap.size wr (wr.alloc (.cells #[.string s,.string t,.bool p,.int .i64 q] 64))):=(Below.refl _ _).alloc (Nat.le_refl _) _
   go_wp2_with (first
    | (go_at_call 111;refine (Jaj s t p q _).mono ?_;rintro e C ⟨rfl,d⟩
       have I:w.heap.size<=C.heap.size:=Nat.le_trans b.out.size (Nat.le_trans y.out.size d.size)
       obtain ⟨T,U,p1,p2,p3,L⟩:=Jd (ty:=44) (c:=1) (bl:=C.heap.size) (off:=0) (x:=q) Jco (fun x=>rfl) Zxk (((k.out.below y.out).below d).below ((Below.refl _ _).alloc (Nat.le_refl _) (.cells #[.int .i64 q] 2))) (fun R u M=>by
        rw [Nat.zero_add]
        exact Zh _ _ _ _ _ (by simpa [Zkk] using M)) (by rw [List.length_map,List.length_take];omega) (by simp;omega)
       have N:=Za (And.intro p2 (And.intro p3 d))
       clear p2 p3 L d)
    | (at_builtin;refine Lib.wpList_append_run _ rfl _ _ _ _ rfl _ _ rfl rfl _ _ p1 ?_))
   go_roundw
   case rel =>
    obtain ⟨p2,p3,d⟩:=N.out
    refine ⟨j+1,by omega,by go_num,?_,?_⟩
    ·have G:=b.out.trans (y.out.mono b.out.size)
     have D:=G.trans (d.mono G.size)
     have K:Below w.heap.size w (C.alloc (.cells #[.int .i64 q] 2)):=D.alloc D.size _
     exact K.trans p3
    ·rw [List.take_add_one,P.out,List.map_append]
     exact p2
   case measure=>simp [intOf];omega
  ·have l:¬ (j:Int)<m:=by omega
   have r:=k.out
   rw [List.take_of_length_le (by have:=F.out;omega)] at r
   have r:=Za r
   go_wp2_with fail
   go_ret
   exact ⟨_,rfl,r.out,b.out⟩
end Go.Proofs.YthfilnflgahcjaaGreatDoor

namespace Go.Proofs.YthfilnflgahcjaaGreatDoor
open Go.RowKit Go.Shelf Go.Maps
set_option linter.all false
attribute [local go_sem] Oper.semAt_some
theorem Zbb {α:Type} {k:Nat} {enc:α->List Value} (hk:∀ x,(enc x).length=k) (W:World) (xs:List α) (cs:Array Value) (ty:Nat) (h:cs.toList=(xs.map enc).flatten) (hl:xs.length<=9223372036854775807):Zal k enc (W.alloc (.cells cs ty)).heap.size (W.alloc (.cells cs ty)) (.slice (some ⟨W.heap.size,0,none⟩) xs.length xs.length) xs:=by
 refine ⟨_,_,rfl,Nat.le_refl _,hl,.inr ⟨W.heap.size,0,rfl,by simp,fun i x d j u Y=>?_⟩⟩
 have hj:j<k:=by have:=(List.getElem?_eq_some_iff.1 Y).1;rwa [hk] at this
 have e1:=Zd6 (xs.map enc) i j (enc x) (fun c V=>by obtain ⟨y,_,rfl⟩:=List.mem_map.1 V;exact hk y) (by rw [List.getElem?_map,d];rfl) hj
 rw [<- h,Y,Array.getElem?_toList] at e1
 exact Zh _ _ _ _ _ (by rw [Nat.zero_add];exact e1)
def Zb7 (s:Zak) (lab:ByteArray) (out:Bool) (ls:List ByteArray):Int:=Zah ((Ji Zhz (⟨#[]⟩,⟨#[]⟩,false,0) s.ends (ls.map fun t=>(t,lab,out,0))).map fun x=>x.2.2.2)
set_option maxRecDepth 100000 in
set_option maxHeartbeats 4000000 in
theorem Zfx (s:Zak) (vl vt ve vk vs:Value) (lab:ByteArray) (out:Bool) (ls:List ByteArray) (B:Nat) (w:World) (hB:B<=w.heap.size) (h:Zc0 B w vl vt ve vk s) (hs:Zal 1 Zap B w vs ls) (T:okS lab) (F:∀ x ∈ ls,okS x) (hl:ls.length<=100000):Calls Tryz.prog 61 #[Za4 s vl vt ve vk,.string lab,.bool out,vs] w fun e w'=>e=.returned (.int .i64 (Zb7 s lab out ls))/\Below w.heap.size w w':=by
 obtain ⟨K,A⟩:∃ K,(ls.map fun t=>((t,lab,out,0):Zae))=K:=⟨_,rfl⟩
 obtain ⟨R,X⟩:∃ R,Ji Zhz (⟨#[]⟩,⟨#[]⟩,false,0) s.ends K=R:=⟨_,rfl⟩
 obtain ⟨R2,g⟩:∃ l,(R.map fun x:Zae=>x.2.2.2)=l:=⟨_,rfl⟩
 have HT:Zb7 s lab out ls=Zah R2:=by rw [Zb7,A,X,g]
 rw [HT]
 have a6:=Za g
 have HK:=Za A
 have a0:K.length=ls.length:=by rw [<- A,List.length_map]
 have a1:Hid (R.length<=100000):=by
  show R.length<=100000
  have:=Zmx Zhz ((⟨#[]⟩,⟨#[]⟩,false,0):Zae) s.ends K
  rw [X] at this
  omega
 have a3:Hid (∀ x ∈ K,okE x):=by
  intro x d
  rw [<- A] at d
  obtain ⟨t,ht,rfl⟩:=List.mem_map.1 d
  exact ⟨F t ht,T,Zcg⟩
 have HF:Hid (∀ W v,Below w.heap.size w W->Zal 4 Zc7 W.heap.size W v K->Calls Tryz.prog 110 #[ve,.func (.func 108) #[] #[],v] W fun e w'=>∃ v,e=.returned v/\Jb 64 4 Zc7 W.heap.size w' v R/\Below W.heap.size W w'):=by
  intro W v hb hv
  have:=Ja7 s.ends K ve v W.heap.size W (Nat.le_refl _) ((h.he.keep (hb.mono hB)).mono (Nat.le_trans hB hb.size)) hv h.oe a3.out h.ne (by omega)
  rwa [X] at this
 have HS:=Za hs
 clear X g HT A a0
 obtain ⟨la,lc,rfl,_⟩:=h.hl
 obtain ⟨ta,tc,rfl,_⟩:=h.ht
 obtain ⟨ea,ec,rfl,_⟩:=h.he
 obtain ⟨ka,kc,rfl,_⟩:=h.hk
 obtain ⟨sa,sc,rfl,s1,s2,s3⟩:=hs
 have a4:=Za s3
 clear s3
 unfold Za4 at *
 generalize s.nodes=n at *
 generalize s.rels=r at *
 generalize s.labels.length=l1 at *
 generalize s.types.length=l2 at *
 generalize s.ends.length=l3 at *
 generalize s.keys.length=l4 at *
 obtain ⟨m,hm⟩:∃ m,ls.length=m:=⟨_,rfl⟩
 have HM:=Za hm
 rw [hm] at s1 hl |-
 clear h F hm
 have hW:Below w.heap.size w (w.alloc (.cells #[.int .i64 n,.int .i64 r,.slice la l1 lc,.slice ta l2 tc,.slice ea l3 ec,.slice ka l4 kc] 33)):=(Below.refl _ _).alloc (Nat.le_refl _) _
 have e0:(w.alloc (.cells #[.int .i64 n,.int .i64 r,.slice la l1 lc,.slice ta l2 tc,.slice ea l3 ec,.slice ka l4 kc] 33)).cell? ⟨w.heap.size,4,none⟩=some (.slice ea l3 ec):=Zh _ _ _ _ _ rfl
 have G:w.heap.size<(w.alloc (.cells #[.int .i64 n,.int .i64 r,.slice la l1 lc,.slice ta l2 tc,.slice ea l3 ec,.slice ka l4 kc] 33)).heap.size:=by simp
 have b:=Za hW
 have U:=Za e0
 have Q:=Za G
 clear hW e0 G
 go_enter Tryz.func61,Tryz.ntmps61
 go_upto_region 1 with fail
 obtain ⟨N,M⟩:∃ W,w.alloc (.cells #[.int .i64 n,.int .i64 r,.slice la l1 lc,.slice ta l2 tc,.slice ea l3 ec,.slice ka l4 kc] 33)=W:=⟨_,rfl⟩
 rw [M] at b U Q |-
 clear M
 go_wp2_with fail
 go_loopw [10,15] (fun v i wr=>∃ j:Nat,j<=m/\i=.int .i64 j/\Below N.heap.size N wr/\Jb 64 4 Zc7 N.heap.size wr v (K.take j)) (fun _ i _=>m - (intOf i).toNat)
 case atStart=>exact ⟨0,Nat.zero_le _,rfl,Below.refl _ _,Jo _ _ _ _ _⟩
 case round =>
  obtain ⟨j,hj,rfl,S,H⟩:=hrel
  have a:=Za S
  have D:=Za H
  clear S H
  by_cases hlt:j<m
  ·have P:(j:Int)<m:=by omega
   obtain ⟨x,d⟩:∃ q,ls[j]?=some q:=⟨_,List.getElem?_eq_getElem (by have:=HM.out;omega)⟩
   obtain ⟨bl,off,rfl,a8,V⟩:=a4.out.resolve_left (by intro e;rw [e] at d;simp at d)
   have E:Below w.heap.size w wr:=b.out.trans (a.out.mono b.out.size)
   have cx:=(E.cell (p:=⟨bl,off+j*1+0,none⟩) (show bl<w.heap.size by omega)).trans (V j x d 0 _ rfl)
   rw [Nat.mul_one,Nat.add_zero] at cx
   have HX:Hid (K[j]?=some (x,lab,out,0)):=by show _=_;rw [<- HK.out,List.getElem?_map,d];rfl
   obtain ⟨v6,W6,p1,p2,p3,p4⟩:=Jd (ty:=30) (c:=1) (bl:=wr.heap.size) (off:=0) (x:=(x,lab,out,0)) Zpz (fun x=>rfl) Zla (D.out.below ((Below.refl _ _).alloc (Nat.le_refl _) (.cells #[.string x,.string lab,.bool out,.int .i64 0] 64))) (fun jj u Y=>by
    rw [Nat.zero_add]
    exact Zh _ _ _ _ _ (by simpa [Zc7] using Y)) (by rw [List.length_take];omega) (by have:=a.out.size;simp;omega)
   have HP:=Za (And.intro p2 p3)
   clear d V p2 p3 p4 E
   go_wp2_with (at_builtin;refine Lib.wpList_append_run _ rfl _ _ _ _ rfl _ _ rfl rfl _ _ p1 ?_)
   go_roundw
   case rel =>
    obtain ⟨p2,p3⟩:=HP.out
    refine ⟨j+1,by omega,by go_num,?_,?_⟩
    ·have h3:Below N.heap.size N (wr.alloc (.cells #[.string x,.string lab,.bool out,.int .i64 0] 64)):=a.out.alloc a.out.size _
     exact h3.trans p3
    ·rw [List.take_add_one,HX.out]
     exact p2
   case measure=>simp [intOf];omega
  ·have P:¬ (j:Int)<m:=by omega
   have HL:=D.out
   rw [List.take_of_length_le (by rw [<- HK.out,List.length_map];have:=HM.out;omega)] at HL
   have a5:=Za (Jb.srow (enc:=Zc7) (k:=4) (fun _=>rfl) HL)
   have c4:=(a.out.cell (p:=⟨w.heap.size,4,none⟩) Q.out).trans U.out
   have z:Hid (Below w.heap.size w wr):=b.out.trans (a.out.mono b.out.size)
   clear HL
   go_wp2_with (first
    | (go_at_call 110;refine (HF.out _ _ z.out a5.out).mono ?_;rintro e W3 ⟨v3,rfl,o,I⟩
       have C:Hid (Below w.heap.size w W3):=z.out.trans (I.mono z.out.size)
       have L:=Za (Jb9 R v3 W3.heap.size W3 (Nat.le_refl _) (Jb.srow (enc:=Zc7) (k:=4) (fun _=>rfl) o) a1.out)
       clear I
       obtain ⟨va,vc,rfl⟩:=o.slice
       clear o)
    | (go_at_call 109;refine L.out.mono ?_;rintro e W4 ⟨v4,rfl,f,O⟩;rw [a6.out] at f
       have a2:Hid (Below w.heap.size w W4):=C.out.trans (O.mono C.out.size)
       have HP:=Za (Zcj R2 v4 W4.heap.size W4 (Nat.le_refl _) (Jb.srow (enc:=Zkk) (k:=1) (fun _=>rfl) f))
       clear O
       obtain ⟨a9,a7,rfl⟩:=f.slice
       clear f)
    | (go_at_call 34;refine HP.out.mono ?_;rintro e _ ⟨rfl,rfl⟩))
   go_ret
   exact ⟨rfl,a2.out⟩
end Go.Proofs.YthfilnflgahcjaaGreatDoor

