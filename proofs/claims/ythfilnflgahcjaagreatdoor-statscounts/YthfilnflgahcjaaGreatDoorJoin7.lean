/- The first row of each key. What is reckoned from counts: one type, one key. A row behind a row of the call's own, however many. A block of cells, read and written. A region that draws its order: first what is quiet in a class of worlds, calls too, in whatever order; then what waits for all of it, one by one. -/
import Derived.Test.YthfilnflgahcjaaGreatDoorJoin4
import Derived.Deep.Cut
import Derived.Test.YthfilnflgahcjaaGreatDoorJoin6
import Derived.Test.YthfilnflgahcjaaGreatDoorJoin2
import Derived.Test.YthfilnflgahcjaaGreatDoorJoin1
namespace Go.Proofs.YthfilnflgahcjaaGreatDoor
open Go.RowKit Go.Shelf Go.Maps
set_option linter.all false
attribute [local go_sem] Oper.semAt_some
set_option maxRecDepth 100000 in
set_option maxHeartbeats 4000000 in
theorem Jel (b:List (Zav)) (keys:List (Zav)) (vr vk:Value) (B:Nat) (w:World) (hB:B<=w.heap.size) (hr:Zal 4 Zd3 B w vr b) (hk:Zal 4 Zd3 B w vk keys) (b1:∀ x ∈ b,okK x) (b3:∀ x ∈ keys,okK x) (f1:b.length<=900000) (f4:keys.length<=100000) :
  Calls Tryz.prog 63 #[vr,.func (.func 62) #[] #[],vk] w fun e w'=>∃ v,e=.returned v/\Jb 66 4 Zd3 w.heap.size w' v (Ji Zic (⟨#[]⟩,⟨#[]⟩,0,0) b keys)/\Below w.heap.size w w':=by
 obtain ⟨ra,rc,rfl,r1,r2,r3⟩:=hr
 obtain ⟨ka,kc,rfl,k1,k2,k3⟩:=hk
 have e0:=Za r3
 have f6:=Za k3
 have g5:=Za b1
 have f0:=Za b3
 obtain ⟨m,hm⟩:∃ n,b.length=n:=⟨_,rfl⟩
 obtain ⟨n,hn⟩:∃ n,keys.length=n:=⟨_,rfl⟩
 have HM:=Za hm
 have HN:=Za hn
 rw [hm] at r1 f1 |-
 rw [hn] at k1 f4 |-
 clear r3 k3 b1 b3 hm hn
 have g6:∀ W:World,(Instr.makeMap 170 none).run Tryz.prog W=.ok (.map (some W.heap.size)) (W.alloc (.map #[] 0)):=fun W=>rfl
 go_enter Tryz.func63,Tryz.ntmps63
 go_wp2_with fail
 go_loopw [18] (fun i wr=>∃ j:Nat,j<=n/\i=.int .i64 j/\w.heap.size+1<=wr.heap.size/\Below w.heap.size w wr/\MS Zfw okK wr w.heap.size ((keys.take j).foldl Zhs [])) (fun i _=>n - (intOf i).toNat)
 case atStart=>exact ⟨0,Nat.zero_le _,rfl,by simp,(Below.refl _ _).alloc (Nat.le_refl _) _,Zc9 _⟩
 case round =>
  obtain ⟨j,hj,rfl,K,N,M⟩:=hrel
  have y:=Za N
  have S:=Za M
  have c9:=Za K
  clear N M K
  by_cases hlt:j<n
  ·have G:(j:Int)<n:=by omega
   obtain ⟨⟨s,t,p,q⟩,k⟩:∃ q,keys[j]?=some q:=⟨_,List.getElem?_eq_getElem (by have:=HN.out;omega)⟩
   obtain ⟨bl,off,rfl,e7,F⟩:=f6.out.resolve_left (by intro e;rw [e] at k;simp at k)
   have c6:=(y.out.cell (p:=⟨bl,off+j*4+0,none⟩) (show bl<w.heap.size by omega)).trans (F j (s,t,p,q) k 0 _ rfl)
   have e8:=(y.out.cell (p:=⟨bl,off+j*4+1,none⟩) (show bl<w.heap.size by omega)).trans (F j (s,t,p,q) k 1 _ rfl)
   have e6:=(y.out.cell (p:=⟨bl,off+j*4+2,none⟩) (show bl<w.heap.size by omega)).trans (F j (s,t,p,q) k 2 _ rfl)
   have e9:=(y.out.cell (p:=⟨bl,off+j*4+3,none⟩) (show bl<w.heap.size by omega)).trans (F j (s,t,p,q) k 3 _ rfl)
   rw [Nat.add_zero] at c6
   simp only at c6 e8 e6 e9
   have HX:=Za k
   have r:Below wr.heap.size wr (wr.alloc (.cells #[.string s,.string t,.int .i64 p,.int .i64 q] 66)):=(Below.refl _ _).alloc (Nat.le_refl _) _
   have a0:(wr.alloc (.cells #[.string s,.string t,.int .i64 p,.int .i64 q] 66)).heap.size=wr.heap.size+1:=by simp
   have f7:=Za r
   have f9:=Za a0
   obtain ⟨W,q1,q2,q3,q4,q5⟩:=Zuc Jeu Zpx (S.out.block (r.block _ S.out.lt)) (Zbo _ _ List.nodup_nil) (s,t,p,q) (f0.out _ (List.mem_of_getElem? k))
   simp only [Zfw] at q1
   have HQ:=Za (And.intro q2 (And.intro q3 q5))
   clear k F q2 q3 q4 q5 r a0
   go_wp2_with fail
   go_roundw
   case rel=>exact ⟨j+1,by omega,by go_num,by have:=c9.out;have:=HQ.out.2.1;have:=f9.out;omega,(y.out.trans (f7.out.mono y.out.size)).trans HQ.out.2.2,by rw [Znp HX.out];exact HQ.out.1⟩
   case measure=>simp [intOf];omega
  ·have G:¬ (j:Int)<n:=by omega
   have HL:=S.out
   rw [List.take_of_length_le (by have:=HN.out;omega)] at HL
   obtain ⟨W0,f8⟩:∃ W0,W0=wr:=⟨_,rfl⟩
   subst f8
   obtain ⟨K0,C⟩:∃ l,keys.foldl Zhs []=l:=⟨_,rfl⟩
   have f3:Hid (K0.Nodup):=by show _;rw [<- C];exact Zbo _ _ List.nodup_nil
   have e5:Hid (K0.length<=100000):=by
    have:=Zex keys ([]:List (Zav))
    rw [C] at this
    have h2:=HN.out
    show K0.length<=100000
    simp only [List.length_nil] at this;omega
   have d6:Hid (Ji Zic (⟨#[]⟩,⟨#[]⟩,0,0) b keys=(Zy Zic b K0).1++List.replicate (Zy Zic b K0).2.length (⟨#[]⟩,⟨#[]⟩,0,0)):=by
    show _=_
    unfold Ji
    rw [C]
   rw [C] at HL
   have HL:=Za HL
   clear C S
   have b7:Hid (∀ (W:World) (v:Value) (out:List (Zav)) (left:List (Zav)),Below w.heap.size w W->w.heap.size+1<=W.heap.size->Jb 66 4 Zd3 (w.heap.size+1) W v out->out.length+left.length<=100000->∃ v' W',(Builtin.append_ #[31,3] 31 #[v,.int .i64 left.length]).run Tryz.prog W=.ok v' W'/\Jb 66 4 Zd3 w.heap.size W' v' (out++List.replicate left.length (⟨#[]⟩,⟨#[]⟩,0,0))/\Below w.heap.size w W'):=by
    intro W v out left hb hs ho hl
    obtain ⟨v',W',p1,p2,p3⟩:=Zd8 (ty:=31) (tn:=3) (x:=((⟨#[]⟩,⟨#[]⟩,0,0):Zav)) (m:=left.length) Zts Tryz.underlying3 (fun x=>rfl) Zoa rfl ho (by omega) hs
    exact ⟨v',W',p1,p2.base (by omega),hb.trans (p3.mono (by omega))⟩
   go_wp2_with fail
   go_loopw [10,28] (fun v i wr=>∃ (j:Nat) (out:List (Zav)) (left:List (Zav)),j<=m/\i=.int .i64 j/\w.heap.size+1<=wr.heap.size/\Below w.heap.size w wr/\MS Zfw okK wr w.heap.size left/\left.Nodup/\Jb 66 4 Zd3 (w.heap.size+1) wr v out/\out.length+left.length<=100000/\out++(Zy Zic (b.drop j) left).1=(Zy Zic b K0).1/\(Zy Zic (b.drop j) left).2=(Zy Zic b K0).2) (fun _ i _=>m - (intOf i).toNat)
   case atStart=>exact ⟨0,[],K0,Nat.zero_le _,rfl,c9.out,y.out,HL.out,f3.out,Jo _ _ _ _ _,by have:=e5.out;simpa using this,rfl,rfl⟩
   case round =>
    obtain ⟨j,out,left,hj,rfl,K,N,M,b5,d7,b6,e1,e2⟩:=hrel
    have o:=Za N
    have a1:=Za M
    have b0:=Za d7
    have a8:=Za b5
    have b4:=Za K
    have L:=Za b6
    have HE:=Za (And.intro e1 e2)
    clear N M d7 b5 K b6 e1 e2
    by_cases hlt:j<m
    ·have G:(j:Int)<m:=by omega
     obtain ⟨⟨s,t,p,q⟩,k⟩:∃ q,b[j]?=some q:=⟨_,List.getElem?_eq_getElem (by have:=HM.out;omega)⟩
     obtain ⟨bl,off,rfl,e7,F⟩:=e0.out.resolve_left (by intro e;rw [e] at k;simp at k)
     have c0:=(o.out.cell (p:=⟨bl,off+j*4+0,none⟩) (show bl<w.heap.size by omega)).trans (F j (s,t,p,q) k 0 _ rfl)
     have c1:=(o.out.cell (p:=⟨bl,off+j*4+1,none⟩) (show bl<w.heap.size by omega)).trans (F j (s,t,p,q) k 1 _ rfl)
     have c2:=(o.out.cell (p:=⟨bl,off+j*4+2,none⟩) (show bl<w.heap.size by omega)).trans (F j (s,t,p,q) k 2 _ rfl)
     have c3:=(o.out.cell (p:=⟨bl,off+j*4+3,none⟩) (show bl<w.heap.size by omega)).trans (F j (s,t,p,q) k 3 _ rfl)
     rw [Nat.add_zero] at c0
     simp only at c0 c1 c2 c3
     have HX:=Za k
     clear k F
     go_upto_region 11 with fail
     have g0:(wr.alloc (.cells #[.string s,.string t,.int .i64 p,.int .i64 q] 66)).cell? ⟨wr.heap.size,0,none⟩=some _:=Zh _ _ _ _ _ rfl
     have g1:(wr.alloc (.cells #[.string s,.string t,.int .i64 p,.int .i64 q] 66)).cell? ⟨wr.heap.size,1,none⟩=some _:=Zh _ _ _ _ _ rfl
     have g2:(wr.alloc (.cells #[.string s,.string t,.int .i64 p,.int .i64 q] 66)).cell? ⟨wr.heap.size,2,none⟩=some _:=Zh _ _ _ _ _ rfl
     have g3:(wr.alloc (.cells #[.string s,.string t,.int .i64 p,.int .i64 q] 66)).cell? ⟨wr.heap.size,3,none⟩=some _:=Zh _ _ _ _ _ rfl
     have D:Below wr.heap.size wr (wr.alloc (.cells #[.string s,.string t,.int .i64 p,.int .i64 q] 66)):=(Below.refl _ _).alloc (Nat.le_refl _) _
     obtain ⟨W1,a2⟩:∃ W,wr.alloc (.cells #[.string s,.string t,.int .i64 p,.int .i64 q] 66)=W:=⟨_,rfl⟩
     have a3:wr.heap.size<W1.heap.size:=by rw [<- a2];simp
     rw [a2] at g0 g1 g2 g3 D |-
     clear a2 c0 c1 c2 c3
     have I:Hid (MS Zfw okK W1 w.heap.size left):=a1.out.block (D.block _ a1.out.lt)
     have d8:Hid (Jb 66 4 Zd3 (w.heap.size+1) W1 _ out):=b0.out.below D
     have a6:=Za (o.out.trans (D.mono o.out.size))
     have T:=Za a3
     obtain ⟨X,hX⟩:∃ X,wr.heap.size=X:=⟨_,rfl⟩
     rw [hX] at g0 g1 g2 g3 a3 T |-
     have Q:Hid (w.heap.size+1<=X):=by show _<=_;rw [<- hX];exact b4.out
     clear D hX a3
     have H:=Zjw (ty:=3) Zpx I.out
     by_cases hl0:left=[]
     ·subst hl0
      simp only [List.length_nil] at H
      obtain ⟨v',W',p1,p2,p3⟩:=b7.out W1 _ out [] a6.out (by have:=Q.out;have:=T.out;omega) d8.out L.out
      simp only [List.length_nil,Int.ofNat_zero] at p1
      have HP:=Za (And.intro p2 p3)
      clear p2 p3
      go_wp2_with (at_builtin;refine Lib.wpList_append_run _ rfl _ _ _ _ rfl _ _ rfl rfl _ _ p1 ?_)
      go_ret
      refine ⟨_,rfl,?_,HP.out.2⟩
      have R:=HE.out
      rw [Zcz] at R
      rw [d6.out,<- R.1,<- R.2]
      simpa using HP.out.1
     ·have c8:(left.length:Int)≠0:=by
       have:left.length≠0:=fun e=>hl0 (List.eq_nil_of_length_eq_zero e)
       omega
      have h0:((left.length:Int)==0)=false:=beq_eq_false_iff_ne.2 c8
      have a7:=Za hl0
      clear hl0 c8
      have a9:Hid (okK (Zic (s,t,p,q))):=(fun h=>⟨h.1,h.2.1,Zcg,Zcg⟩:okK (s,t,p,q)->okK (Zic (s,t,p,q))) (g5.out _ (List.mem_of_getElem? HX.out))
      obtain ⟨z,hz⟩:∃ z:Bool,(z=true↔(Zic (s,t,p,q)) ∈ left):=by
       by_cases h:(Zic (s,t,p,q)) ∈ left
       ·exact ⟨true,by simp [h]⟩
       ·exact ⟨false,by simp [h]⟩
      have HZ:=Za hz
      clear hz
      go_upto_region 13 with (go_at_call 62;refine (Zxb s t p q _).mono ?_;rintro e W2 ⟨rfl,U⟩;have c4:=Zkl Jeu Zpx Zn9 (I.out.block (U.block _ I.out.lt)) (Zic (s,t,p,q)) a9.out z HZ.out;simp only [Zfw,Zic] at c4;have c7:=Za U;have Y:=U.size;clear U)
      clear c4 H
      have f:Below W1.heap.size W1 (W2.alloc (.cells #[] 164)):=c7.out.alloc Y _
      have b2:W2.heap.size<(W2.alloc (.cells #[] 164)).heap.size:=by simp
      obtain ⟨W3,d0⟩:∃ W,W2.alloc (.cells #[] 164)=W:=⟨_,rfl⟩
      rw [d0] at f b2 |-
      have E:X<W1.heap.size:=T.out
      have V:X<W3.heap.size:=by omega
      have g4:=(f.cell (p:=⟨X,0,none⟩) E).trans g0
      have f2:=(f.cell (p:=⟨X,1,none⟩) E).trans g1
      have f5:=(f.cell (p:=⟨X,2,none⟩) E).trans g2
      have e4:=(f.cell (p:=⟨X,3,none⟩) E).trans g3
      have a5:Hid (MS Zfw okK W3 w.heap.size left):=I.out.block (f.block _ I.out.lt)
      have c5:Hid (Jb 66 4 Zd3 (w.heap.size+1) W3 _ out):=d8.out.below f
      have a4:Hid (Below w.heap.size w W3):=a6.out.trans (f.mono (by have:=a6.out.size;omega))
      have A:=Za V
      clear d0 f b2 Y c7 T E V g0 g1 g2 g3
      cases z with
      | true =>
       have hm:(Zic (s,t,p,q)) ∈ left:=HZ.out.1 rfl
       go_upto_region 15 with (go_at_call 62;refine (Zxb s t p q _).mono ?_;rintro e W4 ⟨rfl,d⟩;obtain ⟨W5,d1,d2,d3,P,d5⟩:=Zue (ty:=0) Jeu Zpx (a5.out.block (d.block _ a5.out.lt)) a8.out (Zic (s,t,p,q)) a9.out hm;simp only [Zfw,Zic] at d1;have HD:=Za (And.intro d (And.intro d2 (And.intro d3 (And.intro P d5))));clear d d2 d3 P d5)
       obtain ⟨d,d2,d3,P,d5⟩:=HD.out
       have e3:X<W4.heap.size:=Nat.lt_of_lt_of_le A.out d.size
       have O:X≠w.heap.size:=by have:=Q.out;omega
       have g7:=((World.cell?_of_block (w:=W4) (a:=⟨X,0,none⟩) (P X O)).trans (d.cell (p:=⟨X,0,none⟩) A.out)).trans g4
       have g8:=((World.cell?_of_block (w:=W4) (a:=⟨X,1,none⟩) (P X O)).trans (d.cell (p:=⟨X,1,none⟩) A.out)).trans f2
       have k12:=((World.cell?_of_block (w:=W4) (a:=⟨X,2,none⟩) (P X O)).trans (d.cell (p:=⟨X,2,none⟩) A.out)).trans f5
       have g9:=((World.cell?_of_block (w:=W4) (a:=⟨X,3,none⟩) (P X O)).trans (d.cell (p:=⟨X,3,none⟩) A.out)).trans e4
       have d9:Jb 66 4 Zd3 (w.heap.size+1) W5 _ out:=(c5.out.below d).keep fun g hg _=>P g (by omega)
       have b9:w.heap.size+1<=W5.heap.size:=by have:=Q.out;omega
       have b8:Below w.heap.size w W5:=(a4.out.trans (d.mono a4.out.size)).trans (d5.mono (Nat.le_refl _))
       obtain ⟨v6,W6,p1,p2,p3,p4⟩:=Jd (ty:=31) (c:=1) (bl:=W5.heap.size) (off:=0) (x:=(s,t,p,q)) Zts (fun x=>rfl) Zoa (d9.below ((Below.refl _ _).alloc (Nat.le_refl _) (.cells #[.string s,.string t,.int .i64 p,.int .i64 q] 66))) (fun jj u hu=>by
        rw [Nat.zero_add]
        exact Zh _ _ _ _ _ (by simpa [Zd3] using hu)) (by have:=L.out;omega) (by simp;omega)
       have HP:=Za (And.intro p2 (And.intro p3 (And.intro b8 (And.intro d2 b9))))
       clear d d2 d3 P d5 HD p2 p3 p4 b8 b9 d9 e3 O
       go_wp2_with (at_builtin;refine Lib.wpList_append_run _ rfl _ _ _ _ rfl _ _ rfl rfl _ _ p1 ?_)
       go_roundw
       case rel =>
        obtain ⟨p2,p3,p5,p6,p7⟩:=HP.out
        have r:Below W5.heap.size W5 (W5.alloc (.cells #[.string s,.string t,.int .i64 p,.int .i64 q] 66)):=(Below.refl _ _).alloc (Nat.le_refl _) _
        have p8:=p6.block ((p3.block _ (by omega)).trans (r.block _ (by omega)))
        have hh:=Zew (key:=Zic) HX.out a7.out hm
        have hE:=HE.out
        rw [hh] at hE
        refine ⟨j+1,out++[(s,t,p,q)],Zl8 (Zic (s,t,p,q)) left,by omega,by go_num,?_,(p5.trans (r.mono (by omega))).trans (p3.mono (by omega)),p8,Zg2 a8.out _,p2,?_,?_,hE.2⟩
        ·have:=p3.size;have:=r.size;omega
        ·have R:=L.out
         have h2:=Zg3 hm
         simp only [List.length_append,List.length_cons,List.length_nil];omega
        ·rw [<- hE.1];simp
       case measure=>simp [intOf];omega
      | false =>
       have hm:¬ (Zic (s,t,p,q)) ∈ left:=fun h=>by have:=HZ.out.2 h;cases this
       go_wp2_with fail
       go_roundw
       case rel=>exact ⟨j+1,out,left,by omega,by go_num,by have:=Q.out;have:=A.out;omega,a4.out,a5.out,a8.out,c5.out,L.out,by rw [<- Za5 HX.out a7.out hm];exact HE.out.1,by rw [<- Za5 HX.out a7.out hm];exact HE.out.2⟩
       case measure=>simp [intOf];omega
    ·have G:¬ (j:Int)<m:=by omega
     have H:=Zjw (ty:=3) Zpx a1.out
     obtain ⟨v',W',p1,p2,p3⟩:=b7.out wr _ out left o.out b4.out b0.out L.out
     have HP:=Za (And.intro p2 p3)
     clear p2 p3
     go_wp2_with (at_builtin;refine Lib.wpList_append_run _ rfl _ _ _ _ rfl _ _ rfl rfl _ _ p1 ?_)
     go_ret
     refine ⟨_,rfl,?_,HP.out.2⟩
     have R:=HE.out
     rw [List.drop_of_length_le (by have:=HM.out;omega)] at R
     simp only [Zy,List.append_nil] at R
     rw [d6.out,<- R.1,<- R.2]
     exact HP.out.1
end Go.Proofs.YthfilnflgahcjaaGreatDoor

namespace Go.Proofs.YthfilnflgahcjaaGreatDoor
open Go.RowKit Go.Shelf Go.Maps
set_option linter.all false
attribute [local go_sem] Oper.semAt_some
structure Zxq (b:Nat) (u y v2 l z D:Value) (w:World):Prop where
 lt:b<w.heap.size
 c0:w.cell? ⟨b,0,none⟩=some u
 c1:w.cell? ⟨b,1,none⟩=some y
 c2:w.cell? ⟨b,2,none⟩=some v2
 c3:w.cell? ⟨b,3,none⟩=some l
 c4:w.cell? ⟨b,4,none⟩=some z
 c5:w.cell? ⟨b,5,none⟩=some D
theorem Zxq.keep {b:Nat} {u y v2 l z D:Value} {w w':World} (h:Zxq b u y v2 l z D w) (hb:Below w.heap.size w w'):Zxq b u y v2 l z D w' :=
 ⟨Nat.lt_of_lt_of_le h.lt hb.size,(hb.cell (p:=⟨b,0,none⟩) h.lt).trans h.c0,(hb.cell (p:=⟨b,1,none⟩) h.lt).trans h.c1,(hb.cell (p:=⟨b,2,none⟩) h.lt).trans h.c2,(hb.cell (p:=⟨b,3,none⟩) h.lt).trans h.c3,(hb.cell (p:=⟨b,4,none⟩) h.lt).trans h.c4,(hb.cell (p:=⟨b,5,none⟩) h.lt).trans h.c5⟩
theorem Zde (w:World) (u y v2 l z D:Value) (ty:Nat):Zxq w.heap.size u y v2 l z D (w.alloc (.cells #[u,y,v2,l,z,D] ty)) :=
 ⟨by simp,Zh _ _ _ _ _ rfl,Zh _ _ _ _ _ rfl,Zh _ _ _ _ _ rfl,Zh _ _ _ _ _ rfl,Zh _ _ _ _ _ rfl,Zh _ _ _ _ _ rfl⟩
theorem Zc0.up {B:Nat} {w w':World} {vl vt ve vk:Value} {s:Zak} (h:Zc0 B w vl vt ve vk s) (hb:Below B w w') (hB:B<=w'.heap.size):Zc0 w'.heap.size w' vl vt ve vk s:=⟨(h.hl.keep hb).mono hB,(h.ht.keep hb).mono hB,(h.he.keep hb).mono hB,(h.hk.keep hb).mono hB,h.ol,h.ot,h.oe,h.ok,h.nl,h.nt,h.ne,h.nk⟩
theorem Zc (w:World) (o:Obj):Below w.heap.size w (w.alloc o):=(Below.refl _ _).alloc (Nat.le_refl _) _
theorem Below.on {w a b:World} (h:Below w.heap.size w a) (k:Below a.heap.size a b):Below w.heap.size w b:=h.trans (k.mono h.size)
set_option maxRecDepth 100000 in
set_option maxHeartbeats 4000000 in
theorem Zxr (s:Zak) (vl vt ve vk:Value) (kind lab:ByteArray) (out:Bool) (B:Nat) (w:World) (hB:B<=w.heap.size) (h:Zc0 B w vl vt ve vk s) (t:okS kind) (i:okS lab):Calls Tryz.prog 22 #[Za4 s vl vt ve vk,.string kind,.string lab,.bool out] w fun e w'=>e=.returned (.int .i64 (Zb7 s lab out [kind]))/\Below w.heap.size w w':=by
 have S:Hid (∀ W,Below w.heap.size w W->Calls Tryz.prog 61 #[Za4 s vl vt ve vk,.string lab,.bool out,.slice (some ⟨W.heap.size,0,none⟩) 1 1] (W.alloc (.cells #[.string kind] 9)) fun e w'=>e=.returned (.int .i64 (Zb7 s lab out [kind]))/\Below (W.alloc (.cells #[.string kind] 9)).heap.size (W.alloc (.cells #[.string kind] 9)) w'):=fun W hb=>Zfx s vl vt ve vk _ lab out [kind] _ _ (Nat.le_refl _) ((h.up (hb.mono hB) (Nat.le_trans hB hb.size)).up (Zc _ _) (Zc W _).size) (Zbb (k:=1) (enc:=Zap) (fun _=>rfl) W [kind] #[.string kind] 9 rfl (show 1<=9223372036854775807 by decide)) i (fun x L=>by simp only [List.mem_cons,List.not_mem_nil,or_false] at L;rw [L];exact t) (show 1<=100000 by decide)
 obtain ⟨E,O⟩:∃ E,Zb7 s lab out [kind]=E:=⟨_,rfl⟩
 rw [O] at S |-
 clear O
 obtain ⟨la,lc,rfl,_⟩:=h.hl
 obtain ⟨ta,tc,rfl,_⟩:=h.ht
 obtain ⟨ea,ec,rfl,_⟩:=h.he
 obtain ⟨ka,kc,rfl,_⟩:=h.hk
 unfold Za4 at *
 generalize s.nodes=n at *
 generalize s.rels=r at *
 generalize s.labels.length=l1 at *
 generalize s.types.length=l2 at *
 generalize s.ends.length=l3 at *
 generalize s.keys.length=l4 at *
 clear h
 go_enter Tryz.func22,Tryz.ntmps22
 go_upto_region 1 with fail
 have c:=Za (Zc w (.cells #[.int .i64 n,.int .i64 r,.slice la l1 lc,.slice ta l2 tc,.slice ea l3 ec,.slice ka l4 kc] 33))
 have f:=Za (Zde w (.int .i64 n) (.int .i64 r) (.slice la l1 lc) (.slice ta l2 tc) (.slice ea l3 ec) (.slice ka l4 kc) 33)
 obtain ⟨Q,g⟩:∃ W,w.alloc (.cells #[.int .i64 n,.int .i64 r,.slice la l1 lc,.slice ta l2 tc,.slice ea l3 ec,.slice ka l4 kc] 33)=W:=⟨_,rfl⟩
 rw [g] at c f |-
 clear g
 obtain ⟨_,e0,e1,e2,e3,X,T⟩:=f.out
 go_wp2_with (go_at_call 61;refine (S.out _ c.out).mono ?_;rintro e C ⟨rfl,j⟩;have m:=Za (Below.on (Below.on c.out (Zc _ _)) j);clear j)
 go_ret
 exact ⟨rfl,m.out⟩
theorem Zvg {R K:Type} [DecidableEq K] (key:R->K) (zero:R) (d:List R) (k:K):∃ r,Ji key zero d [k]=[r]:=by
 have h1:=Zdl (key:=key) d ([k].foldl Zhs [])
 have h2:([k].foldl Zhs []:List K).length=1:=by simp [Zhs]
 have h3:(Ji key zero d [k]).length=1:=by
  unfold Ji
  simp only [List.length_append,List.length_replicate]
  omega
 match hl:Ji key zero d [k],h3 with
 | [r],_=>exact ⟨r,rfl⟩
def Zr0 (s:Zak) (lab key:ByteArray):Int:=match Ji Zic (⟨#[]⟩,⟨#[]⟩,0,0) s.keys [(lab,key,0,0)] with | r::_=>Zbl r.2.2.1 r.2.2.2 | []=>0
set_option maxRecDepth 100000 in
set_option maxHeartbeats 4000000 in
theorem Ja1 (s:Zak) (vl vt ve vk:Value) (lab key:ByteArray) (B:Nat) (w:World) (hB:B<=w.heap.size) (h:Zc0 B w vl vt ve vk s) (i:okS lab) (G:okS key):Calls Tryz.prog 24 #[Za4 s vl vt ve vk,.string lab,.string key] w fun e w'=>e=.returned (.int .i64 (Zr0 s lab key))/\Below w.heap.size w w':=by
 obtain ⟨⟨ra,rb,p,q⟩,hr⟩:=Zvg Zic (⟨#[]⟩,⟨#[]⟩,0,0) s.keys (lab,key,0,0)
 have I:Zr0 s lab key=Zbl p q:=by unfold Zr0;rw [hr]
 rw [I]
 have HF:Hid (∀ W,Below w.heap.size w W->Calls Tryz.prog 63 #[vk,.func (.func 62) #[] #[],.slice (some ⟨W.heap.size,0,none⟩) 1 1] (W.alloc (.cells #[.string lab,.string key,.int .i64 0,.int .i64 0] 66)) fun e w'=>∃ v,e=.returned v/\Jb 66 4 Zd3 (W.alloc (.cells #[.string lab,.string key,.int .i64 0,.int .i64 0] 66)).heap.size w' v [(ra,rb,p,q)]/\Below (W.alloc (.cells #[.string lab,.string key,.int .i64 0,.int .i64 0] 66)).heap.size (W.alloc (.cells #[.string lab,.string key,.int .i64 0,.int .i64 0] 66)) w'):=by
  intro W hb
  have A:=(h.up (hb.mono hB) (Nat.le_trans hB hb.size)).up (Zc W (.cells #[.string lab,.string key,.int .i64 0,.int .i64 0] 66)) (Zc W _).size
  have:=Jel s.keys [(lab,key,0,0)] vk _ _ _ (Nat.le_refl _) A.hk (Zbb (k:=4) (enc:=Zd3) (fun _=>rfl) W [(lab,key,0,0)] #[.string lab,.string key,.int .i64 0,.int .i64 0] 66 rfl (show 1<=9223372036854775807 by decide)) A.ok (fun x L=>by simp only [List.mem_cons,List.not_mem_nil,or_false] at L;rw [L];exact ⟨i,G,Zcg,Zcg⟩) A.nk (show 1<=100000 by decide)
  rw [hr] at this
  exact this
 have N:=Za (fun W=>Zio p q W)
 clear I hr
 obtain ⟨la,lc,rfl,_⟩:=h.hl
 obtain ⟨ta,tc,rfl,_⟩:=h.ht
 obtain ⟨ea,ec,rfl,_⟩:=h.he
 obtain ⟨ka,kc,rfl,_⟩:=h.hk
 unfold Za4 at *
 generalize s.nodes=n at *
 generalize s.rels=r at *
 generalize s.labels.length=l1 at *
 generalize s.types.length=l2 at *
 generalize s.ends.length=l3 at *
 generalize s.keys.length=l4 at *
 clear h
 go_enter Tryz.func24,Tryz.ntmps24
 go_upto_region 1 with fail
 have c:=Za (Zc w (.cells #[.int .i64 n,.int .i64 r,.slice la l1 lc,.slice ta l2 tc,.slice ea l3 ec,.slice ka l4 kc] 33))
 have f:=Za (Zde w (.int .i64 n) (.int .i64 r) (.slice la l1 lc) (.slice ta l2 tc) (.slice ea l3 ec) (.slice ka l4 kc) 33)
 obtain ⟨Q,g⟩:∃ W,w.alloc (.cells #[.int .i64 n,.int .i64 r,.slice la l1 lc,.slice ta l2 tc,.slice ea l3 ec,.slice ka l4 kc] 33)=W:=⟨_,rfl⟩
 rw [g] at c f |-
 clear g
 obtain ⟨_,e0,e1,e2,e3,X,T⟩:=f.out
 have a0:=(Below.cell (Zc Q (.cells #[.string lab,.string key,.int .i64 0,.int .i64 0] 66)) (p:=⟨w.heap.size,5,none⟩) f.out.lt).trans T
 go_upto_region 3 with (go_at_call 63;refine (HF.out _ c.out).mono ?_;rintro e C ⟨v,rfl,P,j⟩;have m:=Za (Below.on (Below.on c.out (Zc _ _)) j);obtain ⟨xa,xc,V,x1,x2,U⟩:=Jb.srow (enc:=Zd3) (k:=4) (fun _=>rfl) P;subst V;obtain ⟨bl,off,rfl,Y,H⟩:=U.resolve_left (by simp);have d0:=H 0 _ rfl 0 _ rfl;have d1:=H 0 _ rfl 1 _ rfl;have d2:=H 0 _ rfl 2 _ rfl;have d3:=H 0 _ rfl 3 _ rfl;simp only [Nat.zero_mul,Nat.add_zero,List.length_cons,List.length_nil,Nat.zero_add] at d0 d1 d2 d3 x1 |-;clear j P H)
 have f2:(C.alloc (.cells #[.string ra,.string rb,.int .i64 p,.int .i64 q] 66)).cell? ⟨C.heap.size,2,none⟩=some (.int .i64 p):=Zh _ _ _ _ _ rfl
 have f3:(C.alloc (.cells #[.string ra,.string rb,.int .i64 p,.int .i64 q] 66)).cell? ⟨C.heap.size,3,none⟩=some (.int .i64 q):=Zh _ _ _ _ _ rfl
 have F:=Za (Below.on m.out (Zc C (.cells #[.string ra,.string rb,.int .i64 p,.int .i64 q] 66)))
 obtain ⟨W3,M⟩:∃ W,C.alloc (.cells #[.string ra,.string rb,.int .i64 p,.int .i64 q] 66)=W:=⟨_,rfl⟩
 rw [M] at f2 f3 F |-
 clear M
 go_wp2_with (go_at_call 32;refine (N.out _).mono ?_;rintro e _ ⟨rfl,rfl⟩)
 go_ret
 exact ⟨rfl,F.out⟩
end Go.Proofs.YthfilnflgahcjaaGreatDoor

namespace Go.Proofs.YthfilnflgahcjaaGreatDoor
open Go.RowKit Go.Shelf
set_option linter.all false
theorem Zik {w:World} {base t ty e size c:Nat} {i:TypeInfo} (ht:Tryz.prog.underlying t=some (.slice e)) (C:Tryz.prog.info? e=some i) (v:Value) (n:Nat) (xs:List Value) (b:w.ownsRow base e size v n xs) :
  (Builtin.append_ #[t,t] ty #[v,.slice none 0 c]).run Tryz.prog w=.ok v w:=by
 rcases b.2 with ⟨rfl,rfl⟩ | ⟨g,cap,a1,rfl,_,_,L,_⟩
 ·simp [Builtin.append_,run_underlying ht,sizeOf,typeInfo,C,Builtin.lenOf,Builtin.firstCells]
 ·simp [Builtin.append_,run_underlying ht,sizeOf,typeInfo,C,Builtin.lenOf,Builtin.firstCells,L,storeCells]
theorem Zbk {α:Type} {t e ty k bytes base B:Nat} {z:Value} (V:Zge t e k bytes z) {enc:α->List Value} (hk:∀ x,(enc x).length=k) (h1:∀ x,∀ u ∈ enc x,u.oneCell'=true) {v vs:Value} {xs d:List α} {w:World} (b:Jb e k enc base w v xs) (hs:Zal k enc B w vs d) (hn:xs.length+d.length<=1000000) (hb:base<=w.heap.size) :
  ∃ G w',(Builtin.append_ #[t,t] ty #[v,vs]).run Tryz.prog w=.ok G w'/\Jb e k enc base w' G (xs++d)/\Below base w w'/\(∀ g,some g≠v.ownBlock->g<w.heap.size->w'.heap[g]?=w.heap[g]?):=by
 obtain ⟨ht,i0,C,Y,p,K,Q,D,N⟩:=V
 obtain ⟨a,c,rfl,l1,l2,f⟩:=hs
 cases a with
 | none =>
  have W:d=[]:=by
   rcases f with f | ⟨bl,off,e1,_⟩
   ·exact f
   ·cases e1
  subst W
  refine ⟨v,w,Zik ht C v _ _ b,by simpa using b,Below.refl _ _,fun _ _ _=>rfl⟩
 | some ad =>
  have o:((d.map enc).flatten).length=d.length*k:=by
   rw [Zlk (k:=k) (d.map enc) (fun c f=>by obtain ⟨y,_,rfl⟩:=List.mem_map.1 f;exact hk y),List.length_map]
  obtain ⟨G,w',M,U,F,_⟩:=run_append_own (P:=Tryz.prog) (w:=w) base t ty e i0 z k bytes ht C Y p K Q D v xs.length _ b ad d.length c ((d.map enc).flatten) o (fun j u m=>by
   rcases f with f | ⟨bl,off,e1,X,s⟩
   ·subst f;simp at m
   ·obtain rfl:=Option.some.inj e1
    have E:(⟨bl,off,none⟩:Addr).add j=⟨bl,off+j,none⟩:=by unfold Addr.add;split<;>simp_all
    rw [E]
    have hj:j<d.length*k:=by rw [<- o];exact (List.getElem?_eq_some_iff.1 m).1
    obtain ⟨q,r,R,hr⟩:∃ q r,j=q*k+r/\r<k:=⟨j / k,j % k,by rw [Nat.mul_comm];exact (Nat.div_add_mod j k).symm,Nat.mod_lt _ D⟩
    subst R
    have S:q<d.length:=by
     rcases Nat.lt_or_ge q d.length with h | h
     ·exact h
     ·have:=Nat.mul_le_mul_right k h;omega
    have e2:=Zd6 (d.map enc) q r (enc d[q]) (fun c f=>by obtain ⟨y,_,rfl⟩:=List.mem_map.1 f;exact hk y) (by rw [List.getElem?_map,List.getElem?_eq_getElem S];rfl) hr
    rw [e2] at m
    have:=s q d[q] (List.getElem?_eq_getElem S) r u m
    rw [<- Nat.add_assoc];exact this) (fun u m=>by
   obtain ⟨cs,I,O⟩:=List.mem_flatten.1 m
   obtain ⟨y,_,rfl⟩:=List.mem_map.1 I
   exact h1 y u O) (by unfold maxLen;omega) (Nat.le_trans (Nat.mul_le_mul hn N) (by decide)) hb
  refine ⟨G,w',M,?_,(Below.refl base w).grown F hb fun q h=>(b.lt q h).1,fun g hg hl=>F.block g hl hg⟩
  unfold Jb
  rw [List.length_append,List.map_append,List.flatten_append]
  exact U
theorem Zal.take {α:Type} {k:Nat} {enc:α->List Value} {B:Nat} {w:World} {a:Option Addr} {l c:Nat} {xs d:List α} (h:Zal k enc B w (.slice a l c) (xs++d)):Zal k enc B w (.slice a xs.length c) xs:=by
 obtain ⟨a0,c0,e1,I,O,H⟩:=h
 injection e1 with M U F
 subst M F
 rw [List.length_append] at I
 refine ⟨a,c,rfl,by omega,O,?_⟩
 rcases H with H | ⟨bl,off,e2,hl,f⟩
 ·left;exact (List.append_eq_nil_iff.1 H).1
 ·right;exact ⟨bl,off,e2,hl,fun i x T j u m=>f i x (by rw [List.getElem?_append_left (List.getElem?_eq_some_iff.1 T).1];exact T) j u m⟩
end Go.Proofs.YthfilnflgahcjaaGreatDoor

namespace Go.Proofs.YthfilnflgahcjaaGreatDoor
open Go.RowKit Go.Shelf
set_option linter.all false
def Rec (w:World) (b:Nat) (cs:Array Value) (ty:TypeId):Prop:=w.heap[b]?=some (.cells cs ty (0,0))
section
variable {w w':World} {b:Nat} {cs:Array Value} {ty:TypeId}
theorem Rec.lt (h:Rec w b cs ty):b<w.heap.size:=(Array.getElem?_eq_some_iff.1 h).1
theorem Rec.cell (h:Rec w b cs ty) (i:Nat) {v:Value} (a:cs[i]?=some v):w.cell? ⟨b,i,none⟩=some v:=by simp [World.cell?,show w.heap[b]?=_ from h,a]
theorem Rec.keep (h:Rec w b cs ty) (e:w'.heap[b]?=w.heap[b]?):Rec w' b cs ty:=e.trans h
theorem Rec.below {B:Nat} (h:Rec w b cs ty) (c:Below B w w') (hB:b<B):Rec w' b cs ty:=h.keep (c.block b hB)
theorem Zk (w:World) (cs:Array Value) (ty:TypeId):Rec (w.alloc (.cells cs ty)) w.heap.size cs ty:=World.alloc_heap_new _ _
end
end Go.Proofs.YthfilnflgahcjaaGreatDoor

namespace Go.Proofs.YthfilnflgahcjaaGreatDoor
open Go.RowKit
section
variable {P:Program} {ops:Array Oper} {md:Region.Mode} {C:World->Prop} {Q:Exit->Act->World->Prop} {R:Act->Prop} {k:Nat} {target:Array Bool}
def Zo0 (P:Program) (md:Region.Mode) (ops:Array Oper) (C:World->Prop) (k:Nat) (target:Array Bool) (R:Act->Prop):Nat->Array Bool->Act->Prop
 | 0,c,a=>c=target/\R a
 | fuel+1,c,a=>Region.ready md ops c≠[]/\∀ i ∈ Region.ready md ops c,i<k/\qOp P ops C i (Zo0 P md ops C k target R fuel (c.setIfInBounds i true)) a
theorem Zmc {n:Nat} (hR:Zdv md ops target->∀ a w,C w->R a->wpAny P md ops Q n target a w):∀ (fuel:Nat) (c:Array Bool) (a:Act) (w:World),Zdv md ops c->C w->Zo0 P md ops C k target R fuel c a->wpAny P md ops Q (n+fuel) c a w
 | 0,c,a,w,d,U,h=>by
  obtain ⟨e,h⟩:=h
  subst e
  exact hR d a w U h
 | fuel+1,c,a,w,d,U,h=>⟨fun M=>(h.1 M).elim,fun i z=>wpOp_of_qOp U (fun t w' F hk=>Zmc hR fuel _ t w' (Zca d z) F hk) (h.2 i z).2⟩
theorem Zo1 {i:Nat} {K:Oper} {v:Value} (z:ops[i]?=some K) (B:∀ (j:Nat) (o:Oper) cs b,ops[j]?=some o->o.op≠.select cs b) (N:i<k) (m:∀ j,j<k->target.getD j true=true)
  (a3:∀ j,k<=j->j<ops.size->Zip md ops ops.size j i=true) :
  ∀ (fuel:Nat) (c:Array Bool) (a:Act),Zdv md ops c ->
   (∀ j y,ops[j]?=some y->j≠i->c.getD j true=false->(∀ e ∈ y.after,Region.binds md e=true->e.on≠i)->K.apart ops y=true) ->
   i ∈ Region.ready md ops c->YieldsIn P ops C K v a ->
   Zo0 P md ops C k target R fuel (c.setIfInBounds i true) (a.put K.dst v)->Zo0 P md ops C k target R (fuel+1) c a:=by
 have low:∀ (c:Array Bool) (j:Nat),Zdv md ops c->i ∈ Region.ready md ops c->j ∈ Region.ready md ops c->j<k:=by
  intro c j d hr f
  rcases Nat.lt_or_ge j k with h | h
  ·exact h
  ·obtain ⟨s,y,g,q⟩:=mem_ready.1 f
   have E:c.getD i false=false:=Zlq (mem_ready.1 hr).1
   have:=Zd7 d ops.size j i (fun ok S e he hb=>by
    rw [g] at S
    obtain rfl:=Option.some.inj S
    exact q e he hb) (a3 j h (Array.getElem?_eq_some_iff.1 g).1)
   rw [E] at this;cases this
 intro fuel
 induction fuel with
 | zero =>
  intro c a d _ hr I H
  refine ⟨fun h=>(by rw [h] at hr;cases hr),fun j f=>⟨low c j d hr f,?_⟩⟩
  by_cases hji:j=i
  ·subst hji;exact I.qOp z H
  ·have u:=ready_mono f hji
   rw [H.1] at u
   have G:=(mem_ready.1 u).1
   rw [m j (low c j d hr f)] at G
   cases G
 | succ fuel ih =>
  intro c a d p hr I H
  refine ⟨fun h=>(by rw [h] at hr;cases hr),fun j f=>⟨low c j d hr f,?_⟩⟩
  by_cases hji:j=i
  ·subst hji;exact I.qOp z H
  ·have u:=(H.2 j (ready_mono f hji)).2
   obtain ⟨s,y,g,q⟩:=mem_ready.1 f
   have E:c.getD i false=false:=Zlq (mem_ready.1 hr).1
   have O:∀ e ∈ y.after,Region.binds md e=true->e.on≠i:=fun e he hb a4=>by
    have u:=q e he hb
    rw [a4,E] at u;cases u
   have G:=qOp_put g (p j y g hji s O) (fun cs b=>B i K cs b z) (fun cs b=>B j y cs b g) I u
   have x:∀ k ok,ops[k]?=some ok->k≠i->(c.setIfInBounds j true).getD k true=false ->
     (∀ e ∈ ok.after,Region.binds md e=true->e.on≠i)->K.apart ops ok=true:=fun k ok hk X W a2=>by
    refine p k ok hk X ?_ a2
    by_cases hjk:j=k
    ·subst hjk;exact s
    ·rw [getD_set_ne true hjk] at W;exact W
   refine qOp_mono (fun t h3=>ih (c.setIfInBounds j true) t (Zca d f) x (ready_mono hr (Ne.symm hji)) h3.1 ?_) G
   rw [Array.setIfInBounds_comm _ _ hji]
   exact h3.2
def Zwb (md:Region.Mode) (ops:Array Oper) (k:Nat) (target:Array Bool):Nat->Nat->Array Bool->Bool
 | 0,_,c=>c==target
 | n+1,i,c=>(Region.ready md ops c).contains i&&(Region.free md ops c i&&(decide (i<k)&&(((List.range ops.size).all fun j=>decide (j<k)||Zip md ops ops.size j i)&&Zwb md ops k target n (i+1) (c.setIfInBounds i true))))
theorem Zmd (hs:Region.noSelect ops=true) (m:∀ j,j<k->target.getD j true=true):∀ (l:List Oper) (i:Nat) (c:Array Bool) (a:Act),(∀ j,j<l.length->l[j]?=ops[i+j]?)->Zdv md ops c ->
  Zwb md ops k target l.length i c=true->wpQuiet P ops C R l a->Zo0 P md ops C k target R l.length c a
 | [],_,_,_,_,_,hB,h=>⟨by simpa [Zwb] using hB,h⟩
 | o::l,i,c,a,hl,d,hB,h=>by
  have M:ops[i]?=some o:=by simpa using (hl 0 (by simp)).symm
  simp only [List.length_cons,Zwb,Bool.and_eq_true,decide_eq_true_eq] at hB
  obtain ⟨hr,hf,N,U,Y⟩:=hB
  have a1:qOp P ops C i (wpQuiet P ops C R l) a:=by unfold qOp;simp only [M];exact h
  obtain ⟨v,I,hK⟩:=yieldsIn_of_qOp M a1
  have V:i ∈ Region.ready md ops c:=by simpa using hr
  refine Zo1 M (Region.noSelect_spec hs) N m (fun j f a0=>?_) l.length c a d (Region.free_spec M hf) V I
   (Zmd hs m l (i+1) _ _ (fun j f=>by have:=hl (j+1) (by simp;omega);simpa [Nat.add_assoc,Nat.add_comm 1 j] using this) (Zca d V) Y hK)
  have:=List.all_eq_true.1 U j (List.mem_range.2 a0)
  simp only [Bool.or_eq_true,decide_eq_true_eq] at this
  exact this.resolve_left (by omega)
def Zb2 (n k:Nat):Array Bool:=((List.range n).map fun i=>decide (i<k)).toArray
def Jc3 (L:List Oper) (k:Nat) (T:List Nat):Bool :=
 Region.noSelect L.toArray&&(Zwb .any L.toArray k (Zb2 L.length k) k 0 (Array.replicate L.length false)&&(decide (k<=L.length)&&((T.all fun i=>(Zbn L i).isSome)&&((T.length+k==L.length)&&Zif .any L.toArray (fun _=>false) (T.map fun i=>(false,i)) (Zb2 L.length k)))))
theorem Jc4 {id:Nat} {L:List Oper} {a:Act} {w:World} (k:Nat) (T:List Nat) (hm:P.follows .mixedOrders=true) (hB:Jc3 L k T=true) (hC:C w.drew)
  (h:wpQuiet P L.toArray C (fun t=>∀ w',C w'->wpList P L.toArray Q (Zac L T) t w') (L.take k) a):(Code.region id L.toArray true).wp P Q a w:=by
 simp only [Jc3,Bool.and_eq_true,beq_iff_eq,decide_eq_true_eq] at hB
 obtain ⟨u,G,h3,h4,h5,h6⟩:=hB
 have r:(L.take k).length=k:=by simp;omega
 have m:∀ j,j<k->(Zb2 L.length k).getD j true=true:=fun j f=>by
  have:j<L.length:=by omega
  simp [Zb2,this,f]
 have D:Zdv .any L.toArray (Array.replicate L.length false):=⟨by simp,fun j y _ hl=>by
  rcases Nat.lt_or_ge j L.length with f | f
  ·simp [f] at hl
  ·simp [f] at hl⟩
 have hT:=Zmd (P:=P) (C:=C) (R:=fun t=>∀ w',C w'->wpList P L.toArray Q (Zac L T) t w') u m (L.take k) 0 (Array.replicate L.length false) a (fun j f=>by
  rw [r] at f
  rw [List.getElem?_take,if_pos f];simp) D (by rw [r];exact G) h
 refine wp_region_any hm ?_
 have h7:=Zmc (P:=P) (Q:=Q) (n:=T.length) (fun d t w' F hr=>Zeq (keep:=fun _=>false) _ _ _ _ (by
  have:=Zcu (P:=P) (Q:=Q) u (T.map fun i=>(false,i)) _ t w' h6 d (Zkg T t w' (fun i z=>⟨rfl,List.all_eq_true.1 h4 i z⟩) (hr w' F))
  simpa using this)) _ _ a w.drew D hC hT
 rw [r,h5] at h7
 simpa using h7
end
end Go.Proofs.YthfilnflgahcjaaGreatDoor

