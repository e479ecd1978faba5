import Derived.Test.YteddjlbfbpecjaaGreatDoorJoin34
namespace Go.Proofs.YteddjlbfbpecjaaGreatDoor
open Go.RowKit Go.Shelf
set_option linter.all false
attribute [local go_sem] Oper.semAt_some
def Zcn  : Option Int->Int->Bool
 | none,_=>true
 | some y,x=>!decide (x<=y)
def Zg1 (D:List Zo):Nat->Option Int
 | 0=>none
 | j+1=>(D[j]?).map Zo.id
def Zg2 (D:List Jg):Nat->Option Int
 | 0=>none
 | j+1=>(D[j]?).map Jg.id
def Zdq (nn:Int):Option Int->List Zo->Bool
 | _,[]=>true
 | p,n::r=>!decide (n.id<0)&&(!decide (nn<=n.id)&&(Zcn p n.id&&(Zdm none n.labels&&(Zbj none n.props&&Zdq nn (some n.id) r))))
def Zem (D:List Zo) (nr:Int):Option Int->List Jg->Bool
 | _,[]=>true
 | p,n::r=>!decide (n.id<0)&&(!decide (nr<=n.id)&&(Zcn p n.id&&(Ju n.type.data.toList&&(Zbj none n.props&&(!decide (Zcc n.fr D 0<0)&&(!decide (Zcc n.tt D 0<0)&&Zem D nr (some n.id) r))))))
def Zrn (g:Zt):Bool :=
 !decide ((65536:Int)<(g.nodes.length:Int)+(g.rels.length:Int))&&(!decide (g.nn<0)&&(!decide (4611686018427387904<g.nn)&&(!decide (g.nr<0)&&(!decide (4611686018427387904<g.nr)&&(Zdq g.nn none g.nodes&&Zem g.nodes g.nr none g.rels)))))
theorem Zxc {nn:Int} {D:List Zo} {j:Nat} {n:Zo} (h:D[j]?=some n):Zdq nn (Zg1 D j) (D.drop j)=(!decide (n.id<0)&&(!decide (nn<=n.id)&&(Zcn (Zg1 D j) n.id&&(Zdm none n.labels&&(Zbj none n.props&&Zdq nn (Zg1 D (j+1)) (D.drop (j+1))))))):=by
 obtain ⟨hj,hx⟩:=List.getElem?_eq_some_iff.1 h
 have e:Zg1 D (j+1)=some n.id:=by show (D[j]?).map Zo.id=_;rw [h];rfl
 rw [List.drop_eq_getElem_cons hj,hx,e]
 cases Zg1 D j<;>rfl
theorem Jav {nn:List Zo} {nr:Int} {D:List Jg} {j:Nat} {n:Jg} (h:D[j]?=some n):Zem nn nr (Zg2 D j) (D.drop j)=(!decide (n.id<0)&&(!decide (nr<=n.id)&&(Zcn (Zg2 D j) n.id&&(Ju n.type.data.toList&&(Zbj none n.props&&(!decide (Zcc n.fr nn 0<0)&&(!decide (Zcc n.tt nn 0<0)&&Zem nn nr (Zg2 D (j+1)) (D.drop (j+1))))))))):=by
 obtain ⟨hj,hx⟩:=List.getElem?_eq_some_iff.1 h
 have e:Zg2 D (j+1)=some n.id:=by show (D[j]?).map Jg.id=_;rw [h];rfl
 rw [List.drop_eq_getElem_cons hj,hx,e]
 cases Zg2 D j<;>rfl
structure Jge (g:Zt):Prop where
 nodes:g.nodes.length<=2000000
 rels:g.rels.length<=2000000
 ofNode:∀ n ∈ g.nodes,(∀ x ∈ n.labels,x.size<=140737488355328)/\∀ q ∈ n.props,Zo6 q
 ofRel:∀ r ∈ g.rels,r.type.size<=140737488355328/\∀ q ∈ r.props,Zo6 q
set_option maxRecDepth 100000 in
set_option maxHeartbeats 8000000 in
theorem Zjb (g:Zt) (B:Nat) (v:Value) (w:World) (hB:B<=w.heap.size) (hg:Zr B w v g) (hz:Jge g):Calls Tryz.prog 14 #[v] w fun e w'=>e=.returned (.bool (Zrn g))/\Below w.heap.size w w':=by
 have HG:=Zb hg
 obtain ⟨na,R,ra,rc,rfl,hn,hr⟩:=hg
 obtain ⟨e7,e6,c8,b3⟩:=hz
 obtain ⟨res,d4⟩:∃ r,Zrn g=r:=⟨_,rfl⟩
 have e9:=Zb d4
 rw [d4]
 have d0:Hid (∀ id W,Below w.heap.size w W->Calls Tryz.prog 44 #[.agg #[.slice na g.nodes.length R,.slice ra g.rels.length rc,.int .i64 g.nn,.int .i64 g.nr],.int .i64 id] W fun e w'=>e=.returned (.int .i64 (Zcc id g.nodes 0))/\Below W.heap.size W w'):=fun id W Q=>Zix g id B _ W (Nat.le_trans hB Q.size) (HG.out.below (Q.mono hB))
 clear HG d4
 obtain ⟨D,U,nn,nr⟩:=g
 simp only at hn hr e7 e6 c8 b3 d0 |-
 obtain ⟨a',c',e1,h1,h2,e5⟩:=hn
 obtain ⟨rfl,rfl⟩:na=a'/\R=c':=by injection e1 with e1 _ e2;exact ⟨e1,e2⟩
 obtain ⟨a',c',e2,r1,r2,e8⟩:=hr
 obtain ⟨rfl,rfl⟩:ra=a'/\rc=c':=by injection e2 with e1 _ e2;exact ⟨e1,e2⟩
 have HP:=Zb e5
 have HQ:=Zb e8
 have f6:=Zb c8
 have f9:=Zb b3
 have HR:Hid ((!decide ((65536:Int)<(D.length:Int)+(U.length:Int))&&(!decide (nn<0)&&(!decide (4611686018427387904<nn)&&(!decide (nr<0)&&(!decide (4611686018427387904<nr)&&(Zdq nn none D&&Zem D nr none U))))))=res):=e9.out
 obtain ⟨n,hn⟩:∃ n,D.length=n:=⟨_,rfl⟩
 have HN:=Zb hn
 obtain ⟨m,hm⟩:∃ m,U.length=m:=⟨_,rfl⟩
 have HM:=Zb hm
 rw [hn] at h1 e7
 rw [hm] at r1 e6
 rw [hn,hm] at HR d0 |-
 clear e5 e8 c8 b3 hn hm e1 e2 e9
 have V:n<=9223372036854775807:=by omega
 have f5:m<=9223372036854775807:=by omega
 obtain ⟨W1,d7⟩:∃ W1,w.alloc (.cells #[.slice na n R,.slice ra m rc,.int .i64 nn,.int .i64 nr] 25)=W1:=⟨_,rfl⟩
 have b7:=Zl w #[.slice na n R,.slice ra m rc,.int .i64 nn,.int .i64 nr] 25
 rw [d7] at b7
 have f0:Below w.heap.size w W1:=d7▸(Below.refl _ _).alloc (Nat.le_refl _) _
 have a7:=Zb b7
 have E:=Zb f0
 have f3:=Zb d7
 have q0:=b7.cell 0 rfl
 have q1:=b7.cell 1 rfl
 have q2:=b7.cell 2 rfl
 have q3:=b7.cell 3 rfl
 clear f0 d7 b7
 have f1:IntKind.i64.wrap ((n:Int)+(m:Int))=(n:Int)+(m:Int):=by rw [IntKind.wrap_i64];omega
 go_enter Tryz.func14,Tryz.ntmps14
 go_upto_region 1 with fail
 rw [f3.out]
 clear f3
 by_cases t1:(65536:Int)<(n:Int)+(m:Int)
 ·have G:Hid (res=false):=by
   show _=_
   rw [<- HR.out,decide_eq_true t1];rfl
  go_wp2_with fail
  go_ret
  exact ⟨by rw [G.out];rfl,E.out⟩
 ·skip
  by_cases t2:nn<0
  ·have G:Hid (res=false):=by
    show _=_
    rw [<- HR.out,decide_eq_false t1,decide_eq_true t2];rfl
   go_wp2_with fail
   go_ret
   exact ⟨by rw [G.out];rfl,E.out⟩
  ·skip
   by_cases t3:4611686018427387904<nn
   ·have G:Hid (res=false):=by
     show _=_
     rw [<- HR.out,decide_eq_false t1,decide_eq_false t2,decide_eq_true t3];rfl
    go_wp2_with fail
    go_ret
    exact ⟨by rw [G.out];rfl,E.out⟩
   ·skip
    by_cases t4:nr<0
    ·have G:Hid (res=false):=by
      show _=_
      rw [<- HR.out,decide_eq_false t1,decide_eq_false t2,decide_eq_false t3,decide_eq_true t4];rfl
     go_wp2_with fail
     go_ret
     exact ⟨by rw [G.out];rfl,E.out⟩
    ·skip
     by_cases t5:4611686018427387904<nr
     ·have G:Hid (res=false):=by
       show _=_
       rw [<- HR.out,decide_eq_false t1,decide_eq_false t2,decide_eq_false t3,decide_eq_false t4,decide_eq_true t5];rfl
      go_wp2_with fail
      go_ret
      exact ⟨by rw [G.out];rfl,E.out⟩
     ·skip
      have f7:Hid ((Zdq nn none D&&Zem D nr none U)=res):=by
       show _=_
       rw [<- HR.out,decide_eq_false t1,decide_eq_false t2,decide_eq_false t3,decide_eq_false t4,decide_eq_false t5];rfl
      go_wp2_with fail
      clear t1 t2 t3 t4 t5 f1 HR
      go_loopw [3] (fun i wr=>∃ j:Nat,j<=n/\i=.int .i64 j/\Below W1.heap.size W1 wr/\(Zdq nn (Zg1 D j) (D.drop j)&&Zem D nr none U)=res) (fun i _=>n - (intOf i).toNat)
      case atStart=>exact ⟨0,Nat.zero_le _,rfl,Below.refl _ _,f7.out⟩
      case round =>
       obtain ⟨j,hj,rfl,a8,d6⟩:=hrel
       have a9:=Zb a8
       have d2:=Zb d6
       have f4:w.heap.size<wr.heap.size:=by
        have:=a7.out.lt
        have:=a8.size
        omega
       have q0:=(a7.out.below a8 a7.out.lt).cell 0 rfl
       clear a8 d6
       by_cases hlt:j<n
       ·have d1:(j:Int)<n:=by omega
        obtain ⟨⟨xi,xl,N⟩,hx⟩:∃ q,D[j]?=some q:=⟨_,List.getElem?_eq_getElem (by have:=HN.out;omega)⟩
        have HX:=Zb hx
        obtain ⟨M,off,rfl,e4,hc⟩:=HP.out.resolve_left (by intro e;rw [e] at hx;simp at hx)
        have e0:M<wr.heap.size:=by omega
        have d3:=Zb (Za E.out a9.out)
        have b8:∀ i q,D[i]?=some q->Ze9 B wr M (off+i*3) q:=fun i q hq=>(hc i q hq).below (d3.out.mono hB) e4
        have d8:=Zb b8
        obtain ⟨la,lc,pv,⟨c0,c1,c2⟩,⟨e3,d9⟩,hk,hp⟩:=b8 j _ hx
        obtain ⟨b5,b9⟩:=f6.out _ (List.mem_of_getElem? hx)
        simp only at c0 c1 c2 e3 d9 hk hp b5 b9
        have L:=Zb (fun W (Q:Below wr.heap.size wr W)=>Zu2 xl B la lc W (by have:=Q.size;omega) (hk.below (Q.mono (by omega))) e3 d9 b5)
        have P:=Zb (fun W (Q:Below wr.heap.size wr W)=>Zj9 pv N B W (by have:=Q.size;omega) (hp.below (Q.mono (by omega))) b9)
        obtain ⟨T,S,rfl,_,_,_⟩:=hp
        obtain ⟨bn,c6⟩:∃ b,Zdm none xl=b:=⟨_,rfl⟩
        obtain ⟨bp,c9⟩:∃ b,Zbj none N=b:=⟨_,rfl⟩
        rw [c6] at L
        rw [c9] at P
        have HE:Hid (res=((!decide (xi<0)&&(!decide (nn<=xi)&&(Zcn (Zg1 D j) xi&&(bn&&(bp&&Zdq nn (Zg1 D (j+1)) (D.drop (j+1)))))))&&Zem D nr none U)):=by
         show _=_
         rw [<- d2.out,Zxc HX.out]
         simp only
         rw [c6,c9]
        clear hc hx b8 hk b5 b9 c6 c9 e3 d9
        go_upto_region 7 with fail
        generalize b2:World.alloc _ _=W2
        have b1:=Zl wr #[.int .i64 xi,.slice la xl.length lc,.slice T N.length S] 47
        rw [b2] at b1
        have b0:=Zb b1
        have c7:Hid (Below wr.heap.size wr W2):=by rw [<- b2];exact (Below.refl _ _).alloc (Nat.le_refl _) _
        have A:=Zb (Za a9.out c7.out)
        have f:Hid (∀ W,Below W2.heap.size W2 W->W.cell? ⟨wr.heap.size,0,none⟩=some (.int .i64 xi)/\W.cell? ⟨wr.heap.size,1,none⟩=some (.slice la xl.length lc)/\W.cell? ⟨wr.heap.size,2,none⟩=some (.slice T N.length S)/\W.cell? ⟨w.heap.size,0,none⟩=some (.slice (some ⟨M,off,none⟩) n R)/\W.cell? ⟨w.heap.size,2,none⟩=some (.int .i64 nn)/\Below wr.heap.size wr W):=fun W Q=>by
         have hR:=b0.out.below Q b0.out.lt
         have hG:=a7.out.below (Za A.out Q) a7.out.lt
         exact ⟨hR.cell 0 rfl,hR.cell 1 rfl,hR.cell 2 rfl,hG.cell 0 rfl,hG.cell 2 rfl,Za c7.out Q⟩
        clear b2 b1 c0 c1 c2 q0
        show (Code.region 7 RN7 true).wp _ _ _ _
        by_cases a1:xi<0
        ·have s:=Zb (decide_eq_true a1)
         clear a1
         refine Ja5 w.heap.size wr.heap.size M off n R j 0 xi 0 nn la xl.length lc (.slice T N.length S) _ _ _ rfl ⟨rfl,rfl,rfl⟩ ?_ ?_
         ·intro W d
          exact ⟨(f.out W d).1,s.out⟩
         intro c W3 C l F
         rw [Zj C [47,48,49,50,51,52,53,54,55,56,57,58,59,60,61,62,63,64,65,66,67,68,69,70,71,72,73,74,75,76,77,78,79,80,81,82,83,84] (by kernel_rfl)]
         simp only [List.foldl_cons,List.foldl_nil,List.setIfInBounds_toArray,List.set_cons_succ,List.set_cons_zero,show Zbd c 84=_ from F]
         clear F C
         have t:=Zb (Za A.out l)
         clear l
         have G:Hid (res=false):=by
          show _=_
          rw [HE.out,s.out];rfl
         go_wp2_with fail
         go_ret
         exact ⟨by rw [G.out];rfl,Za E.out t.out⟩
        ·have s:=Zb (decide_eq_false a1)
         clear a1
         by_cases a2:nn<=xi
         ·have u:=Zb (decide_eq_true a2)
          clear a2
          refine Ja6 w.heap.size wr.heap.size M off n R j 0 xi 0 nn la xl.length lc (.slice T N.length S) _ _ _ rfl ⟨rfl,rfl,rfl⟩ ?_ ?_
          ·intro W d
           exact ⟨(f.out W d).1,s.out,(f.out W d).2.2.2.2.1,u.out⟩
          intro c W3 C l F
          rw [Zj C [47,48,49,50,51,52,53,54,55,56,57,58,59,60,61,62,63,64,65,66,67,68,69,70,71,72,73,74,75,76,77,78,79,80,81,82,83,84] (by kernel_rfl)]
          simp only [List.foldl_cons,List.foldl_nil,List.setIfInBounds_toArray,List.set_cons_succ,List.set_cons_zero,show Zbd c 84=_ from F]
          clear F C
          have t:=Zb (Za A.out l)
          clear l
          have G:Hid (res=false):=by
           show _=_
           rw [HE.out,s.out,u.out];rfl
          go_wp2_with fail
          go_ret
          exact ⟨by rw [G.out];rfl,Za E.out t.out⟩
         ·have u:=Zb (decide_eq_false a2)
          clear a2
          by_cases hj0:j=0
          ·have K:Hid (decide ((0:Int)<(j:Int))=false):=by
            show _=_
            simp;omega
           have I:Hid (Zcn (Zg1 D j) xi=true):=by
            show _=_
            rw [hj0];rfl
           clear hj0
           cases bn with
           | false =>
            refine Ja8 w.heap.size wr.heap.size M off n R j 0 xi 0 nn la xl.length lc (.slice T N.length S) _ _ _ rfl ⟨rfl,rfl,rfl⟩ ?_ ?_
            ·intro W d
             exact ⟨(f.out W d).1,s.out,(f.out W d).2.2.2.2.1,u.out,K.out,(f.out W d).2.1,L.out W (f.out W d).2.2.2.2.2⟩
            intro c W3 C l F
            rw [Zj C [47,48,49,50,51,52,53,54,55,56,57,58,59,60,61,62,63,64,65,66,67,68,69,70,71,72,73,74,75,76,77,78,79,80,81,82,83,84] (by kernel_rfl)]
            simp only [List.foldl_cons,List.foldl_nil,List.setIfInBounds_toArray,List.set_cons_succ,List.set_cons_zero,show Zbd c 84=_ from F]
            clear F C
            have t:=Zb (Za A.out l)
            clear l
            have G:Hid (res=false):=by
             show _=_
             rw [HE.out,s.out,u.out,I.out];rfl
            go_wp2_with fail
            go_ret
            exact ⟨by rw [G.out];rfl,Za E.out t.out⟩
           | true =>
            cases bp with
            | false =>
             refine Ja9 w.heap.size wr.heap.size M off n R j 0 xi 0 nn la xl.length lc (.slice T N.length S) _ _ _ rfl ⟨rfl,rfl,rfl⟩ ?_ ?_
             ·intro W d
              exact ⟨(f.out W d).1,s.out,(f.out W d).2.2.2.2.1,u.out,K.out,(f.out W d).2.1,L.out W (f.out W d).2.2.2.2.2,(f.out W d).2.2.1,P.out W (f.out W d).2.2.2.2.2⟩
             intro c W3 C l F
             rw [Zj C [47,48,49,50,51,52,53,54,55,56,57,58,59,60,61,62,63,64,65,66,67,68,69,70,71,72,73,74,75,76,77,78,79,80,81,82,83,84] (by kernel_rfl)]
             simp only [List.foldl_cons,List.foldl_nil,List.setIfInBounds_toArray,List.set_cons_succ,List.set_cons_zero,show Zbd c 84=_ from F]
             clear F C
             have t:=Zb (Za A.out l)
             clear l
             have G:Hid (res=false):=by
              show _=_
              rw [HE.out,s.out,u.out,I.out];rfl
             go_wp2_with fail
             go_ret
             exact ⟨by rw [G.out];rfl,Za E.out t.out⟩
            | true =>
             refine Jba w.heap.size wr.heap.size M off n R j 0 xi 0 nn la xl.length lc (.slice T N.length S) _ _ _ rfl ⟨rfl,rfl,rfl⟩ ?_ ?_
             ·intro W d
              exact ⟨(f.out W d).1,s.out,(f.out W d).2.2.2.2.1,u.out,K.out,(f.out W d).2.1,L.out W (f.out W d).2.2.2.2.2,(f.out W d).2.2.1,P.out W (f.out W d).2.2.2.2.2⟩
             intro c W3 C l F
             rw [Zj C [47,48,49,50,51,52,53,54,55,56,57,58,59,60,61,62,63,64,65,66,67,68,69,70,71,72,73,74,75,76,77,78,79,80,81,82,83,84] (by kernel_rfl)]
             simp only [List.foldl_cons,List.foldl_nil,List.setIfInBounds_toArray,List.set_cons_succ,List.set_cons_zero,show Zbd c 84=_ from F]
             clear F C
             have t:=Zb (Za A.out l)
             clear l
             have c5:Hid ((Zdq nn (Zg1 D (j+1)) (D.drop (j+1))&&Zem D nr none U)=res):=by
              show _=_
              rw [HE.out,s.out,u.out,I.out];rfl
             go_wp2_with fail
             go_roundw
             case rel=>exact ⟨j+1,by omega,by go_num,t.out,c5.out⟩
             case measure=>simp [intOf];omega
          ·obtain ⟨k,hk⟩:∃ k,j=k+1:=⟨j - 1,by omega⟩
           obtain ⟨y,hy⟩:∃ y,D[k]?=some y:=⟨_,List.getElem?_eq_getElem (by have:=HN.out;omega)⟩
           obtain ⟨yi,b4⟩:∃ z,y.id=z:=⟨_,rfl⟩
           have HY:Hid (∀ W,Below W2.heap.size W2 W->W.cell? ⟨M,off+k*3,none⟩=some (.int .i64 yi)):=fun W Q=>by
            obtain ⟨_,_,_,⟨c0,_,_⟩,_⟩:=d8.out k y hy
            rw [b4] at c0
            exact ((Za c7.out Q).cell (p:=⟨M,off+k*3,none⟩) e0).trans c0
           have I:Hid (Zcn (Zg1 D j) xi=!decide (xi<=yi)):=by
            show _=_
            rw [hk];show Zcn ((D[k]?).map _) xi=_
            rw [hy,<- b4];rfl
           have K:Hid (decide ((0:Int)<(j:Int))=true):=by
            show _=_
            simp;omega
           have a0:Hid ((j:Int) - 1=(k:Int)):=by
            show _=_
            omega
           have a3:Hid (IntKind.i64.wrap (k:Int)=(k:Int)):=by
            show _=_
            rw [IntKind.wrap_i64];omega
           have X:k<n:=by omega
           clear hj0 hk hy b4
           by_cases a4:xi<=yi
           ·have H:=Zb (decide_eq_true a4)
            clear a4
            refine Ja7 w.heap.size wr.heap.size M off n R j k xi yi nn la xl.length lc (.slice T N.length S) _ _ _ rfl ⟨rfl,rfl,rfl⟩ ?_ ?_
            ·intro W d
             exact ⟨(f.out W d).1,s.out,(f.out W d).2.2.2.2.1,u.out,K.out,(f.out W d).2.2.2.1,a0.out,a3.out,X,V,HY.out W d,H.out⟩
            intro c W3 C l F
            rw [Zj C [47,48,49,50,51,52,53,54,55,56,57,58,59,60,61,62,63,64,65,66,67,68,69,70,71,72,73,74,75,76,77,78,79,80,81,82,83,84] (by kernel_rfl)]
            simp only [List.foldl_cons,List.foldl_nil,List.setIfInBounds_toArray,List.set_cons_succ,List.set_cons_zero,show Zbd c 84=_ from F]
            clear F C
            have t:=Zb (Za A.out l)
            clear l
            have G:Hid (res=false):=by
             show _=_
             rw [HE.out,s.out,u.out,I.out,H.out];rfl
            go_wp2_with fail
            go_ret
            exact ⟨by rw [G.out];rfl,Za E.out t.out⟩
           ·have H:=Zb (decide_eq_false a4)
            clear a4
            cases bn with
            | false =>
             refine Jbb w.heap.size wr.heap.size M off n R j k xi yi nn la xl.length lc (.slice T N.length S) _ _ _ rfl ⟨rfl,rfl,rfl⟩ ?_ ?_
             ·intro W d
              exact ⟨(f.out W d).1,s.out,(f.out W d).2.2.2.2.1,u.out,K.out,(f.out W d).2.2.2.1,a0.out,a3.out,X,V,HY.out W d,H.out,(f.out W d).2.1,L.out W (f.out W d).2.2.2.2.2⟩
             intro c W3 C l F
             rw [Zj C [47,48,49,50,51,52,53,54,55,56,57,58,59,60,61,62,63,64,65,66,67,68,69,70,71,72,73,74,75,76,77,78,79,80,81,82,83,84] (by kernel_rfl)]
             simp only [List.foldl_cons,List.foldl_nil,List.setIfInBounds_toArray,List.set_cons_succ,List.set_cons_zero,show Zbd c 84=_ from F]
             clear F C
             have t:=Zb (Za A.out l)
             clear l
             have G:Hid (res=false):=by
              show _=_
              rw [HE.out,s.out,u.out,I.out,H.out];rfl
             go_wp2_with fail
             go_ret
             exact ⟨by rw [G.out];rfl,Za E.out t.out⟩
            | true =>
             cases bp with
             | false =>
              refine Jbc w.heap.size wr.heap.size M off n R j k xi yi nn la xl.length lc (.slice T N.length S) _ _ _ rfl ⟨rfl,rfl,rfl⟩ ?_ ?_
              ·intro W d
               exact ⟨(f.out W d).1,s.out,(f.out W d).2.2.2.2.1,u.out,K.out,(f.out W d).2.2.2.1,a0.out,a3.out,X,V,HY.out W d,H.out,(f.out W d).2.1,L.out W (f.out W d).2.2.2.2.2,(f.out W d).2.2.1,P.out W (f.out W d).2.2.2.2.2⟩
              intro c W3 C l F
              rw [Zj C [47,48,49,50,51,52,53,54,55,56,57,58,59,60,61,62,63,64,65,66,67,68,69,70,71,72,73,74,75,76,77,78,79,80,81,82,83,84] (by kernel_rfl)]
              simp only [List.foldl_cons,List.foldl_nil,List.setIfInBounds_toArray,List.set_cons_succ,List.set_cons_zero,show Zbd c 84=_ from F]
              clear F C
              have t:=Zb (Za A.out l)
              clear l
              have G:Hid (res=false):=by
               show _=_
               rw [HE.out,s.out,u.out,I.out,H.out];rfl
              go_wp2_with fail
              go_ret
              exact ⟨by rw [G.out];rfl,Za E.out t.out⟩
             | true =>
              refine Jbd w.heap.size wr.heap.size M off n R j k xi yi nn la xl.length lc (.slice T N.length S) _ _ _ rfl ⟨rfl,rfl,rfl⟩ ?_ ?_
              ·intro W d
               exact ⟨(f.out W d).1,s.out,(f.out W d).2.2.2.2.1,u.out,K.out,(f.out W d).2.2.2.1,a0.out,a3.out,X,V,HY.out W d,H.out,(f.out W d).2.1,L.out W (f.out W d).2.2.2.2.2,(f.out W d).2.2.1,P.out W (f.out W d).2.2.2.2.2⟩
              intro c W3 C l F
              rw [Zj C [47,48,49,50,51,52,53,54,55,56,57,58,59,60,61,62,63,64,65,66,67,68,69,70,71,72,73,74,75,76,77,78,79,80,81,82,83,84] (by kernel_rfl)]
              simp only [List.foldl_cons,List.foldl_nil,List.setIfInBounds_toArray,List.set_cons_succ,List.set_cons_zero,show Zbd c 84=_ from F]
              clear F C
              have t:=Zb (Za A.out l)
              clear l
              have c5:Hid ((Zdq nn (Zg1 D (j+1)) (D.drop (j+1))&&Zem D nr none U)=res):=by
               show _=_
               rw [HE.out,s.out,u.out,I.out,H.out];rfl
              go_wp2_with fail
              go_roundw
              case rel=>exact ⟨j+1,by omega,by go_num,t.out,c5.out⟩
              case measure=>simp [intOf];omega
       ·have f8:Hid (Zem D nr none U=res):=by
         show _=_
         rw [<- d2.out,List.drop_of_length_le (by have:=HN.out;omega)]
         cases Zg1 D j<;>rfl
        have d1:¬ (j:Int)<n:=by omega
        have f2:=a9
        go_wp2_with fail
        clear hlt d1 d2 hj a9 q0 f4
        go_loopw [5] (fun i wr=>∃ j:Nat,j<=m/\i=.int .i64 j/\Below W1.heap.size W1 wr/\Zem D nr (Zg2 U j) (U.drop j)=res) (fun i _=>m - (intOf i).toNat)
        case atStart=>exact ⟨0,Nat.zero_le _,rfl,f2.out,f8.out⟩
        case round =>
         clear f2
         obtain ⟨j,hj,rfl,a8,d6⟩:=hrel
         have a9:=Zb a8
         have d2:=Zb d6
         have f4:w.heap.size<wr.heap.size:=by
          have:=a7.out.lt
          have:=a8.size
          omega
         have q1:=(a7.out.below a8 a7.out.lt).cell 1 rfl
         clear a8 d6
         by_cases hlt:j<m
         ·have d1:(j:Int)<m:=by omega
          obtain ⟨⟨xi,fr,tt,ty,N⟩,hx⟩:∃ q,U[j]?=some q:=⟨_,List.getElem?_eq_getElem (by have:=HM.out;omega)⟩
          have HX:=Zb hx
          obtain ⟨M,off,rfl,e4,hc⟩:=HQ.out.resolve_left (by intro e;rw [e] at hx;simp at hx)
          have e0:M<wr.heap.size:=by omega
          have d3:=Zb (Za E.out a9.out)
          have b8:∀ i q,U[i]?=some q->Zj3 B wr M (off+i*5) q:=fun i q hq=>(hc i q hq).below (d3.out.mono hB) e4
          have d8:=Zb b8
          obtain ⟨pv,⟨c0,c1,c2,c3,c4⟩,_,hp⟩:=b8 j _ hx
          obtain ⟨b5,b9⟩:=f9.out _ (List.mem_of_getElem? hx)
          simp only at c0 c1 c2 c3 c4 hp b5 b9
          have L:Hid (∀ W,Below wr.heap.size wr W->Calls Tryz.prog 43 #[.string ty] W fun e w'=>e=.returned (.bool (Ju ty.data.toList))/\Below W.heap.size W w'):=fun W Q=>(Zjs ty W b5).mono fun e w' ⟨h1,h2⟩=>⟨h1,h2▸Below.refl _ _⟩
          have P:=Zb (fun W (Q:Below wr.heap.size wr W)=>Zj9 pv N B W (by have:=Q.size;omega) (hp.below (Q.mono (by omega))) b9)
          have b6:=Zb (fun W (Q:Below wr.heap.size wr W)=>d0.out fr W (Za d3.out Q))
          have d5:=Zb (fun W (Q:Below wr.heap.size wr W)=>d0.out tt W (Za d3.out Q))
          obtain ⟨T,S,rfl,_,_,_⟩:=hp
          obtain ⟨bn,c6⟩:∃ b,Ju ty.data.toList=b:=⟨_,rfl⟩
          obtain ⟨bp,c9⟩:∃ b,Zbj none N=b:=⟨_,rfl⟩
          obtain ⟨z1,c8⟩:∃ b,Zcc fr D 0=b:=⟨_,rfl⟩
          obtain ⟨z2,b3⟩:∃ b,Zcc tt D 0=b:=⟨_,rfl⟩
          rw [c6] at L
          rw [c9] at P
          rw [c8] at b6
          rw [b3] at d5
          have HE:Hid (res=(!decide (xi<0)&&(!decide (nr<=xi)&&(Zcn (Zg2 U j) xi&&(bn&&(bp&&(!decide (z1<0)&&(!decide (z2<0)&&Zem D nr (Zg2 U (j+1)) (U.drop (j+1)))))))))):=by
           show _=_
           rw [<- d2.out,Jav HX.out]
           simp only
           rw [c6,c9,c8,b3]
          clear hc hx b8 b5 b9 c6 c9 c8 b3
          go_upto_region 13 with fail
          generalize b2:World.alloc _ _=W2
          have b1:=Zl wr #[.int .i64 xi,.int .i64 fr,.int .i64 tt,.string ty,.slice T N.length S] 49
          rw [b2] at b1
          have b0:=Zb b1
          have c7:Hid (Below wr.heap.size wr W2):=by rw [<- b2];exact (Below.refl _ _).alloc (Nat.le_refl _) _
          have A:=Zb (Za a9.out c7.out)
          have f:Hid (∀ W,Below W2.heap.size W2 W->W.cell? ⟨wr.heap.size,0,none⟩=some (.int .i64 xi)/\W.cell? ⟨wr.heap.size,1,none⟩=some (.int .i64 fr)/\W.cell? ⟨wr.heap.size,2,none⟩=some (.int .i64 tt)/\W.cell? ⟨wr.heap.size,3,none⟩=some (.string ty)/\W.cell? ⟨wr.heap.size,4,none⟩=some (.slice T N.length S)/\W.cell? ⟨w.heap.size,0,none⟩=some (.slice na n R)/\W.cell? ⟨w.heap.size,1,none⟩=some (.slice (some ⟨M,off,none⟩) m rc)/\W.cell? ⟨w.heap.size,2,none⟩=some (.int .i64 nn)/\W.cell? ⟨w.heap.size,3,none⟩=some (.int .i64 nr)/\Below wr.heap.size wr W):=fun W Q=>by
           have hR:=b0.out.below Q b0.out.lt
           have hG:=a7.out.below (Za A.out Q) a7.out.lt
           exact ⟨hR.cell 0 rfl,hR.cell 1 rfl,hR.cell 2 rfl,hR.cell 3 rfl,hR.cell 4 rfl,hG.cell 0 rfl,hG.cell 1 rfl,hG.cell 2 rfl,hG.cell 3 rfl,Za c7.out Q⟩
          clear b2 b1 c0 c1 c2 c3 c4 q1 V
          have V:=f5
          show (Code.region 13 Zgs true).wp _ _ _ _
          by_cases a1:xi<0
          ·have s:=Zb (decide_eq_true a1)
           clear a1
           refine Zzo w.heap.size wr.heap.size M off m rc j 0 xi 0 fr tt z1 z2 nn nr ty (.slice na n R) (.slice T N.length S) _ _ _ rfl ⟨rfl,rfl,rfl⟩ ?_ ?_
           ·intro W d
            exact ⟨(f.out W d).1,s.out⟩
           intro c W3 C l o
           rw [Zj C [97,98,99,100,101,102,103,104,105,106,107,108,109,110,111,112,113,114,115,116,117,118,119,120,121,122,123,124,125,126,127,128,129,130,131,132,133,134,135,136,137,138,139,140,141,142,143,144,145,146,147,148] (by kernel_rfl)]
           simp only [List.foldl_cons,List.foldl_nil,List.setIfInBounds_toArray,List.set_cons_succ,List.set_cons_zero,show Zbd c 148=_ from o]
           clear o C
           have t:=Zb (Za A.out l)
           clear l
           have G:Hid (res=false):=by
            show _=_
            rw [HE.out,s.out];rfl
           go_wp2_with fail
           go_ret
           exact ⟨by rw [G.out];rfl,Za E.out t.out⟩
          ·have s:=Zb (decide_eq_false a1)
           clear a1
           by_cases a2:nr<=xi
           ·have u:=Zb (decide_eq_true a2)
            clear a2
            refine Zzp w.heap.size wr.heap.size M off m rc j 0 xi 0 fr tt z1 z2 nn nr ty (.slice na n R) (.slice T N.length S) _ _ _ rfl ⟨rfl,rfl,rfl⟩ ?_ ?_
            ·intro W d
             exact ⟨(f.out W d).1,s.out,(f.out W d).2.2.2.2.2.2.2.2.1,u.out⟩
            intro c W3 C l o
            rw [Zj C [97,98,99,100,101,102,103,104,105,106,107,108,109,110,111,112,113,114,115,116,117,118,119,120,121,122,123,124,125,126,127,128,129,130,131,132,133,134,135,136,137,138,139,140,141,142,143,144,145,146,147,148] (by kernel_rfl)]
            simp only [List.foldl_cons,List.foldl_nil,List.setIfInBounds_toArray,List.set_cons_succ,List.set_cons_zero,show Zbd c 148=_ from o]
            clear o C
            have t:=Zb (Za A.out l)
            clear l
            have G:Hid (res=false):=by
             show _=_
             rw [HE.out,s.out,u.out];rfl
            go_wp2_with fail
            go_ret
            exact ⟨by rw [G.out];rfl,Za E.out t.out⟩
           ·have u:=Zb (decide_eq_false a2)
            clear a2
            by_cases hj0:j=0
            ·have K:Hid (decide ((0:Int)<(j:Int))=false):=by
              show _=_
              simp;omega
             have I:Hid (Zcn (Zg2 U j) xi=true):=by
              show _=_
              rw [hj0];rfl
             clear hj0
             cases bn with
             | false =>
              refine Zvq w.heap.size wr.heap.size M off m rc j 0 xi 0 fr tt z1 z2 nn nr ty (.slice na n R) (.slice T N.length S) _ _ _ rfl ⟨rfl,rfl,rfl⟩ ?_ ?_
              ·intro W d
               exact ⟨(f.out W d).1,s.out,(f.out W d).2.2.2.2.2.2.2.2.1,u.out,K.out,(f.out W d).2.2.2.1,L.out W (f.out W d).2.2.2.2.2.2.2.2.2⟩
              intro c W3 C l o
              rw [Zj C [97,98,99,100,101,102,103,104,105,106,107,108,109,110,111,112,113,114,115,116,117,118,119,120,121,122,123,124,125,126,127,128,129,130,131,132,133,134,135,136,137,138,139,140,141,142,143,144,145,146,147,148] (by kernel_rfl)]
              simp only [List.foldl_cons,List.foldl_nil,List.setIfInBounds_toArray,List.set_cons_succ,List.set_cons_zero,show Zbd c 148=_ from o]
              clear o C
              have t:=Zb (Za A.out l)
              clear l
              have G:Hid (res=false):=by
               show _=_
               rw [HE.out,s.out,u.out,I.out];rfl
              go_wp2_with fail
              go_ret
              exact ⟨by rw [G.out];rfl,Za E.out t.out⟩
             | true =>
              cases bp with
              | false =>
               refine Zvr w.heap.size wr.heap.size M off m rc j 0 xi 0 fr tt z1 z2 nn nr ty (.slice na n R) (.slice T N.length S) _ _ _ rfl ⟨rfl,rfl,rfl⟩ ?_ ?_
               ·intro W d
                exact ⟨(f.out W d).1,s.out,(f.out W d).2.2.2.2.2.2.2.2.1,u.out,K.out,(f.out W d).2.2.2.1,L.out W (f.out W d).2.2.2.2.2.2.2.2.2,(f.out W d).2.2.2.2.1,P.out W (f.out W d).2.2.2.2.2.2.2.2.2⟩
               intro c W3 C l o
               rw [Zj C [97,98,99,100,101,102,103,104,105,106,107,108,109,110,111,112,113,114,115,116,117,118,119,120,121,122,123,124,125,126,127,128,129,130,131,132,133,134,135,136,137,138,139,140,141,142,143,144,145,146,147,148] (by kernel_rfl)]
               simp only [List.foldl_cons,List.foldl_nil,List.setIfInBounds_toArray,List.set_cons_succ,List.set_cons_zero,show Zbd c 148=_ from o]
               clear o C
               have t:=Zb (Za A.out l)
               clear l
               have G:Hid (res=false):=by
                show _=_
                rw [HE.out,s.out,u.out,I.out];rfl
               go_wp2_with fail
               go_ret
               exact ⟨by rw [G.out];rfl,Za E.out t.out⟩
              | true =>
               by_cases a5:z1<0
               ·have O:=Zb (decide_eq_true a5)
                clear a5
                refine Zvs w.heap.size wr.heap.size M off m rc j 0 xi 0 fr tt z1 z2 nn nr ty (.slice na n R) (.slice T N.length S) _ _ _ rfl ⟨rfl,rfl,rfl⟩ ?_ ?_
                ·intro W d
                 exact ⟨(f.out W d).1,s.out,(f.out W d).2.2.2.2.2.2.2.2.1,u.out,K.out,(f.out W d).2.2.2.1,L.out W (f.out W d).2.2.2.2.2.2.2.2.2,(f.out W d).2.2.2.2.1,P.out W (f.out W d).2.2.2.2.2.2.2.2.2,(f.out W d).2.2.2.2.2.1,(f.out W d).2.2.2.2.2.2.1,(f.out W d).2.2.2.2.2.2.2.1,(f.out W d).2.1,b6.out W (f.out W d).2.2.2.2.2.2.2.2.2,O.out⟩
                intro c W3 C l o
                rw [Zj C [97,98,99,100,101,102,103,104,105,106,107,108,109,110,111,112,113,114,115,116,117,118,119,120,121,122,123,124,125,126,127,128,129,130,131,132,133,134,135,136,137,138,139,140,141,142,143,144,145,146,147,148] (by kernel_rfl)]
                simp only [List.foldl_cons,List.foldl_nil,List.setIfInBounds_toArray,List.set_cons_succ,List.set_cons_zero,show Zbd c 148=_ from o]
                clear o C
                have t:=Zb (Za A.out l)
                clear l
                have G:Hid (res=false):=by
                 show _=_
                 rw [HE.out,s.out,u.out,I.out,O.out];rfl
                go_wp2_with fail
                go_ret
                exact ⟨by rw [G.out];rfl,Za E.out t.out⟩
               ·have O:=Zb (decide_eq_false a5)
                clear a5
                by_cases a6:z2<0
                ·have Y:=Zb (decide_eq_true a6)
                 clear a6
                 refine Zvt w.heap.size wr.heap.size M off m rc j 0 xi 0 fr tt z1 z2 nn nr ty (.slice na n R) (.slice T N.length S) _ _ _ rfl ⟨rfl,rfl,rfl⟩ ?_ ?_
                 ·intro W d
                  exact ⟨(f.out W d).1,s.out,(f.out W d).2.2.2.2.2.2.2.2.1,u.out,K.out,(f.out W d).2.2.2.1,L.out W (f.out W d).2.2.2.2.2.2.2.2.2,(f.out W d).2.2.2.2.1,P.out W (f.out W d).2.2.2.2.2.2.2.2.2,(f.out W d).2.2.2.2.2.1,(f.out W d).2.2.2.2.2.2.1,(f.out W d).2.2.2.2.2.2.2.1,(f.out W d).2.1,b6.out W (f.out W d).2.2.2.2.2.2.2.2.2,O.out,(f.out W d).2.2.1,d5.out W (f.out W d).2.2.2.2.2.2.2.2.2,Y.out⟩
                 intro c W3 C l o
                 rw [Zj C [97,98,99,100,101,102,103,104,105,106,107,108,109,110,111,112,113,114,115,116,117,118,119,120,121,122,123,124,125,126,127,128,129,130,131,132,133,134,135,136,137,138,139,140,141,142,143,144,145,146,147,148] (by kernel_rfl)]
                 simp only [List.foldl_cons,List.foldl_nil,List.setIfInBounds_toArray,List.set_cons_succ,List.set_cons_zero,show Zbd c 148=_ from o]
                 clear o C
                 have t:=Zb (Za A.out l)
                 clear l
                 have G:Hid (res=false):=by
                  show _=_
                  rw [HE.out,s.out,u.out,I.out,O.out,Y.out];rfl
                 go_wp2_with fail
                 go_ret
                 exact ⟨by rw [G.out];rfl,Za E.out t.out⟩
                ·have Y:=Zb (decide_eq_false a6)
                 clear a6
                 refine Zvu w.heap.size wr.heap.size M off m rc j 0 xi 0 fr tt z1 z2 nn nr ty (.slice na n R) (.slice T N.length S) _ _ _ rfl ⟨rfl,rfl,rfl⟩ ?_ ?_
                 ·intro W d
                  exact ⟨(f.out W d).1,s.out,(f.out W d).2.2.2.2.2.2.2.2.1,u.out,K.out,(f.out W d).2.2.2.1,L.out W (f.out W d).2.2.2.2.2.2.2.2.2,(f.out W d).2.2.2.2.1,P.out W (f.out W d).2.2.2.2.2.2.2.2.2,(f.out W d).2.2.2.2.2.1,(f.out W d).2.2.2.2.2.2.1,(f.out W d).2.2.2.2.2.2.2.1,(f.out W d).2.1,b6.out W (f.out W d).2.2.2.2.2.2.2.2.2,O.out,(f.out W d).2.2.1,d5.out W (f.out W d).2.2.2.2.2.2.2.2.2,Y.out⟩
                 intro c W3 C l o
                 rw [Zj C [97,98,99,100,101,102,103,104,105,106,107,108,109,110,111,112,113,114,115,116,117,118,119,120,121,122,123,124,125,126,127,128,129,130,131,132,133,134,135,136,137,138,139,140,141,142,143,144,145,146,147,148] (by kernel_rfl)]
                 simp only [List.foldl_cons,List.foldl_nil,List.setIfInBounds_toArray,List.set_cons_succ,List.set_cons_zero,show Zbd c 148=_ from o]
                 clear o C
                 have t:=Zb (Za A.out l)
                 clear l
                 have c5:Hid (Zem D nr (Zg2 U (j+1)) (U.drop (j+1))=res):=by
                  show _=_
                  rw [HE.out,s.out,u.out,I.out,O.out,Y.out];rfl
                 go_wp2_with fail
                 go_roundw
                 case rel=>exact ⟨j+1,by omega,by go_num,t.out,c5.out⟩
                 case measure=>simp [intOf];omega
            ·obtain ⟨k,hk⟩:∃ k,j=k+1:=⟨j - 1,by omega⟩
             obtain ⟨y,hy⟩:∃ y,U[k]?=some y:=⟨_,List.getElem?_eq_getElem (by have:=HM.out;omega)⟩
             obtain ⟨yi,b4⟩:∃ z,y.id=z:=⟨_,rfl⟩
             have HY:Hid (∀ W,Below W2.heap.size W2 W->W.cell? ⟨M,off+k*5,none⟩=some (.int .i64 yi)):=fun W Q=>by
              obtain ⟨_,⟨c0,_,_,_,_⟩,_⟩:=d8.out k y hy
              rw [b4] at c0
              exact ((Za c7.out Q).cell (p:=⟨M,off+k*5,none⟩) e0).trans c0
             have I:Hid (Zcn (Zg2 U j) xi=!decide (xi<=yi)):=by
              show _=_
              rw [hk];show Zcn ((U[k]?).map _) xi=_
              rw [hy,<- b4];rfl
             have K:Hid (decide ((0:Int)<(j:Int))=true):=by
              show _=_
              simp;omega
             have a0:Hid ((j:Int) - 1=(k:Int)):=by
              show _=_
              omega
             have a3:Hid (IntKind.i64.wrap (k:Int)=(k:Int)):=by
              show _=_
              rw [IntKind.wrap_i64];omega
             have X:k<m:=by omega
             clear hj0 hk hy b4
             by_cases a4:xi<=yi
             ·have H:=Zb (decide_eq_true a4)
              clear a4
              refine Zzq w.heap.size wr.heap.size M off m rc j k xi yi fr tt z1 z2 nn nr ty (.slice na n R) (.slice T N.length S) _ _ _ rfl ⟨rfl,rfl,rfl⟩ ?_ ?_
              ·intro W d
               exact ⟨(f.out W d).1,s.out,(f.out W d).2.2.2.2.2.2.2.2.1,u.out,K.out,(f.out W d).2.2.2.2.2.2.1,a0.out,a3.out,X,V,HY.out W d,H.out⟩
              intro c W3 C l o
              rw [Zj C [97,98,99,100,101,102,103,104,105,106,107,108,109,110,111,112,113,114,115,116,117,118,119,120,121,122,123,124,125,126,127,128,129,130,131,132,133,134,135,136,137,138,139,140,141,142,143,144,145,146,147,148] (by kernel_rfl)]
              simp only [List.foldl_cons,List.foldl_nil,List.setIfInBounds_toArray,List.set_cons_succ,List.set_cons_zero,show Zbd c 148=_ from o]
              clear o C
              have t:=Zb (Za A.out l)
              clear l
              have G:Hid (res=false):=by
               show _=_
               rw [HE.out,s.out,u.out,I.out,H.out];rfl
              go_wp2_with fail
              go_ret
              exact ⟨by rw [G.out];rfl,Za E.out t.out⟩
             ·have H:=Zb (decide_eq_false a4)
              clear a4
              cases bn with
              | false =>
               refine Zvv w.heap.size wr.heap.size M off m rc j k xi yi fr tt z1 z2 nn nr ty (.slice na n R) (.slice T N.length S) _ _ _ rfl ⟨rfl,rfl,rfl⟩ ?_ ?_
               ·intro W d
                exact ⟨(f.out W d).1,s.out,(f.out W d).2.2.2.2.2.2.2.2.1,u.out,K.out,(f.out W d).2.2.2.2.2.2.1,a0.out,a3.out,X,V,HY.out W d,H.out,(f.out W d).2.2.2.1,L.out W (f.out W d).2.2.2.2.2.2.2.2.2⟩
               intro c W3 C l o
               rw [Zj C [97,98,99,100,101,102,103,104,105,106,107,108,109,110,111,112,113,114,115,116,117,118,119,120,121,122,123,124,125,126,127,128,129,130,131,132,133,134,135,136,137,138,139,140,141,142,143,144,145,146,147,148] (by kernel_rfl)]
               simp only [List.foldl_cons,List.foldl_nil,List.setIfInBounds_toArray,List.set_cons_succ,List.set_cons_zero,show Zbd c 148=_ from o]
               clear o C
               have t:=Zb (Za A.out l)
               clear l
               have G:Hid (res=false):=by
                show _=_
                rw [HE.out,s.out,u.out,I.out,H.out];rfl
               go_wp2_with fail
               go_ret
               exact ⟨by rw [G.out];rfl,Za E.out t.out⟩
              | true =>
               cases bp with
               | false =>
                refine Zvw w.heap.size wr.heap.size M off m rc j k xi yi fr tt z1 z2 nn nr ty (.slice na n R) (.slice T N.length S) _ _ _ rfl ⟨rfl,rfl,rfl⟩ ?_ ?_
                ·intro W d
                 exact ⟨(f.out W d).1,s.out,(f.out W d).2.2.2.2.2.2.2.2.1,u.out,K.out,(f.out W d).2.2.2.2.2.2.1,a0.out,a3.out,X,V,HY.out W d,H.out,(f.out W d).2.2.2.1,L.out W (f.out W d).2.2.2.2.2.2.2.2.2,(f.out W d).2.2.2.2.1,P.out W (f.out W d).2.2.2.2.2.2.2.2.2⟩
                intro c W3 C l o
                rw [Zj C [97,98,99,100,101,102,103,104,105,106,107,108,109,110,111,112,113,114,115,116,117,118,119,120,121,122,123,124,125,126,127,128,129,130,131,132,133,134,135,136,137,138,139,140,141,142,143,144,145,146,147,148] (by kernel_rfl)]
                simp only [List.foldl_cons,List.foldl_nil,List.setIfInBounds_toArray,List.set_cons_succ,List.set_cons_zero,show Zbd c 148=_ from o]
                clear o C
                have t:=Zb (Za A.out l)
                clear l
                have G:Hid (res=false):=by
                 show _=_
                 rw [HE.out,s.out,u.out,I.out,H.out];rfl
                go_wp2_with fail
                go_ret
                exact ⟨by rw [G.out];rfl,Za E.out t.out⟩
               | true =>
                by_cases a5:z1<0
                ·have O:=Zb (decide_eq_true a5)
                 clear a5
                 refine Zvx w.heap.size wr.heap.size M off m rc j k xi yi fr tt z1 z2 nn nr ty (.slice na n R) (.slice T N.length S) _ _ _ rfl ⟨rfl,rfl,rfl⟩ ?_ ?_
                 ·intro W d
                  exact ⟨(f.out W d).1,s.out,(f.out W d).2.2.2.2.2.2.2.2.1,u.out,K.out,(f.out W d).2.2.2.2.2.2.1,a0.out,a3.out,X,V,HY.out W d,H.out,(f.out W d).2.2.2.1,L.out W (f.out W d).2.2.2.2.2.2.2.2.2,(f.out W d).2.2.2.2.1,P.out W (f.out W d).2.2.2.2.2.2.2.2.2,(f.out W d).2.2.2.2.2.1,(f.out W d).2.2.2.2.2.2.2.1,(f.out W d).2.1,b6.out W (f.out W d).2.2.2.2.2.2.2.2.2,O.out⟩
                 intro c W3 C l o
                 rw [Zj C [97,98,99,100,101,102,103,104,105,106,107,108,109,110,111,112,113,114,115,116,117,118,119,120,121,122,123,124,125,126,127,128,129,130,131,132,133,134,135,136,137,138,139,140,141,142,143,144,145,146,147,148] (by kernel_rfl)]
                 simp only [List.foldl_cons,List.foldl_nil,List.setIfInBounds_toArray,List.set_cons_succ,List.set_cons_zero,show Zbd c 148=_ from o]
                 clear o C
                 have t:=Zb (Za A.out l)
                 clear l
                 have G:Hid (res=false):=by
                  show _=_
                  rw [HE.out,s.out,u.out,I.out,H.out,O.out];rfl
                 go_wp2_with fail
                 go_ret
                 exact ⟨by rw [G.out];rfl,Za E.out t.out⟩
                ·have O:=Zb (decide_eq_false a5)
                 clear a5
                 by_cases a6:z2<0
                 ·have Y:=Zb (decide_eq_true a6)
                  clear a6
                  refine Zvy w.heap.size wr.heap.size M off m rc j k xi yi fr tt z1 z2 nn nr ty (.slice na n R) (.slice T N.length S) _ _ _ rfl ⟨rfl,rfl,rfl⟩ ?_ ?_
                  ·intro W d
                   exact ⟨(f.out W d).1,s.out,(f.out W d).2.2.2.2.2.2.2.2.1,u.out,K.out,(f.out W d).2.2.2.2.2.2.1,a0.out,a3.out,X,V,HY.out W d,H.out,(f.out W d).2.2.2.1,L.out W (f.out W d).2.2.2.2.2.2.2.2.2,(f.out W d).2.2.2.2.1,P.out W (f.out W d).2.2.2.2.2.2.2.2.2,(f.out W d).2.2.2.2.2.1,(f.out W d).2.2.2.2.2.2.2.1,(f.out W d).2.1,b6.out W (f.out W d).2.2.2.2.2.2.2.2.2,O.out,(f.out W d).2.2.1,d5.out W (f.out W d).2.2.2.2.2.2.2.2.2,Y.out⟩
                  intro c W3 C l o
                  rw [Zj C [97,98,99,100,101,102,103,104,105,106,107,108,109,110,111,112,113,114,115,116,117,118,119,120,121,122,123,124,125,126,127,128,129,130,131,132,133,134,135,136,137,138,139,140,141,142,143,144,145,146,147,148] (by kernel_rfl)]
                  simp only [List.foldl_cons,List.foldl_nil,List.setIfInBounds_toArray,List.set_cons_succ,List.set_cons_zero,show Zbd c 148=_ from o]
                  clear o C
                  have t:=Zb (Za A.out l)
                  clear l
                  have G:Hid (res=false):=by
                   show _=_
                   rw [HE.out,s.out,u.out,I.out,H.out,O.out,Y.out];rfl
                  go_wp2_with fail
                  go_ret
                  exact ⟨by rw [G.out];rfl,Za E.out t.out⟩
                 ·have Y:=Zb (decide_eq_false a6)
                  clear a6
                  refine Zvz w.heap.size wr.heap.size M off m rc j k xi yi fr tt z1 z2 nn nr ty (.slice na n R) (.slice T N.length S) _ _ _ rfl ⟨rfl,rfl,rfl⟩ ?_ ?_
                  ·intro W d
                   exact ⟨(f.out W d).1,s.out,(f.out W d).2.2.2.2.2.2.2.2.1,u.out,K.out,(f.out W d).2.2.2.2.2.2.1,a0.out,a3.out,X,V,HY.out W d,H.out,(f.out W d).2.2.2.1,L.out W (f.out W d).2.2.2.2.2.2.2.2.2,(f.out W d).2.2.2.2.1,P.out W (f.out W d).2.2.2.2.2.2.2.2.2,(f.out W d).2.2.2.2.2.1,(f.out W d).2.2.2.2.2.2.2.1,(f.out W d).2.1,b6.out W (f.out W d).2.2.2.2.2.2.2.2.2,O.out,(f.out W d).2.2.1,d5.out W (f.out W d).2.2.2.2.2.2.2.2.2,Y.out⟩
                  intro c W3 C l o
                  rw [Zj C [97,98,99,100,101,102,103,104,105,106,107,108,109,110,111,112,113,114,115,116,117,118,119,120,121,122,123,124,125,126,127,128,129,130,131,132,133,134,135,136,137,138,139,140,141,142,143,144,145,146,147,148] (by kernel_rfl)]
                  simp only [List.foldl_cons,List.foldl_nil,List.setIfInBounds_toArray,List.set_cons_succ,List.set_cons_zero,show Zbd c 148=_ from o]
                  clear o C
                  have t:=Zb (Za A.out l)
                  clear l
                  have c5:Hid (Zem D nr (Zg2 U (j+1)) (U.drop (j+1))=res):=by
                   show _=_
                   rw [HE.out,s.out,u.out,I.out,H.out,O.out,Y.out];rfl
                  go_wp2_with fail
                  go_roundw
                  case rel=>exact ⟨j+1,by omega,by go_num,t.out,c5.out⟩
                  case measure=>simp [intOf];omega
         ·have G:Hid (res=true):=by
           show _=_
           rw [<- d2.out,List.drop_of_length_le (by have:=HM.out;omega)]
           cases Zg2 U j<;>rfl
          have d1:¬ (j:Int)<m:=by omega
          go_wp2_with fail
          go_ret
          exact ⟨by rw [G.out];rfl,Za E.out a9.out⟩
