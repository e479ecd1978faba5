/- May a graph be: the document's word. -/
import Derived.Test.YteddjlbfbpecjaaGreatDoorJoin2
import Derived.Test.YteddjlbfbpecjaaGreatDoorJoin34
import Derived.Test.YteddjlbfbpecjaaGreatDoorJoin4
namespace Go.Proofs.YteddjlbfbpecjaaGreatDoor
open Go.RowKit Go.Shelf
set_option linter.all false
attribute [local go_sem] Oper.semAt_some
def Zcb  : Option Int→Int→Bool
 | none,_=>true
 | some y,x=>!decide (x≤y)
def Zgl (ns:List Zp):Nat→Option Int
 | 0=>none
 | j+1=>(ns[j]?).map Zp.id
def Zgm (ns:List Jj):Nat→Option Int
 | 0=>none
 | j+1=>(ns[j]?).map Jj.id
def Zdd (nn:Int):Option Int→List Zp→Bool
 | _,[]=>true
 | p,n::r=>!decide (n.id<0)&&(!decide (nn≤n.id)&&(Zcb p n.id&&(Zda none n.labels&&(Zbg none n.props&&Zdd nn (some n.id) r))))
def Zea (ns:List Zp) (nr:Int):Option Int→List Jj→Bool
 | _,[]=>true
 | p,n::r=>!decide (n.id<0)&&(!decide (nr≤n.id)&&(Zcb p n.id&&(Jn n.type.data.toList&&(Zbg none n.props&&(!decide (Zc8 n.fr ns 0<0)&&(!decide (Zc8 n.tt ns 0<0)&&Zea ns nr (some n.id) r))))))
def Zpf (g:Zy):Bool :=
 !decide ((65536:Int)<(g.nodes.length:Int)+(g.rels.length:Int))&&(!decide (g.nn<0)&&(!decide (4611686018427387904<g.nn)&&(!decide (g.nr<0)&&(!decide (4611686018427387904<g.nr)&&(Zdd g.nn none g.nodes&&Zea g.nodes g.nr none g.rels)))))
theorem Zuh {nn:Int} {ns:List Zp} {j:Nat} {n:Zp} (h:ns[j]?=some n):Zdd nn (Zgl ns j) (ns.drop j)=(!decide (n.id<0)&&(!decide (nn≤n.id)&&(Zcb (Zgl ns j) n.id&&(Zda none n.labels&&(Zbg none n.props&&Zdd nn (Zgl ns (j+1)) (ns.drop (j+1))))))):=by
 obtain ⟨hj,hx⟩:=List.getElem?_eq_some_iff.1 h
 have e:Zgl ns (j+1)=some n.id:=by show (ns[j]?).map Zp.id=_;rw [h];rfl
 rw [List.drop_eq_getElem_cons hj,hx,e]
 cases Zgl ns j<;>rfl
theorem Zxx {nn:List Zp} {nr:Int} {ns:List Jj} {j:Nat} {n:Jj} (h:ns[j]?=some n):Zea nn nr (Zgm ns j) (ns.drop j)=(!decide (n.id<0)&&(!decide (nr≤n.id)&&(Zcb (Zgm ns j) n.id&&(Jn n.type.data.toList&&(Zbg none n.props&&(!decide (Zc8 n.fr nn 0<0)&&(!decide (Zc8 n.tt nn 0<0)&&Zea nn nr (Zgm ns (j+1)) (ns.drop (j+1))))))))):=by
 obtain ⟨hj,hx⟩:=List.getElem?_eq_some_iff.1 h
 have e:Zgm ns (j+1)=some n.id:=by show (ns[j]?).map Jj.id=_;rw [h];rfl
 rw [List.drop_eq_getElem_cons hj,hx,e]
 cases Zgm ns j<;>rfl
structure Jc3 (g:Zy):Prop where
 nodes:g.nodes.length≤2000000
 rels:g.rels.length≤2000000
 ofNode:∀ n ∈ g.nodes,(∀ x ∈ n.labels,x.size≤140737488355328)∧∀ q ∈ n.props,Zm4 q
 ofRel:∀ r ∈ g.rels,r.type.size≤140737488355328∧∀ q ∈ r.props,Zm4 q
set_option maxRecDepth 100000 in
set_option maxHeartbeats 8000000 in
theorem Zid (g:Zy) (B:Nat) (v:Value) (w:World) (hB:B≤w.heap.size) (hg:Zq B w v g) (hz:Jc3 g):Calls Tryz.prog 14 #[v] w fun e w'=>e=.returned (.bool (Zpf g))∧Below w.heap.size w w':=by
 have HG:=Zb hg
 obtain ⟨na,nc,ra,rc,rfl,hn,hr⟩:=hg
 obtain ⟨h60,h61,hz1,hz2⟩:=hz
 obtain ⟨res,hres⟩:∃ r,Zpf g=r:=⟨_,rfl⟩
 have HR0:=Zb hres
 rw [hres]
 have HFD0:Hid (∀ id W,Below w.heap.size w W→Calls Tryz.prog 44 #[.agg #[.slice na g.nodes.length nc,.slice ra g.rels.length rc,.int .i64 g.nn,.int .i64 g.nr],.int .i64 id] W fun e w'=>e=.returned (.int .i64 (Zc8 id g.nodes 0))∧Below W.heap.size W w'):=fun id W hb=>Ztu g id B _ W (Nat.le_trans hB hb.size) (HG.out.below (hb.mono hB))
 clear HG hres
 obtain ⟨ns,rs,nn,nr⟩:=g
 simp only at hn hr h60 h61 hz1 hz2 HFD0 ⊢
 obtain ⟨a',c',e1,h1,h2,hp3⟩:=hn
 obtain ⟨rfl,rfl⟩:na=a'∧nc=c':=by injection e1 with e1 _ e2;exact ⟨e1,e2⟩
 obtain ⟨a',c',e2,r1,r2,hq3⟩:=hr
 obtain ⟨rfl,rfl⟩:ra=a'∧rc=c':=by injection e2 with e1 _ e2;exact ⟨e1,e2⟩
 have HP:=Zb hp3
 have HQ:=Zb hq3
 have HS1:=Zb hz1
 have HS2:=Zb hz2
 have HR:Hid ((!decide ((65536:Int)<(ns.length:Int)+(rs.length:Int))&&(!decide (nn<0)&&(!decide (4611686018427387904<nn)&&(!decide (nr<0)&&(!decide (4611686018427387904<nr)&&(Zdd nn none ns&&Zea ns nr none rs))))))=res):=HR0.out
 obtain ⟨n,hn⟩:∃ n,ns.length=n:=⟨_,rfl⟩
 have HN:=Zb hn
 obtain ⟨m,hm⟩:∃ m,rs.length=m:=⟨_,rfl⟩
 have HM:=Zb hm
 rw [hn] at h1 h60
 rw [hm] at r1 h61
 rw [hn,hm] at HR HFD0 ⊢
 clear hp3 hq3 hz1 hz2 hn hm e1 e2 HR0
 have hle:n≤9223372036854775807:=by omega
 have hlm:m≤9223372036854775807:=by omega
 obtain ⟨W1,hW1⟩:∃ W1,w.alloc (.cells #[.slice na n nc,.slice ra m rc,.int .i64 nn,.int .i64 nr] 25)=W1:=⟨_,rfl⟩
 have hr1:=Zl w #[.slice na n nc,.slice ra m rc,.int .i64 nn,.int .i64 nr] 25
 rw [hW1] at hr1
 have hb1:Below w.heap.size w W1:=hW1▸(Below.refl _ _).alloc (Nat.le_refl _) _
 have HR1:=Zb hr1
 have HB1:=Zb hb1
 have HW1:=Zb hW1
 have q0:=hr1.cell 0 rfl
 have q1:=hr1.cell 1 rfl
 have q2:=hr1.cell 2 rfl
 have q3:=hr1.cell 3 rfl
 clear hb1 hW1 hr1
 have hsum:IntKind.i64.wrap ((n:Int)+(m:Int))=(n:Int)+(m:Int):=by rw [IntKind.wrap_i64];omega
 go_enter Tryz.func14,Tryz.ntmps14
 go_upto_region 1 with fail
 rw [HW1.out]
 clear HW1
 by_cases t1:(65536:Int)<(n:Int)+(m:Int)
 ·have HF:Hid (res=false):=by
   show _=_
   rw [← HR.out,decide_eq_true t1];rfl
  go_wp2_with fail
  go_ret
  exact ⟨by rw [HF.out];rfl,HB1.out⟩
 ·skip
  by_cases t2:nn<0
  ·have HF:Hid (res=false):=by
    show _=_
    rw [← HR.out,decide_eq_false t1,decide_eq_true t2];rfl
   go_wp2_with fail
   go_ret
   exact ⟨by rw [HF.out];rfl,HB1.out⟩
  ·skip
   by_cases t3:4611686018427387904<nn
   ·have HF:Hid (res=false):=by
     show _=_
     rw [← HR.out,decide_eq_false t1,decide_eq_false t2,decide_eq_true t3];rfl
    go_wp2_with fail
    go_ret
    exact ⟨by rw [HF.out];rfl,HB1.out⟩
   ·skip
    by_cases t4:nr<0
    ·have HF:Hid (res=false):=by
      show _=_
      rw [← HR.out,decide_eq_false t1,decide_eq_false t2,decide_eq_false t3,decide_eq_true t4];rfl
     go_wp2_with fail
     go_ret
     exact ⟨by rw [HF.out];rfl,HB1.out⟩
    ·skip
     by_cases t5:4611686018427387904<nr
     ·have HF:Hid (res=false):=by
       show _=_
       rw [← HR.out,decide_eq_false t1,decide_eq_false t2,decide_eq_false t3,decide_eq_false t4,decide_eq_true t5];rfl
      go_wp2_with fail
      go_ret
      exact ⟨by rw [HF.out];rfl,HB1.out⟩
     ·skip
      have HR2:Hid ((Zdd nn none ns&&Zea ns nr none rs)=res):=by
       show _=_
       rw [← HR.out,decide_eq_false t1,decide_eq_false t2,decide_eq_false t3,decide_eq_false t4,decide_eq_false t5];rfl
      go_wp2_with fail
      clear t1 t2 t3 t4 t5 hsum HR
      go_loopw [3] (fun i wr=>∃ j:Nat,j≤n∧i=.int .i64 j∧Below W1.heap.size W1 wr∧(Zdd nn (Zgl ns j) (ns.drop j)&&Zea ns nr none rs)=res) (fun i _=>n - (intOf i).toNat)
      case atStart=>exact ⟨0,Nat.zero_le _,rfl,Below.refl _ _,HR2.out⟩
      case round =>
       obtain ⟨j,hj,rfl,hbr,hrs⟩:=hrel
       have HBR:=Zb hbr
       have HRS:=Zb hrs
       have hwz:w.heap.size<wr.heap.size:=by
        have:=HR1.out.lt
        have:=hbr.size
        omega
       have q0:=(HR1.out.below hbr HR1.out.lt).cell 0 rfl
       clear hbr hrs
       by_cases hlt:j<n
       ·have hlt':(j:Int)<n:=by omega
        obtain ⟨⟨xi,xl,xp⟩,hx⟩:∃ q,ns[j]?=some q:=⟨_,List.getElem?_eq_getElem (by have:=HN.out;omega)⟩
        have HX:=Zb hx
        obtain ⟨bl,off,rfl,hbl,hc⟩:=HP.out.resolve_left (by intro e;rw [e] at hx;simp at hx)
        have hbw:bl<wr.heap.size:=by omega
        have HBW:=Zb (Za HB1.out HBR.out)
        have hat:∀ i q,ns[i]?=some q→Zdv B wr bl (off+i*3) q:=fun i q hq=>(hc i q hq).below (HBW.out.mono hB) hbl
        have HAT:=Zb hat
        obtain ⟨la,lc,pv,⟨c0,c1,c2⟩,⟨hl1,hl2⟩,hk,hp⟩:=hat j _ hx
        obtain ⟨hxl,hxp⟩:=HS1.out _ (List.mem_of_getElem? hx)
        simp only at c0 c1 c2 hl1 hl2 hk hp hxl hxp
        have HK1:=Zb (fun W (hb:Below wr.heap.size wr W)=>Zsa xl B la lc W (by have:=hb.size;omega) (hk.below (hb.mono (by omega))) hl1 hl2 hxl)
        have HK2:=Zb (fun W (hb:Below wr.heap.size wr W)=>Zi5 pv xp B W (by have:=hb.size;omega) (hp.below (hb.mono (by omega))) hxp)
        obtain ⟨pa,pc,rfl,_,_,_⟩:=hp
        obtain ⟨bn,hbn⟩:∃ b,Zda none xl=b:=⟨_,rfl⟩
        obtain ⟨bp,hbp⟩:∃ b,Zbg none xp=b:=⟨_,rfl⟩
        rw [hbn] at HK1
        rw [hbp] at HK2
        have HE:Hid (res=((!decide (xi<0)&&(!decide (nn≤xi)&&(Zcb (Zgl ns j) xi&&(bn&&(bp&&Zdd nn (Zgl ns (j+1)) (ns.drop (j+1)))))))&&Zea ns nr none rs)):=by
         show _=_
         rw [← HRS.out,Zuh HX.out]
         simp only
         rw [hbn,hbp]
        clear hc hx hat hk hxl hxp hbn hbp hl1 hl2
        go_upto_region 7 with fail
        generalize hW2:World.alloc _ _=W2
        have hr2:=Zl wr #[.int .i64 xi,.slice la xl.length lc,.slice pa xp.length pc] 47
        rw [hW2] at hr2
        have HR2b:=Zb hr2
        have HB2:Hid (Below wr.heap.size wr W2):=by rw [← hW2];exact (Below.refl _ _).alloc (Nat.le_refl _) _
        have HBW2:=Zb (Za HBR.out HB2.out)
        have HC:Hid (∀ W,Below W2.heap.size W2 W→W.cell? ⟨wr.heap.size,0,none⟩=some (.int .i64 xi)∧W.cell? ⟨wr.heap.size,1,none⟩=some (.slice la xl.length lc)∧W.cell? ⟨wr.heap.size,2,none⟩=some (.slice pa xp.length pc)∧W.cell? ⟨w.heap.size,0,none⟩=some (.slice (some ⟨bl,off,none⟩) n nc)∧W.cell? ⟨w.heap.size,2,none⟩=some (.int .i64 nn)∧Below wr.heap.size wr W):=fun W hb=>by
         have hR:=HR2b.out.below hb HR2b.out.lt
         have hG:=HR1.out.below (Za HBW2.out hb) HR1.out.lt
         exact ⟨hR.cell 0 rfl,hR.cell 1 rfl,hR.cell 2 rfl,hG.cell 0 rfl,hG.cell 2 rfl,Za HB2.out hb⟩
        clear hW2 hr2 c0 c1 c2 q0
        show (Code.region 7 RN7 true).wp _ _ _ _
        by_cases a1:xi<0
        ·have HA1:=Zb (decide_eq_true a1)
         clear a1
         refine Zx8 w.heap.size wr.heap.size bl off n nc j 0 xi 0 nn la xl.length lc (.slice pa xp.length pc) _ _ _ rfl ⟨rfl,rfl,rfl⟩ ?_ ?_
         ·intro W hW
          exact ⟨(HC.out W hW).1,HA1.out⟩
         intro c W3 hS hB3 e84
         rw [Zs hS [47,48,49,50,51,52,53,54,55,56,57,58,59,60,61,62,63,64,65,66,67,68,69,70,71,72,73,74,75,76,77,78,79,80,81,82,83,84] (by kernel_rfl)]
         simp only [List.foldl_cons,List.foldl_nil,List.setIfInBounds_toArray,List.set_cons_succ,List.set_cons_zero,show Zcs c 84=_ from e84]
         clear e84 hS
         have HB3:=Zb (Za HBW2.out hB3)
         clear hB3
         have HF:Hid (res=false):=by
          show _=_
          rw [HE.out,HA1.out];rfl
         go_wp2_with fail
         go_ret
         exact ⟨by rw [HF.out];rfl,Za HB1.out HB3.out⟩
        ·have HA1:=Zb (decide_eq_false a1)
         clear a1
         by_cases a2:nn≤xi
         ·have HA2:=Zb (decide_eq_true a2)
          clear a2
          refine Zx9 w.heap.size wr.heap.size bl off n nc j 0 xi 0 nn la xl.length lc (.slice pa xp.length pc) _ _ _ rfl ⟨rfl,rfl,rfl⟩ ?_ ?_
          ·intro W hW
           exact ⟨(HC.out W hW).1,HA1.out,(HC.out W hW).2.2.2.2.1,HA2.out⟩
          intro c W3 hS hB3 e84
          rw [Zs hS [47,48,49,50,51,52,53,54,55,56,57,58,59,60,61,62,63,64,65,66,67,68,69,70,71,72,73,74,75,76,77,78,79,80,81,82,83,84] (by kernel_rfl)]
          simp only [List.foldl_cons,List.foldl_nil,List.setIfInBounds_toArray,List.set_cons_succ,List.set_cons_zero,show Zcs c 84=_ from e84]
          clear e84 hS
          have HB3:=Zb (Za HBW2.out hB3)
          clear hB3
          have HF:Hid (res=false):=by
           show _=_
           rw [HE.out,HA1.out,HA2.out];rfl
          go_wp2_with fail
          go_ret
          exact ⟨by rw [HF.out];rfl,Za HB1.out HB3.out⟩
         ·have HA2:=Zb (decide_eq_false a2)
          clear a2
          by_cases hj0:j=0
          ·have HA3:Hid (decide ((0:Int)<(j:Int))=false):=by
            show _=_
            simp;omega
           have HPK:Hid (Zcb (Zgl ns j) xi=true):=by
            show _=_
            rw [hj0];rfl
           clear hj0
           cases bn with
           | false =>
            refine Zyb w.heap.size wr.heap.size bl off n nc j 0 xi 0 nn la xl.length lc (.slice pa xp.length pc) _ _ _ rfl ⟨rfl,rfl,rfl⟩ ?_ ?_
            ·intro W hW
             exact ⟨(HC.out W hW).1,HA1.out,(HC.out W hW).2.2.2.2.1,HA2.out,HA3.out,(HC.out W hW).2.1,HK1.out W (HC.out W hW).2.2.2.2.2⟩
            intro c W3 hS hB3 e84
            rw [Zs hS [47,48,49,50,51,52,53,54,55,56,57,58,59,60,61,62,63,64,65,66,67,68,69,70,71,72,73,74,75,76,77,78,79,80,81,82,83,84] (by kernel_rfl)]
            simp only [List.foldl_cons,List.foldl_nil,List.setIfInBounds_toArray,List.set_cons_succ,List.set_cons_zero,show Zcs c 84=_ from e84]
            clear e84 hS
            have HB3:=Zb (Za HBW2.out hB3)
            clear hB3
            have HF:Hid (res=false):=by
             show _=_
             rw [HE.out,HA1.out,HA2.out,HPK.out];rfl
            go_wp2_with fail
            go_ret
            exact ⟨by rw [HF.out];rfl,Za HB1.out HB3.out⟩
           | true =>
            cases bp with
            | false =>
             refine Zyc w.heap.size wr.heap.size bl off n nc j 0 xi 0 nn la xl.length lc (.slice pa xp.length pc) _ _ _ rfl ⟨rfl,rfl,rfl⟩ ?_ ?_
             ·intro W hW
              exact ⟨(HC.out W hW).1,HA1.out,(HC.out W hW).2.2.2.2.1,HA2.out,HA3.out,(HC.out W hW).2.1,HK1.out W (HC.out W hW).2.2.2.2.2,(HC.out W hW).2.2.1,HK2.out W (HC.out W hW).2.2.2.2.2⟩
             intro c W3 hS hB3 e84
             rw [Zs hS [47,48,49,50,51,52,53,54,55,56,57,58,59,60,61,62,63,64,65,66,67,68,69,70,71,72,73,74,75,76,77,78,79,80,81,82,83,84] (by kernel_rfl)]
             simp only [List.foldl_cons,List.foldl_nil,List.setIfInBounds_toArray,List.set_cons_succ,List.set_cons_zero,show Zcs c 84=_ from e84]
             clear e84 hS
             have HB3:=Zb (Za HBW2.out hB3)
             clear hB3
             have HF:Hid (res=false):=by
              show _=_
              rw [HE.out,HA1.out,HA2.out,HPK.out];rfl
             go_wp2_with fail
             go_ret
             exact ⟨by rw [HF.out];rfl,Za HB1.out HB3.out⟩
            | true =>
             refine Zyd w.heap.size wr.heap.size bl off n nc j 0 xi 0 nn la xl.length lc (.slice pa xp.length pc) _ _ _ rfl ⟨rfl,rfl,rfl⟩ ?_ ?_
             ·intro W hW
              exact ⟨(HC.out W hW).1,HA1.out,(HC.out W hW).2.2.2.2.1,HA2.out,HA3.out,(HC.out W hW).2.1,HK1.out W (HC.out W hW).2.2.2.2.2,(HC.out W hW).2.2.1,HK2.out W (HC.out W hW).2.2.2.2.2⟩
             intro c W3 hS hB3 e84
             rw [Zs hS [47,48,49,50,51,52,53,54,55,56,57,58,59,60,61,62,63,64,65,66,67,68,69,70,71,72,73,74,75,76,77,78,79,80,81,82,83,84] (by kernel_rfl)]
             simp only [List.foldl_cons,List.foldl_nil,List.setIfInBounds_toArray,List.set_cons_succ,List.set_cons_zero,show Zcs c 84=_ from e84]
             clear e84 hS
             have HB3:=Zb (Za HBW2.out hB3)
             clear hB3
             have HN2:Hid ((Zdd nn (Zgl ns (j+1)) (ns.drop (j+1))&&Zea ns nr none rs)=res):=by
              show _=_
              rw [HE.out,HA1.out,HA2.out,HPK.out];rfl
             go_wp2_with fail
             go_roundw
             case rel=>exact ⟨j+1,by omega,by go_num,HB3.out,HN2.out⟩
             case measure=>simp [intOf];omega
          ·obtain ⟨k,hk⟩:∃ k,j=k+1:=⟨j - 1,by omega⟩
           obtain ⟨y,hy⟩:∃ y,ns[k]?=some y:=⟨_,List.getElem?_eq_getElem (by have:=HN.out;omega)⟩
           obtain ⟨yi,hyi⟩:∃ z,y.id=z:=⟨_,rfl⟩
           have HY:Hid (∀ W,Below W2.heap.size W2 W→W.cell? ⟨bl,off+k*3,none⟩=some (.int .i64 yi)):=fun W hb=>by
            obtain ⟨_,_,_,⟨c0,_,_⟩,_⟩:=HAT.out k y hy
            rw [hyi] at c0
            exact ((Za HB2.out hb).cell (p:=⟨bl,off+k*3,none⟩) hbw).trans c0
           have HPK:Hid (Zcb (Zgl ns j) xi=!decide (xi≤yi)):=by
            show _=_
            rw [hk];show Zcb ((ns[k]?).map _) xi=_
            rw [hy,← hyi];rfl
           have HA3:Hid (decide ((0:Int)<(j:Int))=true):=by
            show _=_
            simp;omega
           have HKJ:Hid ((j:Int) - 1=(k:Int)):=by
            show _=_
            omega
           have HKW:Hid (IntKind.i64.wrap (k:Int)=(k:Int)):=by
            show _=_
            rw [IntKind.wrap_i64];omega
           have hml:k<n:=by omega
           clear hj0 hk hy hyi
           by_cases a4:xi≤yi
           ·have HA4:=Zb (decide_eq_true a4)
            clear a4
            refine Zya w.heap.size wr.heap.size bl off n nc j k xi yi nn la xl.length lc (.slice pa xp.length pc) _ _ _ rfl ⟨rfl,rfl,rfl⟩ ?_ ?_
            ·intro W hW
             exact ⟨(HC.out W hW).1,HA1.out,(HC.out W hW).2.2.2.2.1,HA2.out,HA3.out,(HC.out W hW).2.2.2.1,HKJ.out,HKW.out,hml,hle,HY.out W hW,HA4.out⟩
            intro c W3 hS hB3 e84
            rw [Zs hS [47,48,49,50,51,52,53,54,55,56,57,58,59,60,61,62,63,64,65,66,67,68,69,70,71,72,73,74,75,76,77,78,79,80,81,82,83,84] (by kernel_rfl)]
            simp only [List.foldl_cons,List.foldl_nil,List.setIfInBounds_toArray,List.set_cons_succ,List.set_cons_zero,show Zcs c 84=_ from e84]
            clear e84 hS
            have HB3:=Zb (Za HBW2.out hB3)
            clear hB3
            have HF:Hid (res=false):=by
             show _=_
             rw [HE.out,HA1.out,HA2.out,HPK.out,HA4.out];rfl
            go_wp2_with fail
            go_ret
            exact ⟨by rw [HF.out];rfl,Za HB1.out HB3.out⟩
           ·have HA4:=Zb (decide_eq_false a4)
            clear a4
            cases bn with
            | false =>
             refine Zye w.heap.size wr.heap.size bl off n nc j k xi yi nn la xl.length lc (.slice pa xp.length pc) _ _ _ rfl ⟨rfl,rfl,rfl⟩ ?_ ?_
             ·intro W hW
              exact ⟨(HC.out W hW).1,HA1.out,(HC.out W hW).2.2.2.2.1,HA2.out,HA3.out,(HC.out W hW).2.2.2.1,HKJ.out,HKW.out,hml,hle,HY.out W hW,HA4.out,(HC.out W hW).2.1,HK1.out W (HC.out W hW).2.2.2.2.2⟩
             intro c W3 hS hB3 e84
             rw [Zs hS [47,48,49,50,51,52,53,54,55,56,57,58,59,60,61,62,63,64,65,66,67,68,69,70,71,72,73,74,75,76,77,78,79,80,81,82,83,84] (by kernel_rfl)]
             simp only [List.foldl_cons,List.foldl_nil,List.setIfInBounds_toArray,List.set_cons_succ,List.set_cons_zero,show Zcs c 84=_ from e84]
             clear e84 hS
             have HB3:=Zb (Za HBW2.out hB3)
             clear hB3
             have HF:Hid (res=false):=by
              show _=_
              rw [HE.out,HA1.out,HA2.out,HPK.out,HA4.out];rfl
             go_wp2_with fail
             go_ret
             exact ⟨by rw [HF.out];rfl,Za HB1.out HB3.out⟩
            | true =>
             cases bp with
             | false =>
              refine Zyf w.heap.size wr.heap.size bl off n nc j k xi yi nn la xl.length lc (.slice pa xp.length pc) _ _ _ rfl ⟨rfl,rfl,rfl⟩ ?_ ?_
              ·intro W hW
               exact ⟨(HC.out W hW).1,HA1.out,(HC.out W hW).2.2.2.2.1,HA2.out,HA3.out,(HC.out W hW).2.2.2.1,HKJ.out,HKW.out,hml,hle,HY.out W hW,HA4.out,(HC.out W hW).2.1,HK1.out W (HC.out W hW).2.2.2.2.2,(HC.out W hW).2.2.1,HK2.out W (HC.out W hW).2.2.2.2.2⟩
              intro c W3 hS hB3 e84
              rw [Zs hS [47,48,49,50,51,52,53,54,55,56,57,58,59,60,61,62,63,64,65,66,67,68,69,70,71,72,73,74,75,76,77,78,79,80,81,82,83,84] (by kernel_rfl)]
              simp only [List.foldl_cons,List.foldl_nil,List.setIfInBounds_toArray,List.set_cons_succ,List.set_cons_zero,show Zcs c 84=_ from e84]
              clear e84 hS
              have HB3:=Zb (Za HBW2.out hB3)
              clear hB3
              have HF:Hid (res=false):=by
               show _=_
               rw [HE.out,HA1.out,HA2.out,HPK.out,HA4.out];rfl
              go_wp2_with fail
              go_ret
              exact ⟨by rw [HF.out];rfl,Za HB1.out HB3.out⟩
             | true =>
              refine Zyg w.heap.size wr.heap.size bl off n nc j k xi yi nn la xl.length lc (.slice pa xp.length pc) _ _ _ rfl ⟨rfl,rfl,rfl⟩ ?_ ?_
              ·intro W hW
               exact ⟨(HC.out W hW).1,HA1.out,(HC.out W hW).2.2.2.2.1,HA2.out,HA3.out,(HC.out W hW).2.2.2.1,HKJ.out,HKW.out,hml,hle,HY.out W hW,HA4.out,(HC.out W hW).2.1,HK1.out W (HC.out W hW).2.2.2.2.2,(HC.out W hW).2.2.1,HK2.out W (HC.out W hW).2.2.2.2.2⟩
              intro c W3 hS hB3 e84
              rw [Zs hS [47,48,49,50,51,52,53,54,55,56,57,58,59,60,61,62,63,64,65,66,67,68,69,70,71,72,73,74,75,76,77,78,79,80,81,82,83,84] (by kernel_rfl)]
              simp only [List.foldl_cons,List.foldl_nil,List.setIfInBounds_toArray,List.set_cons_succ,List.set_cons_zero,show Zcs c 84=_ from e84]
              clear e84 hS
              have HB3:=Zb (Za HBW2.out hB3)
              clear hB3
              have HN2:Hid ((Zdd nn (Zgl ns (j+1)) (ns.drop (j+1))&&Zea ns nr none rs)=res):=by
               show _=_
               rw [HE.out,HA1.out,HA2.out,HPK.out,HA4.out];rfl
              go_wp2_with fail
              go_roundw
              case rel=>exact ⟨j+1,by omega,by go_num,HB3.out,HN2.out⟩
              case measure=>simp [intOf];omega
       ·have HR3:Hid (Zea ns nr none rs=res):=by
         show _=_
         rw [← HRS.out,List.drop_of_length_le (by have:=HN.out;omega)]
         cases Zgl ns j<;>rfl
        have hlt':¬ (j:Int)<n:=by omega
        have HBA:=HBR
        go_wp2_with fail
        clear hlt hlt' HRS hj HBR q0 hwz
        go_loopw [5] (fun i wr=>∃ j:Nat,j≤m∧i=.int .i64 j∧Below W1.heap.size W1 wr∧Zea ns nr (Zgm rs j) (rs.drop j)=res) (fun i _=>m - (intOf i).toNat)
        case atStart=>exact ⟨0,Nat.zero_le _,rfl,HBA.out,HR3.out⟩
        case round =>
         clear HBA
         obtain ⟨j,hj,rfl,hbr,hrs⟩:=hrel
         have HBR:=Zb hbr
         have HRS:=Zb hrs
         have hwz:w.heap.size<wr.heap.size:=by
          have:=HR1.out.lt
          have:=hbr.size
          omega
         have q1:=(HR1.out.below hbr HR1.out.lt).cell 1 rfl
         clear hbr hrs
         by_cases hlt:j<m
         ·have hlt':(j:Int)<m:=by omega
          obtain ⟨⟨xi,fr,tt,ty,xp⟩,hx⟩:∃ q,rs[j]?=some q:=⟨_,List.getElem?_eq_getElem (by have:=HM.out;omega)⟩
          have HX:=Zb hx
          obtain ⟨bl,off,rfl,hbl,hc⟩:=HQ.out.resolve_left (by intro e;rw [e] at hx;simp at hx)
          have hbw:bl<wr.heap.size:=by omega
          have HBW:=Zb (Za HB1.out HBR.out)
          have hat:∀ i q,rs[i]?=some q→Zg2 B wr bl (off+i*5) q:=fun i q hq=>(hc i q hq).below (HBW.out.mono hB) hbl
          have HAT:=Zb hat
          obtain ⟨pv,⟨c0,c1,c2,c3,c4⟩,_,hp⟩:=hat j _ hx
          obtain ⟨hxl,hxp⟩:=HS2.out _ (List.mem_of_getElem? hx)
          simp only at c0 c1 c2 c3 c4 hp hxl hxp
          have HK1:Hid (∀ W,Below wr.heap.size wr W→Calls Tryz.prog 43 #[.string ty] W fun e w'=>e=.returned (.bool (Jn ty.data.toList))∧Below W.heap.size W w'):=fun W hb=>(Zit ty W hxl).mono fun e w' ⟨h1,h2⟩=>⟨h1,h2▸Below.refl _ _⟩
          have HK2:=Zb (fun W (hb:Below wr.heap.size wr W)=>Zi5 pv xp B W (by have:=hb.size;omega) (hp.below (hb.mono (by omega))) hxp)
          have HK3:=Zb (fun W (hb:Below wr.heap.size wr W)=>HFD0.out fr W (Za HBW.out hb))
          have HK4:=Zb (fun W (hb:Below wr.heap.size wr W)=>HFD0.out tt W (Za HBW.out hb))
          obtain ⟨pa,pc,rfl,_,_,_⟩:=hp
          obtain ⟨bn,hbn⟩:∃ b,Jn ty.data.toList=b:=⟨_,rfl⟩
          obtain ⟨bp,hbp⟩:∃ b,Zbg none xp=b:=⟨_,rfl⟩
          obtain ⟨z1,hz1⟩:∃ b,Zc8 fr ns 0=b:=⟨_,rfl⟩
          obtain ⟨z2,hz2⟩:∃ b,Zc8 tt ns 0=b:=⟨_,rfl⟩
          rw [hbn] at HK1
          rw [hbp] at HK2
          rw [hz1] at HK3
          rw [hz2] at HK4
          have HE:Hid (res=(!decide (xi<0)&&(!decide (nr≤xi)&&(Zcb (Zgm rs j) xi&&(bn&&(bp&&(!decide (z1<0)&&(!decide (z2<0)&&Zea ns nr (Zgm rs (j+1)) (rs.drop (j+1)))))))))):=by
           show _=_
           rw [← HRS.out,Zxx HX.out]
           simp only
           rw [hbn,hbp,hz1,hz2]
          clear hc hx hat hxl hxp hbn hbp hz1 hz2
          go_upto_region 13 with fail
          generalize hW2:World.alloc _ _=W2
          have hr2:=Zl wr #[.int .i64 xi,.int .i64 fr,.int .i64 tt,.string ty,.slice pa xp.length pc] 49
          rw [hW2] at hr2
          have HR2b:=Zb hr2
          have HB2:Hid (Below wr.heap.size wr W2):=by rw [← hW2];exact (Below.refl _ _).alloc (Nat.le_refl _) _
          have HBW2:=Zb (Za HBR.out HB2.out)
          have HC:Hid (∀ W,Below W2.heap.size W2 W→W.cell? ⟨wr.heap.size,0,none⟩=some (.int .i64 xi)∧W.cell? ⟨wr.heap.size,1,none⟩=some (.int .i64 fr)∧W.cell? ⟨wr.heap.size,2,none⟩=some (.int .i64 tt)∧W.cell? ⟨wr.heap.size,3,none⟩=some (.string ty)∧W.cell? ⟨wr.heap.size,4,none⟩=some (.slice pa xp.length pc)∧W.cell? ⟨w.heap.size,0,none⟩=some (.slice na n nc)∧W.cell? ⟨w.heap.size,1,none⟩=some (.slice (some ⟨bl,off,none⟩) m rc)∧W.cell? ⟨w.heap.size,2,none⟩=some (.int .i64 nn)∧W.cell? ⟨w.heap.size,3,none⟩=some (.int .i64 nr)∧Below wr.heap.size wr W):=fun W hb=>by
           have hR:=HR2b.out.below hb HR2b.out.lt
           have hG:=HR1.out.below (Za HBW2.out hb) HR1.out.lt
           exact ⟨hR.cell 0 rfl,hR.cell 1 rfl,hR.cell 2 rfl,hR.cell 3 rfl,hR.cell 4 rfl,hG.cell 0 rfl,hG.cell 1 rfl,hG.cell 2 rfl,hG.cell 3 rfl,Za HB2.out hb⟩
          clear hW2 hr2 c0 c1 c2 c3 c4 q1 hle
          have hle:=hlm
          show (Code.region 13 Zf8 true).wp _ _ _ _
          by_cases a1:xi<0
          ·have HA1:=Zb (decide_eq_true a1)
           clear a1
           refine Zws w.heap.size wr.heap.size bl off m rc j 0 xi 0 fr tt z1 z2 nn nr ty (.slice na n nc) (.slice pa xp.length pc) _ _ _ rfl ⟨rfl,rfl,rfl⟩ ?_ ?_
           ·intro W hW
            exact ⟨(HC.out W hW).1,HA1.out⟩
           intro c W3 hS hB3 e148
           rw [Zs hS [97,98,99,100,101,102,103,104,105,106,107,108,109,110,111,112,113,114,115,116,117,118,119,120,121,122,123,124,125,126,127,128,129,130,131,132,133,134,135,136,137,138,139,140,141,142,143,144,145,146,147,148] (by kernel_rfl)]
           simp only [List.foldl_cons,List.foldl_nil,List.setIfInBounds_toArray,List.set_cons_succ,List.set_cons_zero,show Zcs c 148=_ from e148]
           clear e148 hS
           have HB3:=Zb (Za HBW2.out hB3)
           clear hB3
           have HF:Hid (res=false):=by
            show _=_
            rw [HE.out,HA1.out];rfl
           go_wp2_with fail
           go_ret
           exact ⟨by rw [HF.out];rfl,Za HB1.out HB3.out⟩
          ·have HA1:=Zb (decide_eq_false a1)
           clear a1
           by_cases a2:nr≤xi
           ·have HA2:=Zb (decide_eq_true a2)
            clear a2
            refine Zwt w.heap.size wr.heap.size bl off m rc j 0 xi 0 fr tt z1 z2 nn nr ty (.slice na n nc) (.slice pa xp.length pc) _ _ _ rfl ⟨rfl,rfl,rfl⟩ ?_ ?_
            ·intro W hW
             exact ⟨(HC.out W hW).1,HA1.out,(HC.out W hW).2.2.2.2.2.2.2.2.1,HA2.out⟩
            intro c W3 hS hB3 e148
            rw [Zs hS [97,98,99,100,101,102,103,104,105,106,107,108,109,110,111,112,113,114,115,116,117,118,119,120,121,122,123,124,125,126,127,128,129,130,131,132,133,134,135,136,137,138,139,140,141,142,143,144,145,146,147,148] (by kernel_rfl)]
            simp only [List.foldl_cons,List.foldl_nil,List.setIfInBounds_toArray,List.set_cons_succ,List.set_cons_zero,show Zcs c 148=_ from e148]
            clear e148 hS
            have HB3:=Zb (Za HBW2.out hB3)
            clear hB3
            have HF:Hid (res=false):=by
             show _=_
             rw [HE.out,HA1.out,HA2.out];rfl
            go_wp2_with fail
            go_ret
            exact ⟨by rw [HF.out];rfl,Za HB1.out HB3.out⟩
           ·have HA2:=Zb (decide_eq_false a2)
            clear a2
            by_cases hj0:j=0
            ·have HA3:Hid (decide ((0:Int)<(j:Int))=false):=by
              show _=_
              simp;omega
             have HPK:Hid (Zcb (Zgm rs j) xi=true):=by
              show _=_
              rw [hj0];rfl
             clear hj0
             cases bn with
             | false =>
              refine Zs7 w.heap.size wr.heap.size bl off m rc j 0 xi 0 fr tt z1 z2 nn nr ty (.slice na n nc) (.slice pa xp.length pc) _ _ _ rfl ⟨rfl,rfl,rfl⟩ ?_ ?_
              ·intro W hW
               exact ⟨(HC.out W hW).1,HA1.out,(HC.out W hW).2.2.2.2.2.2.2.2.1,HA2.out,HA3.out,(HC.out W hW).2.2.2.1,HK1.out W (HC.out W hW).2.2.2.2.2.2.2.2.2⟩
              intro c W3 hS hB3 e148
              rw [Zs hS [97,98,99,100,101,102,103,104,105,106,107,108,109,110,111,112,113,114,115,116,117,118,119,120,121,122,123,124,125,126,127,128,129,130,131,132,133,134,135,136,137,138,139,140,141,142,143,144,145,146,147,148] (by kernel_rfl)]
              simp only [List.foldl_cons,List.foldl_nil,List.setIfInBounds_toArray,List.set_cons_succ,List.set_cons_zero,show Zcs c 148=_ from e148]
              clear e148 hS
              have HB3:=Zb (Za HBW2.out hB3)
              clear hB3
              have HF:Hid (res=false):=by
               show _=_
               rw [HE.out,HA1.out,HA2.out,HPK.out];rfl
              go_wp2_with fail
              go_ret
              exact ⟨by rw [HF.out];rfl,Za HB1.out HB3.out⟩
             | true =>
              cases bp with
              | false =>
               refine Zs8 w.heap.size wr.heap.size bl off m rc j 0 xi 0 fr tt z1 z2 nn nr ty (.slice na n nc) (.slice pa xp.length pc) _ _ _ rfl ⟨rfl,rfl,rfl⟩ ?_ ?_
               ·intro W hW
                exact ⟨(HC.out W hW).1,HA1.out,(HC.out W hW).2.2.2.2.2.2.2.2.1,HA2.out,HA3.out,(HC.out W hW).2.2.2.1,HK1.out W (HC.out W hW).2.2.2.2.2.2.2.2.2,(HC.out W hW).2.2.2.2.1,HK2.out W (HC.out W hW).2.2.2.2.2.2.2.2.2⟩
               intro c W3 hS hB3 e148
               rw [Zs hS [97,98,99,100,101,102,103,104,105,106,107,108,109,110,111,112,113,114,115,116,117,118,119,120,121,122,123,124,125,126,127,128,129,130,131,132,133,134,135,136,137,138,139,140,141,142,143,144,145,146,147,148] (by kernel_rfl)]
               simp only [List.foldl_cons,List.foldl_nil,List.setIfInBounds_toArray,List.set_cons_succ,List.set_cons_zero,show Zcs c 148=_ from e148]
               clear e148 hS
               have HB3:=Zb (Za HBW2.out hB3)
               clear hB3
               have HF:Hid (res=false):=by
                show _=_
                rw [HE.out,HA1.out,HA2.out,HPK.out];rfl
               go_wp2_with fail
               go_ret
               exact ⟨by rw [HF.out];rfl,Za HB1.out HB3.out⟩
              | true =>
               by_cases a5:z1<0
               ·have HA5:=Zb (decide_eq_true a5)
                clear a5
                refine Zs9 w.heap.size wr.heap.size bl off m rc j 0 xi 0 fr tt z1 z2 nn nr ty (.slice na n nc) (.slice pa xp.length pc) _ _ _ rfl ⟨rfl,rfl,rfl⟩ ?_ ?_
                ·intro W hW
                 exact ⟨(HC.out W hW).1,HA1.out,(HC.out W hW).2.2.2.2.2.2.2.2.1,HA2.out,HA3.out,(HC.out W hW).2.2.2.1,HK1.out W (HC.out W hW).2.2.2.2.2.2.2.2.2,(HC.out W hW).2.2.2.2.1,HK2.out W (HC.out W hW).2.2.2.2.2.2.2.2.2,(HC.out W hW).2.2.2.2.2.1,(HC.out W hW).2.2.2.2.2.2.1,(HC.out W hW).2.2.2.2.2.2.2.1,(HC.out W hW).2.1,HK3.out W (HC.out W hW).2.2.2.2.2.2.2.2.2,HA5.out⟩
                intro c W3 hS hB3 e148
                rw [Zs hS [97,98,99,100,101,102,103,104,105,106,107,108,109,110,111,112,113,114,115,116,117,118,119,120,121,122,123,124,125,126,127,128,129,130,131,132,133,134,135,136,137,138,139,140,141,142,143,144,145,146,147,148] (by kernel_rfl)]
                simp only [List.foldl_cons,List.foldl_nil,List.setIfInBounds_toArray,List.set_cons_succ,List.set_cons_zero,show Zcs c 148=_ from e148]
                clear e148 hS
                have HB3:=Zb (Za HBW2.out hB3)
                clear hB3
                have HF:Hid (res=false):=by
                 show _=_
                 rw [HE.out,HA1.out,HA2.out,HPK.out,HA5.out];rfl
                go_wp2_with fail
                go_ret
                exact ⟨by rw [HF.out];rfl,Za HB1.out HB3.out⟩
               ·have HA5:=Zb (decide_eq_false a5)
                clear a5
                by_cases a6:z2<0
                ·have HA6:=Zb (decide_eq_true a6)
                 clear a6
                 refine Zta w.heap.size wr.heap.size bl off m rc j 0 xi 0 fr tt z1 z2 nn nr ty (.slice na n nc) (.slice pa xp.length pc) _ _ _ rfl ⟨rfl,rfl,rfl⟩ ?_ ?_
                 ·intro W hW
                  exact ⟨(HC.out W hW).1,HA1.out,(HC.out W hW).2.2.2.2.2.2.2.2.1,HA2.out,HA3.out,(HC.out W hW).2.2.2.1,HK1.out W (HC.out W hW).2.2.2.2.2.2.2.2.2,(HC.out W hW).2.2.2.2.1,HK2.out W (HC.out W hW).2.2.2.2.2.2.2.2.2,(HC.out W hW).2.2.2.2.2.1,(HC.out W hW).2.2.2.2.2.2.1,(HC.out W hW).2.2.2.2.2.2.2.1,(HC.out W hW).2.1,HK3.out W (HC.out W hW).2.2.2.2.2.2.2.2.2,HA5.out,(HC.out W hW).2.2.1,HK4.out W (HC.out W hW).2.2.2.2.2.2.2.2.2,HA6.out⟩
                 intro c W3 hS hB3 e148
                 rw [Zs hS [97,98,99,100,101,102,103,104,105,106,107,108,109,110,111,112,113,114,115,116,117,118,119,120,121,122,123,124,125,126,127,128,129,130,131,132,133,134,135,136,137,138,139,140,141,142,143,144,145,146,147,148] (by kernel_rfl)]
                 simp only [List.foldl_cons,List.foldl_nil,List.setIfInBounds_toArray,List.set_cons_succ,List.set_cons_zero,show Zcs c 148=_ from e148]
                 clear e148 hS
                 have HB3:=Zb (Za HBW2.out hB3)
                 clear hB3
                 have HF:Hid (res=false):=by
                  show _=_
                  rw [HE.out,HA1.out,HA2.out,HPK.out,HA5.out,HA6.out];rfl
                 go_wp2_with fail
                 go_ret
                 exact ⟨by rw [HF.out];rfl,Za HB1.out HB3.out⟩
                ·have HA6:=Zb (decide_eq_false a6)
                 clear a6
                 refine Ztb w.heap.size wr.heap.size bl off m rc j 0 xi 0 fr tt z1 z2 nn nr ty (.slice na n nc) (.slice pa xp.length pc) _ _ _ rfl ⟨rfl,rfl,rfl⟩ ?_ ?_
                 ·intro W hW
                  exact ⟨(HC.out W hW).1,HA1.out,(HC.out W hW).2.2.2.2.2.2.2.2.1,HA2.out,HA3.out,(HC.out W hW).2.2.2.1,HK1.out W (HC.out W hW).2.2.2.2.2.2.2.2.2,(HC.out W hW).2.2.2.2.1,HK2.out W (HC.out W hW).2.2.2.2.2.2.2.2.2,(HC.out W hW).2.2.2.2.2.1,(HC.out W hW).2.2.2.2.2.2.1,(HC.out W hW).2.2.2.2.2.2.2.1,(HC.out W hW).2.1,HK3.out W (HC.out W hW).2.2.2.2.2.2.2.2.2,HA5.out,(HC.out W hW).2.2.1,HK4.out W (HC.out W hW).2.2.2.2.2.2.2.2.2,HA6.out⟩
                 intro c W3 hS hB3 e148
                 rw [Zs hS [97,98,99,100,101,102,103,104,105,106,107,108,109,110,111,112,113,114,115,116,117,118,119,120,121,122,123,124,125,126,127,128,129,130,131,132,133,134,135,136,137,138,139,140,141,142,143,144,145,146,147,148] (by kernel_rfl)]
                 simp only [List.foldl_cons,List.foldl_nil,List.setIfInBounds_toArray,List.set_cons_succ,List.set_cons_zero,show Zcs c 148=_ from e148]
                 clear e148 hS
                 have HB3:=Zb (Za HBW2.out hB3)
                 clear hB3
                 have HN2:Hid (Zea ns nr (Zgm rs (j+1)) (rs.drop (j+1))=res):=by
                  show _=_
                  rw [HE.out,HA1.out,HA2.out,HPK.out,HA5.out,HA6.out];rfl
                 go_wp2_with fail
                 go_roundw
                 case rel=>exact ⟨j+1,by omega,by go_num,HB3.out,HN2.out⟩
                 case measure=>simp [intOf];omega
            ·obtain ⟨k,hk⟩:∃ k,j=k+1:=⟨j - 1,by omega⟩
             obtain ⟨y,hy⟩:∃ y,rs[k]?=some y:=⟨_,List.getElem?_eq_getElem (by have:=HM.out;omega)⟩
             obtain ⟨yi,hyi⟩:∃ z,y.id=z:=⟨_,rfl⟩
             have HY:Hid (∀ W,Below W2.heap.size W2 W→W.cell? ⟨bl,off+k*5,none⟩=some (.int .i64 yi)):=fun W hb=>by
              obtain ⟨_,⟨c0,_,_,_,_⟩,_⟩:=HAT.out k y hy
              rw [hyi] at c0
              exact ((Za HB2.out hb).cell (p:=⟨bl,off+k*5,none⟩) hbw).trans c0
             have HPK:Hid (Zcb (Zgm rs j) xi=!decide (xi≤yi)):=by
              show _=_
              rw [hk];show Zcb ((rs[k]?).map _) xi=_
              rw [hy,← hyi];rfl
             have HA3:Hid (decide ((0:Int)<(j:Int))=true):=by
              show _=_
              simp;omega
             have HKJ:Hid ((j:Int) - 1=(k:Int)):=by
              show _=_
              omega
             have HKW:Hid (IntKind.i64.wrap (k:Int)=(k:Int)):=by
              show _=_
              rw [IntKind.wrap_i64];omega
             have hml:k<m:=by omega
             clear hj0 hk hy hyi
             by_cases a4:xi≤yi
             ·have HA4:=Zb (decide_eq_true a4)
              clear a4
              refine Zwu w.heap.size wr.heap.size bl off m rc j k xi yi fr tt z1 z2 nn nr ty (.slice na n nc) (.slice pa xp.length pc) _ _ _ rfl ⟨rfl,rfl,rfl⟩ ?_ ?_
              ·intro W hW
               exact ⟨(HC.out W hW).1,HA1.out,(HC.out W hW).2.2.2.2.2.2.2.2.1,HA2.out,HA3.out,(HC.out W hW).2.2.2.2.2.2.1,HKJ.out,HKW.out,hml,hle,HY.out W hW,HA4.out⟩
              intro c W3 hS hB3 e148
              rw [Zs hS [97,98,99,100,101,102,103,104,105,106,107,108,109,110,111,112,113,114,115,116,117,118,119,120,121,122,123,124,125,126,127,128,129,130,131,132,133,134,135,136,137,138,139,140,141,142,143,144,145,146,147,148] (by kernel_rfl)]
              simp only [List.foldl_cons,List.foldl_nil,List.setIfInBounds_toArray,List.set_cons_succ,List.set_cons_zero,show Zcs c 148=_ from e148]
              clear e148 hS
              have HB3:=Zb (Za HBW2.out hB3)
              clear hB3
              have HF:Hid (res=false):=by
               show _=_
               rw [HE.out,HA1.out,HA2.out,HPK.out,HA4.out];rfl
              go_wp2_with fail
              go_ret
              exact ⟨by rw [HF.out];rfl,Za HB1.out HB3.out⟩
             ·have HA4:=Zb (decide_eq_false a4)
              clear a4
              cases bn with
              | false =>
               refine Ztc w.heap.size wr.heap.size bl off m rc j k xi yi fr tt z1 z2 nn nr ty (.slice na n nc) (.slice pa xp.length pc) _ _ _ rfl ⟨rfl,rfl,rfl⟩ ?_ ?_
               ·intro W hW
                exact ⟨(HC.out W hW).1,HA1.out,(HC.out W hW).2.2.2.2.2.2.2.2.1,HA2.out,HA3.out,(HC.out W hW).2.2.2.2.2.2.1,HKJ.out,HKW.out,hml,hle,HY.out W hW,HA4.out,(HC.out W hW).2.2.2.1,HK1.out W (HC.out W hW).2.2.2.2.2.2.2.2.2⟩
               intro c W3 hS hB3 e148
               rw [Zs hS [97,98,99,100,101,102,103,104,105,106,107,108,109,110,111,112,113,114,115,116,117,118,119,120,121,122,123,124,125,126,127,128,129,130,131,132,133,134,135,136,137,138,139,140,141,142,143,144,145,146,147,148] (by kernel_rfl)]
               simp only [List.foldl_cons,List.foldl_nil,List.setIfInBounds_toArray,List.set_cons_succ,List.set_cons_zero,show Zcs c 148=_ from e148]
               clear e148 hS
               have HB3:=Zb (Za HBW2.out hB3)
               clear hB3
               have HF:Hid (res=false):=by
                show _=_
                rw [HE.out,HA1.out,HA2.out,HPK.out,HA4.out];rfl
               go_wp2_with fail
               go_ret
               exact ⟨by rw [HF.out];rfl,Za HB1.out HB3.out⟩
              | true =>
               cases bp with
               | false =>
                refine Ztd w.heap.size wr.heap.size bl off m rc j k xi yi fr tt z1 z2 nn nr ty (.slice na n nc) (.slice pa xp.length pc) _ _ _ rfl ⟨rfl,rfl,rfl⟩ ?_ ?_
                ·intro W hW
                 exact ⟨(HC.out W hW).1,HA1.out,(HC.out W hW).2.2.2.2.2.2.2.2.1,HA2.out,HA3.out,(HC.out W hW).2.2.2.2.2.2.1,HKJ.out,HKW.out,hml,hle,HY.out W hW,HA4.out,(HC.out W hW).2.2.2.1,HK1.out W (HC.out W hW).2.2.2.2.2.2.2.2.2,(HC.out W hW).2.2.2.2.1,HK2.out W (HC.out W hW).2.2.2.2.2.2.2.2.2⟩
                intro c W3 hS hB3 e148
                rw [Zs hS [97,98,99,100,101,102,103,104,105,106,107,108,109,110,111,112,113,114,115,116,117,118,119,120,121,122,123,124,125,126,127,128,129,130,131,132,133,134,135,136,137,138,139,140,141,142,143,144,145,146,147,148] (by kernel_rfl)]
                simp only [List.foldl_cons,List.foldl_nil,List.setIfInBounds_toArray,List.set_cons_succ,List.set_cons_zero,show Zcs c 148=_ from e148]
                clear e148 hS
                have HB3:=Zb (Za HBW2.out hB3)
                clear hB3
                have HF:Hid (res=false):=by
                 show _=_
                 rw [HE.out,HA1.out,HA2.out,HPK.out,HA4.out];rfl
                go_wp2_with fail
                go_ret
                exact ⟨by rw [HF.out];rfl,Za HB1.out HB3.out⟩
               | true =>
                by_cases a5:z1<0
                ·have HA5:=Zb (decide_eq_true a5)
                 clear a5
                 refine Zte w.heap.size wr.heap.size bl off m rc j k xi yi fr tt z1 z2 nn nr ty (.slice na n nc) (.slice pa xp.length pc) _ _ _ rfl ⟨rfl,rfl,rfl⟩ ?_ ?_
                 ·intro W hW
                  exact ⟨(HC.out W hW).1,HA1.out,(HC.out W hW).2.2.2.2.2.2.2.2.1,HA2.out,HA3.out,(HC.out W hW).2.2.2.2.2.2.1,HKJ.out,HKW.out,hml,hle,HY.out W hW,HA4.out,(HC.out W hW).2.2.2.1,HK1.out W (HC.out W hW).2.2.2.2.2.2.2.2.2,(HC.out W hW).2.2.2.2.1,HK2.out W (HC.out W hW).2.2.2.2.2.2.2.2.2,(HC.out W hW).2.2.2.2.2.1,(HC.out W hW).2.2.2.2.2.2.2.1,(HC.out W hW).2.1,HK3.out W (HC.out W hW).2.2.2.2.2.2.2.2.2,HA5.out⟩
                 intro c W3 hS hB3 e148
                 rw [Zs hS [97,98,99,100,101,102,103,104,105,106,107,108,109,110,111,112,113,114,115,116,117,118,119,120,121,122,123,124,125,126,127,128,129,130,131,132,133,134,135,136,137,138,139,140,141,142,143,144,145,146,147,148] (by kernel_rfl)]
                 simp only [List.foldl_cons,List.foldl_nil,List.setIfInBounds_toArray,List.set_cons_succ,List.set_cons_zero,show Zcs c 148=_ from e148]
                 clear e148 hS
                 have HB3:=Zb (Za HBW2.out hB3)
                 clear hB3
                 have HF:Hid (res=false):=by
                  show _=_
                  rw [HE.out,HA1.out,HA2.out,HPK.out,HA4.out,HA5.out];rfl
                 go_wp2_with fail
                 go_ret
                 exact ⟨by rw [HF.out];rfl,Za HB1.out HB3.out⟩
                ·have HA5:=Zb (decide_eq_false a5)
                 clear a5
                 by_cases a6:z2<0
                 ·have HA6:=Zb (decide_eq_true a6)
                  clear a6
                  refine Ztf w.heap.size wr.heap.size bl off m rc j k xi yi fr tt z1 z2 nn nr ty (.slice na n nc) (.slice pa xp.length pc) _ _ _ rfl ⟨rfl,rfl,rfl⟩ ?_ ?_
                  ·intro W hW
                   exact ⟨(HC.out W hW).1,HA1.out,(HC.out W hW).2.2.2.2.2.2.2.2.1,HA2.out,HA3.out,(HC.out W hW).2.2.2.2.2.2.1,HKJ.out,HKW.out,hml,hle,HY.out W hW,HA4.out,(HC.out W hW).2.2.2.1,HK1.out W (HC.out W hW).2.2.2.2.2.2.2.2.2,(HC.out W hW).2.2.2.2.1,HK2.out W (HC.out W hW).2.2.2.2.2.2.2.2.2,(HC.out W hW).2.2.2.2.2.1,(HC.out W hW).2.2.2.2.2.2.2.1,(HC.out W hW).2.1,HK3.out W (HC.out W hW).2.2.2.2.2.2.2.2.2,HA5.out,(HC.out W hW).2.2.1,HK4.out W (HC.out W hW).2.2.2.2.2.2.2.2.2,HA6.out⟩
                  intro c W3 hS hB3 e148
                  rw [Zs hS [97,98,99,100,101,102,103,104,105,106,107,108,109,110,111,112,113,114,115,116,117,118,119,120,121,122,123,124,125,126,127,128,129,130,131,132,133,134,135,136,137,138,139,140,141,142,143,144,145,146,147,148] (by kernel_rfl)]
                  simp only [List.foldl_cons,List.foldl_nil,List.setIfInBounds_toArray,List.set_cons_succ,List.set_cons_zero,show Zcs c 148=_ from e148]
                  clear e148 hS
                  have HB3:=Zb (Za HBW2.out hB3)
                  clear hB3
                  have HF:Hid (res=false):=by
                   show _=_
                   rw [HE.out,HA1.out,HA2.out,HPK.out,HA4.out,HA5.out,HA6.out];rfl
                  go_wp2_with fail
                  go_ret
                  exact ⟨by rw [HF.out];rfl,Za HB1.out HB3.out⟩
                 ·have HA6:=Zb (decide_eq_false a6)
                  clear a6
                  refine Ztg w.heap.size wr.heap.size bl off m rc j k xi yi fr tt z1 z2 nn nr ty (.slice na n nc) (.slice pa xp.length pc) _ _ _ rfl ⟨rfl,rfl,rfl⟩ ?_ ?_
                  ·intro W hW
                   exact ⟨(HC.out W hW).1,HA1.out,(HC.out W hW).2.2.2.2.2.2.2.2.1,HA2.out,HA3.out,(HC.out W hW).2.2.2.2.2.2.1,HKJ.out,HKW.out,hml,hle,HY.out W hW,HA4.out,(HC.out W hW).2.2.2.1,HK1.out W (HC.out W hW).2.2.2.2.2.2.2.2.2,(HC.out W hW).2.2.2.2.1,HK2.out W (HC.out W hW).2.2.2.2.2.2.2.2.2,(HC.out W hW).2.2.2.2.2.1,(HC.out W hW).2.2.2.2.2.2.2.1,(HC.out W hW).2.1,HK3.out W (HC.out W hW).2.2.2.2.2.2.2.2.2,HA5.out,(HC.out W hW).2.2.1,HK4.out W (HC.out W hW).2.2.2.2.2.2.2.2.2,HA6.out⟩
                  intro c W3 hS hB3 e148
                  rw [Zs hS [97,98,99,100,101,102,103,104,105,106,107,108,109,110,111,112,113,114,115,116,117,118,119,120,121,122,123,124,125,126,127,128,129,130,131,132,133,134,135,136,137,138,139,140,141,142,143,144,145,146,147,148] (by kernel_rfl)]
                  simp only [List.foldl_cons,List.foldl_nil,List.setIfInBounds_toArray,List.set_cons_succ,List.set_cons_zero,show Zcs c 148=_ from e148]
                  clear e148 hS
                  have HB3:=Zb (Za HBW2.out hB3)
                  clear hB3
                  have HN2:Hid (Zea ns nr (Zgm rs (j+1)) (rs.drop (j+1))=res):=by
                   show _=_
                   rw [HE.out,HA1.out,HA2.out,HPK.out,HA4.out,HA5.out,HA6.out];rfl
                  go_wp2_with fail
                  go_roundw
                  case rel=>exact ⟨j+1,by omega,by go_num,HB3.out,HN2.out⟩
                  case measure=>simp [intOf];omega
         ·have HF:Hid (res=true):=by
           show _=_
           rw [← HRS.out,List.drop_of_length_le (by have:=HM.out;omega)]
           cases Zgm rs j<;>rfl
          have hlt':¬ (j:Int)<m:=by omega
          go_wp2_with fail
          go_ret
          exact ⟨by rw [HF.out];rfl,Za HB1.out HBR.out⟩
