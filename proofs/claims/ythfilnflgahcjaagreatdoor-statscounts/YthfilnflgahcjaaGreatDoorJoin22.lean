/- What begins and ends, joint by joint, label by label, handed on (ends$1 124). A graph's ends, counted (endCounts 45). Numbers that rise: the program's word. -/
import Derived.Test.YthfilnflgahcjaaGreatDoorJoin21
import Derived.Test.YthfilnflgahcjaaGreatDoorJoin1
import Derived.Maps.RangeRun
import Derived.Sort.CutIn
import Derived.Test.YthfilnflgahcjaaGreatDoorJoin9
import Derived.Stop.RegionWithIn
import Derived.Test.YthfilnflgahcjaaGreatDoorJoin19
namespace Go.Proofs.YthfilnflgahcjaaGreatDoor
open Go.RowKit Go.Shelf Go.Maps
set_option linter.all false
attribute [local go_sem] Oper.semAt_some
structure Zxg (J:List (Zae × Int)->World->Prop) (ns:List Zj) (d:Array MapEntry) (b u r:Nat) (wr:World) (seen:Array Nat) (c0:Nat) (done:List MapEntry) (D:List (Zba × Int)):Prop where
 it:wr.heap[r]?=some (.mapIter (some u) b seen c0)
 cl:b<=c0
 j:J (Jn ns D) wr
 dn:D.map (fun p=>(Zka p.1,Value.int .i64 p.2))=done.map (fun e=>(e.key,e.val))
 nd:done.Nodup
 sub:∀ x ∈ done,x ∈ d.toList
 has:∀ x ∈ d.toList,seen.contains x.born=true↔x ∈ done
theorem Jar (x y:Zba) (h:Zka x=Zka y):x=y:=Jiv.inj x y h
set_option maxRecDepth 100000 in
set_option maxHeartbeats 8000000 in
theorem Zxh {F:Fence} (hd:F.depth=none) (f0:F.round=none) (e4:∀ f,F.fn f) {l B:Nat} {w0:World} (ns:List Zj) (cs:List (Zba × Int)) (bj u bl ml K:Nat) (hK:∀ i,(Zt ns i).length<=K) (g4:K<=1000000000) (hid:(ns.map Zj.id).Nodup) (c:Int) (hc:∀ p ∈ cs,0<=p.2/\p.2<=c)
  (w:World) (g:Rec w bj #[.map (some u)] 181) (h2:Rec w bl #[.map (some ml)] 184) (hm:MC Zka okJ w u cs) (hl:Zug B w0 w ml ns) (hB:B<=w.heap.size) (J:List (Zae × Int)->World->Prop)
  (hS:∀ pre W,J pre W->W.heap[u]?=w.heap[u]?/\W.heap[ml]?=w.heap[ml]?/\W.heap[bj]?=w.heap[bj]?/\W.heap[bl]?=w.heap[bl]?/\Below B w0 W/\w.heap.size<=W.heap.size)
  (hA:∀ pre W Q,J pre W->(∀ i,i<w.heap.size->Q.heap[i]?=W.heap[i]?)->W.heap.size<=Q.heap.size->Q.os=W.os->Q.tape=W.tape->Q.output=W.output->J pre Q)
  (hY:∀ m pre x W,J pre W->okE x.1->x.1.2.2.2=0->0<=x.2->x.2<=c->pre.length+1<=cs.length*K->YieldAt F m Tryz.prog l #[Zhc x.1,.int .i64 x.2] W fun e Q=>e=.returned (.bool true)/\J (pre++[x]) Q/\∀ i,w.heap.size<=i->i<W.heap.size->Q.heap[i]?=W.heap[i]?)
  (h0:J [] w) (m:Nat) :
  CallsIn F m Tryz.prog 124 #[.func (.yield l) #[] #[],.pointer (some ⟨bj,0,none⟩),.pointer (some ⟨bl,0,none⟩)] w fun e Q=>(∃ v,e=.returned v)/\∃ D,D.Perm cs/\J (Jn ns D) Q:=by
 have h5:=Zg5 hd
 have HS:=Za hS
 have HA:=Za hA
 have HY:=Za hY
 have HC:=Za hc
 have HL:=Za hl
 have f3:=Za hid
 have HK:=Za hK
 have g8:=g.lt
 have g9:=h2.lt
 have f8:=MG.lt hm
 have g5:=Za g
 have e7:=Za h2
 obtain ⟨d,b,hb,L,a8,a1⟩:=hm
 have hn:d.size=cs.length:=by have:=congrArg List.length L;simpa using this
 have c8:Hid (∀ x ∈ d.toList,∃ p ∈ cs,okJ p.1/\x.key=Zka p.1/\x.val=.int .i64 p.2):=fun x N=>by
  have g:(x.key,x.val) ∈ d.toList.map (fun e=>(e.key,e.val)):=List.mem_map.2 ⟨x,N,rfl⟩
  rw [L] at g
  obtain ⟨q,hq,e⟩:=List.mem_map.1 g
  have f2:=a8 q hq
  obtain ⟨p,hp,rfl⟩:=List.mem_map.1 hq
  obtain ⟨e1,e2⟩:=Prod.mk.inj e
  exact ⟨p,hp,f2,e1.symm,e2.symm⟩
 have d9:Hid (d.toList.map (fun e=>(e.key,e.val))=cs.map (fun p=>(Zka p.1,Value.int .i64 p.2))):=by
  show _=_
  rw [L,List.map_map];rfl
 have e8:Hid (d.toList.Nodup):=by
  have:=a1.2.1
  rw [List.nodup_iff_pairwise_ne] at *
  exact (List.pairwise_map.1 this).imp fun h e=>h (by rw [e])
 have b5:Hid (∀ x ∈ d.toList,∀ y ∈ d.toList,x.born=y.born->x=y):=fun x N y E e=>by
  obtain ⟨i,hi⟩:=List.getElem?_of_mem N
  obtain ⟨j,hj⟩:=List.getElem?_of_mem E
  have:=(List.getElem?_inj (l:=d.toList.map (·.born)) (by simpa using (List.getElem?_eq_some_iff.1 hi).1) a1.2.1 (i:=i) (j:=j)).1 (by rw [List.getElem?_map,List.getElem?_map,hi,hj,Option.map_some,Option.map_some,e])
  subst this
  rw [hi] at hj
  exact Option.some.inj hj
 have c6:Hid (∀ done:List MapEntry,done.Nodup->(∀ x ∈ done,x ∈ d.toList)->done.length<=cs.length):=fun done g h2=>by
  have:=Zdi g h2
  simp only [Array.length_toList] at this
  omega
 have b6:=Za a1
 have HB:=Za hb
 have f4:=Za h0
 have c1:=g.cell 0 rfl
 have h4:=run_range_map (P:=Tryz.prog) w 181 183 2 u d b (by kernel_rfl) hb
 clear L a8 a1 hn hb hS hA hY hc hl hid hK g h2 h0
 refine callsIn_of_wp Tryz.func124 rfl (e4 _) ?_ f0
 simp only [Tryz.ntmps124,List.size_toArray,List.length_cons,List.length_nil,Nat.reduceAdd,Nat.reduceSub,Array.replicate_succ,Array.replicate_zero,List.push_toArray,List.append_toArray,List.nil_append,List.cons_append]
 gi_wp2_with fail
 gi_loopw [] (fun wr=>∃ seen c0 done D,Zxg J ns d b u w.heap.size wr seen c0 done D) (fun wr=>wr.rangeLeft u w.heap.size)
 case atStart =>
  exact ⟨#[],b,[],[],World.alloc_heap_new _ _,Nat.le_refl _,HA.out _ _ _ f4.out (fun i hi=>Below.heap_alloc _ _ _ hi) (by simp) rfl rfl rfl,rfl,List.nodup_nil,fun x N=>by simp at N,fun x N=>by simp⟩
 case round =>
  obtain ⟨seen,c0,done,D,M⟩:=hrel
  have HW:=Za M
  obtain ⟨s1,s2,s3,s4,s5,s6⟩:=HS.out _ _ M.j
  have H:wr.heap[u]?=some (.map d b):=s1.trans HB.out
  rcases run_next_at (P:=Tryz.prog) wr 0 w.heap.size u b c0 seen d b M.it H b6.out.1 M.cl with ⟨h0,c4⟩ | ⟨x,N,w1,T,c4⟩
  ·have HF:Hid (D.Perm cs):=by
    have hp:done.Perm d.toList:=(List.perm_ext_iff_of_nodup M.nd e8.out).2 fun x=>⟨M.sub x,fun N=>(M.has x N).1 (all_seen d seen h0 x N)⟩
    have g:=hp.map (fun e=>(e.key,e.val))
    rw [<- M.dn,d9.out] at g
    exact Zee Jar g
   clear M H h0 s1 s2 s3 s4 s5 s6
   gi_wp2_with fail
   go_end0
   exact ⟨⟨_,rfl⟩,D,HF.out,HW.out.j⟩
  ·obtain ⟨C,a4⟩:=mem_left N
   obtain ⟨⟨⟨i,s,o⟩,z⟩,b0,b4,ek,ev⟩:=c8.out x C
   simp only [Zka] at ek ev
   obtain ⟨U,hU⟩:∃ V,Go.ChangeMaps.setBlock w1 w.heap.size (.mapIter (some u) b (seen.push x.born) b)=V:=⟨_,rfl⟩
   rw [hU,ek,ev] at c4
   have a5:w1.heap[w.heap.size]?=some (.mapIter (some u) b seen c0):=by rcases T with rfl | rfl<;>exact M.it
   have X:=MapKept.heap_set (o':=.mapIter (some u) b (seen.push x.born) b) a5
   have a9:∀ q,q≠w.heap.size->U.heap[q]?=wr.heap[q]?:=fun q hq=>by
    rw [<- hU]
    have:w1.heap[q]?=wr.heap[q]?:=by rcases T with rfl | rfl<;>rfl
    exact (X.2 q hq).trans this
   have e3:U.heap.size=wr.heap.size:=by
    rw [<- hU]
    have:w1.heap.size=wr.heap.size:=by rcases T with rfl | rfl<;>rfl
    simp [Go.ChangeMaps.setBlock,this]
   have a3:U.heap[w.heap.size]?=some (.mapIter (some u) b (seen.push x.born) b):=by rw [<- hU];exact X.1
   have a2:U.os=wr.os/\U.tape=wr.tape/\U.output=wr.output:=by
    rw [<- hU]
    rcases T with rfl | rfl<;>exact ⟨rfl,rfl,rfl⟩
   have f7:=run_entry_at (P:=Tryz.prog) U w.heap.size u b seen d b x a3 ((a9 u (by omega)).trans H) C b6.out.2.1
   rw [ek,ev] at f7
   have b7:w.heap.size<U.heap.size:=(Array.getElem?_eq_some_iff.1 a3).1
   have Y:(leftOf d (seen.push x.born)).size<(leftOf d seen).size:=left_shrinks d seen x N
   have I:wr.rangeLeft u w.heap.size=(leftOf d seen).size:=by simp only [World.rangeLeft,H,M.it]
   obtain ⟨W2,a0⟩:∃ W,U.alloc (.cells #[.int .i64 i,.string s,.bool o] 183)=W:=⟨_,rfl⟩
   have O:Below U.heap.size U W2:=by rw [<- a0];exact (Below.refl _ _).alloc (Nat.le_refl _) _
   have rx:Rec W2 U.heap.size #[.int .i64 i,.string s,.bool o] 183:=by rw [<- a0];exact Zk _ _ _
   have c9:W2.heap.size=U.heap.size+1:=by rw [<- a0];simp
   have b3:J (Jn ns D) W2:=HA.out _ _ _ M.j (fun q hq=>(O.block q (by omega)).trans (a9 q (by omega))) (by omega) (O.os.trans a2.1) (O.tape.trans a2.2.1) (O.output.trans a2.2.2)
   obtain ⟨t1,t2,t3,t4,t5,t6⟩:=HS.out _ _ b3
   obtain ⟨la,lc,lk,f6,g3,c5⟩:=Zwl HL.out f3.out i b4.1
   have lk:=lk W2 t2
   have d2:=(e7.out.keep t4).cell 0 rfl
   have e0:=rx.cell 0 rfl
   have e1:=rx.cell 1 rfl
   have e2:=rx.cell 2 rfl
   have a6:W2.heap[w.heap.size]?=some (.mapIter (some u) b (seen.push x.born) b):=(O.block _ (by omega)).trans a3
   obtain ⟨n,hn⟩:∃ n,(Zt ns i).length=n:=⟨_,rfl⟩
   have HN:=Za hn
   have f1:=HK.out i
   rw [hn] at lk f6 f1
   have f5:=Za c5
   have e6:=Za b3
   have e9:=Za a6
   have d5:=Za rx
   have HX:=Za (And.intro C (And.intro a4 (And.intro ek (And.intro ev (And.intro b0 b4)))))
   have HM:=Za (And.intro Y I)
   have d0:Hid (w.heap.size<U.heap.size):=by show _<_;omega
   obtain ⟨R,hR⟩:∃ R,U.heap.size=R:=⟨_,rfl⟩
   rw [hR] at e0 e1 e2 d5 d0
   have g7:Hid (W2.heap.size=R+1):=by show _=_;rw [c9,hR]
   have g6:=d0.out
   clear b7 M H hU a5 X a9 e3 a3 a2 C a4 ek ev N T Y I b0 O rx c9 b3 s1 s2 s3 s4 s5 s6 t1 t2 t3 t4 t5 t6 a6 hn c5
   gi_upto_region 3 with fail
   try rw [a0]
   try rw [hR]
   clear a0 hR
   gi_wp2_with fail
   gi_loopw [20] (fun q wr=>∃ k:Nat,k<=n/\q=.int .i64 k/\J (Jn ns D++(Zfu ns ((i,s,o),z)).take k) wr/\wr.heap[w.heap.size]?=some (.mapIter (some u) b (seen.push x.born) b)/\Rec wr R #[.int .i64 i,.string s,.bool o] 183) (fun q _=>n - (intOf q).toNat)
   case atStart=>exact ⟨0,Nat.zero_le _,rfl,by simpa using e6.out,e9.out,d5.out⟩
   case round =>
    obtain ⟨k,hk,rfl,hJ,hit,G⟩:=hrel
    obtain ⟨s1,s2,s3,s4,s5,s6⟩:=HS.out _ _ hJ
    have HJ:=Za hJ
    have b9:=Za hit
    have d4:=Za G
    have f9:=Za s6
    have d8:=Za (s1.trans HB.out)
    have e5:=G.lt
    by_cases hlt:k<n
    ·have b8:(k:Int)<n:=by omega
     obtain ⟨t,ht⟩:∃ q,(Zt ns i)[k]?=some q:=⟨_,List.getElem?_eq_getElem (by have:=HN.out;omega)⟩
     obtain ⟨b2,o2,rfl,H,d6⟩:=f5.out.resolve_left (by intro e;rw [e] at ht;simp at ht)
     obtain ⟨cx,d7⟩:=d6 k (by have:=HN.out;omega)
     replace cx:=(s5.cell (p:=⟨b2,o2+k,none⟩) H).trans cx
     have c3:(Zt ns i).getD k ⟨#[]⟩=t:=by rw [List.getD_eq_getElem?_getD,ht];rfl
     rw [c3] at cx d7
     have HO:Hid ((Zfu ns ((i,s,o),z))[k]?=some ((s,t,o,0),z)):=by
      show _=_
      unfold Zfu
      rw [List.getElem?_map,ht];rfl
     have g0:=G.cell 0 rfl
     have g1:=G.cell 1 rfl
     have g2:=G.cell 2 rfl
     have a7:(Jn ns D++(Zfu ns ((i,s,o),z)).take k).length+1<=cs.length*K:=by
      have g:=Zgo ns K HK.out D
      have h2:D.length+1<=cs.length:=by
       have e1:=congrArg List.length HW.out.dn
       simp only [List.length_map] at e1
       have e2:=c6.out (done++[x]) (List.nodup_append.2 ⟨HW.out.nd,by simp,fun a ha c' S=>by
        simp only [List.mem_singleton] at S
        subst S
        intro e
        subst e
        have:=(HW.out.has _ HX.out.1).2 ha
        rw [HX.out.2.1] at this
        cases this⟩) (fun y E=>by
        rcases List.mem_append.1 E with E | E
        ·exact HW.out.sub y E
        ·rw [List.mem_singleton.1 E];exact HX.out.1)
       simp only [List.length_append,List.length_cons,List.length_nil] at e2
       omega
      have h3:=Nat.mul_le_mul_right K h2
      rw [Nat.succ_mul] at h3
      simp only [List.length_append,List.length_take]
      omega
     obtain ⟨c2,d3⟩:=HC.out _ HX.out.2.2.2.2.1
     obtain ⟨fn,tmps,assign,body,c7,hR⟩:=HY.out (m - 1) (Jn ns D++(Zfu ns ((i,s,o),z)).take k) ((s,t,o,0),z) wr hJ ⟨HX.out.2.2.2.2.2.2,d7,Zcg⟩ rfl c2 d3 a7
     have HT:=Za ht
     simp only [Zhc] at c7
     clear hJ hit G s1 s2 s3 s4 s5 s6 c3 d6 ht a7 c2 d3
     gi_wp2_with fail
     refine hR.mono ?_
     clear hR c7
     rintro e W3 ⟨rfl,d1,b1⟩
     have A:Hid (J (Jn ns D++(Zfu ns ((i,s,o),z)).take (k+1)) W3/\W3.heap[w.heap.size]?=some (.mapIter (some u) b (seen.push x.born) b)/\Rec W3 R #[.int .i64 i,.string s,.bool o] 183):=by
      refine ⟨?_,(b1 _ (Nat.le_refl _) (by omega)).trans b9.out,d4.out.keep (b1 _ (by omega) e5)⟩
      rw [List.take_add_one,HO.out,<- List.append_assoc]
      exact d1
     clear d1 b1 cx g0 g1 g2
     gi_wp2_with fail
     go_roundw
     case rel=>exact ⟨k+1,by omega,by go_num,A.out.1,A.out.2.1,A.out.2.2⟩
     case measure=>simp [intOf];omega
    ·have b8:¬ (k:Int)<n:=by omega
     have A:Hid (Zxg J ns d b u w.heap.size wr (seen.push x.born) b (done++[x]) (D++[((i,s,o),z)])):=by
      obtain ⟨C,a4,ek,ev,b0,b4⟩:=HX.out
      refine ⟨b9.out,Nat.le_refl _,?_,?_,?_,?_,?_⟩
      ·have:=HJ.out
       rw [List.take_of_length_le (by unfold Zfu;rw [List.length_map];show (Zt ns i).length<=k;have:=HN.out;omega)] at this
       rw [Zrb];exact this
      ·rw [List.map_append,List.map_append,HW.out.dn]
       simp [Zka,ek,ev]
      ·refine List.nodup_append.2 ⟨HW.out.nd,by simp,fun a ha c' S=>?_⟩
       simp only [List.mem_singleton] at S
       subst S
       intro e
       subst e
       have:=(HW.out.has _ C).2 ha
       rw [a4] at this
       cases this
      ·intro y E
       rcases List.mem_append.1 E with E | E
       ·exact HW.out.sub y E
       ·rw [List.mem_singleton.1 E];exact C
      ·intro y E
       rw [contains_push]
       simp only [Bool.or_eq_true,HW.out.has y E,beq_iff_eq,List.mem_append,List.mem_singleton]
       constructor
       ·rintro (g | g)
        ·exact .inl g
        ·exact .inr (b5.out y E x C g)
       ·rintro (g | g)
        ·exact .inl g
        ·exact .inr (by rw [g])
     clear hJ hit G s1 s2 s3 s4 s5 s6
     gi_wp2_with fail
     go_roundw
     case rel=>exact ⟨_,_,_,_,A.out⟩
     case measure =>
      have g:wr.rangeLeft u w.heap.size=(leftOf d (seen.push x.born)).size:=by
       simp only [World.rangeLeft,d8.out,A.out.it]
      rw [g,HM.out.2]
      exact HM.out.1
end Go.Proofs.YthfilnflgahcjaaGreatDoor

namespace Go.Proofs.YthfilnflgahcjaaGreatDoor
open Go.RowKit Go.Shelf Go.Maps
set_option linter.all false
attribute [local go_sem] Oper.semAt_some
theorem Jfi:Tryz.prog.underlying 143=some (.map 64 2):=by kernel_rfl
theorem Zvj {F:Fence} {n:Nat} {P:Program} {c:Code} {Q:Exit->Act->World->Prop} {a:Act} {w:World} (w2:World) (h:∃ A,c.wpIn F n P (Exit.then (fun a W=>a=A/\W=w2) fun _ _ _=>False) a w/\Q .normal A w2):c.wpIn F n P Q a w:=by
 obtain ⟨A,h1,h2⟩:=h
 exact wpIn_mono h1 (fun e a W q=>by cases e<;>first | (obtain ⟨e2,e3⟩:=q;subst e2;subst e3;exact h2) | exact q.elim)
theorem Ja9 {W:World} {b:Nat} {cs:List (Zae × Int)} (h:MC Zhc okE W b cs) (hn:(cs.map Prod.fst).Nodup) (x:Zae) (hx:okE x) (d:Int) :
  ∃ (st:Nat) (w1 w2:World),(Instr.lookup 143 (.map (some b)) (Zhc x) false).run Tryz.prog W.drew=.ok (.int .i64 (Zn x cs)) W.drew/\(Instr.mapEntry 143 (.map (some b)) (Zhc x)).run Tryz.prog W.drew=.ok (.tuple #[.int .i64 (Zn x cs),.int .i64 st]) w1/\(Instr.lookup 143 (.map (some b)) (Zhc x) false).run Tryz.prog w1=.ok (.int .i64 (Zn x cs)) w1/\(Instr.entryStore 143 (.map (some b)) (.int .i64 st) (.int .i64 (Zn x cs+d))).run Tryz.prog w1=.ok () w2/\MC Zhc okE w2 b (Zcn x d cs)/\w2.heap.size=W.heap.size/\(∀ i,i≠b->w2.heap[i]?=W.heap[i]?)/\Below b W w2:=by
 obtain ⟨st,w1,w2,q1,q2,q3,q4,q5,q6,q7,q8⟩:=Zhn Jfh Jfi (w:=W.drew) h hn x hx d
 exact ⟨st,w1,w2,q1,q2,q3,q4,q5,q6,q7,((Below.refl b W).drew).trans q8⟩
structure Jfj (B:Nat) (w G w2:World) (j:Loop) (pre:List (Zae × Int)) (W:World):Prop where
 room:w2.heap.size+2<=W.heap.size
 loop:W.heap[w2.heap.size+1]?=some (.loop j)
 dfr:W.heap[w2.heap.size]?=some (.deferred (some []))
 mc:MC Zhc okE W (w.heap.size+1) (Jc pre)
 keep:∀ i,i<w2.heap.size->i≠w.heap.size+1->W.heap[i]?=w2.heap[i]?
 below:Below w.heap.size w W
 lab:Below B G W
 small:∀ p ∈ pre,0<=p.2/\p.2<=200000
set_option maxRecDepth 100000 in
set_option maxHeartbeats 8000000 in
theorem Jba {le:Zae->Zae->Prop} {most:Nat} (d2:Zsy le most) (b7:most<=900000) (g:Zx) (v:Value) (B:Nat) (w:World) (hB:B<=w.heap.size) (h:Zp B w v g) (hl:g.rels.length<=100000) (h8:g.nodes.length<=100000) (b4:∀ r ∈ g.rels,W64 r.fr/\W64 r.tt) (b9:(g.nodes.map Zj.id).Nodup) (hid:∀ n ∈ g.nodes,W64 n.id)
  (K:Nat) (hK:∀ n ∈ g.nodes,n.labels.length<=K) (h6:K<=1000000000) (hN:(cnt (Zl g.rels)).length*K<=1000000000) (hm:(Jc (Jn g.nodes (cnt (Zl g.rels)))).length<=most) :
  Calls Tryz.prog 45 #[v] w fun e w'=>∃ v L,e=.returned v/\L.Perm ((Jc (Jn g.nodes (cnt (Zl g.rels)))).map (fun p:Zae × Int=>(p.1.1,p.1.2.1,p.1.2.2.1,p.2)))/\L.Pairwise le/\Jb 64 4 Zc7 w.heap.size w' v L/\Below w.heap.size w w':=by
 have HG:=Za h
 obtain ⟨na,nc,ra,rc,rfl,_,_⟩:=h
 have HE:=Za (fun W (hW:B<=W.heap.size) (hg:Zp B W (.agg #[.slice na g.nodes.length nc,.slice ra g.rels.length rc,.int .i64 g.nn,.int .i64 g.nr]) g)=>Jb2 g _ B W hW hg hl h8 b4 b9 hid)
 have i7:=Za b9
 have h5:=Za (Zku hK)
 have HN:=Za hN
 have i8:=Za hm
 have i4:Hid (∀ p ∈ cnt (Zl g.rels),0<=p.2/\p.2<=200000):=fun p O=>by
  have h1:=Zh1 _ p O
  have h2:=Zcb g.rels
  omega
 generalize g.nodes.length=l1 at *
 generalize g.rels.length=l2 at *
 generalize g.nn=nn at *
 generalize g.nr=nr at *
 clear b4 b9 hid hK hN hm
 have j7:∀ W:World,(Instr.makeMap 143 none).run Tryz.prog W=.ok (.map (some W.heap.size)) (W.alloc (.map #[] 0)):=fun W=>rfl
 refine (callsIn_wide (n:=0)).1 ?_
 obtain ⟨Fe,hF⟩:∃ F,F=Fence.wide:=⟨_,rfl⟩
 rw [<- hF]
 have hd:Fe.depth=none:=by rw [hF];rfl
 have a7:Fe.round=none:=by rw [hF];rfl
 have S:∀ f,Fe.fn f:=by rw [hF];exact fun _=>trivial
 refine callsIn_of_wp_marks Tryz.func45 rfl (S _) ?_ a7
 simp only [Tryz.ntmps45,List.size_toArray,List.length_cons,List.length_nil,Nat.reduceAdd,Nat.reduceSub,Array.replicate_succ,Array.replicate_zero,List.push_toArray,List.append_toArray,List.nil_append,List.cons_append]
 subst hF
 refine wpIn_wide.2 ?_
 go_upto_region 2 with fail
 obtain ⟨Wa,Y⟩:∃ W,w.alloc (.cells #[.slice na l1 nc,.slice ra l2 rc,.int .i64 nn,.int .i64 nr] 25)=W:=⟨_,rfl⟩
 have g8:Rec Wa w.heap.size #[.slice na l1 nc,.slice ra l2 rc,.int .i64 nn,.int .i64 nr] 25:=by rw [<- Y];exact Zk _ _ _
 have d0:Wa.heap.size=w.heap.size+1:=by rw [<- Y];simp
 have g9:Below w.heap.size w Wa:=by rw [<- Y];exact (Below.refl _ _).alloc (Nat.le_refl _) _
 try rw [Y]
 obtain ⟨Wb,N⟩:∃ W,Wa.alloc (.map #[] 0)=W:=⟨_,rfl⟩
 have c4:Below Wa.heap.size Wa Wb:=by rw [<- N];exact (Below.refl _ _).alloc (Nat.le_refl _) _
 have e9:MC Zhc okE Wb (w.heap.size+1) []:=by rw [<- N,<- d0];exact Zc9 _
 have c8:Wb.heap.size=w.heap.size+1+1:=by rw [<- N,<- d0];simp
 try rw [N]
 obtain ⟨G,R⟩:∃ W,Wb.alloc (.cells #[.map (some (w.heap.size+1))] 143)=W:=⟨_,rfl⟩
 have y:Below Wb.heap.size Wb G:=by rw [<- R];exact (Below.refl _ _).alloc (Nat.le_refl _) _
 have f0:Rec G (w.heap.size+1+1) #[.map (some (w.heap.size+1))] 143:=by rw [<- R,<- c8];exact Zk _ _ _
 have d7:G.heap.size=w.heap.size+1+1+1:=by rw [<- R,<- c8];simp
 have M:Rec G w.heap.size #[.slice na l1 nc,.slice ra l2 rc,.int .i64 nn,.int .i64 nr] 25:=(g8.below c4 (by omega)).below y (by omega)
 have e5:Hid (MC Zhc okE G (w.heap.size+1) []):=MG.block e9 (y.block _ (by omega))
 have b5:Below w.heap.size w G:=Below.on (Below.on g9 c4) y
 have j3:=Za b5
 have g5:=Za (HE.out G (by omega) (HG.out.below (b5.mono hB)))
 have i5:=Za d7
 have c5:=Za f0
 try rw [R]
 have c0:=M.cell 0 rfl
 have c1:=M.cell 1 rfl
 have c2:=M.cell 2 rfl
 have c3:=M.cell 3 rfl
 clear Y N R d0 c8 d7 g9 c4 y e9 g8 M f0 b5 HE
 go_wp2_with fail
 refine g5.out.mono ?_
 rintro e w2 ⟨bj,bl,mj,ml,rfl,rj,rl,g1,g2,g3,g4,d6,d3,a4⟩
 have d7:=i5.out
 have k2:=a4.size
 have d4:=rj.lt
 have d5:=rl.lt
 have c6:=MG.lt d6
 have b6:=d3.lt
 have f9:=Za rj
 have d8:=Za rl
 have g0:=Za d6
 have f1:=Za d3
 have e7:=Za a4
 have e6:Hid (MC Zhc okE w2 (w.heap.size+1) []):=MG.block e5.out (a4.block _ (by omega))
 have f5:Hid (Rec w2 (w.heap.size+1+1) #[.map (some (w.heap.size+1))] 143):=c5.out.below a4 c5.out.lt
 clear rj rl d6 d3 a4 g5 e5 c5 c0 c1 c2 c3
 go_wp2_with fail
 refine (wpIn_wide (n:=0)).1 ?_
 obtain ⟨Fe,hF⟩:∃ F,F=Fence.wide:=⟨_,rfl⟩
 rw [<- hF] at hd a7 S |-
 refine Zov a7 hd (gf:=124) (lb:=#[.pointer (some ⟨bj,0,none⟩),.pointer (some ⟨bl,0,none⟩)]) rfl (S _) (enters_of Tryz.func124 (by kernel_rfl) rfl) ?_
 intro fn j6
 have k0:=Za hF
 clear hF
 generalize k:Loop.mk _ _ _ _ _ _ _ _=j
 simp only [World.size_alloc]
 generalize a3:World.alloc _ (Obj.loop j)=W0
 have k1:W0.heap.size=w2.heap.size+2:=by rw [<- a3];simp
 have b1:W0.heap[w2.heap.size]?=some (.deferred (some [])):=by rw [<- a3];simp only [Jt,World.size_alloc];repeat (first | rw [if_pos trivial] | rw [if_pos (by omega)] | rw [if_neg (by omega)])
 have b2:W0.heap[w2.heap.size+1]?=some (.loop j):=by rw [<- a3];simp only [Jt,World.size_alloc];repeat (first | rw [if_pos trivial] | rw [if_pos (by omega)] | rw [if_neg (by omega)])
 have C:Below w2.heap.size w2 W0:=by
  rw [<- a3]
  exact ((Below.refl _ _).alloc (Nat.le_refl _) _).alloc (by simp) _
 have k3:B<=w.heap.size:=hB
 have I:Hid (Jfj B w G w2 j [] W0):=⟨by omega,b2,b1,MG.block e6.out (C.block _ (by omega)),fun i H _=>C.block i H,((j3.out.trans (e7.out.mono (by omega)))).trans (C.mono (by omega)),(e7.out.mono (by omega)).trans (C.mono (by omega)),fun p O=>by simp at O⟩
 have b0:Hid (Rec W0 bj #[.map (some mj)] 181):=f9.out.below C d4
 have b3:Hid (Rec W0 bl #[.map (some ml)] 184):=d8.out.below C d5
 have a9:Hid (MC Zka okJ W0 mj (cnt (Zl g.rels))):=MG.block g0.out (C.block _ c6)
 have a8:Hid (Zug B G W0 ml g.nodes):=f1.out.block (C.block _ b6)
 clear a3 b1 b2 C f9 d8 g0 f1 e6
 have f2:Hid (∀ m pre x W,Jfj B w G w2 j pre W->okE x.1->x.1.2.2.2=0->0<=x.2->x.2<=200000->pre.length+1<=(cnt (Zl g.rels)).length*K->YieldAt Fe m Tryz.prog (w2.heap.size+1) #[Zhc x.1,.int .i64 x.2] W fun e W'=>e=.returned (.bool true)/\Jfj B w G w2 j (pre++[x]) W'/\∀ i,W0.heap.size<=i->i<W.heap.size->W'.heap[i]?=W.heap[i]?):=by
  rintro m pre ⟨⟨s,t,o,q⟩,z⟩ W u f7 hq c9 T f3
  simp only at hq c9 T
  subst hq
  have h3:=Za f7
  have E:=Za u
  have ea:=congrArg Loop.assign k
  have eb:=congrArg Loop.body k
  have et:=congrArg Loop.tmps k
  have ep:=congrArg Loop.params k
  have es:=congrArg Loop.state k
  have f4:Zfl (Zc4 j)=j:=by rw [<- k];rfl
  dsimp only at ea eb et ep es
  clear k f7
  refine Zhw (S _) ea eb et ep u.loop es.symm (by rw [<- ep];rfl) ?_
  clear ea eb et ep es u
  have h0:=E.out.room
  simp only [Zhc]
  gi_upto_region 5 with fail
  obtain ⟨Wc,X⟩:∃ V,W.alloc (.cells #[.string s,.string t,.bool o,.int .i64 0] 64)=V:=⟨_,rfl⟩
  have y:Below W.heap.size W Wc:=by rw [<- X];exact (Below.refl _ _).alloc (Nat.le_refl _) _
  have rx:Rec Wc W.heap.size #[.string s,.string t,.bool o,.int .i64 0] 64:=by rw [<- X];exact Zk _ _ _
  have f8:Wc.heap.size=W.heap.size+1:=by rw [<- X];simp
  rw [X]
  refine ⟨(y.block _ (by omega)).trans E.out.loop,?_⟩
  generalize a1:World.putObj _ _ _=Wd
  have a2:Wd.heap[w2.heap.size+1]?=some (.loop (Zc4 j)):=by rw [<- a1];exact World.putObj_heap_same (by omega)
  have ak:∀ i,i≠w2.heap.size+1->Wd.heap[i]?=Wc.heap[i]?:=fun i H=>by rw [<- a1];exact World.putObj_heap_other H
  have j1:Wd.heap.size=W.heap.size+1:=by rw [<- a1];simp [f8]
  have g6:Below (w2.heap.size+1) W Wd:=by rw [<- a1];exact (But.putObj _ _).below (y.mono (by omega)) (Nat.le_refl _)
  clear a1
  have a0:Rec Wd W.heap.size #[.string s,.string t,.bool o,.int .i64 0] 64:=rx.keep (ak _ (by omega))
  have a6:∀ i,i<W.heap.size->i≠w2.heap.size+1->Wd.heap[i]?=W.heap[i]?:=fun i h1 h2=>(ak i h2).trans (y.block i h1)
  have rb:Rec Wd (w.heap.size+1+1) #[.map (some (w.heap.size+1))] 143:=f5.out.keep ((a6 _ (by omega) (by omega)).trans (E.out.keep _ (by omega) (by omega)))
  have e8:MC Zhc okE Wd (w.heap.size+1) (Jc pre):=MG.block E.out.mc (a6 _ (by omega) (by omega))
  obtain ⟨st,w3,w4,q1,q2,q3,q4,q5,q6,q7,q8⟩:=Ja9 e8 (Jq _) (s,t,o,0) h3.out z
  have d1:=Zez (x:=(s,t,o,(0:Int))) (c:=200000) (by omega) E.out.small
  rw [<- Jf] at d1
  obtain ⟨cn,d9⟩:∃ c,Zn ((s,t,o,0):Zae) (Jc pre)=c:=⟨_,rfl⟩
  rw [d9] at q1 q2 q3 q4 d1
  have j4:0<=cn/\cn<=200000000000000:=by have:=HN.out;omega
  have j8:IntKind.i64.wrap (cn+z)=cn+z:=by rw [IntKind.wrap_i64];omega
  simp only [Zhc] at q1 q2 q3 q4
  have U:Hid (w4.heap[w2.heap.size+1]?=some (.loop (Zc4 j))/\Jfj B w G w2 j (pre++[((s,t,o,0),z)]) (w4.putObj (w2.heap.size+1) (.loop (Zfl (Zc4 j))))/\∀ i,w2.heap.size+2<=i->i<W.heap.size->(w4.putObj (w2.heap.size+1) (.loop (Zfl (Zc4 j)))).heap[i]?=W.heap[i]?):=by
   have g7:∀ i,i≠w2.heap.size+1->(w4.putObj (w2.heap.size+1) (.loop (Zfl (Zc4 j)))).heap[i]?=w4.heap[i]?:=fun i H=>World.putObj_heap_other H
   have h4:∀ i,i<W.heap.size->i≠w2.heap.size+1->i≠w.heap.size+1->(w4.putObj (w2.heap.size+1) (.loop (Zfl (Zc4 j)))).heap[i]?=W.heap[i]?:=fun i i1 i2 i3=>(g7 i i2).trans ((q7 i i3).trans (a6 i i1 i2))
   have c7:Below (w.heap.size+1) W (w4.putObj (w2.heap.size+1) (.loop (Zfl (Zc4 j)))):=(But.putObj _ _).below ((g6.mono (by omega)).trans q8) (by omega)
   refine ⟨(q7 _ (by omega)).trans a2,⟨?_,?_,(h4 _ (by omega) (by omega) (by omega)).trans E.out.dfr,?_,?_,E.out.below.trans (c7.mono (by omega)),E.out.lab.trans (c7.mono (by omega)),?_⟩,fun i i1 i2=>h4 i i2 (by omega) (by omega)⟩
   ·have:=c7.size
    omega
   ·rw [f4];exact World.putObj_heap_same (by omega)
   ·rw [Zhk]
    exact MG.block q5 (g7 _ (by omega))
   ·intro i i1 i2
    exact (h4 i (by omega) (by omega) i2).trans (E.out.keep i i1 i2)
   ·intro p O
    rcases List.mem_append.1 O with O | O
    ·exact E.out.small p O
    ·rw [List.mem_singleton.1 O];exact ⟨c9,T⟩
  have e0:=rb.cell 0 rfl
  have e1:=a0.cell 0 rfl
  have e2:=a0.cell 1 rfl
  have e3:=a0.cell 2 rfl
  have e4:=a0.cell 3 rfl
  clear q5 q6 q7 q8 d1 j4 d9 y rx f8 X a2 ak j1 g6 a0 a6 rb e8 c9 T f3
  gi_upto_region 5 with fail
  apply Zvj w4
  apply Exists.intro
  apply And.intro
  ·gi_region_with fail
   all_goals exact ⟨rfl,rfl⟩
  ·gi_wp2_with fail
   exact ⟨U.out.1,rfl,U.out.2.1,U.out.2.2⟩
 have HV:=Za (Zxh hd a7 S (l:=w2.heap.size+1) (B:=B) (w0:=G) g.nodes (cnt (Zl g.rels)) bj mj bl ml K h5.out h6 i7.out 200000 i4.out W0 b0.out b3.out a9.out a8.out (by omega) (Jfj B w G w2 j)
  (fun pre W u=>⟨(u.keep _ c6 (by omega)).trans (I.out.keep _ c6 (by omega)).symm,(u.keep _ b6 (by omega)).trans (I.out.keep _ b6 (by omega)).symm,(u.keep _ d4 (by omega)).trans (I.out.keep _ d4 (by omega)).symm,(u.keep _ d5 (by omega)).trans (I.out.keep _ d5 (by omega)).symm,u.lab,by have:=u.room;omega⟩)
  (fun pre W W' u H hz ho ht hu=>⟨by have:=u.room;omega,(H _ (by omega)).trans u.loop,(H _ (by omega)).trans u.dfr,MG.block u.mc (H _ (by omega)),fun i i1 i2=>(H i (by omega)).trans (u.keep i i1 i2),⟨ho.trans u.below.os,ht.trans u.below.tape,hu.trans u.below.output,by have:=u.below.size;omega,fun i i1=>(H i (by omega)).trans (u.below.block i i1)⟩,⟨ho.trans u.lab.os,ht.trans u.lab.tape,hu.trans u.lab.output,by have:=u.lab.size;omega,fun i i1=>(H i (by omega)).trans (u.lab.block i i1)⟩,u.small⟩)
  f2.out I.out (0 - 1))
 clear f2 I b0 b3 a9 a8
 refine HV.out.mono ?_
 rintro e W ⟨⟨v,rfl⟩,D,hD,u⟩
 have O:j.pending=none:=by rw [<- k]
 have h9:j.state≠.busy:=by rw [<- k];simp
 have E:=Za u
 have HD:=Za hD
 clear k u hD HV
 refine ⟨j,E.out.loop,h9,?_⟩
 simp only [O]
 generalize a5:World.putObj _ _ _=W5
 have h0:=E.out.room
 have b8:Hid (∀ i,i≠w2.heap.size+1->W5.heap[i]?=W.heap[i]?):=fun i H=>by rw [<- a5];exact World.putObj_heap_other H
 have i6:Hid (Below w.heap.size w W5):=by rw [<- a5];exact (But.putObj _ _).below E.out.below (by omega)
 have j9:W5.heap.size=W.heap.size:=by rw [<- a5];simp
 clear a5
 have i9:Hid (MC Zhc okE W5 (w.heap.size+1) (Jc (Jn g.nodes D))):=MG.block E.out.mc (b8.out _ (by omega))
 have j5:Hid (Rec W5 (w.heap.size+1+1) #[.map (some (w.heap.size+1))] 143):=f5.out.keep ((b8.out _ (by omega)).trans (E.out.keep _ (by omega) (by omega)))
 have j0:Hid (W5.heap[w2.heap.size]?=some (.deferred (some []))):=(b8.out _ (by omega)).trans E.out.dfr
 have f6:=Za (Zks (Zrc g.nodes HD.out))
 have i0:=Za (Zv3 d2 b7 i9.out (by rw [f6.out.length_eq];exact i8.out))
 have e0:=j5.out.cell 0 rfl
 go_wp2_with (go_at_call 92;refine i0.out.mono ?_;rintro e W6 ⟨v6,L,rfl,y1,y2,y3,y4⟩;have HY:=Za (And.intro y1 (And.intro y2 (And.intro y3 y4)));clear y1 y2 y3 y4)
 obtain ⟨y1,y2,y3,y4⟩:=HY.out
 have j2:W6.heap[w2.heap.size]?=some (.deferred (some [])):=(y4.block _ (by omega)).trans j0.out
 have h7:Below w.heap.size w (W6.putObj w2.heap.size (.deferred none)):=(But.putObj _ _).below (Below.on i6.out y4) (by omega)
 show LeavesInM _ _ _ _ _ _ [_] .returning _
 refine ⟨by simp,.inl ⟨_,_,rfl,run_takeDeferred j2,?_⟩⟩
 refine ⟨v6,?_,v6,L,rfl,y1.trans (f6.out.map _),y2,?_,h7⟩
 ·simp [results,Tryz.results45,go_sem]
 ·exact (y3.keep fun i H _=>World.putObj_heap_other (show i≠w2.heap.size by omega)).base (by omega)
end Go.Proofs.YthfilnflgahcjaaGreatDoor

namespace Go.Proofs.YthfilnflgahcjaaGreatDoor
open Go.RowKit Go.Shelf
set_option linter.all false
attribute [local go_sem] Oper.semAt_some
def Zco (next:Int):Int->List Int->Bool
 | _,[]=>decide (0<=next)&&decide (next<=4611686018427387904)
 | l,x::r=>!decide (x<l)&&(!decide (next<=x)&&Zco next (x+1) r)
theorem Ztt {next l:Int} {ks:List Int} {j:Nat} {x:Int} (h:ks[j]?=some x):Zco next l (ks.drop j)=(!decide (x<l)&&(!decide (next<=x)&&Zco next (x+1) (ks.drop (j+1)))):=by
 obtain ⟨hj,F⟩:=List.getElem?_eq_some_iff.1 h
 rw [List.drop_eq_getElem_cons hj,F,Zco]
set_option maxHeartbeats 1000000 in
theorem Zrw (c:Int) (la:Option Addr) (ll lc:Nat) (pa:Option Addr) (pl pc:Nat) (w:World):Calls Tryz.prog 130 #[.agg #[.int .i64 c,.slice la ll lc,.slice pa pl pc]] w fun e w'=>e=.returned (.int .i64 c)/\Below w.heap.size w w':=by
 go_enter Tryz.func130,Tryz.ntmps130
 go_upto_region 1 with fail
 generalize f:World.alloc _ _=W1
 have hr:=Zk w #[.int .i64 c,.slice la ll lc,.slice pa pl pc] 73
 rw [f] at hr
 have E:Hid (Below w.heap.size w W1):=by rw [<- f];exact (Below.refl _ _).alloc (Nat.le_refl _) _
 have q0:=hr.cell 0 rfl
 clear f hr
 go_wp2_with fail
 go_ret
 exact ⟨rfl,E.out⟩
set_option maxHeartbeats 1000000 in
theorem Zvf (c fr tt:Int) (ty:ByteArray) (pa:Option Addr) (pl pc:Nat) (w:World):Calls Tryz.prog 132 #[.agg #[.int .i64 c,.int .i64 fr,.int .i64 tt,.string ty,.slice pa pl pc]] w fun e w'=>e=.returned (.int .i64 c)/\Below w.heap.size w w':=by
 go_enter Tryz.func132,Tryz.ntmps132
 go_upto_region 1 with fail
 generalize f:World.alloc _ _=W1
 have hr:=Zk w #[.int .i64 c,.int .i64 fr,.int .i64 tt,.string ty,.slice pa pl pc] 71
 rw [f] at hr
 have E:Hid (Below w.heap.size w W1):=by rw [<- f];exact (Below.refl _ _).alloc (Nat.le_refl _) _
 have q0:=hr.cell 0 rfl
 clear f hr
 go_wp2_with fail
 go_ret
 exact ⟨rfl,E.out⟩
set_option maxRecDepth 100000 in
set_option maxHeartbeats 4000000 in
theorem Zrx (ks:List Zj) (next:Int) (B:Nat) (v:Value) (w:World) (hB:B<=w.heap.size) (hk:Zfc B w v ks) (a3:-9223372036854775808<=next) (a5:next<=9223372036854775807) :
  Calls Tryz.prog 129 #[v,.func (.func 130) #[] #[],.int .i64 next] w fun e w'=>e=.returned (.bool (Zco next 0 (ks.map Zj.id)))/\Below w.heap.size w w':=by
 obtain ⟨ka,kc,rfl,h1,h2,I⟩:=hk
 have HK:=Za I
 obtain ⟨n,hn⟩:∃ n,ks.length=n:=⟨_,rfl⟩
 have V:=Za hn
 rw [hn] at h1 |-
 obtain ⟨a,k⟩:∃ r,Zco next 0 (ks.map Zj.id)=r:=⟨_,rfl⟩
 have HR:=Za k
 rw [k]
 clear I hn k
 go_enter Tryz.func129,Tryz.ntmps129
 go_wp2_with fail
 go_loopw [13,7] (fun i l wr=>∃ (j:Nat) (s:Int),j<=n/\i=.int .i64 j/\l=.int .i64 s/\0<=s/\Below w.heap.size w wr/\Zco next s ((ks.map Zj.id).drop j)=a) (fun i _ _=>n - (intOf i).toNat)
 case atStart=>exact ⟨0,0,Nat.zero_le _,rfl,rfl,by omega,Below.refl _ _,HR.out⟩
 case round =>
  obtain ⟨j,s,hj,rfl,rfl,a6,z,G⟩:=hrel
  have p:=Za z
  have L:=Za G
  have a0:w.heap.size<=wr.heap.size:=z.size
  clear z G
  by_cases hlt:j<n
  ·have K:(j:Int)<n:=by omega
   obtain ⟨⟨c,xl,xp⟩,F⟩:∃ x,ks[j]?=some x:=⟨_,List.getElem?_eq_getElem (by have:=V.out;omega)⟩
   have HX:Hid ((ks.map Zj.id)[j]?=some c):=by
    show _=_
    rw [List.getElem?_map,F];rfl
   obtain ⟨bl,off,rfl,P,U⟩:=HK.out.resolve_left (by intro e;rw [e] at F;simp at F)
   obtain ⟨la,lc,pv,⟨c0,c1,c2⟩,_,_,X⟩:=(U j _ F).below (p.out.mono hB) P
   simp only at c0 c1 c2 X
   obtain ⟨pa,pc,rfl,_,_,_⟩:=X
   have y:Hid (a=(!decide (c<s)&&(!decide (next<=c)&&Zco next (c+1) ((ks.map Zj.id).drop (j+1))))):=by
    show _=_
    rw [<- L.out,Ztt HX.out]
   clear U F
   go_upto_region 5 with fail
   generalize A:World.alloc _ _=W2
   have d:=Zk wr #[.int .i64 c,.slice la xl.length lc,.slice pa xp.length pc] 73
   rw [A] at d
   have t:Hid (Below wr.heap.size wr W2):=by rw [<- A];exact (Below.refl _ _).alloc (Nat.le_refl _) _
   have k0:=d.cell 0 rfl
   have k1:=d.cell 1 rfl
   have k2:=d.cell 2 rfl
   clear A d c0 c1 c2
   go_wp2_with fail
   refine (Zrw c la xl.length lc pa xp.length pc _).mono ?_
   rintro e w3 ⟨rfl,q⟩
   have o:=Za (Zm p.out (Zm t.out q))
   clear q k0 k1 k2
   by_cases a1:c<s
   ·have D:Hid (a=false):=by
     show _=_
     rw [y.out,decide_eq_true a1];rfl
    go_wp2_with fail
    go_ret
    exact ⟨by rw [D.out];rfl,o.out⟩
   ·by_cases a2:next<=c
    ·have D:Hid (a=false):=by
      show _=_
      rw [y.out,decide_eq_false a1,decide_eq_true a2];rfl
     go_wp2_with fail
     go_ret
     exact ⟨by rw [D.out];rfl,o.out⟩
    ·have N:Hid (Zco next (c+1) ((ks.map Zj.id).drop (j+1))=a):=by
      show _=_
      rw [y.out,decide_eq_false a1,decide_eq_false a2];rfl
     have a4:IntKind.i64.wrap (c+1)=c+1:=by rw [IntKind.wrap_i64];omega
     go_wp2_with fail
     go_roundw
     case rel=>exact ⟨j+1,c+1,by omega,by go_num,rfl,by omega,o.out,N.out⟩
     case measure=>simp [intOf];omega
  ·have D:Hid (a=(decide (0<=next)&&decide (next<=4611686018427387904))):=by
    show _=_
    rw [<- L.out,List.drop_of_length_le (by have:=V.out;simp;omega)];rfl
   have K:¬ (j:Int)<n:=by omega
   by_cases R:0<=next
   ·have u:Hid (a=decide (next<=4611686018427387904)):=by
     show _=_
     rw [D.out,decide_eq_true R];rfl
    go_wp2_with fail
    go_ret
    exact ⟨by rw [u.out];rfl,p.out⟩
   ·have u:Hid (a=false):=by
     show _=_
     rw [D.out,decide_eq_false R];rfl
    go_wp2_with fail
    go_ret
    exact ⟨by rw [u.out];rfl,p.out⟩
set_option maxRecDepth 100000 in
set_option maxHeartbeats 4000000 in
theorem Zry (ks:List Zbr) (next:Int) (B:Nat) (v:Value) (w:World) (hB:B<=w.heap.size) (hk:Zgd B w v ks) (a3:-9223372036854775808<=next) (a5:next<=9223372036854775807) :
  Calls Tryz.prog 131 #[v,.func (.func 132) #[] #[],.int .i64 next] w fun e w'=>e=.returned (.bool (Zco next 0 (ks.map Zbr.id)))/\Below w.heap.size w w':=by
 obtain ⟨ka,kc,rfl,h1,h2,I⟩:=hk
 have HK:=Za I
 obtain ⟨n,hn⟩:∃ n,ks.length=n:=⟨_,rfl⟩
 have V:=Za hn
 rw [hn] at h1 |-
 obtain ⟨a,k⟩:∃ r,Zco next 0 (ks.map Zbr.id)=r:=⟨_,rfl⟩
 have HR:=Za k
 rw [k]
 clear I hn k
 go_enter Tryz.func131,Tryz.ntmps131
 go_wp2_with fail
 go_loopw [13,7] (fun i l wr=>∃ (j:Nat) (s:Int),j<=n/\i=.int .i64 j/\l=.int .i64 s/\0<=s/\Below w.heap.size w wr/\Zco next s ((ks.map Zbr.id).drop j)=a) (fun i _ _=>n - (intOf i).toNat)
 case atStart=>exact ⟨0,0,Nat.zero_le _,rfl,rfl,by omega,Below.refl _ _,HR.out⟩
 case round =>
  obtain ⟨j,s,hj,rfl,rfl,a6,z,G⟩:=hrel
  have p:=Za z
  have L:=Za G
  have a0:w.heap.size<=wr.heap.size:=z.size
  clear z G
  by_cases hlt:j<n
  ·have K:(j:Int)<n:=by omega
   obtain ⟨⟨c,fr,tt,ty,xp⟩,F⟩:∃ x,ks[j]?=some x:=⟨_,List.getElem?_eq_getElem (by have:=V.out;omega)⟩
   have HX:Hid ((ks.map Zbr.id)[j]?=some c):=by
    show _=_
    rw [List.getElem?_map,F];rfl
   obtain ⟨bl,off,rfl,P,U⟩:=HK.out.resolve_left (by intro e;rw [e] at F;simp at F)
   obtain ⟨pv,⟨c0,c1,c2,c3,c4⟩,_,X⟩:=(U j _ F).below (p.out.mono hB) P
   simp only at c0 c1 c2 c3 c4 X
   obtain ⟨pa,pc,rfl,_,_,_⟩:=X
   have y:Hid (a=(!decide (c<s)&&(!decide (next<=c)&&Zco next (c+1) ((ks.map Zbr.id).drop (j+1))))):=by
    show _=_
    rw [<- L.out,Ztt HX.out]
   clear U F
   go_upto_region 5 with fail
   generalize A:World.alloc _ _=W2
   have d:=Zk wr #[.int .i64 c,.int .i64 fr,.int .i64 tt,.string ty,.slice pa xp.length pc] 71
   rw [A] at d
   have t:Hid (Below wr.heap.size wr W2):=by rw [<- A];exact (Below.refl _ _).alloc (Nat.le_refl _) _
   have k0:=d.cell 0 rfl
   have k1:=d.cell 1 rfl
   have k2:=d.cell 2 rfl
   have k3:=d.cell 3 rfl
   have k4:=d.cell 4 rfl
   clear A d c0 c1 c2 c3 c4
   go_wp2_with fail
   refine (Zvf c fr tt ty pa xp.length pc _).mono ?_
   rintro e w3 ⟨rfl,q⟩
   have o:=Za (Zm p.out (Zm t.out q))
   clear q k0 k1 k2 k3 k4
   by_cases a1:c<s
   ·have D:Hid (a=false):=by
     show _=_
     rw [y.out,decide_eq_true a1];rfl
    go_wp2_with fail
    go_ret
    exact ⟨by rw [D.out];rfl,o.out⟩
   ·by_cases a2:next<=c
    ·have D:Hid (a=false):=by
      show _=_
      rw [y.out,decide_eq_false a1,decide_eq_true a2];rfl
     go_wp2_with fail
     go_ret
     exact ⟨by rw [D.out];rfl,o.out⟩
    ·have N:Hid (Zco next (c+1) ((ks.map Zbr.id).drop (j+1))=a):=by
      show _=_
      rw [y.out,decide_eq_false a1,decide_eq_false a2];rfl
     have a4:IntKind.i64.wrap (c+1)=c+1:=by rw [IntKind.wrap_i64];omega
     go_wp2_with fail
     go_roundw
     case rel=>exact ⟨j+1,c+1,by omega,by go_num,rfl,by omega,o.out,N.out⟩
     case measure=>simp [intOf];omega
  ·have D:Hid (a=(decide (0<=next)&&decide (next<=4611686018427387904))):=by
    show _=_
    rw [<- L.out,List.drop_of_length_le (by have:=V.out;simp;omega)];rfl
   have K:¬ (j:Int)<n:=by omega
   by_cases R:0<=next
   ·have u:Hid (a=decide (next<=4611686018427387904)):=by
     show _=_
     rw [D.out,decide_eq_true R];rfl
    go_wp2_with fail
    go_ret
    exact ⟨by rw [u.out];rfl,p.out⟩
   ·have u:Hid (a=false):=by
     show _=_
     rw [D.out,decide_eq_false R];rfl
    go_wp2_with fail
    go_ret
    exact ⟨by rw [u.out];rfl,p.out⟩
set_option maxRecDepth 100000 in
set_option maxHeartbeats 4000000 in
theorem Zrz (g:Zx) (B:Nat) (v:Value) (w:World) (hB:B<=w.heap.size) (hg:Zp B w v g) (Y:-9223372036854775808<=g.nn/\g.nn<=9223372036854775807) (T:-9223372036854775808<=g.nr/\g.nr<=9223372036854775807):Calls Tryz.prog 101 #[v] w fun e w'=>e=.returned (.bool (Zco g.nn 0 (g.nodes.map Zj.id)&&Zco g.nr 0 (g.rels.map Zbr.id)))/\Below w.heap.size w w':=by
 obtain ⟨na,nc,ra,rc,rfl,hn,hr⟩:=hg
 have O:=Za (fun W (hb:Below w.heap.size w W)=>Zrx g.nodes g.nn B _ W (by have:=hb.size;omega) (hn.below (hb.mono hB)) Y.1 Y.2)
 have Q:=Za (fun W (hb:Below w.heap.size w W)=>Zry g.rels g.nr B _ W (by have:=hb.size;omega) (hr.below (hb.mono hB)) T.1 T.2)
 obtain ⟨ns,rs,nn,nr⟩:=g
 simp only at O Q |-
 obtain ⟨R,S⟩:∃ b,Zco nn 0 (ns.map Zj.id)=b:=⟨_,rfl⟩
 obtain ⟨b2,C⟩:∃ b,Zco nr 0 (rs.map Zbr.id)=b:=⟨_,rfl⟩
 rw [S] at O |-
 rw [C] at Q |-
 generalize ns.length=n at *
 generalize rs.length=m at *
 clear S C hn hr
 go_enter Tryz.func101,Tryz.ntmps101
 go_upto_region 1 with fail
 generalize f:World.alloc _ _=W1
 have H:=Zk w #[.slice na n nc,.slice ra m rc,.int .i64 nn,.int .i64 nr] 25
 rw [f] at H
 have E:Hid (Below w.heap.size w W1):=by rw [<- f];exact (Below.refl _ _).alloc (Nat.le_refl _) _
 have M:=Za H
 have q0:=H.cell 0 rfl
 have q2:=H.cell 2 rfl
 clear f H
 go_wp2_with fail
 refine (O.out W1 E.out).mono ?_
 rintro e w2 ⟨rfl,C⟩
 have t:=Za (Zm E.out C)
 have k1:=(M.out.below C M.out.lt).cell 1 rfl
 have k3:=(M.out.below C M.out.lt).cell 3 rfl
 clear C q0 q2
 cases R with
 | false =>
  go_wp2_with fail
  go_ret
  exact ⟨rfl,t.out⟩
 | true =>
  go_wp2_with fail
  refine (Q.out w2 t.out).mono ?_
  rintro e w3 ⟨rfl,q⟩
  have o:=Za (Zm t.out q)
  clear q k1 k3
  go_wp2_with fail
  go_ret
  exact ⟨rfl,o.out⟩
end Go.Proofs.YthfilnflgahcjaaGreatDoor

