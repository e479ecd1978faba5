/- StatsCounts' own walk. -/
import Derived.Test.YthfilnflgahcjaaGreatDoorJoin40
import Derived.Test.YthfilnflgahcjaaGreatDoorJoin39
import Derived.Test.YthfilnflgahcjaaGreatDoorRsam
namespace Go.Proofs.YthfilnflgahcjaaGreatDoor
open Go.RowKit Go.Shelf Go.Maps
set_option linter.all false
attribute [local go_sem] Oper.semAt_some
theorem Zms (W:World):Zc0 W.heap.size W (.slice none 0 0) (.slice none 0 0) (.slice none 0 0) (.slice none 0 0) Zj0 :=
 ⟨Zb4 2 Za0 _ _,Zb4 2 Za0 _ _,Zb4 4 Zc7 _ _,Zb4 4 Zd3 _ _,fun x X=>by simp [Zj0] at X,fun x X=>by simp [Zj0] at X,fun x X=>by simp [Zj0] at X,fun x X=>by simp [Zj0] at X,by simp [Zj0],by simp [Zj0],by simp [Zj0],by simp [Zj0]⟩
theorem Jdo {base:Nat} {w:World} {la:Option Addr} {lm lc:Nat} {xs:List (ByteArray × Int)} (h:Jb 42 2 Za0 base w (.slice la lm lc) xs):∃ (bl:Nat) (E:Array Value),base<=bl/\(xs≠[]->la=some ⟨bl,0,none⟩/\Rec w bl E 42/\∀ j x,xs[j]?=some x->E[j*2+1]?=some (.int .i64 x.2)):=by
 obtain ⟨h0,⟨hv,hn⟩ | ⟨g,cap,E,hv,hg,hh,hn,hc,hs,ht⟩⟩:=h
 ·exact ⟨base,#[],Nat.le_refl _,fun h=>absurd (List.eq_nil_of_length_eq_zero hn) h⟩
 ·refine ⟨g,E,hg,fun _=>⟨by injection hv,hh,fun j x X=>?_⟩⟩
  have hi:=(List.getElem?_eq_some_iff.1 X).1
  have e1:=Zd6 (k:=2) (xs.map Za0) j 1 (Za0 x) (fun c hc=>by obtain ⟨y,_,rfl⟩:=List.mem_map.1 hc;rfl) (by rw [List.getElem?_map,X];rfl) (by decide)
  have n9:j*2+1<xs.length*2:=by omega
  rw [<- ht,List.getElem?_take_of_lt n9,Array.getElem?_toList] at e1
  rw [e1];rfl
theorem Zu6 {b:Nat} {v0 v1 v2 v3 v4 v5:Value} {w w':World} (h:Zxq b v0 v1 v2 v3 v4 v5 w) (hq:w'.heap[b]?=w.heap[b]?) (hl:b<w'.heap.size):Zxq b v0 v1 v2 v3 v4 v5 w' :=
 ⟨hl,(World.cell?_of_block (a:=⟨b,0,none⟩) hq).trans h.c0,(World.cell?_of_block (a:=⟨b,1,none⟩) hq).trans h.c1,(World.cell?_of_block (a:=⟨b,2,none⟩) hq).trans h.c2,(World.cell?_of_block (a:=⟨b,3,none⟩) hq).trans h.c3,(World.cell?_of_block (a:=⟨b,4,none⟩) hq).trans h.c4,(World.cell?_of_block (a:=⟨b,5,none⟩) hq).trans h.c5⟩
structure SpI (xs:List (ByteArray × Int)) (bl base:Nat) (E:Array Value) (W wr:World) (j:Nat):Prop where
 b:Below base W wr
 z:wr.heap.size=W.heap.size
 f:∀ q,(xs≠[]->q≠bl)->wr.heap[q]?=W.heap[q]?
 r:xs≠[]->∃ g9,Rec wr bl g9 42/\∀ i,2*j<=i->g9[i]?=E[i]?
theorem SpI.put {xs:List (ByteArray × Int)} {bl base:Nat} {E:Array Value} {W wr:World} {j:Nat} (h:SpI xs bl base E W wr j) (hb:base<=bl) {x:ByteArray × Int} (X:xs[j]?=some x) (hc:∀ j x,xs[j]?=some x->E[j*2+1]?=some (.int .i64 x.2)):wr.cell? ⟨bl,j*2+1,none⟩=some (.int .i64 x.2)/\wr.frozen? ⟨bl,j*2+1,none⟩=false/\SpI xs bl base E W (wr.setCell ⟨bl,j*2+1,none⟩ (.int .i64 (-1))) (j+1):=by
 have p:xs≠[]:=by intro e;rw [e] at X;simp at X
 obtain ⟨g9,h1,h2⟩:=h.r p
 refine ⟨h1.cell _ ((h2 _ (by omega)).trans (hc j x X)),h1.z _,h.b.setCell hb _,?_,fun q hq=>(Below.heap_setCell _ _ _ _ (hq p)).trans (h.f q hq),fun _=>⟨_,h1.set _ _,fun i hi=>?_⟩⟩
 ·rw [<- h.z];simp [World.setCell]
 ·rw [Array.getElem?_setIfInBounds_ne (by omega)];exact h2 i (by omega)
set_option maxRecDepth 100000 in
set_option maxHeartbeats 4000000 in
theorem Zu7 (g:Zx) (v:Value) (B:Nat) (w:World) (hB:B<=w.heap.size) (hE:Zyf w) (h:Zp B w v g) (hz:Jbm g) :
  Calls Tryz.prog 3 #[v] w fun e w'=>e=.returned (.bool true)/\Below w.heap.size w w':=by
 have HE:=Za hE
 have HG:=Za h
 have HZ:=Za hz
 obtain ⟨na,nc,ra,rc,rfl,hn,hr⟩:=h
 have HN:=Za hn
 have HR:=Za hr
 obtain ⟨m,hm⟩:∃ n,g.nodes.length=n:=⟨_,rfl⟩
 obtain ⟨m2,hm2⟩:∃ n,g.rels.length=n:=⟨_,rfl⟩
 obtain ⟨nn,I⟩:∃ n,g.nn=n:=⟨_,rfl⟩
 obtain ⟨nr,G⟩:∃ n,g.nr=n:=⟨_,rfl⟩
 have HM:=Za (And.intro hm (And.intro hm2 (And.intro I G)))
 obtain ⟨sm,k0⟩:∃ b,Zao g=b:=⟨_,rfl⟩
 have V:=Za k0
 have H9:Hid (∀ W,Below w.heap.size w W->Calls Tryz.prog 9 #[.agg #[.slice na m nc,.slice ra m2 rc,.int .i64 nn,.int .i64 nr]] W fun e w'=>e=.returned (.bool sm)/\Below W.heap.size W w'):=fun W hb=>by
  rw [<- k0,<- hm,<- hm2,<- I,<- G]
  exact Zve g _ B W (Nat.le_trans hB hb.size) (HG.out.below (hb.mono hB)) HZ.out.sane
 have i4:Hid (Zao g=true->∀ W,Below w.heap.size w W->Calls Tryz.prog 13 #[.agg #[.slice na m nc,.slice ra m2 rc,.int .i64 nn,.int .i64 nr]] W fun e w'=>e=.returned (.int .i64 (if Zaz g=true then 0 else 2))/\Below W.heap.size W w'):=fun hs W hb=>by
  rw [<- hm,<- hm2,<- I,<- G]
  exact Zi6 g B _ W (Nat.le_trans hB hb.size) (HE.out.e.below hb HE.out.e.room) (HG.out.below (hb.mono hB)) (Zi2 hs) (Zc2 HZ.out.nn) (Zc2 HZ.out.nr) (fun r hr=>(HZ.out.r r hr).1.2)
 have j6:Hid (∀ W,Below w.heap.size w W->Calls Tryz.prog 10 #[] W fun e w'=>e=.returned (.bool true)/\Below W.heap.size W w'):=fun W hb=>Zqe W (HE.out.e.below hb HE.out.e.room)
 have h3:Hid (Zao g=true->Zaz g=false->∀ W,Below w.heap.size w W->Calls Tryz.prog 11 #[.agg #[.slice na m nc,.slice ra m2 rc,.int .i64 nn,.int .i64 nr]] W fun e w'=>e=.returned (.tuple #[.agg #[.int .i64 0,.int .i64 0,.slice none 0 0,.slice none 0 0,.slice none 0 0,.slice none 0 0],.int .i64 2])/\Below W.heap.size W w'):=fun hs hc W hb=>by
  rw [<- hm,<- hm2,<- I,<- G]
  exact Zv9 g _ B W (Nat.le_trans hB hb.size) (HE.out.e.below hb HE.out.e.room) (HG.out.below (hb.mono hB)) (Zi2 hs) (Zc2 HZ.out.nn) (Zc2 HZ.out.nr) (fun r hr=>(HZ.out.r r hr).1.2) hc
 have h9:Hid (Zao g=true->Zaz g=true->∀ W,Below w.heap.size w W->Calls Tryz.prog 11 #[.agg #[.slice na m nc,.slice ra m2 rc,.int .i64 nn,.int .i64 nr]] W fun e w'=>∃ s vl vt ve vk,e=.returned (.tuple #[Za4 s vl vt ve vk,.int .i64 0])/\Jiu g s/\Zzl W.heap.size w' vl vt ve vk s/\Below W.heap.size W w'):=fun hs hc W hb=>by
  rw [<- hm,<- hm2,<- I,<- G]
  exact Zy2 g _ B W (Nat.le_trans hB hb.size) (HE.out.below hb) (HG.out.below (hb.mono hB)) hs (Zc2 HZ.out.nn) (Zc2 HZ.out.nr) hc (fun r hr=>(HZ.out.r r hr).1.2) (fun n hn=>(HZ.out.n n hn).1) (fun n hn q hq=>((HZ.out.n n hn).2.2 q hq).2.1)
 have k7:Hid (Jc1 g->∀ W,Below w.heap.size w W->Calls Tryz.prog 15 #[.agg #[.slice na m nc,.slice ra m2 rc,.int .i64 nn,.int .i64 nr]] W (Jip g W)):=fun hf W hb=>by
  rw [<- hm,<- hm2,<- I,<- G]
  exact Zus g _ B W (Nat.le_trans hB hb.size) (HG.out.below (hb.mono hB)) hf
 rw [hm] at HG HN |-
 rw [hm2] at HG HR |-
 rw [I] at HG |-
 rw [G] at HG |-
 clear hn hr hE hz k0 hm hm2 I G
 obtain ⟨W1,h7⟩:∃ W1,w.alloc (.cells #[.slice na m nc,.slice ra m2 rc,.int .i64 nn,.int .i64 nr] 25)=W1:=⟨_,rfl⟩
 have r1:Rec W1 w.heap.size #[.slice na m nc,.slice ra m2 rc,.int .i64 nn,.int .i64 nr] 25:=by rw [<- h7];exact Zk _ _ _
 have b1:Below w.heap.size w W1:=by rw [<- h7];exact (Below.refl _ _).alloc (Nat.le_refl _) _
 have o0:=Za h7
 have m4:=Za r1
 have n7:=Za b1
 clear h7 b1
 have c0:=r1.cell 0 rfl
 have c1:=r1.cell 1 rfl
 have c2:=r1.cell 2 rfl
 have c3:=r1.cell 3 rfl
 clear r1
 go_enter Tryz.func3,Tryz.ntmps3
 go_upto_region 1 with fail
 try rw [o0.out]
 go_wp2_with fail
 refine (H9.out _ n7.out).mono ?_
 rintro e W2 ⟨rfl,l1⟩
 have b3:=Za (Below.on n7.out l1)
 have K:=Za (m4.out.below l1 m4.out.lt)
 clear l1 c0 c1 c2 c3
 cases sm with
 | false =>
  go_wp2_with (go_at_call 10;refine (j6.out _ b3.out).mono ?_;rintro e W4 ⟨rfl,y1⟩;have HY:=Za (Below.on b3.out y1);clear y1)
  go_ret
  exact ⟨rfl,HY.out⟩
 | true =>
  have K:=K
  obtain ⟨ck,k2⟩:∃ b,Zaz g=b:=⟨_,rfl⟩
  have b2:=Za k2
  rw [k2] at i4
  clear k2
  have c0:=K.out.cell 0 rfl
  have c1:=K.out.cell 1 rfl
  have c2:=K.out.cell 2 rfl
  have c3:=K.out.cell 3 rfl
  cases ck with
  | false =>
   go_wp2_with fail
   refine (h3.out V.out b2.out _ b3.out).mono ?_
   rintro e F ⟨rfl,e7⟩
   have g5:=Za (Below.on b3.out e7)
   have k6:=Za (K.out.below e7 K.out.lt)
   clear e7 c0 c1 c2 c3 h9 h3 k7
   go_upto_region 4 with fail
   obtain ⟨W5,Q⟩:∃ W,F.alloc (.cells #[.int .i64 0,.int .i64 0,.slice none 0 0,.slice none 0 0,.slice none 0 0,.slice none 0 0] 33)=W:=⟨_,rfl⟩
   have s5:Zxq F.heap.size (.int .i64 0) (.int .i64 0) (.slice none 0 0) (.slice none 0 0) (.slice none 0 0) (.slice none 0 0) W5:=by rw [<- Q];exact Zde _ _ _ _ _ _ _ _
   have b5:Below F.heap.size F W5:=by rw [<- Q];exact Zc _ _
   have b0:=Za s5
   have L:=Za (k6.out.below b5 k6.out.lt)
   have e9:=Za (Below.on g5.out b5)
   have p1:Hid (F.heap.size<W5.heap.size):=by show _<_;rw [<- Q];simp
   rw [Q]
   clear Q s5 b5 k6 g5
   have c0:=L.out.cell 0 rfl
   have c1:=L.out.cell 1 rfl
   have c2:=L.out.cell 2 rfl
   have c3:=L.out.cell 3 rfl
   go_wp2_with fail
   refine (i4.out V.out _ e9.out).mono ?_
   rintro e W6 ⟨rfl,M⟩
   have b4:=b0.out.keep M
   have d0:=b4.c0
   have d1:=b4.c1
   have d2:=b4.c2
   have d3:=b4.c3
   have d4:=b4.c4
   have d5:=b4.c5
   have h8:=Za (Below.on e9.out M)
   clear M b4 c0 c1 c2 c3
   have o2:Hid (Calls Tryz.prog 14 #[.agg #[.int .i64 0,.int .i64 0,.slice none 0 0,.slice none 0 0,.slice none 0 0,.slice none 0 0],.agg #[.int .i64 0,.int .i64 0,.slice none 0 0,.slice none 0 0,.slice none 0 0,.slice none 0 0]] W6 fun e w'=>e=.returned (.bool true)/\Below W6.heap.size W6 w'):=by
    have h:=Zgx Zj0 Zj0 _ _ _ _ _ _ _ _ _ W6 (Nat.le_refl _) (Zms W6) (Zms W6)
    rwa [Zgz] at h
   go_upto_region 5 with (go_at_call 12;refine (Zjg _ _).mono ?_;rintro e _ ⟨rfl,rfl⟩)
   go_wp2_with (first | (go_at_call 14;refine o2.out.mono ?_;rintro e W7 ⟨rfl,y1⟩;have HY:=Za (Below.on h8.out y1);clear y1) | (go_at_call 12;refine (Zjg _ _).mono ?_;rintro e _ ⟨rfl,rfl⟩) | (go_at_call 10;refine (j6.out _ HY.out).mono ?_;rintro e P ⟨rfl,y2⟩;have o3:=Za (Below.on HY.out y2);clear y2))
   go_ret
   exact ⟨rfl,o3.out⟩
  | true =>
   have j0:∀ r ∈ g.rels,W64 r.fr/\W64 r.tt:=fun r hr=>(HZ.out.r r hr).1.2
   have j2:∀ n ∈ g.nodes,W64 n.id:=fun n hn=>(HZ.out.n n hn).1
   have n1:=Za (And.intro j0 j2)
   clear j0 j2
   have p0:m<=60:=by have:=HM.out.1;have:=(Za6 V.out).1;omega
   have o1:m2<=60:=by have:=HM.out.2.1;have:=(Za6 V.out).1;omega
   go_wp2_with fail
   refine (h9.out V.out b2.out _ b3.out).mono ?_
   rintro e F ⟨s,vl,vt,ve,vk,rfl,f6,o,e7⟩
   have h4:=Jh2 V.out b2.out n1.out.1 n1.out.2 f6
   have f7:=Zo2 f6 b2.out
   have n8:=Za (Je8 V.out b2.out h4 f7)
   have e8:=Zib h4 o
   have i0:=Za h4
   have g4:=Za f7
   obtain ⟨la,lc,rfl⟩:=o.l.slice
   obtain ⟨ta,tc,rfl⟩:=o.t.slice
   obtain ⟨ea,ec,rfl⟩:=o.e.slice
   obtain ⟨ka,kc,rfl⟩:=o.k.slice
   have k9:s.nodes=(m:Int):=by rw [f7];show ((g.nodes.length:Nat):Int)=m;rw [HM.out.1]
   have k3:s.rels=(m2:Int):=by rw [f7];show ((g.rels.length:Nat):Int)=m2;rw [HM.out.2.1]
   obtain ⟨lm,k5⟩:∃ n,s.labels.length=n:=⟨_,rfl⟩
   obtain ⟨tm,j7⟩:∃ n,s.types.length=n:=⟨_,rfl⟩
   obtain ⟨em,k1⟩:∃ n,s.ends.length=n:=⟨_,rfl⟩
   obtain ⟨km,k4⟩:∃ n,s.keys.length=n:=⟨_,rfl⟩
   have p3:lm<=1000000:=by have:=h4.l;omega
   have a7:=Za (And.intro k5 (And.intro j7 (And.intro k1 (And.intro k4 (And.intro k9 k3)))))
   have R:Hid (∀ va vb vc vd,Za4 s va vb vc vd=.agg #[.int .i64 (m:Int),.int .i64 (m2:Int),va,vb,vc,vd]):=fun va vb vc vd=>by unfold Za4;rw [k9,k3]
   rw [k5] at e8 o |-
   rw [j7] at e8 o |-
   rw [k1] at e8 o |-
   rw [k4] at e8 o |-
   rw [R.out]
   have l6:=Za o
   have l2:=Za e8
   have g5:=Za e7
   have o9:Hid (w.heap.size<=W2.heap.size):=b3.out.size
   clear e8 e7 o f6 h4 f7 k9 k3 k5 j7 k1 k4 c0 c1 c2 c3 h3
   go_upto_region 4 with fail
   obtain ⟨W5,Q⟩:∃ W,F.alloc (.cells #[.int .i64 (m:Int),.int .i64 (m2:Int),.slice la lm lc,.slice ta tm tc,.slice ea em ec,.slice ka km kc] 33)=W:=⟨_,rfl⟩
   have s5:Zxq F.heap.size (.int .i64 (m:Int)) (.int .i64 (m2:Int)) (.slice la lm lc) (.slice ta tm tc) (.slice ea em ec) (.slice ka km kc) W5:=by rw [<- Q];exact Zde _ _ _ _ _ _ _ _
   have b5:Below F.heap.size F W5:=by rw [<- Q];exact Zc _ _
   have e9:Hid (Below w.heap.size w W5):=Below.on b3.out (Below.on g5.out b5)
   have b0:=Za s5
   have n2:=Za (l2.out.up b5 b5.size)
   have L:=Za (K.out.below (Below.on g5.out b5) K.out.lt)
   have l7:Hid (Below F.heap.size F W5):=b5
   rw [Q]
   clear Q s5 b5 l2
   have c0:=L.out.cell 0 rfl
   have c1:=L.out.cell 1 rfl
   have c2:=L.out.cell 2 rfl
   have c3:=L.out.cell 3 rfl
   go_wp2_with fail
   refine (i4.out V.out _ e9.out).mono ?_
   rintro e W6 ⟨rfl,M⟩
   have h8:=Za (Below.on e9.out M)
   have a6:=Za (Below.on l7.out M)
   have i7:=Za (b0.out.keep M)
   have i5:=Za (n2.out.up M M.size)
   have c7:=Za (L.out.below M L.out.lt)
   clear M c0 c1 c2 c3 e9 b0 n2 L l7 i4
   go_upto_region 6 with (go_at_call 12;refine (Zjg _ _).mono ?_;rintro e W7 ⟨rfl,rfl⟩)
   have c0:=c7.out.cell 0 rfl
   have c1:=c7.out.cell 1 rfl
   have c2:=c7.out.cell 2 rfl
   have c3:=c7.out.cell 3 rfl
   go_wp2_with fail
   refine (h9.out V.out b2.out _ h8.out).mono ?_
   rintro e N ⟨t,ul,ut,ue,uk,rfl,f6,o,m8⟩
   have o8:t=s:=(Zo2 f6 b2.out).trans g4.out.symm
   subst o8
   have U:=Zib i0.out o
   obtain ⟨a0,a3,rfl⟩:=o.l.slice
   obtain ⟨a4,a8,rfl⟩:=o.t.slice
   obtain ⟨a1,a5,rfl⟩:=o.e.slice
   obtain ⟨a2,a9,rfl⟩:=o.k.slice
   rw [a7.out.1] at U o |-
   rw [a7.out.2.1] at U o |-
   rw [a7.out.2.2.1] at U o |-
   rw [a7.out.2.2.2.1] at U o |-
   rw [R.out]
   have j3:=Za U
   have d8:=Za o
   have m7:=Za m8
   clear U m8 o f6 c0 c1 c2 c3 h9
   go_upto_region 7 with fail
   obtain ⟨P,h6⟩:∃ W,N.alloc (.cells #[.int .i64 (m:Int),.int .i64 (m2:Int),.slice a0 lm a3,.slice a4 tm a8,.slice a1 em a5,.slice a2 km a9] 33)=W:=⟨_,rfl⟩
   have s8:Zxq N.heap.size (.int .i64 (m:Int)) (.int .i64 (m2:Int)) (.slice a0 lm a3) (.slice a4 tm a8) (.slice a1 em a5) (.slice a2 km a9) P:=by rw [<- h6];exact Zde _ _ _ _ _ _ _ _
   have b8:Below N.heap.size N P:=by rw [<- h6];exact Zc _ _
   have b7:Below W7.heap.size W7 P:=Below.on m7.out b8
   have l4:Hid (Below w.heap.size w P):=Below.on h8.out b7
   have n6:=Za b7
   have l8:Hid (Below N.heap.size N P):=b8
   have b0:=Za s8
   have Y:=Za (i7.out.keep b7)
   have m5:=Za (j3.out.up b8 b8.size)
   have j8:=Za (i5.out.up b7 b7.size)
   have c6:=Za (c7.out.below b7 c7.out.lt)
   rw [h6]
   clear h6 s8 b8 b7 j3 i5 i7 c7
   refine Ze9 [([0],1),([2,3,4],5),([6,7,8,9,10],11),([],12),([13,14,15,16,17],18)] [19,20] [] (by kernel_rfl) (by kernel_rfl) ?_
   have d:Nonempty (Up P.drew):=⟨⟨P.drew,Below.refl _ _⟩⟩
   have f0:∀ u:Up P.drew,u.x.cell? ⟨F.heap.size,0,none⟩=some (.int .i64 (m:Int)):=fun u=>u.cell Y.out.c0
   have f1:∀ u:Up P.drew,u.x.cell? ⟨F.heap.size,1,none⟩=some (.int .i64 (m2:Int)):=fun u=>u.cell Y.out.c1
   have f2:∀ u:Up P.drew,u.x.cell? ⟨F.heap.size,2,none⟩=some (.slice la lm lc):=fun u=>u.cell Y.out.c2
   have f3:∀ u:Up P.drew,u.x.cell? ⟨F.heap.size,3,none⟩=some (.slice ta tm tc):=fun u=>u.cell Y.out.c3
   have f4:∀ u:Up P.drew,u.x.cell? ⟨F.heap.size,4,none⟩=some (.slice ea em ec):=fun u=>u.cell Y.out.c4
   have f5:∀ u:Up P.drew,u.x.cell? ⟨F.heap.size,5,none⟩=some (.slice ka km kc):=fun u=>u.cell Y.out.c5
   have x0:∀ u:Up P.drew,u.x.cell? ⟨w.heap.size,0,none⟩=some (.slice na m nc):=fun u=>u.cell (c6.out.cell 0 rfl)
   have x1:∀ u:Up P.drew,u.x.cell? ⟨w.heap.size,1,none⟩=some (.slice ra m2 rc):=fun u=>u.cell (c6.out.cell 1 rfl)
   have x2:∀ u:Up P.drew,u.x.cell? ⟨w.heap.size,2,none⟩=some (.int .i64 nn):=fun u=>u.cell (c6.out.cell 2 rfl)
   have x3:∀ u:Up P.drew,u.x.cell? ⟨w.heap.size,3,none⟩=some (.int .i64 nr):=fun u=>u.cell (c6.out.cell 3 rfl)
   rw [Zb9]
   simp only [Zac,Zbn,Zb5]
   repeat (go_big_quiet_step (fail))
   refine wpQuiet_nil ?_
   simp only [Zcp,Zac,Zbn]
   go_wp2_with (go_at_call 12;refine (Zjg _ _).mono ?_;rintro e _ ⟨rfl,k8⟩;subst k8;try dsimp only)
   first | refine ⟨rfl,Below.refl _ _,?_⟩ | refine ⟨Below.refl _ _,?_⟩
   rw [Zb9]
   simp only [Zac,Zbn,Zb5]
   repeat (go_big_quiet_step (fail))
   refine wpQuiet_nil ?_
   simp only [Zcp,Zac,Zbn]
   go_wp2_with (go_at_call 12;refine (Zjg _ _).mono ?_;rintro e _ ⟨rfl,k8⟩;subst k8;try dsimp only)
   first | refine ⟨rfl,Below.refl _ _,?_⟩ | refine ⟨Below.refl _ _,?_⟩
   rw [Zb9]
   simp only [Zac,Zbn,Zb5]
   repeat (go_big_quiet_step (fail))
   refine wpQuiet_nil ?_
   simp only [Zcp,Zac,Zbn]
   go_wp2_with (go_at_call 15;refine (k7.out n8.out _ (Below.on l4.out (Below.refl _ P).drew)).mono ?_;rintro e W9 ⟨b9,xl,xt,xe,xk,rfl,b6,i2⟩;try dsimp only)
   first | refine ⟨rfl,i2,?_⟩ | refine ⟨i2,?_⟩ | skip
   rw [<- g4.out,R.out]
   rw [<- g4.out] at b6
   have i1:Hid (Below P.heap.size P W9):=(Below.refl _ P).drew.trans i2
   have n4:=Za (Zib i0.out b6)
   have i6:=Za (j8.out.up i1.out i1.out.size)
   clear b6 i2 f0 f1 f2 f3 f4 f5 x0 x1 x2 x3 d
   have d9:Hid (Calls Tryz.prog 14 #[.agg #[.int .i64 (m:Int),.int .i64 (m2:Int),.slice la lm lc,.slice ta tm tc,.slice ea em ec,.slice ka km kc],.agg #[.int .i64 (m:Int),.int .i64 (m2:Int),xl,xt,xe,xk]] W9 fun e w'=>e=.returned (.bool true)/\Below W9.heap.size W9 w'):=by
    have h:=Zgx t t _ _ _ _ _ _ _ _ _ W9 (Nat.le_refl _) i6.out n4.out
    rwa [R.out,R.out,Zgz] at h
   rw [Zb9]
   simp only [Zac,Zbn,Zb5]
   refine wpQuiet_nil ?_
   simp only [Zcp,Zac,Zbn]
   go_wp2_with (go_at_call 14;refine d9.out.mono ?_;rintro e A ⟨rfl,d7⟩;try dsimp only)
   first | refine ⟨rfl,d7,?_⟩ | refine ⟨d7,?_⟩ | skip
   have H:=Za (Below.on i1.out d7)
   have D:=Za (Y.out.keep H.out)
   have C:=Za (b0.out.keep H.out)
   have g0:=Za (j8.out.up H.out H.out.size)
   have g3:=Za (m5.out.up H.out H.out.size)
   clear d7 i6 n4
   have d:Nonempty (Up A):=⟨⟨A,Below.refl _ _⟩⟩
   have f0:∀ u:Up A,u.x.cell? ⟨F.heap.size,0,none⟩=some (.int .i64 (m:Int)):=fun u=>u.cell D.out.c0
   have f1:∀ u:Up A,u.x.cell? ⟨F.heap.size,1,none⟩=some (.int .i64 (m2:Int)):=fun u=>u.cell D.out.c1
   have f2:∀ u:Up A,u.x.cell? ⟨F.heap.size,2,none⟩=some (.slice la lm lc):=fun u=>u.cell D.out.c2
   have f3:∀ u:Up A,u.x.cell? ⟨F.heap.size,3,none⟩=some (.slice ta tm tc):=fun u=>u.cell D.out.c3
   have f4:∀ u:Up A,u.x.cell? ⟨F.heap.size,4,none⟩=some (.slice ea em ec):=fun u=>u.cell D.out.c4
   have f5:∀ u:Up A,u.x.cell? ⟨F.heap.size,5,none⟩=some (.slice ka km kc):=fun u=>u.cell D.out.c5
   have e0:∀ u:Up A,u.x.cell? ⟨N.heap.size,0,none⟩=some (.int .i64 (m:Int)):=fun u=>u.cell C.out.c0
   have e1:∀ u:Up A,u.x.cell? ⟨N.heap.size,1,none⟩=some (.int .i64 (m2:Int)):=fun u=>u.cell C.out.c1
   have e2:∀ u:Up A,u.x.cell? ⟨N.heap.size,2,none⟩=some (.slice a0 lm a3):=fun u=>u.cell C.out.c2
   have e3:∀ u:Up A,u.x.cell? ⟨N.heap.size,3,none⟩=some (.slice a4 tm a8):=fun u=>u.cell C.out.c3
   have e4:∀ u:Up A,u.x.cell? ⟨N.heap.size,4,none⟩=some (.slice a1 em a5):=fun u=>u.cell C.out.c4
   have e5:∀ u:Up A,u.x.cell? ⟨N.heap.size,5,none⟩=some (.slice a2 km a9):=fun u=>u.cell C.out.c5
   have i8:Hid (Calls Tryz.prog 14 #[.agg #[.int .i64 (m:Int),.int .i64 (m2:Int),.slice a0 lm a3,.slice a4 tm a8,.slice a1 em a5,.slice a2 km a9],.agg #[.int .i64 (m:Int),.int .i64 (m2:Int),.slice la lm lc,.slice ta tm tc,.slice ea em ec,.slice ka km kc]] A fun e w'=>e=.returned (.bool true)/\Below A.heap.size A w'):=by
    have h:=Zgx t t _ _ _ _ _ _ _ _ _ A (Nat.le_refl _) g3.out g0.out
    rwa [R.out,R.out,Zgz] at h
   rw [Zb9]
   simp only [Zac,Zbn,Zb5]
   repeat (go_big_quiet_step (fail))
   refine wpQuiet_nil ?_
   simp only [Zcp,Zac,Zbn]
   go_wp2_with (go_at_call 14;refine i8.out.mono ?_;rintro e h5 ⟨rfl,d6⟩;try dsimp only)
   first | refine ⟨rfl,d6,?_⟩ | refine ⟨d6,?_⟩ | skip
   have T:=Za (Below.on H.out d6)
   clear f0 f1 f2 f3 f4 f5 e0 e1 e2 e3 e4 e5 d d6 g0 g3 D C i1 H d9 i8
   have d:Nonempty (Up h5):=⟨⟨h5,Below.refl _ _⟩⟩
   rw [Zb9]
   simp only [Zac,Zbn,Zb5]
   repeat (go_big_quiet_step (fail))
   refine wpQuiet_nil ?_
   clear d
   obtain ⟨bl,E,l3,O⟩:=Jdo l6.out.l
   have n0:=Za l3
   have m0:=Za O
   have j4:Hid (w.heap.size<W2.heap.size):=K.out.lt
   have g7:Hid (t.labels≠[]->bl<F.heap.size):=fun p=>(O p).2.1.lt
   have m1:Hid (t.labels≠[]->Rec h5 bl E 42):=fun p=>((((O p).2.1.below a6.out (O p).2.1.lt).below n6.out (Nat.lt_of_lt_of_le (O p).2.1.lt a6.out.size)).below T.out (Nat.lt_of_lt_of_le (O p).2.1.lt (Nat.le_trans a6.out.size n6.out.size)))
   have l0:=Za (Y.out.keep T.out)
   have f9:=Za (b0.out.keep T.out)
   have n5:=Za (c6.out.below T.out c6.out.lt)
   clear l3 O Y b0 c6 j8 m5 K l6
   go_wp2_with fail
   go_loopw [7] (fun i wr=>∃ (j:Nat),j<=lm/\i=.int .i64 j/\SpI t.labels bl w.heap.size E h5 wr j) (fun i _=>lm - (intOf i).toNat)
   case atStart=>exact ⟨0,Nat.zero_le _,rfl,⟨Below.refl _ _,rfl,fun _ _=>rfl,fun p=>⟨E,m1.out p,fun _ _=>rfl⟩⟩⟩
   case round =>
    obtain ⟨j,hj,rfl,hI⟩:=hrel
    have HI:=Za hI
    have f2:wr.cell? ⟨F.heap.size,2,none⟩=some (.slice la lm lc):=(World.cell?_of_block (a:=⟨F.heap.size,2,none⟩) (HI.out.f _ (fun p=>by have:=g7.out p;show F.heap.size≠bl;omega))).trans l0.out.c2
    clear hI
    by_cases n9:j<lm
    ·have m9:(j:Int)<lm:=by omega
     obtain ⟨x,X⟩:∃ q,t.labels[j]?=some q:=⟨_,List.getElem?_eq_getElem (by have:=a7.out.1;omega)⟩
     have p:t.labels≠[]:=by intro e;rw [e] at X;simp at X
     obtain ⟨o5,l9,j1⟩:=m0.out p
     obtain ⟨g1,g2,m6⟩:=HI.out.put (by have:=n0.out;have:=j4.out;omega) X j1
     have o4:=Za m6
     subst o5
     clear p l9 j1 m6 X
     go_wp2_with fail
     go_roundw
     case rel=>exact ⟨j+1,by omega,by go_num,o4.out⟩
     case measure=>simp [intOf];omega
    ·have m9:¬ (j:Int)<lm:=by omega
     have o6:Hid (Zzl W7.heap.size wr (.slice a0 lm a3) (.slice a4 tm a8) (.slice a1 em a5) (.slice a2 km a9) t):=by
      have hk:∀ q,W7.heap.size<=q->q<N.heap.size->wr.heap[q]?=N.heap[q]?:=fun q h1 h2=>by
       rw [HI.out.f q (fun p=>by have:=g7.out p;have:=a6.out.size;omega),T.out.block q (Nat.lt_of_lt_of_le h2 l8.out.size),l8.out.block q h2]
      exact ⟨d8.out.l.keep hk,d8.out.t.keep hk,d8.out.e.keep hk,d8.out.k.keep hk⟩
     have o7:=Za (Zib i0.out o6.out)
     have i3:Hid (Rec wr w.heap.size #[.slice na m nc,.slice ra m2 rc,.int .i64 nn,.int .i64 nr] 25):=n5.out.keep (HI.out.f _ (fun _=>by have:=n0.out;have:=j4.out;omega))
     have j9:Hid (Below w.heap.size w wr):=(Below.on l4.out T.out).trans HI.out.b
     have S:Hid (Zxq N.heap.size (.int .i64 (m:Int)) (.int .i64 (m2:Int)) (.slice a0 lm a3) (.slice a4 tm a8) (.slice a1 em a5) (.slice a2 km a9) wr):=by
      have hq:wr.heap[N.heap.size]?=h5.heap[N.heap.size]?:=HI.out.f _ (fun p=>by have:=g7.out p;have:=a6.out.size;have:=m7.out.size;omega)
      exact Zu6 f9.out hq (by rw [HI.out.z];exact f9.out.lt)
     go_upto_region 13 with fail
     refine Ze9 [([0,1],2),([],3),([4],5)] [6,7] [] (by kernel_rfl) (by kernel_rfl) ?_
     have d:Nonempty (Up wr.drew):=⟨⟨wr.drew,Below.refl _ _⟩⟩
     have e0:∀ u:Up wr.drew,u.x.cell? ⟨N.heap.size,0,none⟩=some (.int .i64 (m:Int)):=fun u=>u.cell S.out.c0
     have e1:∀ u:Up wr.drew,u.x.cell? ⟨N.heap.size,1,none⟩=some (.int .i64 (m2:Int)):=fun u=>u.cell S.out.c1
     have e2:∀ u:Up wr.drew,u.x.cell? ⟨N.heap.size,2,none⟩=some (.slice a0 lm a3):=fun u=>u.cell S.out.c2
     have e3:∀ u:Up wr.drew,u.x.cell? ⟨N.heap.size,3,none⟩=some (.slice a4 tm a8):=fun u=>u.cell S.out.c3
     have e4:∀ u:Up wr.drew,u.x.cell? ⟨N.heap.size,4,none⟩=some (.slice a1 em a5):=fun u=>u.cell S.out.c4
     have e5:∀ u:Up wr.drew,u.x.cell? ⟨N.heap.size,5,none⟩=some (.slice a2 km a9):=fun u=>u.cell S.out.c5
     have x0:∀ u:Up wr.drew,u.x.cell? ⟨w.heap.size,0,none⟩=some (.slice na m nc):=fun u=>u.cell (i3.out.cell 0 rfl)
     have x1:∀ u:Up wr.drew,u.x.cell? ⟨w.heap.size,1,none⟩=some (.slice ra m2 rc):=fun u=>u.cell (i3.out.cell 1 rfl)
     have x2:∀ u:Up wr.drew,u.x.cell? ⟨w.heap.size,2,none⟩=some (.int .i64 nn):=fun u=>u.cell (i3.out.cell 2 rfl)
     have x3:∀ u:Up wr.drew,u.x.cell? ⟨w.heap.size,3,none⟩=some (.int .i64 nr):=fun u=>u.cell (i3.out.cell 3 rfl)
     rw [Zb9]
     simp only [Zac,Zbn,Zb5]
     repeat (go_big_quiet_step (fail))
     refine wpQuiet_nil ?_
     simp only [Zcp,Zac,Zbn]
     go_wp2_with (go_at_call 15;refine (k7.out n8.out _ (Below.on j9.out (Below.refl _ wr).drew)).mono ?_;rintro e g6 ⟨p2,xl,xt,xe,xk,rfl,b6,e6⟩;try dsimp only)
     first | refine ⟨rfl,e6,?_⟩ | refine ⟨e6,?_⟩ | skip
     rw [<- g4.out,R.out]
     rw [<- g4.out] at b6
     have f8:Hid (Below wr.heap.size wr g6):=(Below.refl _ wr).drew.trans e6
     have i9:=Za (Zib i0.out b6)
     have g8:=Za (o7.out.up f8.out f8.out.size)
     clear b6 e6 e0 e1 e2 e3 e4 e5 x0 x1 x2 x3 d
     have d9:Hid (Calls Tryz.prog 14 #[.agg #[.int .i64 (m:Int),.int .i64 (m2:Int),.slice a0 lm a3,.slice a4 tm a8,.slice a1 em a5,.slice a2 km a9],.agg #[.int .i64 (m:Int),.int .i64 (m2:Int),xl,xt,xe,xk]] g6 fun e w'=>e=.returned (.bool true)/\Below g6.heap.size g6 w'):=by
      have h:=Zgx t t _ _ _ _ _ _ _ _ _ g6 (Nat.le_refl _) g8.out i9.out
      rwa [R.out,R.out,Zgz] at h
     rw [Zb9]
     simp only [Zac,Zbn,Zb5]
     refine wpQuiet_nil ?_
     simp only [Zcp,Zac,Zbn]
     go_wp2_with (go_at_call 14;refine d9.out.mono ?_;rintro e n3 ⟨rfl,c9⟩;try dsimp only)
     first | refine ⟨rfl,c9,?_⟩ | refine ⟨c9,?_⟩ | skip
     have j5:=Za (Below.on f8.out c9)
     clear c9 g8 i9
     have d:Nonempty (Up n3):=⟨⟨n3,Below.refl _ _⟩⟩
     rw [Zb9]
     simp only [Zac,Zbn,Zb5]
     repeat (go_big_quiet_step (fail))
     refine wpQuiet_nil ?_
     simp only [Zcp,Zac,Zbn]
     go_wp2_with (go_at_call 10;refine (j6.out _ (Below.on j9.out j5.out)).mono ?_;rintro e l5 ⟨rfl,c8⟩;try dsimp only)
     first | refine ⟨rfl,c8,?_⟩ | refine ⟨c8,?_⟩ | skip
     have m3:=Za (Below.on j5.out c8)
     clear c8 d
     have d:Nonempty (Up l5):=⟨⟨l5,Below.refl _ _⟩⟩
     rw [Zb9]
     simp only [Zac,Zbn,Zb5]
     repeat (go_big_quiet_step (fail))
     refine wpQuiet_nil ?_
     clear d
     go_wp2_with fail
     go_ret
     exact ⟨rfl,Below.on j9.out m3.out⟩
end Go.Proofs.YthfilnflgahcjaaGreatDoor
