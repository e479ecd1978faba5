/- Count's second loop: the types. What the document counts is what the program counts: pure. The ends, as the document has them: pure. The keys, as the document has them: pure. The document's counts, whole: pure. -/
import Derived.Test.YthfilnflgahcjaaGreatDoorJoin37
import Derived.Test.YthfilnflgahcjaaGreatDoorJoin34
import Derived.Test.YthfilnflgahcjaaGreatDoorJoin32
import Derived.Test.YthfilnflgahcjaaGreatDoorJoin35
namespace Go.Proofs.YthfilnflgahcjaaGreatDoor
open Go.RowKit Go.Shelf Go.Maps
set_option linter.all false
attribute [local go_sem] Oper.semAt_some
theorem TxI.up {d:World} {v1 v2:Value} {l1 l2:List ByteArray} {wr wr':World} (h:TxI d v1 v2 l1 l2 wr) (hb:Below wr.heap.size wr wr'):TxI d v1 v2 l1 l2 wr' :=
 ⟨(h.s1.keep hb).mono hb.size,h.z1,(h.s2.keep hb).mono hb.size,h.z2,h.b.trans (hb.mono h.b.size)⟩
structure TyI (d:World) (v1 v2 v3:Value) (l1 l2 l3:List ByteArray) (wr:World):Prop where
 i:TxI d v1 v2 l1 l2 wr
 s:Zal 1 Zap wr.heap.size wr v3 l3
 z:l3=[]->v3=.slice none 0 0
theorem TyI.put {d:World} {v1 v2 v3 v':Value} {l1 l2 l3:List ByteArray} {wr wr':World} {t:ByteArray} (h:TyI d v1 v2 v3 l1 l2 l3 wr) (hs:Zal 1 Zap wr'.heap.size wr' v' (Zet t l3)) (hb:Below wr.heap.size wr wr'):TyI d v1 v2 v' l1 l2 (Zet t l3) wr' :=
 ⟨h.i.up hb,hs,fun e=>absurd e (Zsk _ _)⟩
def Zc6 (rs:List Zbr):List ByteArray:=rs.map fun r=>r.type
set_option maxRecDepth 100000 in
set_option maxHeartbeats 16000000 in
theorem Jc9 (g:Zx) (B m m2 nc rc:Nat) (na ra:Option Addr) (nn nr:Int) (w d:World) (va vb:Value) (L1 L2:List ByteArray) (u7 u8 u9 L4 O7 Q2 K5 L6 O2 T3 S5 R6 M5 L5 I7 K1 T1 T0 P5 K7 T6 Q6 P3 N9 S7 T7 R7 O3 I5 K0 M6 R1 S8 N8 L8 R3 R0 O6 S6 R5 T5 S9 R8 P4 Q9 O9 P7 P2 P8 L7 K2 Q0 I9 N5 S2 O8 N6 u64 K9 N2 M7 K8 P1 L9 M8 I6 Q7 Q5 S3 I4 S0 S1 Q4 Q8 M2 T4 R9 P6 S4 L0 O0 K4 O5 T2 R4 M9 N1 Q1 M1 N0 P0 M4 M3 x6 v5 z5 B7 y6 B8 C4 y3 z3 H0 u3 H4 F9 H8 y0 E8 x1 G4 y4 I3 x5 x0 D2 w0 G3 B2 u5 y8 I2 C3 x7 A8 G2 u6 w4 y9 G8 H5 w1 E7 F2 y1 z9 I0 E2 D4 C9 z8 z7 A0 G7 H1 x9 E6 D3 F5 E5 F7 D8 C5 w3 w2 A9 z4 C2 D7 v0 x2 w6 F8 y2 z6 u4 G5 G6 G1 y5 E3 H3 D5 u1 B0 t9 A3 x4 E9 x8 A7 A6 C6 E4 A4 C8 B5 w5 F3 A2 B4 G9 E1 F1 D9 w9 v6 G0 z0 u0 F4 D0 I1 H2 H9 H7 B6 D1 v4 F0 t8 y7 C1 D6 A1 B9 F6 B3 x3:Value) (wx:World) (C:Hid (Jgg g B m m2 nc rc na ra nn nr w d)) (P9:Hid (TxI d va vb L1 L2 wx))
  (Q:Exit->Act->World->Prop) (K:Act->World->Prop) (hK:∀ (v7 v8 v9 p4 s0 m1 o8 t5 n7 k2 k8 n6 o5 l7 m4 r3 p7 o1 r9 s7 r7 o3 p6 t4 s3 r5 o4 r0 s6 l8 k6 m6 n0 q3 p1 l5 o2 p0 n1 q4 q8 n3 p9 l9 q6 n2 l6 o6 o9 s5 k4 m0 q2 k9 r1 p3 n9 l0 m7 t2 r4 s9 l4 m3 q0 t6 m9 m5 r8 k7 r6 s8 o7 t0 p5 q9 n5 m8 k5 q1 t1 p8 o0 r2 t7 t3 n4 n8 k3 q5 q7 p2 s4 b5 b9 j1 h0 f4 e1 c8 e2 H f k0 R g2 g7 c4 g5 c6 U W k g3 o e8 a8 e3 i0 f3 h2 a4 g0 E a5 f6 i6 f0 V g1 f2 u L c7 d9 j3 l d8 a3 a0 j4 S X j8 a6 d5 g4 c2 d1 O j6 f9 h4 n h7 d6 T d2 f7 i9 A b4 x c3 a2 i8 d4 i1 d7 a1 a7 P h1 e0 h9 h5 G i4 g9 h6 c0 i3 i7 j2 e9 a9 g6 Y e4 c5 i5 N b6 f5 h8 j9 b2 b0 f8 D g8 e5 b8 f1 j0 k1 v j5 b1 I j7 F c9 d0 h3 e7 b7 e6 M c:Value) (w':World),TyI d va vb c L1 L2 (Js (Zc6 g.rels)) w'->K { tmps:=#[.agg #[.slice na m nc,.slice ra m2 rc,.int .i64 nn,.int .i64 nr],.pointer (some ⟨w.heap.size,0,none⟩),.pointer (some ⟨w.heap.size+1,0,none⟩),.pointer (some ⟨w.heap.size+2,0,none⟩),va,c,vb,v7,v8,v9,p4,s0,m1,o8,t5,n7,k2,k8,n6,o5,l7,m4,r3,p7,o1,r9,s7,r7,o3,p6,t4,s3,r5,o4,r0,s6,l8,k6,m6,n0,q3,p1,l5,o2,p0,n1,q4,q8,n3,p9,l9,q6,n2,l6,o6,o9,s5,k4,m0,q2,k9,r1,p3,n9,l0,m7,t2,r4,s9,l4,m3,q0,t6,m9,m5,r8,k7,r6,s8,o7,t0,p5,q9,n5,m8,k5,q1,t1,p8,o0,r2,t7,t3,n4,n8,k3,q5,q7,p2,s4,b5,b9,j1,h0,f4,e1,c8,e2,H,f,k0,R,g2,g7,c4,g5,c6,U,W,k,g3,o,e8,a8,e3,i0,f3,h2,a4,g0,E,a5,f6,i6,f0,V,g1,f2,u,L,c7,d9,j3,l,d8,a3,a0,j4,S,X,j8,a6,d5,g4,c2,d1,O,j6,f9,h4,n,h7,d6,T,d2,f7,i9,A,b4,x,c3,a2,i8,d4,i1,d7,a1,a7,P,h1,e0,h9,h5,G,i4,g9,h6,c0,i3,i7,j2,e9,a9,g6,Y,e4,c5,i5,N,b6,f5,h8,j9,b2,b0,f8,D,g8,e5,b8,f1,j0,k1,v,j5,b1,I,j7,F,c9,d0,h3,e7,b7,e6,M],defers:=[] } w') :
  (Zun 14 (Tryz.f15.body.getD .skip)).wp Tryz.prog (Exit.then K Q) { tmps:=#[.agg #[.slice na m nc,.slice ra m2 rc,.int .i64 nn,.int .i64 nr],.pointer (some ⟨w.heap.size,0,none⟩),.pointer (some ⟨w.heap.size+1,0,none⟩),.pointer (some ⟨w.heap.size+2,0,none⟩),va,.slice none 0 0,vb,u7,u8,u9,L4,O7,Q2,K5,L6,O2,T3,S5,R6,M5,L5,I7,K1,T1,T0,P5,K7,T6,Q6,P3,N9,S7,T7,R7,O3,I5,K0,M6,R1,S8,N8,L8,R3,R0,O6,S6,R5,T5,S9,R8,P4,Q9,O9,P7,P2,P8,L7,K2,Q0,I9,N5,S2,O8,N6,u64,K9,N2,M7,K8,P1,L9,M8,I6,Q7,Q5,S3,I4,S0,S1,Q4,Q8,M2,T4,R9,P6,S4,L0,O0,K4,O5,T2,R4,M9,N1,Q1,M1,N0,P0,M4,M3,x6,v5,z5,B7,y6,B8,C4,y3,z3,H0,u3,H4,F9,H8,y0,E8,x1,G4,y4,I3,x5,x0,D2,w0,G3,B2,u5,y8,I2,C3,x7,A8,G2,u6,w4,y9,G8,H5,w1,E7,F2,y1,z9,I0,E2,D4,C9,z8,z7,A0,G7,H1,x9,E6,D3,F5,E5,F7,D8,C5,w3,w2,A9,z4,C2,D7,v0,x2,w6,F8,y2,z6,u4,G5,G6,G1,y5,E3,H3,D5,u1,B0,t9,A3,x4,E9,x8,A7,A6,C6,E4,A4,C8,B5,w5,F3,A2,B4,G9,E1,F1,D9,w9,v6,G0,z0,u0,F4,D0,I1,H2,H9,H7,B6,D1,v4,F0,t8,y7,C1,D6,A1,B9,F6,B3,x3],defers:=[] } wx:=by
 have HK:Hid (∀ (v7 v8 v9 p4 s0 m1 o8 t5 n7 k2 k8 n6 o5 l7 m4 r3 p7 o1 r9 s7 r7 o3 p6 t4 s3 r5 o4 r0 s6 l8 k6 m6 n0 q3 p1 l5 o2 p0 n1 q4 q8 n3 p9 l9 q6 n2 l6 o6 o9 s5 k4 m0 q2 k9 r1 p3 n9 l0 m7 t2 r4 s9 l4 m3 q0 t6 m9 m5 r8 k7 r6 s8 o7 t0 p5 q9 n5 m8 k5 q1 t1 p8 o0 r2 t7 t3 n4 n8 k3 q5 q7 p2 s4 b5 b9 j1 h0 f4 e1 c8 e2 H f k0 R g2 g7 c4 g5 c6 U W k g3 o e8 a8 e3 i0 f3 h2 a4 g0 E a5 f6 i6 f0 V g1 f2 u L c7 d9 j3 l d8 a3 a0 j4 S X j8 a6 d5 g4 c2 d1 O j6 f9 h4 n h7 d6 T d2 f7 i9 A b4 x c3 a2 i8 d4 i1 d7 a1 a7 P h1 e0 h9 h5 G i4 g9 h6 c0 i3 i7 j2 e9 a9 g6 Y e4 c5 i5 N b6 f5 h8 j9 b2 b0 f8 D g8 e5 b8 f1 j0 k1 v j5 b1 I j7 F c9 d0 h3 e7 b7 e6 M c:Value) (w':World),TyI d va vb c L1 L2 (Js (Zc6 g.rels)) w'->Exit.then K Q .normal { tmps:=#[.agg #[.slice na m nc,.slice ra m2 rc,.int .i64 nn,.int .i64 nr],.pointer (some ⟨w.heap.size,0,none⟩),.pointer (some ⟨w.heap.size+1,0,none⟩),.pointer (some ⟨w.heap.size+2,0,none⟩),va,c,vb,v7,v8,v9,p4,s0,m1,o8,t5,n7,k2,k8,n6,o5,l7,m4,r3,p7,o1,r9,s7,r7,o3,p6,t4,s3,r5,o4,r0,s6,l8,k6,m6,n0,q3,p1,l5,o2,p0,n1,q4,q8,n3,p9,l9,q6,n2,l6,o6,o9,s5,k4,m0,q2,k9,r1,p3,n9,l0,m7,t2,r4,s9,l4,m3,q0,t6,m9,m5,r8,k7,r6,s8,o7,t0,p5,q9,n5,m8,k5,q1,t1,p8,o0,r2,t7,t3,n4,n8,k3,q5,q7,p2,s4,b5,b9,j1,h0,f4,e1,c8,e2,H,f,k0,R,g2,g7,c4,g5,c6,U,W,k,g3,o,e8,a8,e3,i0,f3,h2,a4,g0,E,a5,f6,i6,f0,V,g1,f2,u,L,c7,d9,j3,l,d8,a3,a0,j4,S,X,j8,a6,d5,g4,c2,d1,O,j6,f9,h4,n,h7,d6,T,d2,f7,i9,A,b4,x,c3,a2,i8,d4,i1,d7,a1,a7,P,h1,e0,h9,h5,G,i4,g9,h6,c0,i3,i7,j2,e9,a9,g6,Y,e4,c5,i5,N,b6,f5,h8,j9,b2,b0,f8,D,g8,e5,b8,f1,j0,k1,v,j5,b1,I,j7,F,c9,d0,h3,e7,b7,e6,M],defers:=[] } w'):=hK
 clear hK
 obtain ⟨QQ,hQ⟩:∃ QQ,Exit.then K Q=QQ:=⟨_,rfl⟩
 rw [hQ] at HK |-
 clear hQ Q K
 have HM:=Za (And.intro C.out.hm C.out.hm2)
 have HN:=Za C.out.hn
 have HR:=Za C.out.hr
 have C0:=Za C.out.rg
 have L3:=Za C.out.b3
 have hB:=C.out.hB
 have T8:=C.out.m60
 have K6:=C.out.m60'
 conv =>
  arg 2
  whnf
 obtain ⟨ys,B1,C7,N7⟩:=Zxd HR.out
 obtain ⟨ya,yc,H6,N3,T9,u2⟩:=N7
 obtain ⟨rfl,i2,rfl⟩:ra=ya/\m2=ys.length/\rc=yc:=by injection H6 with a b c;exact ⟨a,b,c⟩
 have M0:=Za u2
 have K3:=Za (And.intro B1 C7)
 have O1:=Za i2
 rw [<- i2] at N3
 clear B1 C7 u2 H6 i2
 go_wp2_with fail
 go_loopw [10,5] (fun i a wr=>∃ (j:Nat) (v3:Value),j<=m2/\i=.int .i64 j/\v3=a/\TyI d va vb v3 L1 L2 (Js (Zc6 (g.rels.take j))) wr) (fun i _ _=>m2 - (intOf i).toNat)
 case atStart=>exact ⟨0,_,Nat.zero_le _,rfl,rfl,⟨P9.out,Zb4 1 Zap _ _,fun _=>rfl⟩⟩
 case round =>
  obtain ⟨j,v3,hj,rfl,rfl,hI⟩:=hrel
  have HI:=Za hI
  have Q3:=Za (Below.on L3.out hI.i.b)
  have c1:=(C0.out.below hI.i.b C0.out.lt).cell 1 rfl
  clear hI
  by_cases hlt:j<m2
  ·have w7:(j:Int)<m2:=by omega
   obtain ⟨r,hr⟩:∃ q,g.rels[j]?=some q:=⟨_,List.getElem?_eq_getElem (by have:=HM.out.2;omega)⟩
   obtain ⟨⟨yi,yf,yt,ty,⟨pa,pn,pc⟩⟩,hy⟩:∃ y,ys[j]?=some y:=⟨_,List.getElem?_eq_getElem (by have:=O1.out;omega)⟩
   have hid:yi=r.id/\yf=r.fr/\yt=r.tt/\ty=r.type:=(K3.out.2 j r _ hr hy).1
   obtain ⟨bl,off,rfl,I8,hc⟩:=M0.out.resolve_left (by intro e;rw [e] at hy;simp at hy)
   have d3:=((Q3.out.mono hB).cell (p:=⟨bl,off+j*5+3,none⟩) I8).trans (hc j _ hy 3 _ rfl)
   simp only at d3
   have O4:Hid (Js (Zc6 (g.rels.take (j+1)))=Zet ty (Js (Zc6 (g.rels.take j)))):=by
    show _=_
    unfold Zc6
    rw [List.take_add_one,hr,List.map_append,hid.2.2.2]
    exact Zjd _ _
   have N4:Hid (Calls Tryz.prog 48 #[v3,.string ty] wr fun e w'=>∃ v',e=.returned v'/\Zal 1 Zap w'.heap.size w' v' (Zet ty (Js (Zc6 (g.rels.take j))))/\Below wr.heap.size wr w') :=
    Zhu _ ty v3 _ wr (Nat.le_refl _) HI.out.s HI.out.z (Nat.le_trans (Zep _) (by unfold Zc6;rw [List.length_map,List.length_take];omega))
   clear hr hy hid hc
   go_wp2_with (go_at_call 48;refine N4.out.mono ?_;rintro e w8 ⟨v',rfl,E0,A5⟩;have R2:=Za (HI.out.put E0 A5);clear E0 A5;try dsimp only)
   go_roundw
   case rel=>exact ⟨j+1,_,by omega,by go_num,rfl,by rw [O4.out];exact R2.out⟩
   case measure=>simp [intOf];omega
  ·have w7:¬ (j:Int)<m2:=by omega
   have HQ:Hid (g.rels.take j=g.rels):=List.take_of_length_le (by have:=HM.out.2;omega)
   rw [HQ.out] at HI
   go_wp2_with fail
   exact HK.out _ _ _ _ _ _ _ _ _ _ _ _ _ _ _ _ _ _ _ _ _ _ _ _ _ _ _ _ _ _ _ _ _ _ _ _ _ _ _ _ _ _ _ _ _ _ _ _ _ _ _ _ _ _ _ _ _ _ _ _ _ _ _ _ _ _ _ _ _ _ _ _ _ _ _ _ _ _ _ _ _ _ _ _ _ _ _ _ _ _ _ _ _ _ _ _ _ _ _ _ _ _ _ _ _ _ _ _ _ _ _ _ _ _ _ _ _ _ _ _ _ _ _ _ _ _ _ _ _ _ _ _ _ _ _ _ _ _ _ _ _ _ _ _ _ _ _ _ _ _ _ _ _ _ _ _ _ _ _ _ _ _ _ _ _ _ _ _ _ _ _ _ _ _ _ _ _ _ _ _ _ _ _ _ _ _ _ _ _ _ _ _ _ _ _ _ _ _ _ _ _ _ _ _ _ _ _ _ _ _ _ _ _ _ _ _ _ _ _ _ _ HI.out
end Go.Proofs.YthfilnflgahcjaaGreatDoor

namespace Go.Proofs.YthfilnflgahcjaaGreatDoor
open Go.RowKit Go.Shelf
set_option linter.all false
theorem Zgq {α:Type} {R:α->α->Prop} (o:∀ a b,R a b->¬ R b a):∀ {xs d:List α},xs.Pairwise R->d.Pairwise R->(∀ a,a ∈ xs↔a ∈ d)->xs=d
 | [],[],_,_,_=>rfl
 | [],y::d,_,_,h=>absurd ((h y).2 List.mem_cons_self) (by simp)
 | x::xs,[],_,_,h=>absurd ((h x).1 List.mem_cons_self) (by simp)
 | x::xs,y::d,c,u,h=>by
  have j:=List.pairwise_cons.1 c
  have p:=List.pairwise_cons.1 u
  have e:x=y:=by
   rcases List.mem_cons.1 ((h x).1 List.mem_cons_self) with e | e
   ·exact e
   ·rcases List.mem_cons.1 ((h y).2 List.mem_cons_self) with k | k
    ·exact k.symm
    ·exact absurd (j.1 y k) (o _ _ (p.1 x e))
  subst e
  have i:∀ a,¬ R a a:=fun a ha=>o a a ha ha
  rw [Zgq o j.2 p.2 fun a=>⟨fun ha=>?_,fun ha=>?_⟩]
  ·rcases List.mem_cons.1 ((h a).1 (List.mem_cons_of_mem _ ha)) with e | e
   ·subst e;exact absurd (j.1 a ha) (i a)
   ·exact e
  ·rcases List.mem_cons.1 ((h a).2 (List.mem_cons_of_mem _ ha)) with e | e
   ·subst e;exact absurd (p.1 a ha) (i a)
   ·exact e
theorem Zn2 {s x:ByteArray}:∀ {ls:List ByteArray},x ∈ Zet s ls↔x=s\/x ∈ ls
 | []=>by simp [Zet]
 | y::r=>by
  rw [Zet]
  split
  ·rw [List.mem_cons,Zn2 (ls:=r),List.mem_cons]
   constructor
   ·rintro (h | h | h)<;>simp [h]
   ·rintro (h | h | h)<;>simp [h]
  ·split
   ·rename_i e
    subst e
    simp
   ·simp
theorem Zw1 {s:ByteArray}:∀ {ls:List ByteArray},ls.Pairwise (fun a b=>Zc5 a b<0)->(Zet s ls).Pairwise (fun a b=>Zc5 a b<0)
 | [],_=>by simp [Zet]
 | y::r,h=>by
  have c:=List.pairwise_cons.1 h
  rw [Zet]
  split
  ·rename_i hys
   refine List.pairwise_cons.2 ⟨fun a ha=>?_,Zw1 c.2⟩
   rcases Zn2.1 ha with rfl | ha
   ·exact hys
   ·exact c.1 a ha
  ·rename_i hys
   split
   ·exact h
   ·rename_i hne
    have g:Zc5 s y<0:=by
     have m:=Zf4 y s
     have w:Zc5 y s≠0:=fun e=>hne (Zdy e)
     omega
    refine List.pairwise_cons.2 ⟨fun a ha=>?_,h⟩
    rcases List.mem_cons.1 ha with rfl | ha
    ·exact g
    ·exact Zmp g (c.1 a ha)
theorem Zei {x:ByteArray} (ts:List ByteArray):x ∈ Js ts↔x ∈ ts:=by
 unfold Js
 suffices h:∀ (ts a:List ByteArray),x ∈ ts.foldl (fun a t=>Zet t a) a↔x ∈ a\/x ∈ ts by
  have:=h ts []
  simpa using this
 intro ts
 induction ts with
 | nil=>intro a;simp
 | cons t r ih =>
  intro a
  rw [List.foldl_cons,ih,Zn2,List.mem_cons]
  constructor
  ·rintro ((h | h) | h)<;>simp [h]
  ·rintro (h | h | h)<;>simp [h]
theorem Zh6 (ts:List ByteArray):(Js ts).Pairwise (fun a b=>Zc5 a b<0):=by
 unfold Js
 suffices h:∀ (ts a:List ByteArray),a.Pairwise (fun a b=>Zc5 a b<0)->(ts.foldl (fun a t=>Zet t a) a).Pairwise (fun a b=>Zc5 a b<0) from h ts [] List.Pairwise.nil
 intro ts
 induction ts with
 | nil=>intro a h;exact h
 | cons t r ih=>intro a h;exact ih _ (Zw1 h)
theorem Jac (a b:ByteArray):Zc5 a b<0->¬ Zc5 b a<0:=by
 have:=Zf4 a b
 omega
def Zk1 (ns:List Zj) (l:ByteArray):Int:=Jh (fun n=>if Zdj l n.labels=true then 1 else 0) ns
def Zh7 (rs:List Zbr) (t:ByteArray):Int:=Jh (fun r=>if r.type=t then 1 else 0) rs
theorem Zh8 (x:ByteArray) (l:List ByteArray):Zdj x l=true↔x ∈ l:=by
 unfold Zdj
 rw [List.any_eq_true]
 constructor
 ·rintro ⟨y,v,e⟩
  have:y=x:=by simpa using e
  exact this▸v
 ·intro h;exact ⟨x,h,by simp⟩
theorem Zi5 {x:ByteArray} {l:List ByteArray} (h:l.Nodup):(if Zdj x l=true then (1:Int) else 0)=Zan x l:=by
 by_cases hx:x ∈ l
 ·rw [if_pos ((Zh8 x l).2 hx),(Zim h).2.1 hx]
 ·rw [if_neg (fun e=>hx ((Zh8 x l).1 e)),(Zim h).1 hx]
theorem Zu1 {ns:List Zj} (h:∀ n ∈ ns,n.labels.Nodup) (l:ByteArray):Zk1 ns l=Zan l (Zi ns):=by
 rw [Zgh]
 exact Je fun n hn=>Zi5 (h n hn)
theorem Zu2 (rs:List Zbr) (t:ByteArray):Zh7 rs t=Zan t (rs.map fun r=>r.type):=by
 unfold Zh7 Zan
 rw [Zaw]
theorem Zpj {xs:List (ByteArray × Int)} {ts:List ByteArray} (h:Zm4 xs ts) {f:ByteArray->Int} (q:∀ t ∈ ts,f t=Zan t ts):xs=(Js ts).map fun t=>(t,f t):=by
 refine Zgq (R:=fun a b=>Zc5 a.1 b.1<0) (fun a b=>Jac a.1 b.1) h.up (List.pairwise_map.2 (Zh6 ts)) fun a=>⟨fun ha=>?_,fun ha=>?_⟩
 ·obtain ⟨c,u,m⟩:=h.val a ha
  exact List.mem_map.2 ⟨a.1,(Zei ts).2 m,by rw [q _ m,<- c]⟩
 ·obtain ⟨t,ht,rfl⟩:=List.mem_map.1 ha
  have ht:=(Zei ts).1 ht
  rw [q t ht]
  exact h.hit t ht
end Go.Proofs.YthfilnflgahcjaaGreatDoor

namespace Go.Proofs.YthfilnflgahcjaaGreatDoor
open Go.RowKit Go.Shelf
set_option linter.all false
theorem Jas {ns:List Zj} {i:Int} {l:ByteArray} (h:l ∈ Zt ns i):l ∈ Zi ns:=by
 induction ns with
 | nil=>cases h
 | cons n r ih =>
  rw [Zt] at h
  unfold Zi
  rw [List.flatMap_cons,List.mem_append]
  split at h
  ·exact .inl h
  ·exact .inr (ih h)
theorem Jdt {ns:List Zj} (d:∀ n ∈ ns,n.labels.Nodup) (i:Int):(Zt ns i).Nodup:=by
 induction ns with
 | nil=>exact List.nodup_nil
 | cons n r ih =>
  rw [Zt]
  split
  ·exact d n List.mem_cons_self
  ·exact ih fun m hm=>d m (List.mem_cons_of_mem _ hm)
theorem Jat {ns:List Zj} {rs:List Zbr} (d:∀ n ∈ ns,n.labels.Nodup) (t l:ByteArray) (o:Bool):Zg7 ((t,l,o,0):Zae) (Jn ns (cnt (Zl rs)))=Zvl ns rs t l o:=by
 rw [Zcv]
 unfold Jn
 rw [Zb0]
 have e:Jh (fun j:Zba × Int=>Jh (fun q:Zae × Int=>q.2*(if q.1=(t,l,o,0) then 1 else 0)) (Zfu ns j)) (cnt (Zl rs))=Jh (fun j:Zba × Int=>j.2*Jh (fun x=>if ((j.1.2.1,x,j.1.2.2,0):Zae)=(t,l,o,0) then 1 else 0) (Zt ns j.1.1)) (cnt (Zl rs)):=by
  refine Je fun j _=>?_
  unfold Zfu
  rw [Zaw]
  generalize Zt ns j.1.1=ls
  induction ls with
  | nil=>simp [Jh]
  | cons a r ih=>simp only [Jh,Int.mul_add];rw [ih]
 rw [e,Zki (fun j:Zba=>Jh (fun x=>if ((j.2.1,x,j.2.2,0):Zae)=(t,l,o,0) then 1 else 0) (Zt ns j.1))]
 unfold Zl Zvl
 rw [Zb0]
 refine Je fun r _=>?_
 have C:∀ (i:Int) (o':Bool),Jh (fun x=>if ((r.type,x,o',0):Zae)=(t,l,o,0) then (1:Int) else 0) (Zt ns i)=if r.type=t/\o'=o/\Zdj l (Zt ns i)=true then 1 else 0:=by
  intro i o'
  by_cases hc:r.type=t/\o'=o
  ·have e1:Jh (fun x=>if ((r.type,x,o',0):Zae)=(t,l,o,0) then (1:Int) else 0) (Zt ns i)=Zan l (Zt ns i):=by
    unfold Zan
    refine Je fun x _=>?_
    simp only [Prod.mk.injEq,hc.1,hc.2,true_and,and_true]
   rw [e1,<- Zi5 (Jdt d i)]
   simp only [hc.1,hc.2,true_and]
  ·have e1:Jh (fun x=>if ((r.type,x,o',0):Zae)=(t,l,o,0) then (1:Int) else 0) (Zt ns i)=Jh (fun _=>0) (Zt ns i):=Je fun x _=>by
    rw [if_neg]
    intro e
    simp only [Prod.mk.injEq] at e
    exact hc ⟨e.1,e.2.2.1⟩
   rw [e1,Zch,if_neg (fun h=>hc ⟨h.1,h.2.1⟩)]
 simp only [Jh]
 rw [C,C]
 unfold Zfb
 cases o
 ·simp only [Bool.true_eq_false,false_and,and_false,if_false,true_and,Bool.false_eq_true]
  simp
 ·simp only [Bool.false_eq_true,false_and,and_false,if_false,true_and]
  simp
theorem Zpu {α:Type} {f:α->Int}:∀ {l:List α},0<Jh f l->∃ x ∈ l,0<f x
 | [],h=>by simp [Jh] at h
 | x::r,h=>by
  by_cases c:0<f x
  ·exact ⟨x,List.mem_cons_self,c⟩
  ·simp only [Jh] at h
   obtain ⟨y,D,w⟩:=Zpu (f:=f) (l:=r) (by omega)
   exact ⟨y,List.mem_cons_of_mem _ D,w⟩
theorem Ztp {ns:List Zj} {rs:List Zbr} {t l:ByteArray} {o:Bool} (h:0<Zvl ns rs t l o):∃ r ∈ rs,r.type=t/\l ∈ Zt ns (if o=true then r.fr else r.tt):=by
 obtain ⟨r,hr,k⟩:=Zpu h
 unfold Zfb at k
 by_cases w:r.type=t/\Zdj l (Zt ns (if o=true then r.fr else r.tt))=true
 ·exact ⟨r,hr,w.1,(Zh8 _ _).1 w.2⟩
 ·rw [if_neg w] at k;omega
theorem Jau {tx:Zd->ByteArray} {g:Zx} {s:Zak} (h:Zk7 tx g (fun a b=>¬ cfL b a<0) (fun a b=>¬ cfL b a<0) (fun a b=>¬ cfE b a<0) (fun a b=>¬ cfK b a<0) s) (d:∀ n ∈ g.nodes,n.labels.Nodup) (x:Zae):x ∈ s.ends↔0<Zvl g.nodes g.rels x.1 x.2.1 x.2.2.1/\x.2.2.2=Zvl g.nodes g.rels x.1 x.2.1 x.2.2.1:=by
 have B:∀ p ∈ Jc (Jn g.nodes (cnt (Zl g.rels))),p.2=Zvl g.nodes g.rels p.1.1 p.1.2.1 p.1.2.2.1:=fun p A=>by
  have k:=((Zbe (Jq _)).1 (show (p.1,p.2) ∈ _ from A)).2
  obtain ⟨_,_,_,_,_,z⟩:=Zkn A
  rw [<- k,Jf,<- Jat d]
  congr 1
  exact Prod.ext rfl (Prod.ext rfl (Prod.ext rfl z))
 have E:∀ p ∈ Jc (Jn g.nodes (cnt (Zl g.rels))),1<=p.2:=by
  refine Zjb fun q G=>?_
  obtain ⟨j,I,G⟩:=List.mem_flatMap.1 G
  obtain ⟨l,_,rfl⟩:=List.mem_map.1 G
  exact Zsg _ j I
 constructor
 ·intro c
  obtain ⟨p,A,rfl⟩:=List.mem_map.1 (h.e1.mem_iff.1 c)
  have a:=B p A
  have b:=E p A
  exact ⟨by show 0<Zvl _ _ p.1.1 p.1.2.1 p.1.2.2.1;omega,a⟩
 ·rintro ⟨k,w⟩
  obtain ⟨r,hr,F,H⟩:=Ztp k
  have I:((if x.2.2.1=true then r.fr else r.tt,x.1,x.2.2.1):Zba) ∈ Zl g.rels:=by
   refine List.mem_flatMap.2 ⟨r,hr,?_⟩
   rw [<- F]
   cases x.2.2.1<;>simp
  have hk:=(Zdb (Zl g.rels) _).2 I
  obtain ⟨q,G,e⟩:=List.mem_map.1 hk
  have u:((x.1,x.2.1,x.2.2.1,0):Zae) ∈ (Jn g.nodes (cnt (Zl g.rels))).map Prod.fst:=by
   refine List.mem_map.2 ⟨((x.1,x.2.1,x.2.2.1,0),q.2),List.mem_flatMap.2 ⟨q,G,?_⟩,rfl⟩
   unfold Zfu
   refine List.mem_map.2 ⟨x.2.1,by rw [e];exact H,by rw [e]⟩
  rw [<- Zbc] at u
  obtain ⟨p,A,e2⟩:=List.mem_map.1 u
  refine h.e1.mem_iff.2 (List.mem_map.2 ⟨p,A,?_⟩)
  have a:=B p A
  rw [e2] at a
  rw [a,e2,<- w]
theorem Jdu {x y:Zae} (h:Zc5 x.1 y.1<0):cfE x y<0:=by
 unfold cfE;simp only [orI];rw [if_neg (by omega)];exact h
theorem Jdv {x y:Zae} (k:x.1=y.1) (h:Zc5 x.2.1 y.2.1<0):cfE x y<0:=by
 unfold cfE;simp only [orI];rw [k,if_pos (Zf5 _),if_neg (by omega)];exact h
theorem Jdw {x y:Zae} (k:x.1=y.1) (w:x.2.1=y.2.1) (h:x.2.2.1=false) (O:y.2.2.1=true):cfE x y<0:=by
 unfold cfE;simp only [orI];rw [k,if_pos (Zf5 _),w,if_pos (Zf5 _),h,O]
 decide
def Zdo (ns:List Zj) (rs:List Zbr) (ts ls:List ByteArray):List Zae:=ts.flatMap fun t=>ls.flatMap fun l=>Za8 ns rs t l false++Za8 ns rs t l true
theorem Zb8 {ns:List Zj} {rs:List Zbr} {t l:ByteArray} {o:Bool} {x:Zae} (h:x ∈ Za8 ns rs t l o):x.1=t/\x.2.1=l/\x.2.2.1=o/\0<Zvl ns rs t l o/\x.2.2.2=Zvl ns rs t l o:=by
 unfold Za8 at h
 split at h
 ·rename_i k
  simp only [List.mem_singleton] at h
  subst h
  exact ⟨rfl,rfl,rfl,k,rfl⟩
 ·cases h
theorem Zxi (ns:List Zj) (rs:List Zbr) (t l:ByteArray):(Za8 ns rs t l false++Za8 ns rs t l true).Pairwise (fun a b=>cfE a b<0):=by
 refine List.pairwise_append.2 ⟨?_,?_,fun a ha b hb=>?_⟩
 ·unfold Za8;split<;>simp
 ·unfold Za8;split<;>simp
 ·have x:=Zb8 ha
  have y:=Zb8 hb
  exact Jdw (x.1.trans y.1.symm) (x.2.1.trans y.2.1.symm) x.2.2.1 y.2.2.1
theorem Zxj {tx:Zd->ByteArray} {g:Zx} {s:Zak} (h:Zk7 tx g (fun a b=>¬ cfL b a<0) (fun a b=>¬ cfL b a<0) (fun a b=>¬ cfE b a<0) (fun a b=>¬ cfK b a<0) s) (d:∀ n ∈ g.nodes,n.labels.Nodup) (N:(s.ends.map Zhz).Nodup):s.ends=Zdo g.nodes g.rels (Js (g.rels.map fun r=>r.type)) (Js (Zi g.nodes)):=by
 have v:∀ t l,∀ x ∈ Za8 g.nodes g.rels t l false++Za8 g.nodes g.rels t l true,x.1=t/\x.2.1=l:=fun t l x c=>by
  rcases List.mem_append.1 c with c | c
  ·exact ⟨(Zb8 c).1,(Zb8 c).2.1⟩
  ·exact ⟨(Zb8 c).1,(Zb8 c).2.1⟩
 refine Zgq (R:=fun a b=>cfE a b<0) (fun a b k w=>by have:=Zzh.2.1 a b;omega) ?_ ?_ fun x=>?_
 ·have F:s.ends.Pairwise fun a b=>Zhz a≠Zhz b:=List.pairwise_map.1 N
  refine (h.e2.and F).imp fun {a b} hh=>?_
  have H:=Zzh.2.1 a b
  have P:cfE a b≠0:=fun e=>hh.2 (by
   have:=Jb7 e
   simp only [Prod.mk.injEq] at this
   exact Prod.ext this.1 (Prod.ext this.2.1 (Prod.ext this.2.2 rfl)))
  have:=hh.1
  omega
 ·unfold Zdo
  refine List.pairwise_flatMap.2 ⟨fun t _=>List.pairwise_flatMap.2 ⟨fun l _=>Zxi _ _ t l,(Zh6 _).imp fun {a b} hab x c y D=>?_⟩,(Zh6 _).imp fun {a b} hab x c y D=>?_⟩
  ·have e1:=v t a x c
   have e2:=v t b y D
   exact Jdv (e1.1.trans e2.1.symm) (by rw [e1.2,e2.2];exact hab)
  ·obtain ⟨l1,_,c⟩:=List.mem_flatMap.1 c
   obtain ⟨l2,_,D⟩:=List.mem_flatMap.1 D
   exact Jdu (by rw [(v a l1 x c).1,(v b l2 y D).1];exact hab)
 ·rw [Jau h d]
  unfold Zdo
  constructor
  ·rintro ⟨k,w⟩
   obtain ⟨r,hr,F,H⟩:=Ztp k
   refine List.mem_flatMap.2 ⟨x.1,(Zei _).2 (List.mem_map.2 ⟨r,hr,F⟩),List.mem_flatMap.2 ⟨x.2.1,(Zei _).2 (Jas H),?_⟩⟩
   have u:x ∈ Za8 g.nodes g.rels x.1 x.2.1 x.2.2.1:=by
    unfold Za8
    rw [if_pos k,<- w]
    exact List.mem_singleton.2 rfl
   cases ho:x.2.2.1 with
   | false=>rw [ho] at u;exact List.mem_append_left _ u
   | true=>rw [ho] at u;exact List.mem_append_right _ u
  ·intro c
   obtain ⟨t,_,c⟩:=List.mem_flatMap.1 c
   obtain ⟨l,_,c⟩:=List.mem_flatMap.1 c
   rcases List.mem_append.1 c with c | c
   ·obtain ⟨e1,e2,M,L,K⟩:=Zb8 c
    rw [e1,e2,M];exact ⟨L,K⟩
   ·obtain ⟨e1,e2,M,L,K⟩:=Zb8 c
    rw [e1,e2,M];exact ⟨L,K⟩
end Go.Proofs.YthfilnflgahcjaaGreatDoor

namespace Go.Proofs.YthfilnflgahcjaaGreatDoor
open Go.RowKit Go.Shelf
set_option linter.all false
theorem Zn3 {t:ByteArray}:∀ {ts:List ByteArray},t ∈ ts->ts[Zbm t ts]?=some t
 | a::r,h=>by
  rw [Zbm]
  by_cases e:a=t
  ·rw [if_pos e,e];rfl
  ·rw [if_neg e]
   have:t ∈ r:=by
    rcases List.mem_cons.1 h with h | h
    ·exact absurd h.symm e
    ·exact h
   rw [List.getElem?_cons_succ]
   exact Zn3 this
theorem Zw4 {s t:ByteArray} {ts:List ByteArray} (H:s ∈ ts) (ht:t ∈ ts) (e:Zbm s ts=Zbm t ts):s=t:=by
 have f:=Zn3 H
 have m:=Zn3 ht
 rw [e,m] at f
 exact (Option.some.inj f).symm
theorem Zpn {t:ByteArray}:∀ {ts:List ByteArray} (T:List ByteArray),t ∈ ts->Zbm t (ts++T)=Zbm t ts
 | a::r,T,h=>by
  rw [List.cons_append,Zbm,Zbm]
  by_cases e:a=t
  ·rw [if_pos e,if_pos e]
  ·rw [if_neg e,if_neg e]
   have:t ∈ r:=by
    rcases List.mem_cons.1 h with h | h
    ·exact absurd h.symm e
    ·exact h
   rw [Zpn T this]
theorem Zpo {t:ByteArray}:∀ {ts:List ByteArray},t ∉ ts->Zbm t (ts++[t])=ts.length
 | [],_=>by simp [Zbm]
 | a::r,h=>by
  rw [List.cons_append,Zbm,if_neg (fun e:a=t=>h (e▸List.mem_cons_self)),Zpo (fun hm=>h (List.mem_cons_of_mem _ hm))]
  rfl
theorem Zpp {t x:ByteArray} {ts:List ByteArray}:x ∈ Zdz t ts↔x=t\/x ∈ ts:=by
 by_cases h:t ∈ ts
 ·rw [Zgl h]
  exact ⟨.inr,fun h'=>h'.elim (fun e=>e▸h) id⟩
 ·rw [Zgm h,List.mem_append,List.mem_singleton]
  exact Or.comm
theorem Zgs {t s:ByteArray} {ts:List ByteArray} (h:s ∈ ts\/s=t):Zbm s (Zdz t ts)=Zbm s ts:=by
 by_cases ht:t ∈ ts
 ·rw [Zgl ht]
 ·rw [Zgm ht]
  by_cases H:s ∈ ts
  ·exact Zpn _ H
  ·have:s=t:=h.resolve_left H
   subst this
   rw [Zpo ht,Zgk ht]
theorem Zmo (d:List Zen):(∀ t,t ∈ (Zci d).1↔∃ it ∈ d,it.2.2=t)/\∀ w,w ∈ (Zci d).2↔∃ it ∈ d,∃ l ∈ it.1,w=((l,it.2.1,0,0),(Zbm it.2.2 (Zci d).1:Int)):=by
 suffices h:∀ (n:Nat) (d:List Zen),d.length=n->(∀ t,t ∈ (Zci d).1↔∃ it ∈ d,it.2.2=t)/\∀ w,w ∈ (Zci d).2↔∃ it ∈ d,∃ l ∈ it.1,w=((l,it.2.1,0,0),(Zbm it.2.2 (Zci d).1:Int)) from h _ d rfl
 intro n
 induction n with
 | zero =>
  intro d h
  have:d=[]:=List.eq_nil_of_length_eq_zero h
  subst this
  simp [Zci]
 | succ n ih =>
  intro d h
  have D:d≠[]:=fun e=>by rw [e] at h;simp at h
  obtain ⟨r,x,rfl⟩:∃ r x,d=r++[x]:=⟨d.dropLast,d.getLast D,(List.dropLast_concat_getLast D).symm⟩
  obtain ⟨f,m⟩:=ih r (by simpa using h)
  rw [Zqm]
  have e1:(Zgi (Zci r) x).1=Zdz x.2.2 (Zci r).1:=rfl
  have e2:(Zgi (Zci r) x).2=(Zci r).2++x.1.map fun l=>((l,x.2.1,0,0),(Zbm x.2.2 (Zci r).1:Int)):=rfl
  rw [e1,e2]
  refine ⟨fun t=>?_,fun w=>?_⟩
  ·rw [Zpp,f]
   constructor
   ·rintro (rfl | ⟨it,hit,e⟩)
    ·exact ⟨x,by simp,rfl⟩
    ·exact ⟨it,List.mem_append_left _ hit,e⟩
   ·rintro ⟨it,hit,e⟩
    rcases List.mem_append.1 hit with hit | hit
    ·exact .inr ⟨it,hit,e⟩
    ·simp only [List.mem_singleton] at hit;subst hit;exact .inl e.symm
  ·rw [List.mem_append,m,List.mem_map]
   constructor
   ·rintro (⟨it,hit,l,hl,e⟩ | ⟨l,hl,e⟩)
    ·refine ⟨it,List.mem_append_left _ hit,l,hl,?_⟩
     rw [e,Zgs (.inl ((f _).2 ⟨it,hit,rfl⟩))]
    ·exact ⟨x,by simp,l,hl,by rw [<- e,Zgs (.inr rfl)]⟩
   ·rintro ⟨it,hit,l,hl,e⟩
    rcases List.mem_append.1 hit with hit | hit
    ·refine .inl ⟨it,hit,l,hl,?_⟩
     rw [e,Zgs (.inl ((f _).2 ⟨it,hit,rfl⟩))]
    ·simp only [List.mem_singleton] at hit
     subst hit
     exact .inr ⟨l,hl,by rw [e,Zgs (.inr rfl)]⟩
def Zrj (ts:List ByteArray):List ByteArray:=ts.foldl (fun a t=>Zdz t a) []
theorem Zrk (ts:List ByteArray):(Zrj ts).Nodup/\∀ t,t ∈ Zrj ts↔t ∈ ts:=by
 unfold Zrj
 suffices h:∀ (ts a:List ByteArray),a.Nodup->(ts.foldl (fun a t=>Zdz t a) a).Nodup/\∀ t,t ∈ ts.foldl (fun a t=>Zdz t a) a↔t ∈ a\/t ∈ ts by
  have:=h ts [] List.nodup_nil
  simpa using this
 intro ts
 induction ts with
 | nil=>intro a h;exact ⟨h,by simp⟩
 | cons x r ih =>
  intro a h
  obtain ⟨f,m⟩:=ih (Zdz x a) (Zlo h)
  refine ⟨f,fun t=>?_⟩
  rw [List.foldl_cons,m,Zpp,List.mem_cons]
  constructor
  ·rintro ((h | h) | h)<;>simp [h]
  ·rintro (h | h | h)<;>simp [h]
theorem Zw5 {tx:Zd->ByteArray} (ts:List Zd) (h:∀ u ∈ ts,∀ t ∈ ts,Ziy u t=0↔tx u=tx t):(Zih ts).length=(Zrj (ts.map tx)).length:=by
 unfold Zih Zrj
 suffices g:∀ (rs out:List Zd),(∀ u ∈ rs,u ∈ ts)->(∀ u ∈ out,u ∈ ts)->(rs.foldl (fun out t=>if (out.any fun u=>Ziy u t==0)=true then out else out++[t]) out).length=((rs.map tx).foldl (fun a t=>Zdz t a) (out.map tx)).length from g ts [] (fun _ h=>h) (by simp)
 intro rs
 induction rs with
 | nil=>intro out _ _;simp
 | cons x r ih =>
  intro out f m
  have o:=f x List.mem_cons_self
  rw [List.foldl_cons,List.map_cons,List.foldl_cons]
  by_cases hm:(out.any fun u=>Ziy u x==0)=true
  ·rw [if_pos hm]
   have j:tx x ∈ out.map tx:=by
    obtain ⟨u,A,e⟩:=List.any_eq_true.1 hm
    exact List.mem_map.2 ⟨u,A,(h u (m u A) x o).1 (by simpa using e)⟩
   rw [Zgl j]
   exact ih out (fun u A=>f u (List.mem_cons_of_mem _ A)) m
  ·rw [if_neg hm]
   have j:tx x ∉ out.map tx:=fun j=>by
    obtain ⟨u,A,e⟩:=List.mem_map.1 j
    exact hm (List.any_eq_true.2 ⟨u,A,by simpa using (h u (m u A) x o).2 e⟩)
   rw [Zgm j]
   have:=ih (out++[x]) (fun u A=>f u (List.mem_cons_of_mem _ A)) (fun u A=>by
    rcases List.mem_append.1 A with A | A
    ·exact m u A
    ·simp only [List.mem_singleton] at A;subst A;exact o)
   rw [this,List.map_append]
   rfl
theorem Ztg (lab key:ByteArray) (ls:List ByteArray):∀ (ps:List (ByteArray × Zd)),((Zcc lab key ls ps).length:Int)=Jh (fun q=>if Zj5 lab key ls q=true then 1 else 0) ps
 | []=>rfl
 | q::r=>by
  have h:=Ztg lab key ls r
  unfold Zcc at h |-
  rw [List.flatMap_cons,List.length_append,Jh,<- h]
  split<;>simp
theorem Zth (lab key:ByteArray):∀ (ns:List Zj),((Jw lab key ns).length:Int)=Jh (fun n=>Jh (fun q=>if Zj5 lab key n.labels q=true then 1 else 0) n.props) ns
 | []=>rfl
 | n::r=>by
  have h:=Zth lab key r
  unfold Jw at h |-
  rw [List.flatMap_cons,List.length_append,Jh,<- h,<- Ztg]
  simp
theorem Jdj (tx:Zd->ByteArray) {ns:List Zj} (G:∀ n ∈ ns,n.labels.Nodup) (l k:ByteArray):Jh (fun w:Zhl=>if w.1=(l,k,0,0) then 1 else 0) (Zci (Zq tx ns)).2=((Jw l k ns).length:Int):=by
 rw [Zql (fun x=>if x=(l,k,0,0) then 1 else 0),Zth]
 unfold Zq
 rw [Zb0]
 refine Je fun n hn=>?_
 rw [Zaw]
 refine Je fun q _=>?_
 show Jh (fun l'=>if ((l',q.1,0,0):Zav)=(l,k,0,0) then (1:Int) else 0) n.labels=_
 by_cases i:q.1=k
 ·have e1:Jh (fun l'=>if ((l',q.1,0,0):Zav)=(l,k,0,0) then (1:Int) else 0) n.labels=Zan l n.labels:=by
   unfold Zan
   refine Je fun x _=>?_
   simp only [Prod.mk.injEq,i,and_true]
  rw [e1,<- Zi5 (G n hn)]
  unfold Zj5
  simp [i]
 ·have e1:Jh (fun l'=>if ((l',q.1,0,0):Zav)=(l,k,0,0) then (1:Int) else 0) n.labels=Jh (fun _=>0) n.labels:=Je fun x _=>by
   rw [if_neg];intro e;simp only [Prod.mk.injEq] at e;exact i e.2.1
  rw [e1,Zch]
  unfold Zj5
  simp [i]
theorem Ze5 {l k:ByteArray} {ns:List Zj} {t:Zd}:t ∈ Jw l k ns↔∃ n ∈ ns,∃ q ∈ n.props,l ∈ n.labels/\q.1=k/\q.2=t:=by
 unfold Jw Zcc
 simp only [List.mem_flatMap]
 constructor
 ·rintro ⟨n,hn,q,i,h⟩
  split at h
  ·rename_i M
   unfold Zj5 at M
   simp only [Bool.and_eq_true,decide_eq_true_eq] at M
   simp only [List.mem_singleton] at h
   exact ⟨n,hn,q,i,(Zh8 _ _).1 M.1,M.2,h.symm⟩
  ·cases h
 ·rintro ⟨n,hn,q,i,f,m,K⟩
  refine ⟨n,hn,q,i,?_⟩
  rw [if_pos (by unfold Zj5;rw [(Zh8 l n.labels).2 f,m];simp)]
  simp [K]
theorem Zk3 {α:Type} (p:α->Bool):∀ (l:List α),Jh (fun x=>if p x=true then 1 else 0) l=((l.filter p).length:Int)
 | []=>rfl
 | x::r=>by
  rw [Jh,Zk3 p r,List.filter_cons]
  split<;>simp
  omega
theorem Zu3 {tx:Zd->ByteArray} {ns:List Zj} (l k:ByteArray) (C:∀ u ∈ Jw l k ns,∀ t ∈ Jw l k ns,Ziy u t=0↔tx u=tx t):Zn ((l,k,0,0):Zav) (Zbv (Zci (Zq tx ns)).2)=((Zih (Jw l k ns)).length:Int):=by
 obtain ⟨d,B⟩:∃ d,Zq tx ns=d:=⟨_,rfl⟩
 obtain ⟨L,P⟩:∃ L,(Zci d).2=L:=⟨_,rfl⟩
 have H:=Zmo d
 rw [B,P]
 have N:Zn ((l,k,0,0):Zav) (Zbv L)=((((cnt L).map Prod.fst).filter fun w=>decide (w.1=(l,k,0,0))).length:Int):=by
  unfold Zbv
  rw [Jf,Zcv,Zaw,<- Zk3,Zaw]
  refine Je fun q _=>?_
  simp only [Int.one_mul,decide_eq_true_eq]
 rw [N,Zw5 (tx:=tx) _ C]
 obtain ⟨u1,W⟩:=Zrk ((Jw l k ns).map tx)
 have S:(((cnt L).map Prod.fst).filter fun w=>decide (w.1=(l,k,0,0))).Perm ((Zrj ((Jw l k ns).map tx)).map fun t=>(((l,k,0,0),(Zbm t (Zci d).1:Int)):Zhl)):=by
  have E:∀ t ∈ Zrj ((Jw l k ns).map tx),t ∈ (Zci d).1:=fun t ht=>by
   obtain ⟨v,N,rfl⟩:=List.mem_map.1 ((W t).1 ht)
   obtain ⟨n,hn,q,i,_,_,rfl⟩:=Ze5.1 N
   refine (H.1 _).2 ⟨Zbs tx n.labels q,?_,rfl⟩
   rw [<- B]
   exact List.mem_flatMap.2 ⟨n,hn,List.mem_map.2 ⟨q,i,rfl⟩⟩
  refine (List.perm_ext_iff_of_nodup ((Ziq L).filter _) ?_).2 fun w=>?_
  ·refine List.pairwise_map.2 (List.Pairwise.imp_of_mem ?_ u1)
   intro a b ha hb D e
   simp only [Prod.mk.injEq,true_and] at e
   exact D (Zw4 (E a ha) (E b hb) (by omega))
  ·rw [List.mem_filter,Zdb,<- P,H.2,List.mem_map,decide_eq_true_eq]
   constructor
   ·rintro ⟨⟨it,hit,l',U,rfl⟩,e⟩
    simp only [Prod.mk.injEq,and_true] at e
    rw [<- B] at hit
    obtain ⟨n,hn,hit⟩:=List.mem_flatMap.1 hit
    obtain ⟨q,i,rfl⟩:=List.mem_map.1 hit
    refine ⟨tx q.2,(W _).2 (List.mem_map.2 ⟨q.2,Ze5.2 ⟨n,hn,q,i,?_,e.2,rfl⟩,rfl⟩),?_⟩
    ·rw [<- e.1];exact U
    ·rw [e.1,e.2];rfl
   ·rintro ⟨t,ht,rfl⟩
    obtain ⟨v,N,rfl⟩:=List.mem_map.1 ((W t).1 ht)
    obtain ⟨n,hn,q,i,f,m,rfl⟩:=Ze5.1 N
    refine ⟨⟨Zbs tx n.labels q,?_,l,f,?_⟩,rfl⟩
    ·rw [<- B]
     exact List.mem_flatMap.2 ⟨n,hn,List.mem_map.2 ⟨q,i,rfl⟩⟩
    ·show _=((l,q.1,0,0),_)
     rw [m];rfl
 rw [S.length_eq,List.length_map]
def Zha (ns:List Zj) (l k:ByteArray):List Zav:=if 0<(Jw l k ns).length then [(l,k,((Jw l k ns).length:Int),((Zih (Jw l k ns)).length:Int))] else []
def Zcd (ns:List Zj) (ls ks:List ByteArray):List Zav:=ls.flatMap fun l=>ks.flatMap fun k=>Zha ns l k
theorem Zej {ns:List Zj} {l k:ByteArray} {x:Zav} (h:x ∈ Zha ns l k):0<(Jw l k ns).length/\x=(l,k,((Jw l k ns).length:Int),((Zih (Jw l k ns)).length:Int)):=by
 unfold Zha at h
 split at h
 ·rename_i f
  exact ⟨f,List.mem_singleton.1 h⟩
 ·cases h
theorem Jdk {x y:Zav} (h:Zc5 x.1 y.1<0):cfK x y<0:=by
 unfold cfK;simp only [orI];rw [if_neg (by omega)];exact h
theorem Jdl {x y:Zav} (f:x.1=y.1) (h:Zc5 x.2.1 y.2.1<0):cfK x y<0:=by
 unfold cfK;simp only [orI];rw [f,if_pos (Zf5 _),if_neg (by omega)];exact h
theorem Zw6 {tx:Zd->ByteArray} {g:Zx} {s:Zak} (h:Zk7 tx g (fun a b=>¬ cfL b a<0) (fun a b=>¬ cfL b a<0) (fun a b=>¬ cfE b a<0) (fun a b=>¬ cfK b a<0) s) (G:∀ n ∈ g.nodes,n.labels.Nodup) (V:(s.keys.map Zic).Nodup) (C:∀ l k,∀ u ∈ Jw l k g.nodes,∀ t ∈ Jw l k g.nodes,Ziy u t=0↔tx u=tx t):s.keys=Zcd g.nodes (Js (Zi g.nodes)) (Js (Za9 g.nodes)):=by
 have F:∀ p ∈ Zds (Zci (Zq tx g.nodes)).2,0<(Jw p.1.1 p.1.2.1 g.nodes).length/\Zr9 (Zbv (Zci (Zq tx g.nodes)).2) p=(p.1.1,p.1.2.1,((Jw p.1.1 p.1.2.1 g.nodes).length:Int),((Zih (Jw p.1.1 p.1.2.1 g.nodes)).length:Int)):=fun p I=>by
  obtain ⟨x,o,z⟩:=Zko I
  have w:=(Zdg _).2.2.2 x o
  have X:p.1=(p.1.1,p.1.2.1,0,0):=Prod.ext rfl (Prod.ext rfl (by rw [z,w]))
  obtain ⟨Y,a2,a3⟩:=Zt4 I
  rw [X] at Y a2
  have a4:p.2=((Jw p.1.1 p.1.2.1 g.nodes).length:Int):=by
   rw [a3,<- Jdj tx G]
   exact Je fun w _=>by rw [<- X]
  have a5:=Zu3 (tx:=tx) (ns:=g.nodes) p.1.1 p.1.2.1 (C _ _)
  refine ⟨by rw [a5] at Y a2;omega,?_⟩
  unfold Zr9
  rw [<- a4,<- a5,<- X]
 refine Zgq (R:=fun a b=>cfK a b<0) (fun a b f m=>by have:=Zzi.2.1 a b;omega) ?_ ?_ fun x=>?_
 ·have K:s.keys.Pairwise fun a b=>Zic a≠Zic b:=List.pairwise_map.1 V
  refine (h.k2.and K).imp fun {a b} hh=>?_
  have Q:=Zzi.2.1 a b
  have h5:cfK a b≠0:=fun e=>hh.2 (by
   have:=Jb8 e
   simp only [Prod.mk.injEq] at this
   exact Prod.ext this.1 (Prod.ext this.2 rfl))
  have:=hh.1
  omega
 ·unfold Zcd
  refine List.pairwise_flatMap.2 ⟨fun l _=>List.pairwise_flatMap.2 ⟨fun k _=>by unfold Zha;split<;>simp,(Zh6 _).imp fun {a b} hab x o y O=>?_⟩,(Zh6 _).imp fun {a b} hab x o y O=>?_⟩
  ·rw [(Zej o).2,(Zej O).2]
   exact Jdl rfl hab
  ·obtain ⟨k1,_,o⟩:=List.mem_flatMap.1 o
   obtain ⟨k2,_,O⟩:=List.mem_flatMap.1 O
   rw [(Zej o).2,(Zej O).2]
   exact Jdk hab
 ·rw [h.k1.mem_iff]
  unfold Zom Zcd
  rw [List.mem_map]
  constructor
  ·rintro ⟨p,I,rfl⟩
   obtain ⟨f,m⟩:=F p I
   rw [m]
   obtain ⟨t,ht⟩:=List.exists_mem_of_length_pos f
   obtain ⟨n,hn,q,i,K,Q,_⟩:=Ze5.1 ht
   refine List.mem_flatMap.2 ⟨p.1.1,(Zei _).2 (List.mem_flatMap.2 ⟨n,hn,K⟩),List.mem_flatMap.2 ⟨p.1.2.1,(Zei _).2 (List.mem_flatMap.2 ⟨n,hn,List.mem_map.2 ⟨q,i,Q⟩⟩),?_⟩⟩
   unfold Zha
   rw [if_pos f]
   exact List.mem_singleton.2 rfl
  ·intro o
   obtain ⟨l,_,o⟩:=List.mem_flatMap.1 o
   obtain ⟨k,_,o⟩:=List.mem_flatMap.1 o
   obtain ⟨f,rfl⟩:=Zej o
   obtain ⟨t,ht⟩:=List.exists_mem_of_length_pos f
   obtain ⟨n,hn,q,i,K,Q,_⟩:=Ze5.1 ht
   have M:((l,k,0,0),(Zbm (tx q.2) (Zci (Zq tx g.nodes)).1:Int)) ∈ (Zci (Zq tx g.nodes)).2:=by
    refine ((Zmo _).2 _).2 ⟨Zbs tx n.labels q,List.mem_flatMap.2 ⟨n,hn,List.mem_map.2 ⟨q,i,rfl⟩⟩,l,K,?_⟩
    show _=((l,q.1,0,0),_)
    rw [Q];rfl
   have hk:=(Zdb (Zci (Zq tx g.nodes)).2 _).2 M
   obtain ⟨c,hc,e⟩:=List.mem_map.1 hk
   have j:((l,k,0,0):Zav) ∈ ((cnt (Zci (Zq tx g.nodes)).2).map fun p=>(p.1.1,p.2)).map Prod.fst:=by
    rw [List.map_map]
    exact List.mem_map.2 ⟨c,hc,by show c.1.1=_;rw [e]⟩
   rw [<- Zbc] at j
   obtain ⟨p,I,e2⟩:=List.mem_map.1 j
   refine ⟨p,I,?_⟩
   rw [(F p I).2,e2]
end Go.Proofs.YthfilnflgahcjaaGreatDoor

namespace Go.Proofs.YthfilnflgahcjaaGreatDoor
open Go.RowKit Go.Shelf
set_option linter.all false
noncomputable def Zl0 (g:Zx):Zak:=⟨g.nodes.length,g.rels.length,(Js (Zi g.nodes)).map fun l=>(l,Zk1 g.nodes l),(Js (g.rels.map fun r=>r.type)).map fun t=>(t,Zh7 g.rels t),Zdo g.nodes g.rels (Js (g.rels.map fun r=>r.type)) (Js (Zi g.nodes)),Zcd g.nodes (Js (Zi g.nodes)) (Js (Za9 g.nodes))⟩
theorem Zd0 {T:Zd} (m:Zbg T=0):Zi7 T=true:=by
 rw [Zto] at m
 by_cases h:Zi7 T=true
 ·exact h
 ·rw [if_neg h] at m;omega
theorem Zut {u t:Zd} (p:Zbg u=0) (ht:Zbg t=0):Ziy u t=0↔txG u=txG t:=by
 constructor
 ·intro h
  rw [Jdf u (Zd0 p) t (Zd0 ht) h]
 ·intro h
  have v:Jk u=Jk t:=by
   have:=congrArg (fun b:ByteArray=>b.data.toList) h
   simpa [txG] using this
  rw [Zwr (Zd0 p) (Zd0 ht) v]
  exact Zwy t (Zk0 ht)
theorem Zhi {g:Zx} (i:Zaz g=true):∀ n ∈ g.nodes,∀ q ∈ n.props,Zbg q.2=0:=by
 simp only [Zaz,Bool.and_eq_true] at i
 obtain ⟨_,_,_,⟨o,_⟩,_⟩:=i
 exact Zdx o
theorem Zo2 {g:Zx} {s:Zak} (m:Jiu g s) (i:Zaz g=true):s=Zl0 g:=by
 have j:=Jaf i
 have hk:=Jec m Zf4 j
 have v:=Zpj hk.ll (f:=Zk1 g.nodes) fun t _=>Zu1 (fun n hn=>(j n hn).1) t
 have z:=Zpj hk.tt (f:=Zh7 g.rels) fun t _=>Zu2 g.rels t
 have y:=Zxj m (fun n hn=>(j n hn).1) hk.en
 have o:=Zw6 m (fun n hn=>(j n hn).1) hk.kn fun l k u p t ht=>by
  obtain ⟨n,hn,q,E,_,_,rfl⟩:=Ze5.1 p
  obtain ⟨D,x,C,w,_,_,rfl⟩:=Ze5.1 ht
  exact Zut (Zhi i n hn q E) (Zhi i D x C w)
 obtain ⟨a,b,c,d,e,f⟩:=s
 simp only at v z y o
 have B:=hk.n
 have A:=hk.r
 simp only at B A
 unfold Zl0
 rw [v,z,y,o,B,A]
end Go.Proofs.YthfilnflgahcjaaGreatDoor

