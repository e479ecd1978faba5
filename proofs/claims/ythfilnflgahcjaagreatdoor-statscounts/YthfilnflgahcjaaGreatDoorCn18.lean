/- Count's third loop: the labels' and the keys' rows. -/
import Derived.Test.YthfilnflgahcjaaGreatDoorJoin38
import Derived.Test.YthfilnflgahcjaaGreatDoorJoin39
import Derived.Test.YthfilnflgahcjaaGreatDoorJoin11
namespace Go.Proofs.YthfilnflgahcjaaGreatDoor
open Go.RowKit Go.Shelf Go.Maps
set_option linter.all false
attribute [local go_sem] Oper.semAt_some
theorem Zd9 {WT:World} {X:Nat} {m m2:Int} {vl vt ve vk:Value} {ls ts:List (ByteArray × Int)} {es:List Zae} {ks:List Zav} {wr:World} (h:CtI WT X m m2 vl vt ve vk ls ts es ks wr) (h0:Rec WT X #[.int .i64 m,.int .i64 m2,.slice none 0 0,.slice none 0 0,.slice none 0 0,.slice none 0 0] 33) {v:Value} {L:List ByteArray} (hs:Zal 1 Zap WT.heap.size WT v L):Zal 1 Zap WT.heap.size wr v L:=by
 obtain ⟨a,c,e,h1,h2,h3⟩:=hs
 refine ⟨a,c,e,h1,h2,h3.imp id fun ⟨bl,off,e1,hb,hc⟩=>⟨bl,off,e1,hb,fun i x hi j u hu=>?_⟩⟩
 have h5:=hc i x hi j u hu
 by_cases hX:bl=X
 ·exfalso
  subst hX
  match j,hu with
  | 0,hu =>
   simp only [Zap,List.getElem?_cons_zero,Option.some.injEq] at hu
   subst hu
   have S:(#[Value.int .i64 m,.int .i64 m2,.slice none 0 0,.slice none 0 0,.slice none 0 0,.slice none 0 0]:Array Value)[off+i*1+0]?=some (.string x):=by
    simpa [World.cell?,show WT.heap[bl]?=_ from h0] using h5
   generalize off+i*1+0=k at S
   match k,S with
   | 0,S=>simp at S
   | 1,S=>simp at S
   | 2,S=>simp at S
   | 3,S=>simp at S
   | 4,S=>simp at S
   | 5,S=>simp at S
   | k+6,S=>simp at S
  | j+1,hu=>simp [Zap] at hu
 ·have h7:=h.f bl hX hb
  rw [<- h5]
  exact World.cell?_of_block (a:=⟨bl,off+i*1+j,none⟩) h7
theorem Je0 {WT:World} {X:Nat} {m m2:Int} (h0:Rec WT X #[.int .i64 m,.int .i64 m2,.slice none 0 0,.slice none 0 0,.slice none 0 0,.slice none 0 0] 33):CtI WT X m m2 (.slice none 0 0) (.slice none 0 0) (.slice none 0 0) (.slice none 0 0) [] [] [] [] WT :=
 ⟨h0,Jo _ _ _ _ _,Jo _ _ _ _ _,Jo _ _ _ _ _,Jo _ _ _ _ _,fun _ _ _=>rfl,Below.refl _ _,Nat.le_refl _,h0.lt⟩
def Zh0 (ns:List Zj) (ls:List ByteArray):List (ByteArray × Int):=ls.map fun l=>(l,Zk1 ns l)
theorem Zzw {ns:List Zj} {ls:List ByteArray} {j:Nat} {l:ByteArray} (h:ls[j]?=some l):Zh0 ns (ls.take (j+1))=Zh0 ns (ls.take j)++[(l,Zk1 ns l)]:=by
 unfold Zh0
 rw [List.take_add_one,h,List.map_append];rfl
def Zdm (ns:List Zj) (l:ByteArray) (ks:List ByteArray):List Zav:=ks.flatMap fun k=>Zha ns l k
theorem Zzx {ns:List Zj} {l:ByteArray} {ks:List ByteArray} {j:Nat} {k:ByteArray} (h:ks[j]?=some k):Zdm ns l (ks.take (j+1))=Zdm ns l (ks.take j)++Zha ns l k:=by
 unfold Zdm
 rw [List.take_add_one,h,List.flatMap_append];simp
theorem Zzy {ns:List Zj} {ls ks:List ByteArray} {j:Nat} {l:ByteArray} (h:ls[j]?=some l) (k:Nat):(Zcd ns (ls.take j) ks++Zdm ns l (ks.take k)).length<=(Zcd ns ls ks).length:=by
 have h1:Zcd ns ls ks=Zcd ns (ls.take j) ks++Zdm ns l (ks.take k)++(Zdm ns l (ks.drop k)++Zcd ns (ls.drop (j+1)) ks):=by
  have e1:ls=ls.take j++l::ls.drop (j+1):=by
   obtain ⟨hj,he⟩:=List.getElem?_eq_some_iff.1 h
   rw [<- he,<- List.drop_eq_getElem_cons hj,List.take_append_drop]
  have e2:Zdm ns l ks=Zdm ns l (ks.take k)++Zdm ns l (ks.drop k):=by
   unfold Zdm
   rw [<- List.flatMap_append,List.take_append_drop]
  conv=>lhs;rw [e1]
  unfold Zcd
  rw [List.flatMap_append,List.flatMap_cons,show (ks.flatMap fun k=>Zha ns l k)=Zdm ns l ks from rfl,e2]
  simp only [List.append_assoc]
 rw [h1]
 generalize Zcd ns (ls.take j) ks++Zdm ns l (ks.take k)=A
 rw [List.length_append]
 omega
theorem Zey {B:Nat} {w:World} {bl off n c:Nat} {L:List ByteArray} (h:Zal 1 Zap B w (.slice (some ⟨bl,off,none⟩) n c) L) {j:Nat} {x:ByteArray} (hj:L[j]?=some x):w.cell? ⟨bl,off+j,none⟩=some (.string x)/\bl<B:=by
 obtain ⟨a,c',e,_,_,hc⟩:=h
 injection e with e1 e2 e3
 obtain ⟨bl',off',h1,h2,h3⟩:=hc.resolve_left (by intro e;rw [e] at hj;simp at hj)
 rw [h1] at e1
 injection e1 with e1
 injection e1 with e4 e5
 subst e4;subst e5
 have:=h3 j x hj 0 _ rfl
 rw [Nat.mul_one,Nat.add_zero] at this
 exact ⟨this,h2⟩
theorem Zzz {ns:List Zj} {ls ks:List ByteArray} {j:Nat} {l:ByteArray} (h:ls[j]?=some l):Zcd ns (ls.take (j+1)) ks=Zcd ns (ls.take j) ks++Zdm ns l ks:=by
 unfold Zcd Zdm
 rw [List.take_add_one,h,List.flatMap_append];simp
set_option maxRecDepth 100000 in
set_option maxHeartbeats 16000000 in
theorem Jda (g:Zx) (B m m2 nc rc:Nat) (na ra:Option Addr) (nn nr:Int) (w W3:World) (va vb vc:Value) (o d L3:List ByteArray) (u7 u8 u9 Y7 u11 u12 X8 u14 u15 u16 u17 u18 u19 Y8 X1 X5 u23 u24 u25 Y1 u27 u28 u29 u30 u31 u32 u33 u34 W9 X4 u37 u38 u39 u40 u41 u42 u43 u44 u45 u46 u47 u48 u49 u50 u51 u52 u53 u54 u55 u56 X6 u58 X3 u60 u61 u62 u63 u64 Y4 u66 u67 Y3 u69 u70 u71 X0 u73 u74 u75 W6 u77 u78 u79 u80 u81 u82 u83 u84 u85 Y5 u87 X7 u89 u90 u91 u92 u93 u94 u95 u96 u97 u98 u99 K1 H1 M6 P3 L5 P4 Q0 K9 M1 V0 G2 V4 T7 V7 K5 S3 I4 U3 L0 W2 K0 I3 Q7 H3 U2 O7 G4 L7 W1 P9 K2 O3 U1 G5 H7 L8 U8 V5 H4 S2 S8 K7 N2 V9 R7 R0 Q4 N1 M8 N3 U7 V1 K4 S1 Q9 T3 S0 T5 R4 Q1 H6 H5 O4 M5 P7 R3 G8 I6 I0 T6 K8 M7 G3 U4 U6 U0 L4 R8 V3 R1 G1 O6 F8 N8 I9 S5 K3 O2 O1 Q2 R9 O0 Q3 P1 H9 S9 N7 P0 U9 R6 S7 R5 I2 H2 T9 M0 F9 T0 Q5 W0 V2 V8 V6 P2 Q6 H0 S6 F7 L6 P6 R2 N5 P5 T4 O8 I7:Value) (wx:World) (C:Hid (Jgg g B m m2 nc rc na ra nn nr w W3)) (R:Hid (TyI W3 va vb vc o d L3 wx)) (hL:o.length<=100000/\d.length<=100000) (hrk:(Zcd g.nodes o d).length<=900000)
  (Q:Exit->Act->World->Prop) (K:Act->World->Prop) (hK:∀ (v7 v8 v9 A3 D8 v3 z7 F3 x6 t1 t8 x5 z4 u5 v5 C7 A7 y4 D6 E5 D2 y7 A6 F2 D9 C9 y9 C4 E4 u6 t6 w2 w9 B5 A0 u2 y5 z9 x0 B6 C2 x2 A9 v1 B9 x1 u3 z5 z8 E1 t3 v2 B4 t9 C5 A2 x8 u0 w5 F0 C8 E7 u1 v4 B0 F4 w8 v6 D3 t7 D0 E6 z6 E8 A5 C3 x4 w6 t4 B1 E9 A8 x9 C6 F5 F1 x3 x7 t2 B7 C0 A1 E0 g6 h4 p9 n3 l3 j9 i6 k0 b8 a3 r3 c7 m4 m9 i2 m7 i4 d0 d3 a4 m5 a8 k6 f8 k1 o3 l2 n5 e7 m0 b5 e9 l5 p0 k9 d2 m1 l1 a9 c1 i5 j7 q5 a5 j6 d9 d6 q6 c8 d4 r1 f6 j3 m6 h9 i9 c4 q9 l8 n7 a7 o0 j4 c9 j0 l6 p7 b1 g5 b2 i1 d8 p6 j1 o4 j5 d7 f7 c5 n4 j8 o2 n8 b7 o8 n1 n9 h8 o5 p5 q4 k8 f9 m8 d5 k2 i3 o9 c3 g7 l4 o1 r2 g4 g2 l7 b4 n0 k3 g9 l0 p8 o6 b0 q8 g3 b9 r0 b6 i7 i8 n6 k5 g8 k4 c2:Value) (w':World),(∃ vl vk,CtI wx (w.heap.size+2) m m2 vl (.slice none 0 0) (.slice none 0 0) vk (Zh0 g.nodes o) [] [] (Zcd g.nodes o d) w')->K { tmps:=#[.agg #[.slice na m nc,.slice ra m2 rc,.int .i64 nn,.int .i64 nr],.pointer (some ⟨w.heap.size,0,none⟩),.pointer (some ⟨w.heap.size+1,0,none⟩),.pointer (some ⟨w.heap.size+2,0,none⟩),va,vc,vb,v7,v8,v9,A3,D8,v3,z7,F3,x6,t1,t8,x5,z4,u5,v5,C7,A7,y4,D6,E5,D2,y7,A6,F2,D9,C9,y9,C4,E4,u6,t6,w2,w9,B5,A0,u2,y5,z9,x0,B6,C2,x2,A9,v1,B9,x1,u3,z5,z8,E1,t3,v2,B4,t9,C5,A2,x8,u0,w5,F0,C8,E7,u1,v4,B0,F4,w8,v6,D3,t7,D0,E6,z6,E8,A5,C3,x4,w6,t4,B1,E9,A8,x9,C6,F5,F1,x3,x7,t2,B7,C0,A1,E0,g6,h4,p9,n3,l3,j9,i6,k0,b8,a3,r3,c7,m4,m9,i2,m7,i4,d0,d3,a4,m5,a8,k6,f8,k1,o3,l2,n5,e7,m0,b5,e9,l5,p0,k9,d2,m1,l1,a9,c1,i5,j7,q5,a5,j6,d9,d6,q6,c8,d4,r1,f6,j3,m6,h9,i9,c4,q9,l8,n7,a7,o0,j4,c9,j0,l6,p7,b1,g5,b2,i1,d8,p6,j1,o4,j5,d7,f7,c5,n4,j8,o2,n8,b7,o8,n1,n9,h8,o5,p5,q4,k8,f9,m8,d5,k2,i3,o9,c3,g7,l4,o1,r2,g4,g2,l7,b4,n0,k3,g9,l0,p8,o6,b0,q8,g3,b9,r0,b6,i7,i8,n6,k5,g8,k4,c2],defers:=[] } w') :
  (Zun 18 (Tryz.f15.body.getD .skip)).wp Tryz.prog (Exit.then K Q) { tmps:=#[.agg #[.slice na m nc,.slice ra m2 rc,.int .i64 nn,.int .i64 nr],.pointer (some ⟨w.heap.size,0,none⟩),.pointer (some ⟨w.heap.size+1,0,none⟩),.pointer (some ⟨w.heap.size+2,0,none⟩),va,vc,vb,u7,u8,u9,Y7,u11,u12,X8,u14,u15,u16,u17,u18,u19,Y8,X1,X5,u23,u24,u25,Y1,u27,u28,u29,u30,u31,u32,u33,u34,W9,X4,u37,u38,u39,u40,u41,u42,u43,u44,u45,u46,u47,u48,u49,u50,u51,u52,u53,u54,u55,u56,X6,u58,X3,u60,u61,u62,u63,u64,Y4,u66,u67,Y3,u69,u70,u71,X0,u73,u74,u75,W6,u77,u78,u79,u80,u81,u82,u83,u84,u85,Y5,u87,X7,u89,u90,u91,u92,u93,u94,u95,u96,u97,u98,u99,K1,H1,M6,P3,L5,P4,Q0,K9,M1,V0,G2,V4,T7,V7,K5,S3,I4,U3,L0,W2,K0,I3,Q7,H3,U2,O7,G4,L7,W1,P9,K2,O3,U1,G5,H7,L8,U8,V5,H4,S2,S8,K7,N2,V9,R7,R0,Q4,N1,M8,N3,U7,V1,K4,S1,Q9,T3,S0,T5,R4,Q1,H6,H5,O4,M5,P7,R3,G8,I6,I0,T6,K8,M7,G3,U4,U6,U0,L4,R8,V3,R1,G1,O6,F8,N8,I9,S5,K3,O2,O1,Q2,R9,O0,Q3,P1,H9,S9,N7,P0,U9,R6,S7,R5,I2,H2,T9,M0,F9,T0,Q5,W0,V2,V8,V6,P2,Q6,H0,S6,F7,L6,P6,R2,N5,P5,T4,O8,I7],defers:=[] } wx:=by
 have HK:Hid (∀ (v7 v8 v9 A3 D8 v3 z7 F3 x6 t1 t8 x5 z4 u5 v5 C7 A7 y4 D6 E5 D2 y7 A6 F2 D9 C9 y9 C4 E4 u6 t6 w2 w9 B5 A0 u2 y5 z9 x0 B6 C2 x2 A9 v1 B9 x1 u3 z5 z8 E1 t3 v2 B4 t9 C5 A2 x8 u0 w5 F0 C8 E7 u1 v4 B0 F4 w8 v6 D3 t7 D0 E6 z6 E8 A5 C3 x4 w6 t4 B1 E9 A8 x9 C6 F5 F1 x3 x7 t2 B7 C0 A1 E0 g6 h4 p9 n3 l3 j9 i6 k0 b8 a3 r3 c7 m4 m9 i2 m7 i4 d0 d3 a4 m5 a8 k6 f8 k1 o3 l2 n5 e7 m0 b5 e9 l5 p0 k9 d2 m1 l1 a9 c1 i5 j7 q5 a5 j6 d9 d6 q6 c8 d4 r1 f6 j3 m6 h9 i9 c4 q9 l8 n7 a7 o0 j4 c9 j0 l6 p7 b1 g5 b2 i1 d8 p6 j1 o4 j5 d7 f7 c5 n4 j8 o2 n8 b7 o8 n1 n9 h8 o5 p5 q4 k8 f9 m8 d5 k2 i3 o9 c3 g7 l4 o1 r2 g4 g2 l7 b4 n0 k3 g9 l0 p8 o6 b0 q8 g3 b9 r0 b6 i7 i8 n6 k5 g8 k4 c2:Value) (w':World),(∃ vl vk,CtI wx (w.heap.size+2) m m2 vl (.slice none 0 0) (.slice none 0 0) vk (Zh0 g.nodes o) [] [] (Zcd g.nodes o d) w')->Exit.then K Q .normal { tmps:=#[.agg #[.slice na m nc,.slice ra m2 rc,.int .i64 nn,.int .i64 nr],.pointer (some ⟨w.heap.size,0,none⟩),.pointer (some ⟨w.heap.size+1,0,none⟩),.pointer (some ⟨w.heap.size+2,0,none⟩),va,vc,vb,v7,v8,v9,A3,D8,v3,z7,F3,x6,t1,t8,x5,z4,u5,v5,C7,A7,y4,D6,E5,D2,y7,A6,F2,D9,C9,y9,C4,E4,u6,t6,w2,w9,B5,A0,u2,y5,z9,x0,B6,C2,x2,A9,v1,B9,x1,u3,z5,z8,E1,t3,v2,B4,t9,C5,A2,x8,u0,w5,F0,C8,E7,u1,v4,B0,F4,w8,v6,D3,t7,D0,E6,z6,E8,A5,C3,x4,w6,t4,B1,E9,A8,x9,C6,F5,F1,x3,x7,t2,B7,C0,A1,E0,g6,h4,p9,n3,l3,j9,i6,k0,b8,a3,r3,c7,m4,m9,i2,m7,i4,d0,d3,a4,m5,a8,k6,f8,k1,o3,l2,n5,e7,m0,b5,e9,l5,p0,k9,d2,m1,l1,a9,c1,i5,j7,q5,a5,j6,d9,d6,q6,c8,d4,r1,f6,j3,m6,h9,i9,c4,q9,l8,n7,a7,o0,j4,c9,j0,l6,p7,b1,g5,b2,i1,d8,p6,j1,o4,j5,d7,f7,c5,n4,j8,o2,n8,b7,o8,n1,n9,h8,o5,p5,q4,k8,f9,m8,d5,k2,i3,o9,c3,g7,l4,o1,r2,g4,g2,l7,b4,n0,k3,g9,l0,p8,o6,b0,q8,g3,b9,r0,b6,i7,i8,n6,k5,g8,k4,c2],defers:=[] } w'):=hK
 clear hK
 obtain ⟨QQ,hQ⟩:∃ QQ,Exit.then K Q=QQ:=⟨_,rfl⟩
 rw [hQ] at HK |-
 clear hQ Q K
 have HM:=Za (And.intro C.out.hm C.out.hm2)
 have HN:=Za C.out.hn
 have HR:=Za C.out.hr
 have r9:=Za C.out.rg
 have Y6:=Za C.out.b3
 have hB:=C.out.hB
 have hm60:=C.out.m60
 have Y0:=C.out.m60'
 conv =>
  arg 2
  whnf
 obtain ⟨xs,P8,S4,hxs⟩:=Zk6 HN.out
 obtain ⟨xa,xc,T8,hx1,hx2,M9⟩:=hxs
 obtain ⟨rfl,k7,rfl⟩:na=xa/\m=xs.length/\nc=xc:=by injection T8 with a b c;exact ⟨a,b,c⟩
 have HX3:=Za M9
 have HXI:=Za (And.intro P8 S4)
 have X9:=Za k7
 rw [<- k7] at hx1
 clear P8 S4 M9 T8 k7
 have U:=Za (C.out.rx.below R.out.i.b C.out.rx.lt)
 have HCT:=Za (Je0 U.out)
 obtain ⟨X2,lc0,hva,hv1,hv2,-⟩:=R.out.i.s1
 subst hva
 obtain ⟨ka0,kc0,hvb,hw1,hw2,-⟩:=R.out.i.s2
 subst hvb
 have w1:=Za R.out.i.s1
 have y8:=Za R.out.i.s2
 have I8:=Za (Below.on Y6.out R.out.i.b)
 obtain ⟨nl,C1⟩:∃ n,o.length=n:=⟨_,rfl⟩
 obtain ⟨nk,E3⟩:∃ n,d.length=n:=⟨_,rfl⟩
 have Y:=Za (And.intro C1 E3)
 rw [C1] at w1 hv1 HK |-
 rw [E3] at y8 hw1 HK |-
 have hnl0:nl<=100000:=by have:=hL.1;omega
 have hnk0:nk<=100000:=by have:=hL.2;omega
 clear C1 E3 hL
 have N9:w.heap.size<w.heap.size+2:=by omega
 go_wp2_with fail
 go_loopw [11] (fun i wr=>∃ (j:Nat) (vl vk:Value),j<=nl/\i=.int .i64 j/\CtI wx (w.heap.size+2) m m2 vl (.slice none 0 0) (.slice none 0 0) vk (Zh0 g.nodes (o.take j)) [] [] (Zcd g.nodes (o.take j) d) wr) (fun i _=>nl - (intOf i).toNat)
 case atStart=>exact ⟨0,_,_,Nat.zero_le _,rfl,HCT.out⟩
 case round =>
  obtain ⟨j,vl,vk,hj,rfl,V⟩:=hrel
  have HI:=Za V
  have s3:Hid (Below w.heap.size w wr):=I8.out.trans (V.b.mono (by omega))
  have T:=Za ((r9.out.below R.out.i.b r9.out.lt).below V.b N9)
  have F6:=Za (Zd9 V U.out w1.out)
  have E2:=Za (Zd9 V U.out y8.out)
  clear V
  by_cases hlt:j<nl
  ·have I1:(j:Int)<nl:=by omega
   obtain ⟨l,hl⟩:∃ q,o[j]?=some q:=⟨_,List.getElem?_eq_getElem (by have:=Y.out.1;omega)⟩
   obtain ⟨a0,D4,e0,_,_,l9⟩:=F6.out
   obtain ⟨rfl,rfl⟩:X2=a0/\lc0=D4:=by injection e0 with a b c;exact ⟨a,c⟩
   clear e0
   obtain ⟨bo,oo,rfl,I5,T1⟩:=l9.resolve_left (by intro e;rw [e] at hl;simp at hl)
   have cl:wr.cell? ⟨bo,oo+j,none⟩=some (.string l):=by
    have:=T1 j _ hl 0 _ rfl
    rwa [Nat.mul_one,Nat.add_zero] at this
   have s5:=Za (And.intro cl I5)
   have G9:=Za hl
   have HV1:=Za (Zzw (ns:=g.nodes) hl)
   have HV2:=Za (Zzz (ns:=g.nodes) (ks:=d) hl)
   obtain ⟨wj,hwj⟩:∃ W,W=wr:=⟨_,rfl⟩
   subst hwj
   clear hl l9 T1 cl I5
   go_wp2_with fail
   go_loopw [13,12] (fun i n wr=>∃ (k:Nat),k<=m/\i=.int .i64 k/\n=.int .i64 (Zk1 (g.nodes.take k) l)/\Below wj.heap.size wj wr) (fun i _ _=>m - (intOf i).toNat)
   case atStart=>exact ⟨0,Nat.zero_le _,rfl,by rw [List.take_zero];rfl,Below.refl _ _⟩
   case round =>
    obtain ⟨k,hk,rfl,rfl,r6⟩:=hrel
    have n2:=Za r6
    have u4:=Za (Below.on s3.out r6)
    have O9:=Za (T.out.below r6 T.out.lt)
    have c0:=O9.out.cell 0 rfl
    clear r6
    obtain ⟨NN,s0⟩:∃ N,Zk1 (g.nodes.take k) l=N:=⟨_,rfl⟩
    have s4:=Za s0
    have hN0:0<=NN/\NN<=k:=by
     rw [<- s0]
     unfold Zk1
     have a1:=Zdr (f:=fun n:Zj=>if Zdj l n.labels=true then (1:Int) else 0) (l:=g.nodes.take k) fun _ _=>Zqj
     have a2:=Zem (f:=fun n:Zj=>if Zdj l n.labels=true then (1:Int) else 0) (c:=1) (l:=g.nodes.take k) fun _ _=>Jcw
     rw [List.length_take] at a2
     omega
    rw [s0]
    clear s0
    by_cases hlk:k<m
    ·have e8:(k:Int)<m:=by omega
     obtain ⟨n,hn⟩:∃ n,g.nodes[k]?=some n:=⟨_,List.getElem?_eq_getElem (by have:=HM.out.1;omega)⟩
     obtain ⟨⟨xi,⟨la,ln,lc⟩,⟨pa,pn,pc⟩⟩,O⟩:∃ x,xs[k]?=some x:=⟨_,List.getElem?_eq_getElem (by have:=X9.out;omega)⟩
     obtain ⟨-,t0,s8,y6,W4⟩:=HXI.out.2 k n _ hn O
     simp only at t0 s8 y6 W4
     subst t0
     have U5:Zal 1 Zap B w (.slice la n.labels.length lc) n.labels:=Zie y6 s8
     obtain ⟨bl,off,rfl,G7,hc⟩:=HX3.out.resolve_left (by intro e;rw [e] at O;simp at O)
     have HD:Hid (∀ W,Below w.heap.size w W->W.cell? ⟨bl,off+k*3+1,none⟩=some (.slice la n.labels.length lc)/\W.cell? ⟨bl,off+k*3+2,none⟩=some (.slice pa pn pc)):=fun W hb=>⟨((hb.mono hB).cell (p:=⟨bl,off+k*3+1,none⟩) G7).trans (hc k _ O 1 _ rfl),((hb.mono hB).cell (p:=⟨bl,off+k*3+2,none⟩) G7).trans (hc k _ O 2 _ rfl)⟩
     obtain ⟨hb,B3⟩:∃ b,Zdj l n.labels=b:=⟨_,rfl⟩
     have N0:Hid (Zk1 (g.nodes.take (k+1)) l=NN+if hb=true then 1 else 0):=by
      show _=_
      unfold Zk1 at s4 |-
      rw [Zll hn,s4.out,B3]
     have M2:Hid (∀ W,Below wr.heap.size wr W->Calls Tryz.prog 49 #[.slice la n.labels.length lc,.string l] W fun e w'=>e=.returned (.bool hb)/\Below W.heap.size W w'):=fun W r4=>by
      have h:=(Znn n.labels l _ B W (U5.keep ((Below.on u4.out r4).mono hB))).mono fun e w' hh=>(⟨hh.1,by rw [hh.2];exact Below.refl _ _⟩:e=.returned (.bool (Zdj l n.labels))/\Below W.heap.size W w')
      rwa [B3] at h
     have f0:∀ u:Up wr,u.x.cell? ⟨w.heap.size,0,none⟩=some (.slice (some ⟨bl,off,none⟩) m nc):=fun u=>u.cell c0
     have f1:∀ u:Up wr,u.x.cell? ⟨bl,off+k*3+1,none⟩=some (.slice la n.labels.length lc):=fun u=>u.cell (HD.out wr u4.out).1
     have f2:∀ u:Up wr,u.x.cell? ⟨bo,oo+j,none⟩=some (.string l):=fun u=>u.cell ((n2.out.cell (p:=⟨bo,oo+j,none⟩) (Nat.lt_of_lt_of_le s5.out.2 HI.out.z)).trans s5.out.1)
     have D:Nonempty (Up wr):=⟨⟨wr,Below.refl _ _⟩⟩
     clear hn O y6 W4 hc B3 U5
     go_upto_region 25 with fail
     refine Zed (by kernel_rfl) (by kernel_rfl) ?_
     repeat (go_big_quiet_step (first | (go_at_call 49;exact Up.call (M2.out _ (Up.b _)))))
     refine wpQuiet_nil ?_
     rintro w7 ⟨⟨W7,L9⟩,rfl⟩
     have M4:=Za (Below.on n2.out L9)
     clear f0 f1 f2 D L9 M2 c0
     cases hb with
     | true =>
      go_wp2_with fail
      go_roundw
      case rel=>exact ⟨k+1,by omega,by go_num,by rw [N0.out];rfl,M4.out⟩
      case measure=>simp [intOf];omega
     | false =>
      go_wp2_with fail
      go_roundw
      case rel=>exact ⟨k+1,by omega,by go_num,by rw [N0.out];simp,M4.out⟩
      case measure=>simp [intOf];omega
    ·have e8:¬ (k:Int)<m:=by omega
     have HQ:Hid (Zk1 g.nodes l=NN):=by show _=_;rw [<- s4.out,List.take_of_length_le (by have:=HM.out.1;omega)]
     have M:=Za (HI.out.up n2.out)
     go_upto_region 27 with fail
     obtain ⟨D7,B8,K6⟩:=M.out.l.slice
     have v0:(Zh0 g.nodes (o.take j)).length=j:=by unfold Zh0;rw [List.length_map,List.length_take];have:=Y.out.1;omega
     rw [v0] at K6
     subst K6
     have T2:=Za v0
     obtain ⟨t5,D5,j2⟩:=M.out.k.slice
     obtain ⟨rk1,H⟩:∃ n,(Zcd g.nodes (o.take j) d).length=n:=⟨_,rfl⟩
     rw [H] at j2
     subst j2
     have r7:w.heap.size+2<wx.heap.size:=U.out.lt
     have Y2:wx.heap.size<=wr.heap.size:=M.out.z
     have e0:=M.out.r.cell 2 (v:=.slice D7 j B8) rfl
     have e1:wr.cell? ⟨bo,oo+j,none⟩=some (.string l):=(n2.out.cell (p:=⟨bo,oo+j,none⟩) (Nat.lt_of_lt_of_le s5.out.2 HI.out.z)).trans s5.out.1
     have f0:∀ u:Up wr.drew,u.x.cell? ⟨w.heap.size+2,2,none⟩=some (.slice D7 j B8):=fun u=>u.cell e0
     have f1:∀ u:Up wr.drew,u.x.cell? ⟨bo,oo+j,none⟩=some (.string l):=fun u=>u.cell e1
     have D:Nonempty (Up wr.drew):=⟨⟨wr.drew,Below.refl _ _⟩⟩
     clear v0 H e0 e1
     have F:Hid (Below wr.heap.size wr (wr.drew.alloc (.cells #[.string l,.int .i64 NN] 42))):=((Below.refl _ wr).drew).trans (Zc wr.drew _)
     obtain ⟨v',W',p1,p2,p3,p4⟩:=Jd (t:=28) (ty:=28) (c:=1) (bl:=wr.heap.size) (off:=0) (x:=((l,NN):ByteArray × Int)) Ztq (fun _=>rfl) Zf9 (M.out.l.below F.out) (fun jj u hu=>by
      rw [Nat.zero_add];exact Zh wr.drew _ _ _ _ (by simpa [Za0] using hu)) (by rw [T2.out];omega) (by have:=F.out.size;omega)
     have HN:=Za (M.out.lab F.out p2 p3 p4)
     have O:Zh0 g.nodes (o.take j)++[(l,NN)]=Zh0 g.nodes (o.take (j+1)):=by rw [HV1.out,HQ.out]
     rw [O] at HN p2
     have N6:(Zh0 g.nodes (o.take (j+1))).length=j+1:=by unfold Zh0;rw [List.length_map,List.length_take];have:=Y.out.1;omega
     obtain ⟨a6,c6,q7⟩:=p2.slice
     rw [N6] at q7
     subst q7
     have r8:=(M.out.r.below F.out M.out.r.lt).below p3 r7
     have y0:=r8.cell 2 (v:=.slice D7 j B8) rfl
     have fz:=r8.z 2
     have HP3:=Za p3
     clear O N6 p2 p3 p4 r8 HI M
     refine Ze9 [([0,1,2,3,4,5,6,7],8)] [] [9,10,11] (by kernel_rfl) (by kernel_rfl) ?_
     simp only [Zb9,Zcp,Zac,Zbn,Zb5]
     repeat (go_big_quiet_step (fail))
     refine wpQuiet_nil ?_
     go_wp2_with fail
     first | refine ⟨rfl,Zc wr.drew _,wpQuiet_nil ?_⟩ | refine ⟨Zc wr.drew _,wpQuiet_nil ?_⟩
     clear f0 f1 D
     go_wp2_with (at_builtin;refine Lib.wpList_append_run _ rfl _ _ _ _ rfl _ _ rfl rfl _ _ p1 ?_)
     obtain ⟨W8,G6⟩:∃ W,W'.setCell ⟨w.heap.size+2,2,none⟩ (.slice a6 (j+1) c6)=W:=⟨_,rfl⟩
     rw [G6] at HN |-
     clear G6 p1 y0 fz HP3 F T2 s4 HQ n2 u4 O9 hN0 r7 Y2 c0
     go_loopw [14] (fun i wr=>∃ (k:Nat) (vl vk:Value),k<=nk/\i=.int .i64 k/\CtI wx (w.heap.size+2) m m2 vl (.slice none 0 0) (.slice none 0 0) vk (Zh0 g.nodes (o.take (j+1))) [] [] (Zcd g.nodes (o.take j) d++Zdm g.nodes l (d.take k)) wr) (fun i _=>nk - (intOf i).toNat)
     case atStart=>exact ⟨0,_,_,Nat.zero_le _,rfl,by rw [List.take_zero,show Zdm g.nodes l []=[] from rfl,List.append_nil];exact HN.out⟩
     case round =>
      clear HN
      obtain ⟨k,vl,vk,hk,rfl,V⟩:=hrel
      have HI:=Za V
      have s3:Hid (Below w.heap.size w wr):=I8.out.trans (V.b.mono (by omega))
      have T:=Za ((r9.out.below R.out.i.b r9.out.lt).below V.b N9)
      have F6:=Za (Zd9 V U.out w1.out)
      have E2:=Za (Zd9 V U.out y8.out)
      obtain ⟨t5,D5,j2⟩:=V.k.slice
      obtain ⟨rk,H⟩:∃ n,(Zcd g.nodes (o.take j) d++Zdm g.nodes l (d.take k)).length=n:=⟨_,rfl⟩
      rw [H] at j2
      subst j2
      have HRK:=Za H
      clear V H
      by_cases hlk:k<nk
      ·have e8:(k:Int)<nk:=by omega
       obtain ⟨t,ht⟩:∃ q,d[k]?=some q:=⟨_,List.getElem?_eq_getElem (by have:=Y.out.2;omega)⟩
       obtain ⟨a0,D4,e0,_,_,l9⟩:=E2.out
       obtain ⟨rfl,rfl⟩:ka0=a0/\kc0=D4:=by injection e0 with a b c;exact ⟨a,c⟩
       clear e0
       obtain ⟨bk,ok,rfl,hbk,hck⟩:=l9.resolve_left (by intro e;rw [e] at ht;simp at ht)
       have g1:wr.cell? ⟨bk,ok+k,none⟩=some (.string t):=(Zey E2.out ht).1
       have g0:wr.cell? ⟨bo,oo+j,none⟩=some (.string l):=(Zey F6.out G9.out).1
       have N4:=Za (Zzx (ns:=g.nodes) (l:=l) ht)
       have HLE:=Za (Nat.le_trans (Zzy (ns:=g.nodes) (ks:=d) G9.out k) hrk)
       obtain ⟨nv,A4⟩:∃ n,(Jw l t g.nodes).length=n:=⟨_,rfl⟩
       obtain ⟨no,D1⟩:∃ n,(Zih (Jw l t g.nodes)).length=n:=⟨_,rfl⟩
       have o7:Hid (Zha g.nodes l t=if 0<nv then [(l,t,(nv:Int),(no:Int))] else []):=by show _=_;unfold Zha;rw [A4,D1]
       have HVV:Hid ((Jw l t g.nodes).length<=100000):=C.out.vv l t
       have s6:Hid (∀ W,Below wr.heap.size wr W->Calls Tryz.prog 50 #[.agg #[.slice na m nc,.slice ra m2 rc,.int .i64 nn,.int .i64 nr],.string l,.string t] W fun e w'=>e=.returned (.agg #[.string l,.string t,.int .i64 nv,.int .i64 no])/\Below W.heap.size W w'):=fun W r4=>by
        have hb:=(Below.on s3.out r4).mono hB
        have h:=Zp5 g l t _ B W (Nat.le_trans hB (Below.on s3.out r4).size) (Zp.below hb C.out.hg) (by have:=C.out.hm;omega) C.out.kn HVV.out
        rwa [A4,D1] at h
       have q0:=T.out.cell 0 rfl
       have q1:=T.out.cell 1 rfl
       have q2:=T.out.cell 2 rfl
       have q3:=T.out.cell 3 rfl
       have f0:∀ u:Up wr.drew,u.x.cell? ⟨w.heap.size,0,none⟩=some (.slice na m nc):=fun u=>u.cell q0
       have f1:∀ u:Up wr.drew,u.x.cell? ⟨w.heap.size,1,none⟩=some (.slice ra m2 rc):=fun u=>u.cell q1
       have f2:∀ u:Up wr.drew,u.x.cell? ⟨w.heap.size,2,none⟩=some (.int .i64 nn):=fun u=>u.cell q2
       have f3:∀ u:Up wr.drew,u.x.cell? ⟨w.heap.size,3,none⟩=some (.int .i64 nr):=fun u=>u.cell q3
       have f4:∀ u:Up wr.drew,u.x.cell? ⟨bk,ok+k,none⟩=some (.string t):=fun u=>u.cell g1
       have f5:∀ u:Up wr.drew,u.x.cell? ⟨bo,oo+j,none⟩=some (.string l):=fun u=>u.cell g0
       have D:Nonempty (Up wr.drew):=⟨⟨wr.drew,Below.refl _ _⟩⟩
       have g0':wr.drew.cell? ⟨bk,ok+k,none⟩=some (.string t):=g1
       clear ht l9 hck A4 D1 q0 q1 q2 q3 g0 hbk
       go_upto_region 31 with fail
       refine Jha [0,1,2,3,4,5,6,7] 8 9 10 [11] (by kernel_rfl) (by kernel_rfl) ?_
       simp only [Zac,Zbn,Zb5]
       repeat (go_big_quiet_step (fail))
       refine wpQuiet_nil ?_
       refine ⟨fun x y z w3=>x=.string t/\y=.agg #[.string l,.string t,.int .i64 nv,.int .i64 no]/\∃ q,z=.pointer (some ⟨q,0,none⟩)/\wr.heap.size<=q/\Rec w3 q #[.string ⟨#[]⟩,.string ⟨#[]⟩,.int .i64 0,.int .i64 0] 66,?_,?_,?_⟩
       ·simp only [Zhx,Zac,Zbn,Option.bind]
        go_wp2_with fail
        refine ⟨rfl,Below.refl _ _,?_,?_⟩
        ·go_wp2_with (go_at_call 50;refine (s6.out wr.drew (Below.refl _ wr).drew).mono ?_;rintro e wa ⟨rfl,G⟩;try dsimp only)
         have P:Hid (Below wr.heap.size wr.drew wa):=G
         clear G
         refine ⟨rfl,P.out,?_⟩
         go_wp2_with fail
         exact ⟨rfl,P.out.alloc P.out.size _,_,_,_,rfl,rfl,rfl,_,rfl,P.out.size,Zk _ _ _⟩
        ·go_wp2_with fail
         obtain ⟨Z,hZ⟩:∃ Z,(wr.alloc (.cells #[.string ⟨#[]⟩,.string ⟨#[]⟩,.int .i64 0,.int .i64 0] 66)).drew=Z:=⟨_,rfl⟩
         have e6:Below wr.heap.size wr.drew Z:=by rw [<- hZ];exact Zc wr.drew _
         have d1:Rec Z wr.heap.size #[.string ⟨#[]⟩,.string ⟨#[]⟩,.int .i64 0,.int .i64 0] 66:=by rw [<- hZ];exact Zk wr _ _
         rw [hZ]
         have s:=Za e6
         have i0:=Za d1
         clear e6 d1 hZ
         refine ⟨rfl,s.out,?_⟩
         go_wp2_with (go_at_call 50;refine (s6.out Z ((Below.refl _ wr).drew.trans s.out)).mono ?_;rintro e wa ⟨rfl,G⟩;try dsimp only)
         have P:Hid (Below wr.heap.size wr.drew wa):=s.out.trans (G.mono s.out.size)
         have B2:=Za (i0.out.below G i0.out.lt)
         clear G
         exact ⟨rfl,P.out,_,_,_,rfl,rfl,rfl,_,rfl,Nat.le_refl _,B2.out⟩
       ·simp only [Zhx,Zac,Zbn,Option.bind]
        go_wp2_with fail
        obtain ⟨Z,hZ⟩:∃ Z,(wr.alloc (.cells #[.string ⟨#[]⟩,.string ⟨#[]⟩,.int .i64 0,.int .i64 0] 66)).drew=Z:=⟨_,rfl⟩
        have e6:Below wr.heap.size wr.drew Z:=by rw [<- hZ];exact Zc wr.drew _
        have d1:Rec Z wr.heap.size #[.string ⟨#[]⟩,.string ⟨#[]⟩,.int .i64 0,.int .i64 0] 66:=by rw [<- hZ];exact Zk wr _ _
        rw [hZ]
        have s:=Za e6
        have i0:=Za d1
        clear e6 d1 hZ
        refine ⟨rfl,s.out,?_⟩
        have f5z:=f4 ⟨Z,s.out⟩
        simp only at f5z
        go_wp2_with fail
        refine ⟨rfl,s.out,?_⟩
        go_wp2_with (go_at_call 50;refine (s6.out Z ((Below.refl _ wr).drew.trans s.out)).mono ?_;rintro e wa ⟨rfl,G⟩;try dsimp only)
        have P:Hid (Below wr.heap.size wr.drew wa):=s.out.trans (G.mono s.out.size)
        have B2:=Za (i0.out.below G i0.out.lt)
        clear G
        exact ⟨rfl,P.out,_,_,_,rfl,rfl,rfl,_,rfl,Nat.le_refl _,B2.out⟩
       ·rintro x y z w4 H8 ⟨rfl,rfl,q,rfl,hq,E⟩
        have O5:Hid (Below wr.heap.size wr.drew w4):=H8
        have z0:=E.cell 0 rfl
        have z1:=E.cell 1 rfl
        have z2:=E.cell 2 rfl
        have z3:=E.cell 3 rfl
        have Y9:=E.z 0
        have fz1:=E.z 1
        have fz2:=E.z 2
        have fz3:=E.z 3
        have r5:=Za (Jm (Jm (Jm (Jm (Zev E) 0 (.string l)) 1 (.string t)) 2 (.int .i64 nv)) 3 (.int .i64 no))
        have HQ3:=Za hq
        clear H8 E hq f0 f1 f2 f3 f4 f5 g0' D s6
        simp only [Zur,Zhx,Zac,Zbn,Option.bind,Act.put,List.setIfInBounds_toArray,List.set_cons_succ,List.set_cons_zero]
        go_wp2_with fail
        obtain ⟨W5,G0⟩:∃ W,(((w4.setCell ⟨q,0,none⟩ (.string l)).setCell ⟨q,1,none⟩ (.string t)).setCell ⟨q,2,none⟩ (.int .i64 nv)).setCell ⟨q,3,none⟩ (.int .i64 no)=W:=⟨_,rfl⟩
        rw [G0] at r5 |-
        have s7:Below wr.heap.size wr.drew W5:=O5.out.trans (r5.out.below.mono HQ3.out)
        have m3:Rec W5 q #[.string l,.string t,.int .i64 nv,.int .i64 no] 66:=r5.out.r
        have M3:=HI.out.up ((Below.refl _ wr).drew.trans s7)
        refine ⟨rfl,s7,?_⟩
        have I:=Za M3
        have HB5:Hid (Below wr.heap.size wr W5):=(Below.refl _ wr).drew.trans s7
        have y0:=m3.cell 0 rfl
        have y1:=m3.cell 1 rfl
        have y2:=m3.cell 2 rfl
        have y3:=m3.cell 3 rfl
        clear r5 G0 O5 z0 z1 z2 z3 Y9 fz1 fz2 fz3 s7 m3 M3
        by_cases hn0:0<nv
        ·have Q8:(0:Int)<nv:=by omega
         have hx5:=I.out.r.cell 5 (v:=.slice (t5) rk D5) rfl
         have F:Hid (Below W5.heap.size W5 (W5.alloc (.cells #[.string l,.string t,.int .i64 nv,.int .i64 no] 66))):=Zc W5 _
         have r7:w.heap.size+2<wx.heap.size:=U.out.lt
         obtain ⟨v',W',p1,p2,p3,p4⟩:=Jd (t:=31) (ty:=31) (c:=1) (bl:=W5.heap.size) (off:=0) (x:=((l,t,(nv:Int),(no:Int)):Zav)) Zts (fun _=>rfl) Zoa (I.out.k.below F.out) (fun jj u hu=>by
          rw [Nat.zero_add];exact Zh W5 _ _ _ _ (by simpa [Zd3] using hu)) (by have:=HLE.out;omega) (by have h1:=F.out.size;have h2:=I.out.z;omega)
         have HN:=Za (I.out.key F.out p2 p3 p4)
         have O:Zcd g.nodes (o.take j) d++Zdm g.nodes l (d.take k)++[(l,t,(nv:Int),(no:Int))]=Zcd g.nodes (o.take j) d++Zdm g.nodes l (d.take (k+1)):=by rw [N4.out,o7.out,if_pos hn0,List.append_assoc]
         rw [O] at HN p2
         obtain ⟨a6,c6,q7⟩:=p2.slice
         obtain ⟨rk2,s9⟩:∃ n,(Zcd g.nodes (o.take j) d++Zdm g.nodes l (d.take (k+1))).length=n:=⟨_,rfl⟩
         rw [s9] at q7
         subst q7
         have r8:=(I.out.r.below F.out I.out.r.lt).below p3 r7
         have w0:=r8.cell 5 (v:=.slice t5 rk D5) rfl
         have fz:=r8.z 5
         clear O s9 p2 p3 p4 r8 HI I
         go_wp2_with (at_builtin;refine Lib.wpList_append_run _ rfl _ _ _ _ rfl _ _ rfl rfl _ _ p1 ?_)
         go_roundw
         case rel=>exact ⟨k+1,_,_,by omega,by go_num,HN.out⟩
         case measure=>simp [intOf];omega
        ·have Q8:¬ (0:Int)<nv:=by omega
         have O:Zcd g.nodes (o.take j) d++Zdm g.nodes l (d.take k)=Zcd g.nodes (o.take j) d++Zdm g.nodes l (d.take (k+1)):=by rw [N4.out,o7.out,if_neg hn0,List.append_nil]
         rw [O] at I
         clear O HI
         go_wp2_with fail
         go_roundw
         case rel=>exact ⟨k+1,_,_,by omega,by go_num,I.out⟩
         case measure=>simp [intOf];omega
      ·have e8:¬ (k:Int)<nk:=by omega
       have O:Zcd g.nodes (o.take j) d++Zdm g.nodes l (d.take k)=Zcd g.nodes (o.take (j+1)) d:=by rw [HV2.out,show d.take k=d from List.take_of_length_le (by have:=Y.out.2;omega)]
       rw [O] at HI
       clear O
       go_wp2_with fail
       go_roundw
       case rel=>exact ⟨j+1,_,_,by omega,by go_num,HI.out⟩
       case measure=>simp [intOf];omega
  ·have I1:¬ (j:Int)<nl:=by omega
   have HQ:Hid (o.take j=o):=List.take_of_length_le (by have:=Y.out.1;omega)
   rw [HQ.out] at HI
   go_wp2_with fail
   exact HK.out _ _ _ _ _ _ _ _ _ _ _ _ _ _ _ _ _ _ _ _ _ _ _ _ _ _ _ _ _ _ _ _ _ _ _ _ _ _ _ _ _ _ _ _ _ _ _ _ _ _ _ _ _ _ _ _ _ _ _ _ _ _ _ _ _ _ _ _ _ _ _ _ _ _ _ _ _ _ _ _ _ _ _ _ _ _ _ _ _ _ _ _ _ _ _ _ _ _ _ _ _ _ _ _ _ _ _ _ _ _ _ _ _ _ _ _ _ _ _ _ _ _ _ _ _ _ _ _ _ _ _ _ _ _ _ _ _ _ _ _ _ _ _ _ _ _ _ _ _ _ _ _ _ _ _ _ _ _ _ _ _ _ _ _ _ _ _ _ _ _ _ _ _ _ _ _ _ _ _ _ _ _ _ _ _ _ _ _ _ _ _ _ _ _ _ _ _ _ _ _ _ _ _ _ _ _ _ _ _ _ _ _ _ _ _ _ _ _ _ _ ⟨_,_,HI.out⟩
end Go.Proofs.YthfilnflgahcjaaGreatDoor
