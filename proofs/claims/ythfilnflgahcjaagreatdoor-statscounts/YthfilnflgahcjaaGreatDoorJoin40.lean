/- Count's fourth loop: the types' rows, and the ends'. The document's Count, whole. What a small graph that may be lends to the document's Count. -/
import Derived.Test.YthfilnflgahcjaaGreatDoorCn18
import Derived.Test.YthfilnflgahcjaaGreatDoorJoin37
import Derived.Test.YthfilnflgahcjaaGreatDoorJoin25
import Derived.Test.YthfilnflgahcjaaGreatDoorJoin35
namespace Go.Proofs.YthfilnflgahcjaaGreatDoor
open Go.RowKit Go.Shelf Go.Maps
set_option linter.all false
attribute [local go_sem] Oper.semAt_some
def Zh5 (rs:List Zbr) (ts:List ByteArray):List (ByteArray × Int):=ts.map fun t=>(t,Zh7 rs t)
theorem Zz8 {rs:List Zbr} {ts:List ByteArray} {j:Nat} {t:ByteArray} (h:ts[j]?=some t):Zh5 rs (ts.take (j+1))=Zh5 rs (ts.take j)++[(t,Zh7 rs t)]:=by
 unfold Zh5
 rw [List.take_add_one,h,List.map_append];rfl
def Zfv (ns:List Zj) (rs:List Zbr) (t:ByteArray) (ls:List ByteArray):List Zae:=ls.flatMap fun l=>Za8 ns rs t l false++Za8 ns rs t l true
theorem Zz9 {ns:List Zj} {rs:List Zbr} {t:ByteArray} {ls:List ByteArray} {j:Nat} {l:ByteArray} (h:ls[j]?=some l):Zfv ns rs t (ls.take (j+1))=Zfv ns rs t (ls.take j)++Za8 ns rs t l false++Za8 ns rs t l true:=by
 unfold Zfv
 rw [List.take_add_one,h,List.flatMap_append];simp
theorem Jaa {ns:List Zj} {rs:List Zbr} {ts ls:List ByteArray} {j:Nat} {t:ByteArray} (h:ts[j]?=some t):Zdo ns rs (ts.take (j+1)) ls=Zdo ns rs (ts.take j) ls++Zfv ns rs t ls:=by
 unfold Zdo Zfv
 rw [List.take_add_one,h,List.flatMap_append];simp
theorem Jab {ns:List Zj} {rs:List Zbr} {ts ls:List ByteArray} {j:Nat} {t:ByteArray} (h:ts[j]?=some t) (k:Nat):(Zdo ns rs (ts.take j) ls++Zfv ns rs t (ls.take k)).length<=(Zdo ns rs ts ls).length:=by
 have h1:Zdo ns rs ts ls=Zdo ns rs (ts.take j) ls++Zfv ns rs t (ls.take k)++(Zfv ns rs t (ls.drop k)++Zdo ns rs (ts.drop (j+1)) ls):=by
  have e1:ts=ts.take j++t::ts.drop (j+1):=by
   obtain ⟨hj,he⟩:=List.getElem?_eq_some_iff.1 h
   rw [<- he,<- List.drop_eq_getElem_cons hj,List.take_append_drop]
  have e2:Zfv ns rs t ls=Zfv ns rs t (ls.take k)++Zfv ns rs t (ls.drop k):=by
   unfold Zfv
   rw [<- List.flatMap_append,List.take_append_drop]
  conv=>lhs;rw [e1]
  unfold Zdo
  rw [List.flatMap_append,List.flatMap_cons,show (ls.flatMap fun l=>Za8 ns rs t l false++Za8 ns rs t l true)=Zfv ns rs t ls from rfl,e2]
  simp only [List.append_assoc]
 rw [h1]
 generalize Zdo ns rs (ts.take j) ls++Zfv ns rs t (ls.take k)=A
 rw [List.length_append]
 omega
def Jhl (WT:World) (X:Nat) (m m2:Int) (vl vt ve vk:Value) (ls ts:List (ByteArray × Int)) (es:List Zae) (ks:List Zav) (e:Ending) (wa:World):Prop :=
 ∃ a n c,e=.returned (.slice a n c)/\CtI WT X m m2 vl vt (.slice a n c) vk ls ts es ks (wa.setCell ⟨X,4,none⟩ (.slice a n c))/\wa.cell? ⟨X,4,none⟩=some ve/\wa.frozen? ⟨X,4,none⟩=false
theorem Jcg {WT:World} {X:Nat} {m m2:Int} {vl vt ve vk:Value} {ls ts:List (ByteArray × Int)} {es:List Zae} {ks:List Zav} {wr:World} (h:CtI WT X m m2 vl vt ve vk ls ts es ks wr) (hes:es.length<=990000) {g:Zx} {B:Nat} {v:Value} (hB:B<=wr.heap.size) (hg:Zp B wr v g) (V9:g.nodes.length<=100) (hr0:g.rels.length<=100) (t l:ByteArray) (o:Bool):Calls Tryz.prog 51 #[ve,v,.string t,.string l,.bool o] wr.drew (Jhl WT X m m2 vl vt ve vk ls ts (es++Za8 g.nodes g.rels t l o) ks):=by
 have hd:Below wr.heap.size wr wr.drew:=(Below.refl _ wr).drew
 refine (Zr3 g t l o es ve v WT.heap.size B wr.drew hB h.z (Zp.below (hd.mono hB) hg) V9 hr0 (h.e.below hd) hes).mono ?_
 rintro e wa ⟨v',rfl,p2,p3,p4⟩
 obtain ⟨a,c,hv⟩:=p2.slice
 subst hv
 have r8:=(h.r.below hd h.r.lt).below p3 h.x
 exact ⟨_,_,_,rfl,h.end_ hd p2 p3 p4,r8.cell 4 rfl,r8.z 4⟩
theorem Zw0 (ns:List Zj) (rs:List Zbr) (t l:ByteArray) (o:Bool):(Za8 ns rs t l o).length<=1:=by unfold Za8;split<;>simp
theorem Jdg (rs:List Zbr) (t:ByteArray):0<=Zh7 rs t/\Zh7 rs t<=rs.length:=by
 unfold Zh7
 have a1:=Zdr (f:=fun r:Zbr=>if r.type=t then (1:Int) else 0) (l:=rs) fun _ _=>by split<;>omega
 have a2:=Zem (f:=fun r:Zbr=>if r.type=t then (1:Int) else 0) (c:=1) (l:=rs) fun _ _=>by split<;>omega
 omega
set_option maxRecDepth 100000 in
set_option maxHeartbeats 16000000 in
theorem Jdh (g:Zx) (B m m2 nc rc:Nat) (na ra:Option Addr) (nn nr:Int) (w W3:World) (va vb vc:Value) (F L2 E:List ByteArray) (u7 u8 u9 V3 u11 u12 U5 V5 u15 u16 u17 u18 X0 V4 T7 U1 u23 u24 u25 U7 u27 u28 u29 Y8 u31 u32 u33 u34 T5 U0 X1 u38 u39 Y7 V7 u42 u43 u44 u45 u46 u47 u48 u49 u50 u51 u52 u53 u54 u55 V6 U2 u58 T9 Y4 u61 u62 Y5 u64 V0 Y2 X3 U9 u69 V8 X5 T6 u73 u74 u75 T4 u77 u78 u79 u80 W4 u82 u83 u84 u85 V1 Y9 U4 u89 u90 u91 X6 X8 u94 W2 X7 u97 W6 W5 G1 E3 H9 L9 H2 M1 M8 G9 H7 R7 D3 S1 Q5 S7 G5 P2 F6 R1 H0 T3 G0 F4 N7 E5 R0 K9 D5 H4 T2 M7 G2 K4 Q9 D7 E9 H5 R5 S2 E6 P1 P6 G7 I4 T0 O6 N9 N3 I3 I1 I5 R4 R8 G4 P0 N8 Q0 O9 Q2 O3 M9 E8 E7 K5 H8 M6 O2 E0 F7 F1 Q4 G8 I0 D4 R2 R3 Q8 H1 O7 S0 O0 D1 K6 C9 I9 F9 P3 G3 K3 K1 N0 O8 K0 N2 L7 F0 P7 I8 L6 R6 O5 P5 O4 F3 E4 Q7 H6 D0 P8 N4 T1 R9 S9 S6 L8 N5 E2 P4 C8 H3 M5 O1 I6 M4 Q1 L4 F8:Value) (wx:World) (C:Hid (Jgg g B m m2 nc rc na ra nn nr w W3)) (G:Hid (TyI W3 va vb vc F L2 E wx)) (wy:World) (vl vk:Value) (xl:List (ByteArray × Int)) (xk:List Zav) (M3:Hid (CtI wx (w.heap.size+2) m m2 vl (.slice none 0 0) (.slice none 0 0) vk xl [] [] xk wy)) (hL:F.length<=100000/\E.length<=100000) (hre:(Zdo g.nodes g.rels E F).length<=900000)
  (Q:Exit->Act->World->Prop) (K:Act->World->Prop) (hK:∀ (v7 v8 v9 x9 B1 t5 x3 C4 w0 r2 s2 v6 x0 s8 t8 A1 y3 w4 A9 B6 A5 w6 y2 C3 B2 A3 w9 z8 B5 s9 r9 u2 u6 y9 x6 s6 w5 x5 v0 z0 z6 v2 y5 t3 z3 v1 s7 x1 x4 B4 r5 t4 y8 s3 z9 x8 w2 s4 u3 C1 A2 B8 s5 t6 y6 C5 u5 u1 A7 s0 A4 B7 x2 B9 y1 z7 v5 u4 r6 y7 C0 y4 w3 A0 C6 C2 v3 w1 r3 z1 z4 x7 B3 g4 g8 o4 m0 k3 j0 h8 j1 b6 V p7 c5 l2 l7 h4 l5 h6 c9 d1 Y l3 a5 j7 e8 j2 n2 k2 m3 e3 l0 b2 e5 k5 n9 j9 d0 l1 k1 a7 b8 h7 i8 o6 a3 i7 d9 d5 o7 c7 d2 p5 e6 i4 l4 h0 i1 c3 o9 k8 m6 a4 m9 i5 c8 i2 k6 o2 a9 g2 b0 h3 d8 o1 i3 n4 i6 d7 e7 c4 m1 i9 n1 m7 b5 n7 l9 m8 g9 n6 o0 o5 j8 e9 l6 d4 j3 h5 n8 c2 g5 k4 n0 p6 f9 f7 k7 b1 l8 j4 g7 k0 o3 p8 a8 o8 f8 b7 p0 b4 h9 i0 m4 j6 g6 j5 c0:Value) (w':World),(∃ vt ve,CtI wx (w.heap.size+2) m m2 vl vt ve vk xl (Zh5 g.rels E) (Zdo g.nodes g.rels E F) xk w')->K { tmps:=#[.agg #[.slice na m nc,.slice ra m2 rc,.int .i64 nn,.int .i64 nr],.pointer (some ⟨w.heap.size,0,none⟩),.pointer (some ⟨w.heap.size+1,0,none⟩),.pointer (some ⟨w.heap.size+2,0,none⟩),va,vc,vb,v7,v8,v9,x9,B1,t5,x3,C4,w0,r2,s2,v6,x0,s8,t8,A1,y3,w4,A9,B6,A5,w6,y2,C3,B2,A3,w9,z8,B5,s9,r9,u2,u6,y9,x6,s6,w5,x5,v0,z0,z6,v2,y5,t3,z3,v1,s7,x1,x4,B4,r5,t4,y8,s3,z9,x8,w2,s4,u3,C1,A2,B8,s5,t6,y6,C5,u5,u1,A7,s0,A4,B7,x2,B9,y1,z7,v5,u4,r6,y7,C0,y4,w3,A0,C6,C2,v3,w1,r3,z1,z4,x7,B3,g4,g8,o4,m0,k3,j0,h8,j1,b6,V,p7,c5,l2,l7,h4,l5,h6,c9,d1,Y,l3,a5,j7,e8,j2,n2,k2,m3,e3,l0,b2,e5,k5,n9,j9,d0,l1,k1,a7,b8,h7,i8,o6,a3,i7,d9,d5,o7,c7,d2,p5,e6,i4,l4,h0,i1,c3,o9,k8,m6,a4,m9,i5,c8,i2,k6,o2,a9,g2,b0,h3,d8,o1,i3,n4,i6,d7,e7,c4,m1,i9,n1,m7,b5,n7,l9,m8,g9,n6,o0,o5,j8,e9,l6,d4,j3,h5,n8,c2,g5,k4,n0,p6,f9,f7,k7,b1,l8,j4,g7,k0,o3,p8,a8,o8,f8,b7,p0,b4,h9,i0,m4,j6,g6,j5,c0],defers:=[] } w') :
  (Zun 34 (Tryz.f15.body.getD .skip)).wp Tryz.prog (Exit.then K Q) { tmps:=#[.agg #[.slice na m nc,.slice ra m2 rc,.int .i64 nn,.int .i64 nr],.pointer (some ⟨w.heap.size,0,none⟩),.pointer (some ⟨w.heap.size+1,0,none⟩),.pointer (some ⟨w.heap.size+2,0,none⟩),va,vc,vb,u7,u8,u9,V3,u11,u12,U5,V5,u15,u16,u17,u18,X0,V4,T7,U1,u23,u24,u25,U7,u27,u28,u29,Y8,u31,u32,u33,u34,T5,U0,X1,u38,u39,Y7,V7,u42,u43,u44,u45,u46,u47,u48,u49,u50,u51,u52,u53,u54,u55,V6,U2,u58,T9,Y4,u61,u62,Y5,u64,V0,Y2,X3,U9,u69,V8,X5,T6,u73,u74,u75,T4,u77,u78,u79,u80,W4,u82,u83,u84,u85,V1,Y9,U4,u89,u90,u91,X6,X8,u94,W2,X7,u97,W6,W5,G1,E3,H9,L9,H2,M1,M8,G9,H7,R7,D3,S1,Q5,S7,G5,P2,F6,R1,H0,T3,G0,F4,N7,E5,R0,K9,D5,H4,T2,M7,G2,K4,Q9,D7,E9,H5,R5,S2,E6,P1,P6,G7,I4,T0,O6,N9,N3,I3,I1,I5,R4,R8,G4,P0,N8,Q0,O9,Q2,O3,M9,E8,E7,K5,H8,M6,O2,E0,F7,F1,Q4,G8,I0,D4,R2,R3,Q8,H1,O7,S0,O0,D1,K6,C9,I9,F9,P3,G3,K3,K1,N0,O8,K0,N2,L7,F0,P7,I8,L6,R6,O5,P5,O4,F3,E4,Q7,H6,D0,P8,N4,T1,R9,S9,S6,L8,N5,E2,P4,C8,H3,M5,O1,I6,M4,Q1,L4,F8],defers:=[] } wy:=by
 have HK:Hid (∀ (v7 v8 v9 x9 B1 t5 x3 C4 w0 r2 s2 v6 x0 s8 t8 A1 y3 w4 A9 B6 A5 w6 y2 C3 B2 A3 w9 z8 B5 s9 r9 u2 u6 y9 x6 s6 w5 x5 v0 z0 z6 v2 y5 t3 z3 v1 s7 x1 x4 B4 r5 t4 y8 s3 z9 x8 w2 s4 u3 C1 A2 B8 s5 t6 y6 C5 u5 u1 A7 s0 A4 B7 x2 B9 y1 z7 v5 u4 r6 y7 C0 y4 w3 A0 C6 C2 v3 w1 r3 z1 z4 x7 B3 g4 g8 o4 m0 k3 j0 h8 j1 b6 V p7 c5 l2 l7 h4 l5 h6 c9 d1 Y l3 a5 j7 e8 j2 n2 k2 m3 e3 l0 b2 e5 k5 n9 j9 d0 l1 k1 a7 b8 h7 i8 o6 a3 i7 d9 d5 o7 c7 d2 p5 e6 i4 l4 h0 i1 c3 o9 k8 m6 a4 m9 i5 c8 i2 k6 o2 a9 g2 b0 h3 d8 o1 i3 n4 i6 d7 e7 c4 m1 i9 n1 m7 b5 n7 l9 m8 g9 n6 o0 o5 j8 e9 l6 d4 j3 h5 n8 c2 g5 k4 n0 p6 f9 f7 k7 b1 l8 j4 g7 k0 o3 p8 a8 o8 f8 b7 p0 b4 h9 i0 m4 j6 g6 j5 c0:Value) (w':World),(∃ vt ve,CtI wx (w.heap.size+2) m m2 vl vt ve vk xl (Zh5 g.rels E) (Zdo g.nodes g.rels E F) xk w')->Exit.then K Q .normal { tmps:=#[.agg #[.slice na m nc,.slice ra m2 rc,.int .i64 nn,.int .i64 nr],.pointer (some ⟨w.heap.size,0,none⟩),.pointer (some ⟨w.heap.size+1,0,none⟩),.pointer (some ⟨w.heap.size+2,0,none⟩),va,vc,vb,v7,v8,v9,x9,B1,t5,x3,C4,w0,r2,s2,v6,x0,s8,t8,A1,y3,w4,A9,B6,A5,w6,y2,C3,B2,A3,w9,z8,B5,s9,r9,u2,u6,y9,x6,s6,w5,x5,v0,z0,z6,v2,y5,t3,z3,v1,s7,x1,x4,B4,r5,t4,y8,s3,z9,x8,w2,s4,u3,C1,A2,B8,s5,t6,y6,C5,u5,u1,A7,s0,A4,B7,x2,B9,y1,z7,v5,u4,r6,y7,C0,y4,w3,A0,C6,C2,v3,w1,r3,z1,z4,x7,B3,g4,g8,o4,m0,k3,j0,h8,j1,b6,V,p7,c5,l2,l7,h4,l5,h6,c9,d1,Y,l3,a5,j7,e8,j2,n2,k2,m3,e3,l0,b2,e5,k5,n9,j9,d0,l1,k1,a7,b8,h7,i8,o6,a3,i7,d9,d5,o7,c7,d2,p5,e6,i4,l4,h0,i1,c3,o9,k8,m6,a4,m9,i5,c8,i2,k6,o2,a9,g2,b0,h3,d8,o1,i3,n4,i6,d7,e7,c4,m1,i9,n1,m7,b5,n7,l9,m8,g9,n6,o0,o5,j8,e9,l6,d4,j3,h5,n8,c2,g5,k4,n0,p6,f9,f7,k7,b1,l8,j4,g7,k0,o3,p8,a8,o8,f8,b7,p0,b4,h9,i0,m4,j6,g6,j5,c0],defers:=[] } w'):=hK
 clear hK
 obtain ⟨QQ,hQ⟩:∃ QQ,Exit.then K Q=QQ:=⟨_,rfl⟩
 rw [hQ] at HK |-
 clear hQ Q K
 have HM:=Za (And.intro C.out.hm C.out.hm2)
 have HN:=Za C.out.hn
 have HR:=Za C.out.hr
 have R:=Za C.out.rg
 have V2:=Za C.out.b3
 have hB:=C.out.hB
 have hm60:=C.out.m60
 have U6:=C.out.m60'
 conv =>
  arg 2
  whnf
 obtain ⟨ys,K8,N1,Y6⟩:=Zxd HR.out
 obtain ⟨ya,yc,S5,Y3,hy2,D2⟩:=Y6
 obtain ⟨rfl,n5,rfl⟩:ra=ya/\m2=ys.length/\rc=yc:=by injection S5 with a b c;exact ⟨a,b,c⟩
 have W1:=Za D2
 have U3:=Za (And.intro K8 N1)
 have HF2:=Za n5
 rw [<- n5] at Y3
 clear K8 N1 D2 S5 n5
 have L:=Za (C.out.rx.below G.out.i.b C.out.rx.lt)
 obtain ⟨T8,lc0,hva,hv1,hv2,-⟩:=G.out.i.s1
 subst hva
 obtain ⟨X4,tc0,hvc,hw1,hw2,-⟩:=G.out.s
 subst hvc
 have p9:=Za G.out.i.s1
 have r0:=Za G.out.s
 have t2:=Za (Below.on V2.out G.out.i.b)
 obtain ⟨nl,z5⟩:∃ n,F.length=n:=⟨_,rfl⟩
 obtain ⟨nt,t7⟩:∃ n,E.length=n:=⟨_,rfl⟩
 have P:=Za (And.intro z5 t7)
 rw [z5] at p9 hv1 HK |-
 rw [t7] at r0 hw1 HK |-
 have hnl0:nl<=100000:=by have:=hL.1;omega
 have hnt0:nt<=100000:=by have:=hL.2;omega
 clear z5 t7 hL
 have v4:w.heap.size<w.heap.size+2:=by omega
 go_wp2_with fail
 go_loopw [16] (fun i wr=>∃ (j:Nat) (vt ve:Value),j<=nt/\i=.int .i64 j/\CtI wx (w.heap.size+2) m m2 vl vt ve vk xl (Zh5 g.rels (E.take j)) (Zdo g.nodes g.rels (E.take j) F) xk wr) (fun i _=>nt - (intOf i).toNat)
 case atStart=>exact ⟨0,_,_,Nat.zero_le _,rfl,M3.out⟩
 case round =>
  clear M3
  obtain ⟨j,vt,ve,hj,rfl,M⟩:=hrel
  have T:=Za M
  have q8:Hid (Below w.heap.size w wr):=t2.out.trans (M.b.mono (by omega))
  have I:=Za ((R.out.below G.out.i.b R.out.lt).below M.b v4)
  have C7:=Za (Zd9 M L.out p9.out)
  have q7:=Za (Zd9 M L.out r0.out)
  clear M
  by_cases hlt:j<nt
  ·have F2:(j:Int)<nt:=by omega
   obtain ⟨t,ht⟩:∃ q,E[j]?=some q:=⟨_,List.getElem?_eq_getElem (by have:=P.out.2;omega)⟩
   obtain ⟨a0,A8,e0,_,_,k9⟩:=q7.out
   obtain ⟨rfl,rfl⟩:X4=a0/\tc0=A8:=by injection e0 with a b c;exact ⟨a,c⟩
   clear e0
   obtain ⟨bo,oo,rfl,U8,hco⟩:=k9.resolve_left (by intro e;rw [e] at ht;simp at ht)
   have q9:Hid (wr.cell? ⟨bo,oo+j,none⟩=some (.string t)/\bo<wx.heap.size):=Zey q7.out ht
   have S4:=Za ht
   have HV1:=Za (Zz8 (rs:=g.rels) ht)
   have Y1:=Za (Jaa (ns:=g.nodes) (rs:=g.rels) (ls:=F) ht)
   have W0:=Za (fun k=>Nat.le_trans (Jab (ns:=g.nodes) (rs:=g.rels) (ls:=F) ht k) hre)
   obtain ⟨wj,hwj⟩:∃ W,W=wr:=⟨_,rfl⟩
   subst hwj
   clear ht k9 hco U8
   go_wp2_with fail
   go_loopw [18,17] (fun i n wr=>∃ (k:Nat),k<=m2/\i=.int .i64 k/\n=.int .i64 (Zh7 (g.rels.take k) t)/\Below wj.heap.size wj wr) (fun i _ _=>m2 - (intOf i).toNat)
   case atStart=>exact ⟨0,Nat.zero_le _,rfl,by rw [List.take_zero];rfl,Below.refl _ _⟩
   case round =>
    obtain ⟨k,hk,rfl,rfl,q5⟩:=hrel
    have S:=Za q5
    have F5:=Za (Below.on q8.out q5)
    have L5:=Za (I.out.below q5 I.out.lt)
    have c1:=L5.out.cell 1 rfl
    clear q5
    obtain ⟨NN,q6⟩:∃ N,Zh7 (g.rels.take k) t=N:=⟨_,rfl⟩
    have A6:=Za q6
    have X9:0<=NN/\NN<=k:=by
     rw [<- q6]
     have a1:=Jdg (g.rels.take k) t
     rw [List.length_take] at a1
     omega
    rw [q6]
    clear q6
    by_cases hlk:k<m2
    ·have e4:(k:Int)<m2:=by omega
     obtain ⟨r,hr⟩:∃ q,g.rels[k]?=some q:=⟨_,List.getElem?_eq_getElem (by have:=HM.out.2;omega)⟩
     obtain ⟨⟨yi,yf,yt,ty,⟨pa,pn,pc⟩⟩,hy⟩:∃ y,ys[k]?=some y:=⟨_,List.getElem?_eq_getElem (by have:=HF2.out;omega)⟩
     have hid:yi=r.id/\yf=r.fr/\yt=r.tt/\ty=r.type:=(U3.out.2 k r _ hr hy).1
     obtain ⟨bl,off,rfl,D9,hc⟩:=W1.out.resolve_left (by intro e;rw [e] at hy;simp at hy)
     have d3:=((F5.out.mono hB).cell (p:=⟨bl,off+k*5+3,none⟩) D9).trans (hc k _ hy 3 _ rfl)
     simp only at d3
     have I2:Hid (Zh7 (g.rels.take (k+1)) t=NN+if ty=t then 1 else 0):=by
      show _=_
      have:=A6.out
      unfold Zh7 at this |-
      rw [Zll hr,this,hid.2.2.2]
     have f0:∀ u:Up wr,u.x.cell? ⟨w.heap.size,1,none⟩=some (.slice (some ⟨bl,off,none⟩) m2 rc):=fun u=>u.cell c1
     have f1:∀ u:Up wr,u.x.cell? ⟨bl,off+k*5+3,none⟩=some (.string ty):=fun u=>u.cell d3
     have f2:∀ u:Up wr,u.x.cell? ⟨bo,oo+j,none⟩=some (.string t):=fun u=>u.cell ((S.out.cell (p:=⟨bo,oo+j,none⟩) (Nat.lt_of_lt_of_le q9.out.2 T.out.z)).trans q9.out.1)
     have d:Nonempty (Up wr):=⟨⟨wr,Below.refl _ _⟩⟩
     clear hr hy hid hc D9 d3
     by_cases hkt:ty=t
     ·have hk2:=Zec hkt
      have w8:=Za hkt
      clear hkt
      go_upto_region 41 with fail
      refine Zed (by kernel_rfl) (by kernel_rfl) ?_
      repeat (go_big_quiet_step (fail))
      refine wpQuiet_nil ?_
      rintro w7 ⟨⟨W7,d6⟩,rfl⟩
      have t9:=Za (Below.on S.out d6)
      clear f0 f1 f2 d d6 c1
      go_wp2_with fail
      go_roundw
      case rel=>exact ⟨k+1,by omega,by go_num,by rw [I2.out,if_pos w8.out],t9.out⟩
      case measure=>simp [intOf];omega
     ·have hk2:=Zfz hkt
      have w8:=Za hkt
      clear hkt
      go_upto_region 41 with fail
      refine Zed (by kernel_rfl) (by kernel_rfl) ?_
      repeat (go_big_quiet_step (fail))
      refine wpQuiet_nil ?_
      rintro w7 ⟨⟨W7,d6⟩,rfl⟩
      have t9:=Za (Below.on S.out d6)
      clear f0 f1 f2 d d6 c1
      go_wp2_with fail
      go_roundw
      case rel=>exact ⟨k+1,by omega,by go_num,by rw [I2.out,if_neg w8.out,Int.add_zero],t9.out⟩
      case measure=>simp [intOf];omega
    ·have e4:¬ (k:Int)<m2:=by omega
     have HQ:Hid (Zh7 g.rels t=NN):=by show _=_;rw [<- A6.out,List.take_of_length_le (by have:=HM.out.2;omega)]
     have H:=Za (T.out.up S.out)
     obtain ⟨B0,z2,G6⟩:=H.out.t.slice
     have t0:(Zh5 g.rels (E.take j)).length=j:=by unfold Zh5;rw [List.length_map,List.length_take];have:=P.out.2;omega
     rw [t0] at G6
     subst G6
     have P9:=Za t0
     have M2:w.heap.size+2<wx.heap.size:=L.out.lt
     have e0:=H.out.r.cell 3 (v:=.slice B0 j z2) rfl
     have e1:wr.cell? ⟨bo,oo+j,none⟩=some (.string t):=(S.out.cell (p:=⟨bo,oo+j,none⟩) (Nat.lt_of_lt_of_le q9.out.2 T.out.z)).trans q9.out.1
     have f0:∀ u:Up wr.drew,u.x.cell? ⟨w.heap.size+2,3,none⟩=some (.slice B0 j z2):=fun u=>u.cell e0
     have f1:∀ u:Up wr.drew,u.x.cell? ⟨bo,oo+j,none⟩=some (.string t):=fun u=>u.cell e1
     have d:Nonempty (Up wr.drew):=⟨⟨wr.drew,Below.refl _ _⟩⟩
     clear t0 e0 e1
     go_upto_region 43 with fail
     have m5:Hid (Below wr.heap.size wr (wr.drew.alloc (.cells #[.string t,.int .i64 NN] 62))):=((Below.refl _ wr).drew).trans (Zc wr.drew _)
     obtain ⟨v',W',p1,p2,p3,p4⟩:=Jd (t:=29) (ty:=29) (c:=1) (bl:=wr.heap.size) (off:=0) (x:=((t,NN):ByteArray × Int)) Ztr (fun _=>rfl) Zf9 (H.out.t.below m5.out) (fun jj u hu=>by
      rw [Nat.zero_add];exact Zh wr.drew _ _ _ _ (by simpa [Za0] using hu)) (by rw [P9.out];omega) (by have h1:=m5.out.size;have h2:=H.out.z;omega)
     have HN:=Za (H.out.typ m5.out p2 p3 p4)
     have hx:Zh5 g.rels (E.take j)++[(t,NN)]=Zh5 g.rels (E.take (j+1)):=by rw [HV1.out,HQ.out]
     rw [hx] at HN p2
     have I7:(Zh5 g.rels (E.take (j+1))).length=j+1:=by unfold Zh5;rw [List.length_map,List.length_take];have:=P.out.2;omega
     obtain ⟨a6,c6,S3⟩:=p2.slice
     rw [I7] at S3
     subst S3
     have r8:=(H.out.r.below m5.out H.out.r.lt).below p3 M2
     have y0:=r8.cell 3 (v:=.slice B0 j z2) rfl
     have fz:=r8.z 3
     have Y0:=Za p3
     clear hx I7 p2 p3 p4 r8 T H
     refine Ze9 [([0,1,2,3,4,5,6,7],8)] [] [9,10,11] (by kernel_rfl) (by kernel_rfl) ?_
     simp only [Zb9,Zcp,Zac,Zbn,Zb5]
     repeat (go_big_quiet_step (fail))
     refine wpQuiet_nil ?_
     go_wp2_with fail
     first | refine ⟨rfl,Zc wr.drew _,wpQuiet_nil ?_⟩ | refine ⟨Zc wr.drew _,wpQuiet_nil ?_⟩
     clear f0 f1 d
     go_wp2_with (at_builtin;refine Lib.wpList_append_run _ rfl _ _ _ _ rfl _ _ rfl rfl _ _ p1 ?_)
     obtain ⟨W8,D8⟩:∃ W,W'.setCell ⟨w.heap.size+2,3,none⟩ (.slice a6 (j+1) c6)=W:=⟨_,rfl⟩
     rw [D8] at HN |-
     clear D8 p1 y0 fz Y0 m5 P9 A6 HQ S F5 L5 X9 M2 c1
     go_loopw [19] (fun i wr=>∃ (k:Nat) (ve:Value),k<=nl/\i=.int .i64 k/\CtI wx (w.heap.size+2) m m2 vl (.slice a6 (j+1) c6) ve vk xl (Zh5 g.rels (E.take (j+1))) (Zdo g.nodes g.rels (E.take j) F++Zfv g.nodes g.rels t (F.take k)) xk wr) (fun i _=>nl - (intOf i).toNat)
     case atStart=>exact ⟨0,_,Nat.zero_le _,rfl,by rw [List.take_zero,show Zfv g.nodes g.rels t []=[] from rfl,List.append_nil];exact HN.out⟩
     case round =>
      clear HN
      obtain ⟨k,ve,hk,rfl,M⟩:=hrel
      have T:=Za M
      have q8:Hid (Below w.heap.size w wr):=t2.out.trans (M.b.mono (by omega))
      have I:=Za ((R.out.below G.out.i.b R.out.lt).below M.b v4)
      have C7:=Za (Zd9 M L.out p9.out)
      have q7:=Za (Zd9 M L.out r0.out)
      obtain ⟨Q3,K7,M0⟩:=M.e.slice
      obtain ⟨rk,n3⟩:∃ n,(Zdo g.nodes g.rels (E.take j) F++Zfv g.nodes g.rels t (F.take k)).length=n:=⟨_,rfl⟩
      rw [n3] at M0
      subst M0
      have r4:=Za n3
      clear M n3
      by_cases hlk:k<nl
      ·have e4:(k:Int)<nl:=by omega
       obtain ⟨l,hl⟩:∃ q,F[k]?=some q:=⟨_,List.getElem?_eq_getElem (by have:=P.out.1;omega)⟩
       obtain ⟨a0,A8,e0,_,_,k9⟩:=C7.out
       obtain ⟨rfl,rfl⟩:T8=a0/\lc0=A8:=by injection e0 with a b c;exact ⟨a,c⟩
       clear e0
       obtain ⟨bk,ok,rfl,hbk,hck⟩:=k9.resolve_left (by intro e;rw [e] at hl;simp at hl)
       have E1:=Za hl
       have X2:=Za (Zz9 (ns:=g.nodes) (rs:=g.rels) (t:=t) hl)
       have hlen:rk<=900000:=by have h1:=W0.out k;have h2:=r4.out;omega
       clear hl k9 hck hbk
       have q0:=I.out.cell 0 rfl
       have q1:=I.out.cell 1 rfl
       have q2:=I.out.cell 2 rfl
       have q3:=I.out.cell 3 rfl
       have q4:=T.out.r.cell 4 (v:=.slice Q3 rk K7) rfl
       have g1:wr.cell? ⟨bk,ok+k,none⟩=some (.string l):=(Zey C7.out E1.out).1
       have g0:wr.cell? ⟨bo,oo+j,none⟩=some (.string t):=(Zey q7.out S4.out).1
       have f0:∀ u:Up wr.drew,u.x.cell? ⟨w.heap.size,0,none⟩=some (.slice na m nc):=fun u=>u.cell q0
       have f1:∀ u:Up wr.drew,u.x.cell? ⟨w.heap.size,1,none⟩=some (.slice ra m2 rc):=fun u=>u.cell q1
       have f2:∀ u:Up wr.drew,u.x.cell? ⟨w.heap.size,2,none⟩=some (.int .i64 nn):=fun u=>u.cell q2
       have f3:∀ u:Up wr.drew,u.x.cell? ⟨w.heap.size,3,none⟩=some (.int .i64 nr):=fun u=>u.cell q3
       have f4:∀ u:Up wr.drew,u.x.cell? ⟨bk,ok+k,none⟩=some (.string l):=fun u=>u.cell g1
       have f5:∀ u:Up wr.drew,u.x.cell? ⟨bo,oo+j,none⟩=some (.string t):=fun u=>u.cell g0
       have f6:∀ u:Up wr.drew,u.x.cell? ⟨w.heap.size+2,4,none⟩=some (.slice Q3 rk K7):=fun u=>u.cell q4
       have d:Nonempty (Up wr.drew):=⟨⟨wr.drew,Below.refl _ _⟩⟩
       clear q0 q1 q2 q3 q4 g0 g1
       have b9:=Za (Jcg T.out (by rw [r4.out];omega) (B:=B) (Nat.le_trans hB q8.out.size) (Zp.below (q8.out.mono hB) C.out.hg) (by have:=HM.out.1;omega) (by have:=HM.out.2;omega) t l false)
       go_upto_region 47 with fail
       refine Ze9 [] [0,1,2,3,4,5,6,7,8,9,10] [11,12,13] (by kernel_rfl) (by kernel_rfl) ?_
       simp only [Zb9,Zcp,Zac,Zbn,Zb5]
       repeat (go_big_quiet_step (fail))
       refine wpQuiet_nil ?_
       clear f0 f1 f2 f3 f4 f5 f6 d
       go_upto_region 48 with (go_at_call 51;refine b9.out.mono ?_;rintro e wa ⟨r7,t1,u0,rfl,g3,K2,N6⟩;have D:=Za g3;clear g3 b9;try dsimp only)
       obtain ⟨U,Q6⟩:∃ W,wa.setCell ⟨w.heap.size+2,4,none⟩ (.slice r7 t1 u0)=W:=⟨_,rfl⟩
       rw [Q6] at D |-
       have r1:Hid (Below w.heap.size w U):=t2.out.trans (D.out.b.mono (by omega))
       have O:=Za ((R.out.below G.out.i.b R.out.lt).below D.out.b v4)
       have L0:=Za (Zd9 D.out L.out p9.out)
       have D6:=Za (Zd9 D.out L.out r0.out)
       clear Q6 K2 N6 T
       have q0:=O.out.cell 0 rfl
       have q1:=O.out.cell 1 rfl
       have q2:=O.out.cell 2 rfl
       have q3:=O.out.cell 3 rfl
       have q4:=D.out.r.cell 4 (v:=.slice r7 t1 u0) rfl
       have g1:U.cell? ⟨bk,ok+k,none⟩=some (.string l):=(Zey L0.out E1.out).1
       have g0:U.cell? ⟨bo,oo+j,none⟩=some (.string t):=(Zey D6.out S4.out).1
       have f0:∀ u:Up U.drew,u.x.cell? ⟨w.heap.size,0,none⟩=some (.slice na m nc):=fun u=>u.cell q0
       have f1:∀ u:Up U.drew,u.x.cell? ⟨w.heap.size,1,none⟩=some (.slice ra m2 rc):=fun u=>u.cell q1
       have f2:∀ u:Up U.drew,u.x.cell? ⟨w.heap.size,2,none⟩=some (.int .i64 nn):=fun u=>u.cell q2
       have f3:∀ u:Up U.drew,u.x.cell? ⟨w.heap.size,3,none⟩=some (.int .i64 nr):=fun u=>u.cell q3
       have f4:∀ u:Up U.drew,u.x.cell? ⟨bk,ok+k,none⟩=some (.string l):=fun u=>u.cell g1
       have f5:∀ u:Up U.drew,u.x.cell? ⟨bo,oo+j,none⟩=some (.string t):=fun u=>u.cell g0
       have f6:∀ u:Up U.drew,u.x.cell? ⟨w.heap.size+2,4,none⟩=some (.slice r7 t1 u0):=fun u=>u.cell q4
       have d:Nonempty (Up U.drew):=⟨⟨U.drew,Below.refl _ _⟩⟩
       clear q0 q1 q2 q3 q4 g0 g1
       have b9:=Za (Jcg D.out (by rw [List.length_append,r4.out];have:=Zw0 g.nodes g.rels t l false;omega) (B:=B) (Nat.le_trans hB r1.out.size) (Zp.below (r1.out.mono hB) C.out.hg) (by have:=HM.out.1;omega) (by have:=HM.out.2;omega) t l true)
       refine Ze9 [] [0,1,2,3,4,5,6,7,8,9,10] [11,12,13] (by kernel_rfl) (by kernel_rfl) ?_
       simp only [Zb9,Zcp,Zac,Zbn,Zb5]
       repeat (go_big_quiet_step (fail))
       refine wpQuiet_nil ?_
       clear f0 f1 f2 f3 f4 f5 f6 d
       clear D
       go_wp2_with (go_at_call 51;refine b9.out.mono ?_;rintro e wa ⟨ea2,en2,ec2,rfl,g3,K2,N6⟩;have S8:=Za g3;clear g3 b9;try dsimp only)
       go_roundw
       case rel=>exact ⟨k+1,_,by omega,by go_num,by rw [X2.out,<- List.append_assoc,<- List.append_assoc];exact S8.out⟩
       case measure=>simp [intOf];omega
      ·have e4:¬ (k:Int)<nl:=by omega
       have hx:Zdo g.nodes g.rels (E.take j) F++Zfv g.nodes g.rels t (F.take k)=Zdo g.nodes g.rels (E.take (j+1)) F:=by rw [Y1.out,show F.take k=F from List.take_of_length_le (by have:=P.out.1;omega)]
       rw [hx] at T
       clear hx
       go_wp2_with fail
       go_roundw
       case rel=>exact ⟨j+1,_,_,by omega,by go_num,T.out⟩
       case measure=>simp [intOf];omega
  ·have F2:¬ (j:Int)<nt:=by omega
   have HQ:Hid (E.take j=E):=List.take_of_length_le (by have:=P.out.2;omega)
   rw [HQ.out] at T
   go_wp2_with fail
   exact HK.out _ _ _ _ _ _ _ _ _ _ _ _ _ _ _ _ _ _ _ _ _ _ _ _ _ _ _ _ _ _ _ _ _ _ _ _ _ _ _ _ _ _ _ _ _ _ _ _ _ _ _ _ _ _ _ _ _ _ _ _ _ _ _ _ _ _ _ _ _ _ _ _ _ _ _ _ _ _ _ _ _ _ _ _ _ _ _ _ _ _ _ _ _ _ _ _ _ _ _ _ _ _ _ _ _ _ _ _ _ _ _ _ _ _ _ _ _ _ _ _ _ _ _ _ _ _ _ _ _ _ _ _ _ _ _ _ _ _ _ _ _ _ _ _ _ _ _ _ _ _ _ _ _ _ _ _ _ _ _ _ _ _ _ _ _ _ _ _ _ _ _ _ _ _ _ _ _ _ _ _ _ _ _ _ _ _ _ _ _ _ _ _ _ _ _ _ _ _ _ _ _ _ _ _ _ _ _ _ _ _ _ _ _ _ _ _ _ _ _ _ ⟨_,_,T.out⟩
end Go.Proofs.YthfilnflgahcjaaGreatDoor

namespace Go.Proofs.YthfilnflgahcjaaGreatDoor
open Go.RowKit Go.Shelf Go.Maps
set_option linter.all false
attribute [local go_sem] Oper.semAt_some
structure Jc1 (g:Zx):Prop where
 m60:g.nodes.length<=60
 m60':g.rels.length<=60
 ll:(Zi g.nodes).length<=100000
 kk:(Za9 g.nodes).length<=100000
 vv:∀ l k,(Jw l k g.nodes).length<=100000
 kn:∀ n ∈ g.nodes,∀ q ∈ n.props,Zeh q.2
 re:(Zl0 g).ends.length<=900000
 rk:(Zl0 g).keys.length<=900000
def Jip (g:Zx) (w:World) (e:Ending) (w':World):Prop:=∃ b vl vt ve vk,e=.returned (Za4 (Zl0 g) vl vt ve vk)/\Zzl b w' vl vt ve vk (Zl0 g)/\Below w.heap.size w w'
set_option maxRecDepth 100000 in
set_option maxHeartbeats 16000000 in
theorem Zus (g:Zx) (v:Value) (B:Nat) (w:World) (hB:B<=w.heap.size) (h:Zp B w v g) (hf:Jc1 g):Calls Tryz.prog 15 #[v] w (Jip g w):=by
 have HG:=Za h
 have p:=Za hf
 obtain ⟨na,nc,ra,rc,rfl,hn,hr⟩:=h
 have HN:=Za hn
 have HR:=Za hr
 obtain ⟨nn,A⟩:∃ n,g.nn=n:=⟨_,rfl⟩
 obtain ⟨nr,E⟩:∃ n,g.nr=n:=⟨_,rfl⟩
 obtain ⟨m,hm⟩:∃ n,g.nodes.length=n:=⟨_,rfl⟩
 obtain ⟨m2,hm2⟩:∃ n,g.rels.length=n:=⟨_,rfl⟩
 have L:=Za (And.intro hm hm2)
 rw [hm] at HG HN |-
 rw [hm2] at HG HR |-
 rw [A] at HG |-
 rw [E] at HG |-
 clear hn hr A E hm hm2 hf
 obtain ⟨F,j⟩:∃ F,w.alloc (.cells #[.slice na m nc,.slice ra m2 rc,.int .i64 nn,.int .i64 nr] 25)=F:=⟨_,rfl⟩
 have r1:Rec F w.heap.size #[.slice na m nc,.slice ra m2 rc,.int .i64 nn,.int .i64 nr] 25:=by rw [<- j];exact Zk _ _ _
 have b1:Below w.heap.size w F:=by rw [<- j];exact Zc _ _
 have z1:F.heap.size=w.heap.size+1:=by rw [<- j];simp
 obtain ⟨D,s⟩:∃ D,F.alloc (.cells #[.int .i64 0,.int .i64 0,.slice none 0 0,.slice none 0 0,.slice none 0 0,.slice none 0 0] 33)=D:=⟨_,rfl⟩
 have r2:Rec D (w.heap.size+1) #[.int .i64 0,.int .i64 0,.slice none 0 0,.slice none 0 0,.slice none 0 0,.slice none 0 0] 33:=by rw [<- s,<- z1];exact Zk _ _ _
 have b2:Below F.heap.size F D:=by rw [<- s];exact Zc _ _
 have z2:D.heap.size=w.heap.size+2:=by rw [<- s];simp [z1]
 have o:=r1.below b2 r1.lt
 have c0:=o.cell 0 rfl
 have c1:=o.cell 1 rfl
 obtain ⟨d,y⟩:∃ d,D.alloc (.cells #[.int .i64 m,.int .i64 m2,.slice none 0 0,.slice none 0 0,.slice none 0 0,.slice none 0 0] 33)=d:=⟨_,rfl⟩
 have r3:Rec d (w.heap.size+2) #[.int .i64 m,.int .i64 m2,.slice none 0 0,.slice none 0 0,.slice none 0 0,.slice none 0 0] 33:=by rw [<- y,<- z2];exact Zk _ _ _
 have b3:Below D.heap.size D d:=by rw [<- y];exact Zc _ _
 have H:m<=60/\m2<=60:=⟨by rw [<- L.out.1];exact p.out.m60,by rw [<- L.out.2];exact p.out.m60'⟩
 have C:Hid (Jgg g B m m2 nc rc na ra nn nr w d):=⟨hB,L.out.1,L.out.2,H.1,H.2,p.out.ll,p.out.kk,p.out.vv,p.out.kn,Below.on b1 (Below.on b2 b3),(o.below b3 o.lt),r3,r2.below b3 r2.lt,HG.out,HN.out,HR.out⟩
 have HW1:=Za j
 have HW2:=Za s
 have HW3:=Za y
 have HZ1:=Za z1
 have HZ2:=Za z2
 clear j s y r1 r2 r3 b1 b2 b3 o H
 go_enter Tryz.func15,Tryz.ntmps15
 go_upto_region 1 with fail
 try rw [HW1.out]
 try rw [HW2.out]
 try rw [z1]
 clear z1
 go_upto_region 2 with fail
 rw [HW3.out]
 go_cut [4,5,6] from 7 (fun s4 s5 s6 W=>s4=.slice none 0 0/\s5=.slice none 0 0/\s6=.slice none 0 0/\d=W)
 case first =>
  go_wp2_with fail
  go_meet
  case rel=>exact ⟨rfl,rfl,rfl,rfl⟩
 case rest =>
  obtain ⟨rfl,rfl,rfl,rfl⟩:=hcut
  have o9:Hid (TxI d (.slice none 0 0) (.slice none 0 0) [] [] d):=⟨Zb4 1 Zap _ _,fun _=>rfl,Zb4 1 Zap _ _,fun _=>rfl,Below.refl _ _⟩
  clear c0 c1
  have hk:=‹∀ (a:Act) (w:World),Code.wp _ _ _ a w->_›
  refine hk _ _ ?_
  refine wp_seq (Jgj g B m m2 nc rc na ra nn nr w d _ _ _ _ _ _ _ _ _ _ _ _ _ _ _ _ _ _ _ _ _ _ _ _ _ _ _ _ _ _ _ _ _ _ _ _ _ _ _ _ _ _ _ _ _ _ _ _ _ _ _ _ _ _ _ _ _ _ _ _ _ _ _ _ _ _ _ _ _ _ _ _ _ _ _ _ _ _ _ _ _ _ _ _ _ _ _ _ _ _ _ _ _ _ _ _ _ _ _ _ _ _ _ _ _ _ _ _ _ _ _ _ _ _ _ _ _ _ _ _ _ _ _ _ _ _ _ _ _ _ _ _ _ _ _ _ _ _ _ _ _ _ _ _ _ _ _ _ _ _ _ _ _ _ _ _ _ _ _ _ _ _ _ _ _ _ _ _ _ _ _ _ _ _ _ _ _ _ _ _ _ _ _ _ _ _ _ _ _ _ _ _ _ _ _ _ _ _ _ _ _ _ _ _ _ _ _ _ _ _ _ _ _ _ _ _ _ _ _ d C o9 _ _ ?_)
  intro v7 v8 v9 v10 v11 W8 v13 v14 v15 S0 T3 v18 v19 U5 X2 v22 v23 v24 v25 v26 v27 v28 v29 v30 v31 v32 v33 v34 v35 U7 T0 Y6 v39 v40 v41 T7 v43 v44 v45 v46 v47 v48 v49 V8 v51 v52 T9 v54 v55 v56 S4 W5 v59 T4 v61 v62 v63 T5 Y7 v66 v67 v68 T6 W9 v71 v72 v73 X9 v75 T1 v77 v78 v79 v80 v81 v82 v83 Y8 S8 v86 v87 v88 v89 v90 v91 v92 v93 v94 S1 v96 v97 v98 v99 n3 o5 N9 F9 B3 w3 t3 x6 d2 P R5 f4 D5 E5 q1 E2 s2 g8 h3 R D8 a1 A0 l8 y6 K3 B1 G8 j6 C9 b5 k0 B6 M7 A4 h1 D0 A8 a5 d7 s3 v5 O2 S v4 j0 h7 O3 f8 h4 Q8 l0 u2 E0 o8 t7 f2 P8 C0 H3 T I0 u8 g5 t9 B8 N7 b0 n1 a8 p5 i8 N3 u0 K8 v1 i6 l3 f3 G2 v6 K2 H4 c8 L6 E7 H5 o6 L1 N1 O0 A3 l9 E3 h5 z0 r9 L8 e8 n4 B5 I9 Q9 m7 m3 B9 b4 E6 z3 o3 A5 N8 R8 a6 P1 m4 d6 Q6 c3 t4 t5 H1 z6 n9 z5 e5 va vb w4 Q5
  have r0:=Za Q5
  clear Q5
  refine wp_seq (Jc9 g B m m2 nc rc na ra nn nr w d va vb _ _ v7 v8 v9 v10 v11 W8 v13 v14 v15 S0 T3 v18 v19 U5 X2 v22 v23 v24 v25 v26 v27 v28 v29 v30 v31 v32 v33 v34 v35 U7 T0 Y6 v39 v40 v41 T7 v43 v44 v45 v46 v47 v48 v49 V8 v51 v52 T9 v54 v55 v56 S4 W5 v59 T4 v61 v62 v63 T5 Y7 v66 v67 v68 T6 W9 v71 v72 v73 X9 v75 T1 v77 v78 v79 v80 v81 v82 v83 Y8 S8 v86 v87 v88 v89 v90 v91 v92 v93 v94 S1 v96 v97 v98 v99 n3 o5 N9 F9 B3 w3 t3 x6 d2 P R5 f4 D5 E5 q1 E2 s2 g8 h3 R D8 a1 A0 l8 y6 K3 B1 G8 j6 C9 b5 k0 B6 M7 A4 h1 D0 A8 a5 d7 s3 v5 O2 S v4 j0 h7 O3 f8 h4 Q8 l0 u2 E0 o8 t7 f2 P8 C0 H3 T I0 u8 g5 t9 B8 N7 b0 n1 a8 p5 i8 N3 u0 K8 v1 i6 l3 f3 G2 v6 K2 H4 c8 L6 E7 H5 o6 L1 N1 O0 A3 l9 E3 h5 z0 r9 L8 e8 n4 B5 I9 Q9 m7 m3 B9 b4 E6 z3 o3 A5 N8 R8 a6 P1 m4 d6 Q6 c3 t4 t5 H1 z6 n9 z5 e5 w4 C r0 _ _ ?_)
  intro x7 x8 x9 x10 x11 W4 x13 x14 S5 x16 x17 x18 x19 x20 x21 X6 x23 V6 x25 x26 S2 x28 S3 x30 U0 x32 x33 V1 U1 x36 Y2 x38 x39 x40 S9 x42 x43 x44 x45 V9 Y1 x48 x49 x50 W6 x52 x53 x54 x55 x56 x57 x58 x59 S6 x61 x62 x63 X7 Y0 x66 Y3 x68 x69 x70 x71 x72 x73 x74 S7 x76 x77 U8 x79 x80 U3 x82 x83 x84 x85 x86 x87 V7 x89 X3 x91 x92 x93 x94 x95 x96 x97 x98 V2 d1 I1 A1 F3 I3 s0 P2 c9 u3 j7 j8 c5 M9 o2 R4 P3 k3 e0 F2 f6 R2 O4 M0 O k6 o0 A9 O6 q4 c4 g4 L3 r4 F7 g2 p0 j1 a2 A7 p6 g6 M6 p2 h2 q0 a4 q3 R1 r7 e6 w2 K7 p7 i5 Q2 g9 N0 G3 d8 L2 D6 v3 m6 Q0 r6 M2 i4 A6 N5 H6 K0 X k7 O5 g1 a3 I8 q2 m8 e9 K1 C2 m0 Q1 j4 u4 E9 n7 H7 M1 d0 b7 s8 a9 F0 B7 o1 N2 P9 P5 j2 B0 z4 b9 R0 E8 L4 O9 C3 C8 u7 B4 b6 m5 l6 u9 M4 v0 q8 D3 g0 M3 G9 P4 n6 p3 vc K w0
  have u:=Za w0
  clear w0
  have G:(Js (Zi g.nodes)).length<=100000:=Nat.le_trans (Zep _) p.out.ll
  have q7:(Js (Za9 g.nodes)).length<=100000:=Nat.le_trans (Zep _) p.out.kk
  have e3:(Js (Zc6 g.rels)).length<=100000:=Nat.le_trans (Zep _) (by unfold Zc6;rw [List.length_map];have:=p.out.m60';omega)
  refine wp_seq (Jda g B m m2 nc rc na ra nn nr w d va vb vc _ _ _ x7 x8 x9 x10 x11 W4 x13 x14 S5 x16 x17 x18 x19 x20 x21 X6 x23 V6 x25 x26 S2 x28 S3 x30 U0 x32 x33 V1 U1 x36 Y2 x38 x39 x40 S9 x42 x43 x44 x45 V9 Y1 x48 x49 x50 W6 x52 x53 x54 x55 x56 x57 x58 x59 S6 x61 x62 x63 X7 Y0 x66 Y3 x68 x69 x70 x71 x72 x73 x74 S7 x76 x77 U8 x79 x80 U3 x82 x83 x84 x85 x86 x87 V7 x89 X3 x91 x92 x93 x94 x95 x96 x97 x98 V2 d1 I1 A1 F3 I3 s0 P2 c9 u3 j7 j8 c5 M9 o2 R4 P3 k3 e0 F2 f6 R2 O4 M0 O k6 o0 A9 O6 q4 c4 g4 L3 r4 F7 g2 p0 j1 a2 A7 p6 g6 M6 p2 h2 q0 a4 q3 R1 r7 e6 w2 K7 p7 i5 Q2 g9 N0 G3 d8 L2 D6 v3 m6 Q0 r6 M2 i4 A6 N5 H6 K0 X k7 O5 g1 a3 I8 q2 m8 e9 K1 C2 m0 Q1 j4 u4 E9 n7 H7 M1 d0 b7 s8 a9 F0 B7 o1 N2 P9 P5 j2 B0 z4 b9 R0 E8 L4 O9 C3 C8 u7 B4 b6 m5 l6 u9 M4 v0 q8 D3 g0 M3 G9 P4 n6 p3 K C u ⟨G,q7⟩ p.out.rk _ _ ?_)
  rintro y7 y8 y9 T2 y11 X0 y13 y14 y15 y16 V4 y18 y19 y20 y21 y22 y23 y24 y25 y26 Y5 W7 y29 Y4 y31 y32 V3 y34 y35 y36 T8 U4 y39 y40 y41 y42 y43 y44 y45 y46 U2 y48 y49 y50 y51 y52 y53 y54 y55 y56 y57 y58 y59 y60 y61 y62 X1 V0 y65 y66 y67 y68 y69 U6 V5 y72 y73 y74 y75 y76 y77 y78 y79 y80 W0 y82 y83 U9 y85 y86 y87 y88 X8 y90 y91 X4 Y9 y94 y95 y96 y97 y98 y99 K6 O7 C7 k9 l4 N4 I5 G6 f1 i3 j9 p8 k8 P7 L7 E4 o4 K9 e7 t6 n2 f9 i9 w1 r5 F5 q9 d3 k5 K5 i1 j5 i7 D2 C5 t0 d4 s1 F4 M a0 G0 H9 H0 g3 i0 t8 n8 c2 j3 M8 m1 u1 R6 I7 G4 E1 F8 h0 s9 q5 f7 L0 O1 p1 a7 p4 C1 V C6 w9 v2 G7 P0 k4 l5 f0 G1 l7 B2 Q3 m9 A2 N d9 h8 I4 R3 p9 Q7 n5 c6 w8 L9 F6 s7 H2 I6 M5 h9 h6 F1 G5 D9 O8 i2 R7 d5 u6 b8 n0 R9 q6 C4 u5 o7 P6 N6 Q4 I2 Q U e4 K4 r8 D7 w6 ⟨vl,vk,L5⟩
  have D1:=Za L5
  clear L5
  refine wp_seq (Jdh g B m m2 nc rc na ra nn nr w d va vb vc _ _ _ y7 y8 y9 T2 y11 X0 y13 y14 y15 y16 V4 y18 y19 y20 y21 y22 y23 y24 y25 y26 Y5 W7 y29 Y4 y31 y32 V3 y34 y35 y36 T8 U4 y39 y40 y41 y42 y43 y44 y45 y46 U2 y48 y49 y50 y51 y52 y53 y54 y55 y56 y57 y58 y59 y60 y61 y62 X1 V0 y65 y66 y67 y68 y69 U6 V5 y72 y73 y74 y75 y76 y77 y78 y79 y80 W0 y82 y83 U9 y85 y86 y87 y88 X8 y90 y91 X4 Y9 y94 y95 y96 y97 y98 y99 K6 O7 C7 k9 l4 N4 I5 G6 f1 i3 j9 p8 k8 P7 L7 E4 o4 K9 e7 t6 n2 f9 i9 w1 r5 F5 q9 d3 k5 K5 i1 j5 i7 D2 C5 t0 d4 s1 F4 M a0 G0 H9 H0 g3 i0 t8 n8 c2 j3 M8 m1 u1 R6 I7 G4 E1 F8 h0 s9 q5 f7 L0 O1 p1 a7 p4 C1 V C6 w9 v2 G7 P0 k4 l5 f0 G1 l7 B2 Q3 m9 A2 N d9 h8 I4 R3 p9 Q7 n5 c6 w8 L9 F6 s7 H2 I6 M5 h9 h6 F1 G5 D9 O8 i2 R7 d5 u6 b8 n0 R9 q6 C4 u5 o7 P6 N6 Q4 I2 Q U e4 K4 r8 D7 K C u w6 vl vk _ _ D1 ⟨G,e3⟩ p.out.re _ _ ?_)
  rintro z7 z8 z9 z10 z11 z12 z13 z14 z15 z16 z17 z18 z19 z20 z21 z22 z23 z24 z25 z26 z27 z28 z29 z30 z31 z32 z33 z34 z35 z36 z37 z38 z39 z40 z41 z42 z43 z44 z45 z46 z47 z48 z49 z50 z51 z52 z53 z54 z55 z56 z57 z58 z59 z60 z61 z62 z63 z64 z65 z66 z67 z68 z69 z70 z71 z72 z73 z74 z75 z76 z77 z78 z79 z80 z81 z82 z83 z84 z85 z86 z87 z88 z89 z90 z91 z92 z93 z94 z95 z96 z97 z98 z99 z100 z101 z102 z103 z104 z105 z106 z107 z108 z109 z110 z111 z112 z113 z114 z115 z116 z117 z118 z119 z120 z121 z122 z123 z124 z125 z126 z127 z128 z129 z130 z131 z132 z133 z134 z135 z136 z137 z138 z139 z140 z141 z142 z143 z144 z145 z146 z147 z148 z149 z150 z151 z152 z153 z154 z155 z156 z157 z158 z159 z160 z161 z162 z163 z164 z165 z166 z167 z168 z169 z170 z171 z172 z173 z174 z175 z176 z177 z178 z179 z180 z181 z182 z183 z184 z185 z186 z187 z188 z189 z190 z191 z192 z193 z194 z195 z196 z197 z198 z199 z200 z201 z202 z203 z204 z205 z206 z207 z208 z209 z210 z211 z212 z213 z214 z215 z216 z217 z218 z219 z220 z221 z222 z223 z224 z225 w7 ⟨vt,ve,Y⟩
  have c:=Za Y
  clear Y D1 G q7 e3 hk
  obtain ⟨l1,l2,rfl⟩:=c.out.l.slice
  obtain ⟨t1,t2,rfl⟩:=c.out.t.slice
  obtain ⟨e1,e2,rfl⟩:=c.out.e.slice
  obtain ⟨k1,k2,rfl⟩:=c.out.k.slice
  obtain ⟨lm,D4⟩:∃ n,(Zh0 g.nodes (Js (Zi g.nodes))).length=n:=⟨_,rfl⟩
  obtain ⟨tm,H8⟩:∃ n,(Zh5 g.rels (Js (Zc6 g.rels))).length=n:=⟨_,rfl⟩
  obtain ⟨em,c7⟩:∃ n,(Zdo g.nodes g.rels (Js (Zc6 g.rels)) (Js (Zi g.nodes))).length=n:=⟨_,rfl⟩
  obtain ⟨km,f5⟩:∃ n,(Zcd g.nodes (Js (Zi g.nodes)) (Js (Za9 g.nodes))).length=n:=⟨_,rfl⟩
  rw [D4,H8,c7,f5] at c
  have I:Below d.heap.size d K:=u.out.i.b
  have g7:w.heap.size+2<K.heap.size:=c.out.x
  have r2:Rec w7 (w.heap.size+1) #[.int .i64 0,.int .i64 0,.slice none 0 0,.slice none 0 0,.slice none 0 0,.slice none 0 0] 33:=(C.out.r2.below I C.out.r2.lt).keep (c.out.f _ (by omega) (by omega))
  have x0:=c.out.r.cell 0 rfl
  have x1:=c.out.r.cell 1 rfl
  have x2:=c.out.r.cell 2 rfl
  have x3:=c.out.r.cell 3 rfl
  have x4:=c.out.r.cell 4 rfl
  have x5:=c.out.r.cell 5 rfl
  have y0:=r2.cell 0 rfl
  have y1:=r2.cell 1 rfl
  have y2:=r2.cell 2 rfl
  have y3:=r2.cell 3 rfl
  have y4:=r2.cell 4 rfl
  have y5:=r2.cell 5 rfl
  have fz0:=r2.z 0
  have fz1:=r2.z 1
  have fz2:=r2.z 2
  have fz3:=r2.z 3
  have fz4:=r2.z 4
  have fz5:=r2.z 5
  have HP:=Za (Jm (Jm (Jm (Jm (Jm (Jm (Zev r2) 0 (.int .i64 m)) 1 (.int .i64 m2)) 2 (.slice l1 lm l2)) 3 (.slice t1 tm t2)) 4 (.slice e1 em e2)) 5 (.slice k1 km k2))
  have X5:Hid (Below w.heap.size w w7):=(Below.on C.out.b3 I).trans (c.out.b.mono (by omega))
  have HXW:=Za g7
  have HCL:Hid (∀ W,(∀ q,q≠w.heap.size+1->W.heap[q]?=w7.heap[q]?)->Zzl K.heap.size W (.slice l1 lm l2) (.slice t1 tm t2) (.slice e1 em e2) (.slice k1 km k2) (Zl0 g)):=fun W hW=>⟨c.out.l.keep fun q hq _=>hW q (by omega),c.out.t.keep fun q hq _=>hW q (by omega),c.out.e.keep fun q hq _=>hW q (by omega),c.out.k.keep fun q hq _=>hW q (by omega)⟩
  have HV:Hid (.agg #[.int .i64 (m:Int),.int .i64 (m2:Int),.slice l1 lm l2,.slice t1 tm t2,.slice e1 em e2,.slice k1 km k2]=Za4 (Zl0 g) (.slice l1 lm l2) (.slice t1 tm t2) (.slice e1 em e2) (.slice k1 km k2)):=by
   show _=_
   unfold Za4 Zl0
   rw [L.out.1,L.out.2]
  clear r2 I g7 D4 H8 c7 f5 c u r0 o9
  go_wp2_with fail
  refine bodyPost_ret (results_cell_row rfl _ _ (w.heap.size+1) 33 _ (0,0) _ rfl HP.out.r Tryz.underlying33 rfl (by kernel_rfl)) rfl ?_
  exact ⟨K.heap.size,_,_,_,_,congrArg Ending.returned HV.out,HCL.out _ (fun q hq=>HP.out.other q hq),X5.out.trans (HP.out.below.mono (Nat.le_succ _))⟩
end Go.Proofs.YthfilnflgahcjaaGreatDoor

namespace Go.Proofs.YthfilnflgahcjaaGreatDoor
open Go.RowKit Go.Shelf
set_option linter.all false
theorem Ztf:∀ ns:List Zj,((Za9 ns).length:Int)<=(ns.map Zdc).sum
 | []=>by simp [Za9]
 | x::r=>by
  have h:=Ztf r
  have d:=Zbz x.props
  have j:=Zu x.labels
  have e:Za9 (x::r)=x.props.map Prod.fst++Za9 r:=by simp [Za9]
  rw [e,List.map_cons,List.sum_cons,List.length_append,List.length_map]
  unfold Zdc at h |-
  omega
theorem Zpk (l k:ByteArray) (ls:List ByteArray):∀ f:List (ByteArray × Zd),(Zcc l k ls f).length<=f.length
 | []=>by simp [Zcc]
 | q::r=>by
  have h:=Zpk l k ls r
  have e:Zcc l k ls (q::r)=(if Zj5 l k ls q=true then [q.2] else [])++Zcc l k ls r:=by simp [Zcc]
  rw [e,List.length_append,List.length_cons]
  split<;>simp<;>omega
theorem Zpl (l k:ByteArray):∀ ns:List Zj,(Jw l k ns).length<=(Za9 ns).length
 | []=>by simp [Jw]
 | x::r=>by
  have h:=Zpl l k r
  have d:=Zpk l k x.labels x.props
  have e:Za9 (x::r)=x.props.map Prod.fst++Za9 r:=by simp [Za9]
  have e2:Jw l k (x::r)=Zcc l k x.labels x.props++Jw l k r:=by simp [Jw]
  rw [e,e2,List.length_append,List.length_append,List.length_map]
  omega
theorem Je8 {g:Zx} {s:Zak} (i:Zao g=true) (c:Zaz g=true) (b:Jfb s) (e:s=Zl0 g):Jc1 g:=by
 obtain ⟨d,j⟩:=Za6 i
 have u:=Zf2 Zeg g.nodes
 have p:=Zf2 (fun x=>Int.le_trans (by omega) (Zh4 x)) g.rels
 have t:=Zkj g.nodes
 have o:=Ztf g.nodes
 refine ⟨by omega,by omega,by omega,by omega,fun l k=>?_,fun n hn q m=>Zk0 (Zhi c n hn q m),?_,?_⟩
 ·have:=Zpl l k g.nodes;omega
 ·rw [<- e];exact b.e
 ·rw [<- e];exact b.k
end Go.Proofs.YthfilnflgahcjaaGreatDoor

