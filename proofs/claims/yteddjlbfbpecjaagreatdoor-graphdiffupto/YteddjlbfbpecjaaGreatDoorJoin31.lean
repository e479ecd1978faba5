import Derived.Test.YteddjlbfbpecjaaGreatDoorJoin30
namespace Go.Proofs.YteddjlbfbpecjaaGreatDoor
set_option linter.all false
section
open Go.RowKit Go.Shelf
attribute [local go_sem] Oper.semAt_some
theorem Zmo  : Zhn []:=fun p H=>by cases H
theorem Zh2 (a:Int × Value):Zhn [a]:=fun p H q d _=>by simp at H d;rw [H,d]
theorem Jbq {a b:Int × Value} (h:a.1≠b.1):Zhn [a,b]:=fun p H q d e=>by
 simp at H d
 rcases H with rfl | rfl<;>rcases d with rfl | rfl
 ·rfl
 ·exact absurd e h
 ·exact absurd e.symm h
 ·rfl
theorem Zyx {b:Nat} {k:Int} {a:Option Addr} {n c:Nat} (hk:I64 k):Zt8 b [(k,.slice a n c)] k a n c:=fun W j =>
 (Zk7 (z:=.slice none 0 0) Tryz.underlying72' j k _ hk (by simp) (fun q d e=>by simp at d;rw [d])).2
theorem Zg7 {b:Nat} {es:List (Int × Value)} {k:Int} (hk:I64 k) (h:∀ q ∈ es,q.1≠k):Zt8 b es k none 0 0:=fun W j=>(Zmn Tryz.underlying72' Zpl j k hk h).2
theorem Zyy {W:World} {base:Nat} {v:Value} {id:Int} (h:W.ownsRow base 2 1 v 1 [.int .i64 id]):∃ Y c,v=.slice (some ⟨Y,0,none⟩) 1 c/\base<=Y/\1<=c/\c<=9223372036854775807/\W.cell? ⟨Y,0,none⟩=some (.int .i64 id)/\W.frozen? ⟨Y,0,none⟩=false/\v.ownBlock=some Y:=by
 have h':=h
 rcases h.2 with ⟨_,h0⟩ | ⟨gb,gc,cur,h1,a8,f6,r1,r2,r3,r4⟩
 ·simp at h0
 ·subst h1
  refine ⟨gb,gc,rfl,a8,r1,by unfold maxLen at r2;omega,?_,by simp [World.frozen?,f6],rfl⟩
  have:=h'.cells (g:=gb) rfl 0 (.int .i64 id) rfl
  have e2:(⟨gb,0,none⟩:Addr).add 0=⟨gb,0,none⟩:=by unfold Addr.add;split<;>simp_all
  rwa [e2] at this
theorem Zt9 (w:World) (hE:Env w):Calls Tryz.prog 13 #[.agg #[.slice none 0 0,.slice none 0 0,.int .i64 0,.int .i64 0]] w fun e w'=>∃ p:GP,e=.returned (.tuple #[p.val,.int .i64 0])/\Below w.heap.size w w'/\p.Ok w.heap.size/\GS w' p 0 0 [] [] [] []:=Zua w hE
theorem Zyz {w:World} {p:GP} {nn nr id:Int} {F T:List (Int × Value)} (h:GS w p nn nr [(id,.agg #[.int .i64 id,.slice none 0 0,.slice none 0 0])] [] F T) :
  Calls Tryz.prog 19 #[p.val] w fun e w'=>∃ za zc Q rc,e=.returned (.agg #[.slice za 1 zc,.slice Q 0 rc,.int .i64 nn,.int .i64 nr])/\Below w.heap.size w w':=by
 refine (Jap h w.heap.size (Nat.le_refl _) [⟨id,[],[]⟩] [] ⟨by simp,by simp,by simp [Zff],by simp [Zff],Zh2 _,Zmo,?_,by simp,by simp⟩ (by simp) (by simp)).mono ?_
 ·intro n hn
  simp only [List.mem_cons,List.not_mem_nil,or_false] at hn
  subst hn
  exact ⟨_,List.mem_cons_self,none,0,none,0,rfl,⟨Nat.le_refl _,by omega⟩,.inl rfl,⟨none,0,rfl,Nat.le_refl _,by omega,.inl rfl⟩⟩
 ·rintro e w' ⟨v,rfl,⟨nv,rv,rfl,⟨za,zc,rfl,_⟩,⟨Q,rc,rfl,_⟩⟩,hb⟩
  exact ⟨za,zc,Q,rc,rfl,hb⟩
set_option maxRecDepth 100000 in
set_option maxHeartbeats 16000000 in
theorem Zy0 (w:World) (hE:Env w):Calls Tryz.prog 10 #[] w fun e w'=>e=.returned (.bool true)/\Below w.heap.size w w':=by
 have HE:=Zb hE
 have h3:=hE.room
 have B:I64 0:=Zf1 (by omega) (by omega)
 have i1:I64 1:=Zf1 (by omega) (by omega)
 have i2:I64 2:=Zf1 (by omega) (by omega)
 clear hE
 go_enter Tryz.func10,Tryz.ntmps10
 go_wp2_with fail
 refine (Zt9 w HE.out).mono ?_
 rintro e w1 ⟨p,rfl,b8,e4,d0⟩
 have d1:=Zb b8
 have C:=Zb e4
 have g5:=Zb d0
 have f9:w.heap.size<=w1.heap.size:=b8.size
 clear b8 e4 d0
 unfold GP.val
 go_wp2_with fail
 generalize N:World.alloc _ _=W2
 have K:Hid (Below w1.heap.size w1 W2):=by rw [<- N];exact ((Below.refl _ _).alloc (Nat.le_refl _) _).alloc (by simp) _
 have s:Hid (Rec W2 w1.heap.size #[.string ⟨#[66]⟩,.string ⟨#[65]⟩] 9):=by rw [<- N];exact (Zl _ _ _).alloc _
 have y:Hid (Rec W2 (w1.heap.size+1) #[.string ⟨#[107]⟩,.int .i64 2,.bool false,.int .i64 1,.string ⟨#[]⟩,.slice none 0 0,.slice none 0 0] 79):=by
  rw [<- N]
  have:=Zl (w1.alloc (.cells #[.string ⟨#[66]⟩,.string ⟨#[65]⟩] 9)) #[.string ⟨#[107]⟩,.int .i64 2,.bool false,.int .i64 1,.string ⟨#[]⟩,.slice none 0 0,.slice none 0 0] 79
  rwa [show (w1.alloc (.cells #[.string ⟨#[66]⟩,.string ⟨#[65]⟩] 9)).heap.size=w1.heap.size+1 by simp] at this
 clear N
 have o:=Zb ((HE.out.below d1.out h3).below K.out (by omega))
 have i6:w1.heap.size<=W2.heap.size:=K.out.size
 have c3:=Zb (Zkm (g5.out.below K.out) w.heap.size C.out (by omega) [⟨#[66]⟩,⟨#[65]⟩] (some ⟨w1.heap.size,0,none⟩) 2 (.slice (some ⟨w1.heap.size+1,0,none⟩) 1 1) (fun _ _=>True) ⟨_,_,_,rfl⟩ (by simp) (by simp) (by omega)
  (fun i x A=>⟨w1.heap.size,0,rfl,s.out.lt,by
   match i,A with
   | 0,A=>simp at A;subst A;exact s.out.cell 0 rfl
   | 1,A=>simp at A;subst A;exact s.out.cell 1 rfl
   | i+2,A=>simp at A⟩)
  (by
   have h:=Zhh [⟨#[66]⟩,⟨#[65]⟩] W2.heap.size (some ⟨w1.heap.size,0,none⟩) 2 W2 (Nat.le_refl _) (.inr ⟨w1.heap.size,0,rfl,s.out.lt,fun i hi=>by
    match i,hi with
    | 0,_=>exact ⟨s.out.cell 0 rfl,by unfold maxLen;decide⟩
    | 1,_=>exact ⟨s.out.cell 1 rfl,by unfold maxLen;decide⟩
    | i+2,hi=>exact absurd hi (Nat.not_lt.2 (Nat.le_add_left 2 i))⟩) (by simp) (by omega) (by intro x A;simp at A;rcases A with rfl | rfl<;>decide) o.out o.out.room
   rwa [Ja1] at h)
  (fun W j=>by
   have H:Zda W.heap.size W (w1.heap.size+1) 0 (⟨#[107]⟩,tK):=by
    have u:=y.out.below j y.out.lt
    exact ⟨u.cell 0 rfl,by unfold maxLen;decide,_,_,_,_,_,_,⟨u.cell 1 rfl,u.cell 2 rfl,u.cell 3 rfl,u.cell 4 rfl,u.cell 5 rfl,u.cell 6 rfl⟩,Zxm _ _⟩
   have h:=Zha (.slice (some ⟨w1.heap.size+1,0,none⟩) 1 1) [(⟨#[107]⟩,tK)] W.heap.size W (Nat.le_refl _) (Nat.le_trans o.out.room j.size) ⟨_,1,rfl,by simp,by omega,.inr ⟨w1.heap.size+1,0,rfl,Nat.lt_of_lt_of_le y.out.lt j.size,fun i q d=>by
    match i,d with
    | 0,d=>simp at d;subst d;exact H
    | i+1,d=>simp at d⟩⟩ (by intro q d;simp at d;subst d;exact ⟨by decide,Zoc⟩) (o.out.below j o.out.room)
   rwa [Ztq] at h)
  (fun W j=>by
   have H:Zda W.heap.size W (w1.heap.size+1) 0 (⟨#[107]⟩,tK):=by
    have u:=y.out.below j y.out.lt
    exact ⟨u.cell 0 rfl,by unfold maxLen;decide,_,_,_,_,_,_,⟨u.cell 1 rfl,u.cell 2 rfl,u.cell 3 rfl,u.cell 4 rfl,u.cell 5 rfl,u.cell 6 rfl⟩,Zxm _ _⟩
   exact (Zzm ⟨#[107]⟩ tK (w1.heap.size+1) 0 1 W.heap.size W (Nat.le_refl _) (Nat.lt_of_lt_of_le y.out.lt j.size) (by omega) (by omega) H Ja0 (o.out.below j o.out.room) Zoc Jdb).mono fun e w' ⟨_,_,_,_,_,_,h1,_,_,h4⟩=>⟨_,_,_,h1,trivial,h4⟩)
  B (by omega) (by omega) (by simp) (by simp))
 unfold GP.val at c3
 refine c3.out.mono ?_
 rintro e w3 ⟨rfl,la,ln,lc,pa,pn,pc,d9,d6,_,_,_⟩
 have R:=Zb d9
 have S:Hid (Below w.heap.size w w3):=(d1.out.trans (K.out.mono f9)).trans d6
 have a1:=Zb (HE.out.below S.out h3)
 clear d9 d6 c3 y s K o
 simp only [List.nil_append,Int.zero_add] at R
 obtain ⟨n0,b3⟩:∃ v,v=Value.agg #[.int .i64 0,.slice la ln lc,.slice pa pn pc]:=⟨_,rfl⟩
 have f5:Hid (Zg0 n0):=⟨_,_,_,_,_,_,_,b3⟩
 rw [<- b3] at R
 clear b3
 have c6:=Zb (Zkm R.out w.heap.size C.out S.out.size [] none 0 (.slice none 0 0) (fun _ v=>v=.slice none 0 0) ⟨_,_,_,rfl⟩ (by simp) (by simp) (by omega) (fun i x A=>by simp at A)
  (Zhh [] w3.heap.size none 0 w3 (Nat.le_refl _) (.inl rfl) (by simp) (by omega) (by simp) a1.out a1.out.room)
  (fun W j=>Zmd a1.out j) (fun W j=>Zxn W) i1 (by omega) (by omega) (by simp) (by simp))
 unfold GP.val at c6
 go_wp2_with fail
 refine c6.out.mono ?_
 rintro e w4 ⟨rfl,h8,h5,i7,g8,h9,i5,c7,f2,_,a6,_,f0⟩
 obtain ⟨rfl,rfl,rfl⟩:=a6 (by simp [Zd4,Zmb,Zfl,Zhm])
 rw [f0] at c7
 have m:=Zb c7
 have E:=Zb (S.out.trans f2)
 have b7:=Zb (HE.out.below E.out h3)
 clear c7 f2 c6 a6 f0 R S a1
 simp only [List.cons_append,List.nil_append,show (1:Int)+1=2 from rfl] at m
 obtain ⟨n1,P⟩:∃ v,v=Value.agg #[.int .i64 1,.slice none 0 0,.slice none 0 0]:=⟨_,rfl⟩
 have f7:Hid (Zg0 n1):=⟨_,_,_,_,_,_,_,P⟩
 have g0:=Zb P
 rw [<- P] at m
 clear P
 have e1:Zhn [(0,n0),(1,n1)]:=Jbq (by simp)
 have e0:∀ q ∈ [((0:Int),n0),(1,n1)],Zg0 q.2:=fun q d=>by simp at d;rcases d with rfl | rfl<;>first | exact f5.out | exact f7.out
 have l:=Zb (And.intro e1 e0)
 have o4:p.g<w4.heap.size/\p.n<w4.heap.size/\p.r<w4.heap.size/\p.f<w4.heap.size/\p.t<w4.heap.size:=⟨m.out.obj.lt,m.out.n.lt,m.out.r.lt,m.out.f.lt,m.out.t.lt⟩
 have b2:=Zb o4
 have i4:w.heap.size<=w4.heap.size:=E.out.size
 clear e1 e0 o4
 have c0:=Zb (Zwx m.out w.heap.size C.out E.out.size l.out.1 Zmo l.out.2 (by simp) 0 1 ⟨#[84]⟩ (.slice none 0 0) (fun _ _=>True) ⟨_,_,_,rfl⟩ B i1 (by simp [Zd8]) (by simp [Zd8]) (fun W j=>Zrr b7.out j) (fun W j=>Zmd b7.out j) (fun W j=>(Zqt 0 0 W).mono fun e w' ⟨h1,h2⟩=>⟨_,_,_,h1,trivial,h2⟩) B (by omega) (by omega) (by simp) (by simp) (by simp) (by simp))
 unfold GP.val at c0
 go_wp2_with fail
 refine c0.out.mono ?_
 rintro e w5 ⟨rfl,Q,rn,rc,fv,tv,e5,e8,⟨bb,h6,d2,e9⟩,d3⟩
 obtain ⟨Y,yc,rfl,h7,g2,g4,f3,d5,e3⟩:=Zyy e8
 obtain ⟨Z,zc,rfl,f4,g6,f8,f1,e7,g7⟩:=Zyy d2
 have i3:Y<Z:=Nat.lt_of_lt_of_le (e9 Y e3) f4
 have L:=Zb e5
 have U:=Zb (E.out.trans d3)
 have d8:=Zb (HE.out.below U.out h3)
 have V:=Zb (And.intro f3 d5)
 have O:=Zb (And.intro f1 e7)
 clear e5 d3 e8 d2 e9 c0 e3 g7 f3 d5 f1 e7 m E b7
 simp only [List.nil_append,Int.zero_add] at L
 obtain ⟨r0,X⟩:∃ v,v=Value.agg #[.int .i64 0,.int .i64 0,.int .i64 1,.string ⟨#[84]⟩,.slice Q rn rc]:=⟨_,rfl⟩
 have g3:=Zb X
 rw [<- X] at L
 have b4:Hid (∀ q ∈ [((0:Int),r0)],Zub q.2):=fun q d=>by simp at d;subst d;exact ⟨_,_,_,_,_,_,_,X⟩
 clear X
 have b0:=Zb (Zpm L.out l.out.1 (Zh2 _) l.out.2 b4.out 0 2 ⟨#[84]⟩ (.slice none 0 0) ⟨_,_,_,rfl⟩ B i2 (by simp [Zd8]) (by simp [Zd8]) (fun W j=>Zrr d8.out j) (fun W j=>Zmd d8.out j))
 unfold GP.val at b0
 go_wp2_with fail
 refine b0.out.mono ?_
 rintro e w6 ⟨rfl,c5⟩
 have a7:=Zb (L.out.below c5)
 have a4:=Zb c5
 clear c5 b0
 have b1:=Zb (Zmm a7.out l.out.1 (Zh2 _) l.out.2 b4.out 0 B (by simp [Zd8]) (some ⟨Y,0,none⟩) none 1 yc 0 0 (Zyx B) (Zg7 B (by simp)) (by omega) (by omega) (by omega))
 unfold GP.val at b1
 go_wp2_with fail
 refine b1.out.mono ?_
 rintro e w7 ⟨rfl,b9⟩
 have c2:=Zb (a7.out.below b9)
 have D:=Zb (Za a4.out b9)
 clear b9 b1 a7 a4 L
 have M:Hid (Below w.heap.size w w7):=U.out.trans (D.out.mono U.out.size)
 have a0:Y<w5.heap.size/\Z<w5.heap.size:=⟨Zaq V.out.1,Zaq O.out.1⟩
 have a9:=Zb (Jbm c2.out w.heap.size C.out M.out.size l.out.1 (Zh2 _) l.out.2 b4.out 0 0 1 ⟨#[84]⟩ Q rn rc B B i1 (by simp [Zd8]) [] [] 0 (by rw [g3.out];rfl) (fun a q d e=>by
   match a,d with
   | 0,_=>rfl
   | a+1,d=>simp at d) (fun W j=>by
  have hb:=Za D.out j
  have oo:=b2.out
  have g9:=U.out.size
  exact Zsu (c2.out.below j) w.heap.size C.out (Nat.le_trans M.out.size j.size) 0 0 1 ⟨#[84]⟩ Q rn rc B i1 0 0 Y Z 0 0 yc zc rfl rfl (fun a q d e=>by
   match a,d with
   | 0,_=>rfl
   | a+1,d=>simp at d) (fun a q d e=>by
   match a,d with
   | 0,_=>rfl
   | a+1,d=>simp at d) ((hb.cell (p:=⟨Y,0,none⟩) a0.1).trans V.out.1) ((hb.frozen (p:=⟨Y,0,none⟩) a0.1).trans V.out.2) ((hb.cell (p:=⟨Z,0,none⟩) a0.2).trans O.out.1) ((hb.frozen (p:=⟨Z,0,none⟩) a0.2).trans O.out.2) ⟨g2,g4⟩ ⟨g6,f8⟩ (by have:=b2.out;refine ⟨?_,?_,?_,?_,?_,?_⟩<;>omega) (by have:=b2.out;refine ⟨?_,?_,?_,?_,?_,?_⟩<;>omega) (by omega)))
 unfold GP.val at a9
 go_wp2_with fail
 refine a9.out.mono ?_
 rintro e w8 ⟨rfl,d4,c9⟩
 have c4:=Zb d4
 have b6:=Zb (M.out.trans c9)
 clear d4 c9 a9 c2 M D V O
 simp only [List.eraseIdx_zero,List.tail_cons] at c4
 have b5:=Zb (Zyt c4.out w.heap.size C.out b6.out.size l.out.1 Zmo l.out.2 (by simp) 0 B (by simp [Zd8]) none none 0 0 0 0 (Zg7 B (by simp)) (Zg7 B (by simp)) rfl rfl 0 n0 rfl (fun a q d e=>by
   match a,d with
   | 0,_=>rfl
   | 1,d=>simp at d;subst d;simp at e
   | a+2,d=>simp at d))
 unfold GP.val at b5
 go_wp2_with fail
 refine b5.out.mono ?_
 rintro e w9 ⟨rfl,a2,e6⟩
 have c8:=Zb (b6.out.trans e6)
 simp only [List.eraseIdx_zero,List.tail_cons] at a2
 rw [g0.out] at a2
 have c1:=Zb (Zyz a2)
 unfold GP.val at c1
 clear a2 e6 b5 c4 b6
 go_wp2_with fail
 refine c1.out.mono ?_
 rintro e g1 ⟨za,zc,Q,rc,rfl,a5⟩
 have a3:=Zb (c8.out.trans (a5.mono c8.out.size))
 clear a5 c1 c8
 go_upto_region 12 with fail
 generalize G:World.alloc _ _=W11
 have d7:Hid (Below w.heap.size w W11):=by rw [<- G];exact a3.out.alloc a3.out.size _
 have I:Hid (Rec W11 g1.heap.size #[.slice za 1 zc,.slice Q 0 rc,.int .i64 2,.int .i64 1] 25):=by rw [<- G];exact Zl _ _ _
 clear G
 have t0:=I.out.cell 0 rfl
 have t2:=I.out.cell 2 rfl
 have t3:=I.out.cell 3 rfl
 go_wp2_with fail
 go_ret
 exact ⟨rfl,d7.out⟩
end
section
open Go.ChangeShapes Go.WideShapes Go.ChangeAt Go.RowKit Go.Shelf Go.Deep
theorem Zve  : Tryz.prog.cellsOf 79=7:=by kernel_rfl
theorem Zvf  : Tryz.prog.cellsOf 45=1:=by kernel_rfl
section
variable {H:Type} {enc:TypeId × Value->H} {W:World}
end
end
