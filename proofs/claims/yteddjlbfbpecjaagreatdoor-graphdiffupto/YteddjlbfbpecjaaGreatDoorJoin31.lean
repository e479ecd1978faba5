import Derived.Test.YteddjlbfbpecjaaGreatDoorJoin30
namespace Go.Proofs.YteddjlbfbpecjaaGreatDoor
set_option linter.all false
section
open Go.RowKit Go.Shelf
attribute [local go_sem] Oper.semAt_some
theorem Zmo  : Zhn []:=fun p G=>by cases G
theorem Zh2 (a:Int × Value):Zhn [a]:=fun p G q d _=>by simp at G d;rw [G,d]
theorem Jbq {a b:Int × Value} (h:a.1≠b.1):Zhn [a,b]:=fun p G q d e=>by
 simp at G d
 rcases G with rfl | rfl<;>rcases d with rfl | rfl
 ·rfl
 ·exact absurd e h
 ·exact absurd e.symm h
 ·rfl
theorem Zyx {b:Nat} {k:Int} {a:Option Addr} {n c:Nat} (hk:I64 k):Zt8 b [(k,.slice a n c)] k a n c:=fun W j =>
 (Zk7 (z:=.slice none 0 0) Tryz.underlying72' j k _ hk (by simp) (fun q d e=>by simp at d;rw [d])).2
theorem Zg7 {b:Nat} {es:List (Int × Value)} {k:Int} (hk:I64 k) (h:∀ q ∈ es,q.1≠k):Zt8 b es k none 0 0:=fun W j=>(Zmn Tryz.underlying72' Zpl j k hk h).2
theorem Zyy {W:World} {base:Nat} {v:Value} {id:Int} (h:W.ownsRow base 2 1 v 1 [.int .i64 id]):∃ Y c,v=.slice (some ⟨Y,0,none⟩) 1 c/\base<=Y/\1<=c/\c<=9223372036854775807/\W.cell? ⟨Y,0,none⟩=some (.int .i64 id)/\W.frozen? ⟨Y,0,none⟩=false/\v.ownBlock=some Y:=by
 have h':=h
 rcases h.2 with ⟨_,h0⟩ | ⟨gb,gc,cur,h1,c3,f6,r1,r2,r3,r4⟩
 ·simp at h0
 ·subst h1
  refine ⟨gb,gc,rfl,c3,r1,by unfold maxLen at r2;omega,?_,by simp [World.frozen?,f6],rfl⟩
  have:=h'.cells (g:=gb) rfl 0 (.int .i64 id) rfl
  have e6:(⟨gb,0,none⟩:Addr).add 0=⟨gb,0,none⟩:=by unfold Addr.add;split<;>simp_all
  rwa [e6] at this
theorem Zt9 (w:World) (hE:Env w):Calls Tryz.prog 13 #[.agg #[.slice none 0 0,.slice none 0 0,.int .i64 0,.int .i64 0]] w fun e w'=>∃ p:GP,e=.returned (.tuple #[p.val,.int .i64 0])/\Below w.heap.size w w'/\p.Ok w.heap.size/\GS w' p 0 0 [] [] [] []:=Zua w hE
theorem Zyz {w:World} {p:GP} {nn nr id:Int} {F T:List (Int × Value)} (h:GS w p nn nr [(id,.agg #[.int .i64 id,.slice none 0 0,.slice none 0 0])] [] F T) :
  Calls Tryz.prog 19 #[p.val] w fun e w'=>∃ za zc M Q,e=.returned (.agg #[.slice za 1 zc,.slice M 0 Q,.int .i64 nn,.int .i64 nr])/\Below w.heap.size w w':=by
 refine (Jap h w.heap.size (Nat.le_refl _) [⟨id,[],[]⟩] [] ⟨by simp,by simp,by simp [Zff],by simp [Zff],Zh2 _,Zmo,?_,by simp,by simp⟩ (by simp) (by simp)).mono ?_
 ·intro n hn
  simp only [List.mem_cons,List.not_mem_nil,or_false] at hn
  subst hn
  exact ⟨_,List.mem_cons_self,none,0,none,0,rfl,⟨Nat.le_refl _,by omega⟩,.inl rfl,⟨none,0,rfl,Nat.le_refl _,by omega,.inl rfl⟩⟩
 ·rintro e w' ⟨v,rfl,⟨nv,rv,rfl,⟨za,zc,rfl,_⟩,⟨M,Q,rfl,_⟩⟩,hb⟩
  exact ⟨za,zc,M,Q,rfl,hb⟩
set_option maxRecDepth 100000 in
set_option maxHeartbeats 16000000 in
theorem Zy0 (w:World) (hE:Env w):Calls Tryz.prog 10 #[] w fun e w'=>e=.returned (.bool true)/\Below w.heap.size w w':=by
 have HE:=Zb hE
 have h3:=hE.room
 have B:I64 0:=Zf1 (by omega) (by omega)
 have i1:I64 1:=Zf1 (by omega) (by omega)
 have i2:I64 2:=Zf1 (by omega) (by omega)
 clear hE
 go_enter Tryz.func10,Tryz.ntmps10
 go_wp2_with fail
 refine (Zt9 w HE.out).mono ?_
 rintro e w1 ⟨p,rfl,b1,e4,f2⟩
 have d7:=Zb b1
 have C:=Zb e4
 have f5:=Zb f2
 have g6:w.heap.size<=w1.heap.size:=b1.size
 clear b1 e4 f2
 unfold GP.val
 go_wp2_with fail
 generalize S:World.alloc _ _=W2
 have D:Hid (Below w1.heap.size w1 W2):=by rw [<- S];exact ((Below.refl _ _).alloc (Nat.le_refl _) _).alloc (by simp) _
 have s:Hid (Rec W2 w1.heap.size #[.string ⟨#[66]⟩,.string ⟨#[65]⟩] 9):=by rw [<- S];exact (Zl _ _ _).alloc _
 have y:Hid (Rec W2 (w1.heap.size+1) #[.string ⟨#[107]⟩,.int .i64 2,.bool false,.int .i64 1,.string ⟨#[]⟩,.slice none 0 0,.slice none 0 0] 79):=by
  rw [<- S]
  have:=Zl (w1.alloc (.cells #[.string ⟨#[66]⟩,.string ⟨#[65]⟩] 9)) #[.string ⟨#[107]⟩,.int .i64 2,.bool false,.int .i64 1,.string ⟨#[]⟩,.slice none 0 0,.slice none 0 0] 79
  rwa [show (w1.alloc (.cells #[.string ⟨#[66]⟩,.string ⟨#[65]⟩] 9)).heap.size=w1.heap.size+1 by simp] at this
 clear S
 have o:=Zb ((HE.out.below d7.out h3).below D.out (by omega))
 have h8:w1.heap.size<=W2.heap.size:=D.out.size
 have b7:=Zb (Zkm (f5.out.below D.out) w.heap.size C.out (by omega) [⟨#[66]⟩,⟨#[65]⟩] (some ⟨w1.heap.size,0,none⟩) 2 (.slice (some ⟨w1.heap.size+1,0,none⟩) 1 1) (fun _ _=>True) ⟨_,_,_,rfl⟩ (by simp) (by simp) (by omega)
  (fun i x A=>⟨w1.heap.size,0,rfl,s.out.lt,by
   match i,A with
   | 0,A=>simp at A;subst A;exact s.out.cell 0 rfl
   | 1,A=>simp at A;subst A;exact s.out.cell 1 rfl
   | i+2,A=>simp at A⟩)
  (by
   have h:=Zhh [⟨#[66]⟩,⟨#[65]⟩] W2.heap.size (some ⟨w1.heap.size,0,none⟩) 2 W2 (Nat.le_refl _) (.inr ⟨w1.heap.size,0,rfl,s.out.lt,fun i hi=>by
    match i,hi with
    | 0,_=>exact ⟨s.out.cell 0 rfl,by unfold maxLen;decide⟩
    | 1,_=>exact ⟨s.out.cell 1 rfl,by unfold maxLen;decide⟩
    | i+2,hi=>exact absurd hi (Nat.not_lt.2 (Nat.le_add_left 2 i))⟩) (by simp) (by omega) (by intro x A;simp at A;rcases A with rfl | rfl<;>decide) o.out o.out.room
   rwa [Ja1] at h)
  (fun W j=>by
   have G:Zda W.heap.size W (w1.heap.size+1) 0 (⟨#[107]⟩,tK):=by
    have u:=y.out.below j y.out.lt
    exact ⟨u.cell 0 rfl,by unfold maxLen;decide,_,_,_,_,_,_,⟨u.cell 1 rfl,u.cell 2 rfl,u.cell 3 rfl,u.cell 4 rfl,u.cell 5 rfl,u.cell 6 rfl⟩,Zxm _ _⟩
   have h:=Zha (.slice (some ⟨w1.heap.size+1,0,none⟩) 1 1) [(⟨#[107]⟩,tK)] W.heap.size W (Nat.le_refl _) (Nat.le_trans o.out.room j.size) ⟨_,1,rfl,by simp,by omega,.inr ⟨w1.heap.size+1,0,rfl,Nat.lt_of_lt_of_le y.out.lt j.size,fun i q d=>by
    match i,d with
    | 0,d=>simp at d;subst d;exact G
    | i+1,d=>simp at d⟩⟩ (by intro q d;simp at d;subst d;exact ⟨by decide,Zoc⟩) (o.out.below j o.out.room)
   rwa [Ztq] at h)
  (fun W j=>by
   have G:Zda W.heap.size W (w1.heap.size+1) 0 (⟨#[107]⟩,tK):=by
    have u:=y.out.below j y.out.lt
    exact ⟨u.cell 0 rfl,by unfold maxLen;decide,_,_,_,_,_,_,⟨u.cell 1 rfl,u.cell 2 rfl,u.cell 3 rfl,u.cell 4 rfl,u.cell 5 rfl,u.cell 6 rfl⟩,Zxm _ _⟩
   exact (Zzm ⟨#[107]⟩ tK (w1.heap.size+1) 0 1 W.heap.size W (Nat.le_refl _) (Nat.lt_of_lt_of_le y.out.lt j.size) (by omega) (by omega) G Ja0 (o.out.below j o.out.room) Zoc Jdb).mono fun e w' ⟨_,_,_,_,_,_,h1,_,_,h4⟩=>⟨_,_,_,h1,trivial,h4⟩)
  B (by omega) (by omega) (by simp) (by simp))
 unfold GP.val at b7
 refine b7.out.mono ?_
 rintro e w3 ⟨rfl,la,ln,lc,pa,pn,pc,d8,d2,_,_,_⟩
 have O:=Zb d8
 have U:Hid (Below w.heap.size w w3):=(d7.out.trans (D.out.mono g6)).trans d2
 have a2:=Zb (HE.out.below U.out h3)
 clear d8 d2 b7 y s D o
 simp only [List.nil_append,Int.zero_add] at O
 obtain ⟨n0,b9⟩:∃ v,v=Value.agg #[.int .i64 0,.slice la ln lc,.slice pa pn pc]:=⟨_,rfl⟩
 have g2:Hid (Zg0 n0):=⟨_,_,_,_,_,_,_,b9⟩
 rw [<- b9] at O
 clear b9
 have b6:=Zb (Zkm O.out w.heap.size C.out U.out.size [] none 0 (.slice none 0 0) (fun _ v=>v=.slice none 0 0) ⟨_,_,_,rfl⟩ (by simp) (by simp) (by omega) (fun i x A=>by simp at A)
  (Zhh [] w3.heap.size none 0 w3 (Nat.le_refl _) (.inl rfl) (by simp) (by omega) (by simp) a2.out a2.out.room)
  (fun W j=>Zmd a2.out j) (fun W j=>Zxn W) i1 (by omega) (by omega) (by simp) (by simp))
 unfold GP.val at b6
 go_wp2_with fail
 refine b6.out.mono ?_
 rintro e w4 ⟨rfl,h7,i3,g9,i5,h5,i8,c7,f0,_,a4,_,f3⟩
 obtain ⟨rfl,rfl,rfl⟩:=a4 (by simp [Zd4,Zmb,Zfl,Zhm])
 rw [f3] at c7
 have m:=Zb c7
 have L:=Zb (U.out.trans f0)
 have b5:=Zb (HE.out.below L.out h3)
 clear c7 f0 b6 a4 f3 O U a2
 simp only [List.cons_append,List.nil_append,show (1:Int)+1=2 from rfl] at m
 obtain ⟨n1,a3⟩:∃ v,v=Value.agg #[.int .i64 1,.slice none 0 0,.slice none 0 0]:=⟨_,rfl⟩
 have g0:Hid (Zg0 n1):=⟨_,_,_,_,_,_,_,a3⟩
 have g7:=Zb a3
 rw [<- a3] at m
 clear a3
 have d9:Zhn [(0,n0),(1,n1)]:=Jbq (by simp)
 have e0:∀ q ∈ [((0:Int),n0),(1,n1)],Zg0 q.2:=fun q d=>by simp at d;rcases d with rfl | rfl<;>first | exact g2.out | exact g0.out
 have l:=Zb (And.intro d9 e0)
 have o4:p.g<w4.heap.size/\p.n<w4.heap.size/\p.r<w4.heap.size/\p.f<w4.heap.size/\p.t<w4.heap.size:=⟨m.out.obj.lt,m.out.n.lt,m.out.r.lt,m.out.f.lt,m.out.t.lt⟩
 have c4:=Zb o4
 have h6:w.heap.size<=w4.heap.size:=L.out.size
 clear d9 e0 o4
 have c1:=Zb (Zwx m.out w.heap.size C.out L.out.size l.out.1 Zmo l.out.2 (by simp) 0 1 ⟨#[84]⟩ (.slice none 0 0) (fun _ _=>True) ⟨_,_,_,rfl⟩ B i1 (by simp [Zd8]) (by simp [Zd8]) (fun W j=>Zrr b5.out j) (fun W j=>Zmd b5.out j) (fun W j=>(Zqt 0 0 W).mono fun e w' ⟨h1,h2⟩=>⟨_,_,_,h1,trivial,h2⟩) B (by omega) (by omega) (by simp) (by simp) (by simp) (by simp))
 unfold GP.val at c1
 go_wp2_with fail
 refine c1.out.mono ?_
 rintro e w5 ⟨rfl,M,rn,Q,fv,tv,e1,d5,⟨bb,i4,d4,d1⟩,e7⟩
 obtain ⟨Y,yc,rfl,i6,g3,f9,f1,e9,e5⟩:=Zyy d5
 obtain ⟨Z,zc,rfl,g1,g8,f8,d6,e3,g4⟩:=Zyy d4
 have h9:Y<Z:=Nat.lt_of_lt_of_le (d1 Y e5) g1
 have K:=Zb e1
 have V:=Zb (L.out.trans e7)
 have e2:=Zb (HE.out.below V.out h3)
 have R:=Zb (And.intro f1 e9)
 have a1:=Zb (And.intro d6 e3)
 clear e1 e7 d5 d4 d1 c1 e5 g4 f1 e9 d6 e3 m L b5
 simp only [List.nil_append,Int.zero_add] at K
 obtain ⟨r0,X⟩:∃ v,v=Value.agg #[.int .i64 0,.int .i64 0,.int .i64 1,.string ⟨#[84]⟩,.slice M rn Q]:=⟨_,rfl⟩
 have f7:=Zb X
 rw [<- X] at K
 have b8:Hid (∀ q ∈ [((0:Int),r0)],Zub q.2):=fun q d=>by simp at d;subst d;exact ⟨_,_,_,_,_,_,_,X⟩
 clear X
 have c8:=Zb (Zpm K.out l.out.1 (Zh2 _) l.out.2 b8.out 0 2 ⟨#[84]⟩ (.slice none 0 0) ⟨_,_,_,rfl⟩ B i2 (by simp [Zd8]) (by simp [Zd8]) (fun W j=>Zrr e2.out j) (fun W j=>Zmd e2.out j))
 unfold GP.val at c8
 go_wp2_with fail
 refine c8.out.mono ?_
 rintro e w6 ⟨rfl,c0⟩
 have a8:=Zb (K.out.below c0)
 have a5:=Zb c0
 clear c0 c8
 have c6:=Zb (Zmm a8.out l.out.1 (Zh2 _) l.out.2 b8.out 0 B (by simp [Zd8]) (some ⟨Y,0,none⟩) none 1 yc 0 0 (Zyx B) (Zg7 B (by simp)) (by omega) (by omega) (by omega))
 unfold GP.val at c6
 go_wp2_with fail
 refine c6.out.mono ?_
 rintro e w7 ⟨rfl,c9⟩
 have b0:=Zb (a8.out.below c9)
 have E:=Zb (Za a5.out c9)
 clear c9 c6 a8 a5 K
 have N:Hid (Below w.heap.size w w7):=V.out.trans (E.out.mono V.out.size)
 have P:Y<w5.heap.size/\Z<w5.heap.size:=⟨Zaq R.out.1,Zaq a1.out.1⟩
 have c5:=Zb (Jbm b0.out w.heap.size C.out N.out.size l.out.1 (Zh2 _) l.out.2 b8.out 0 0 1 ⟨#[84]⟩ M rn Q B B i1 (by simp [Zd8]) [] [] 0 (by rw [f7.out];rfl) (fun a q d e=>by
   match a,d with
   | 0,_=>rfl
   | a+1,d=>simp at d) (fun W j=>by
  have hb:=Za E.out j
  have oo:=c4.out
  have i7:=V.out.size
  exact Zsu (b0.out.below j) w.heap.size C.out (Nat.le_trans N.out.size j.size) 0 0 1 ⟨#[84]⟩ M rn Q B i1 0 0 Y Z 0 0 yc zc rfl rfl (fun a q d e=>by
   match a,d with
   | 0,_=>rfl
   | a+1,d=>simp at d) (fun a q d e=>by
   match a,d with
   | 0,_=>rfl
   | a+1,d=>simp at d) ((hb.cell (p:=⟨Y,0,none⟩) P.1).trans R.out.1) ((hb.frozen (p:=⟨Y,0,none⟩) P.1).trans R.out.2) ((hb.cell (p:=⟨Z,0,none⟩) P.2).trans a1.out.1) ((hb.frozen (p:=⟨Z,0,none⟩) P.2).trans a1.out.2) ⟨g3,f9⟩ ⟨g8,f8⟩ (by have:=c4.out;refine ⟨?_,?_,?_,?_,?_,?_⟩<;>omega) (by have:=c4.out;refine ⟨?_,?_,?_,?_,?_,?_⟩<;>omega) (by omega)))
 unfold GP.val at c5
 go_wp2_with fail
 refine c5.out.mono ?_
 rintro e w8 ⟨rfl,f4,d3⟩
 have b4:=Zb f4
 have b2:=Zb (N.out.trans d3)
 clear f4 d3 c5 b0 N E R a1
 simp only [List.eraseIdx_zero,List.tail_cons] at b4
 have a9:=Zb (Zyt b4.out w.heap.size C.out b2.out.size l.out.1 Zmo l.out.2 (by simp) 0 B (by simp [Zd8]) none none 0 0 0 0 (Zg7 B (by simp)) (Zg7 B (by simp)) rfl rfl 0 n0 rfl (fun a q d e=>by
   match a,d with
   | 0,_=>rfl
   | 1,d=>simp at d;subst d;simp at e
   | a+2,d=>simp at d))
 unfold GP.val at a9
 go_wp2_with fail
 refine a9.out.mono ?_
 rintro e w9 ⟨rfl,a0,d0⟩
 have b3:=Zb (b2.out.trans d0)
 simp only [List.eraseIdx_zero,List.tail_cons] at a0
 rw [g7.out] at a0
 have c2:=Zb (Zyz a0)
 unfold GP.val at c2
 clear a0 d0 a9 b4 b2
 go_wp2_with fail
 refine c2.out.mono ?_
 rintro e g5 ⟨za,zc,M,Q,rfl,a6⟩
 have a7:=Zb (b3.out.trans (a6.mono b3.out.size))
 clear a6 c2 b3
 go_upto_region 12 with fail
 generalize I:World.alloc _ _=W11
 have e8:Hid (Below w.heap.size w W11):=by rw [<- I];exact a7.out.alloc a7.out.size _
 have H:Hid (Rec W11 g5.heap.size #[.slice za 1 zc,.slice M 0 Q,.int .i64 2,.int .i64 1] 25):=by rw [<- I];exact Zl _ _ _
 clear I
 have t0:=H.out.cell 0 rfl
 have t2:=H.out.cell 2 rfl
 have t3:=H.out.cell 3 rfl
 go_wp2_with fail
 go_ret
 exact ⟨rfl,e8.out⟩
end
section
open Go.ChangeShapes Go.WideShapes Go.ChangeAt Go.RowKit Go.Shelf Go.Deep
theorem Zve  : Tryz.prog.cellsOf 79=7:=by kernel_rfl
theorem Zvf  : Tryz.prog.cellsOf 45=1:=by kernel_rfl
section
variable {H:Type} {enc:TypeId × Value->H} {W:World}
end
end
