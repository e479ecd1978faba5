import Derived.Test.YteddjlbfbpecjaaGreatDoorJoin7
namespace Go.Proofs.YteddjlbfbpecjaaGreatDoor
set_option maxHeartbeats 4000000
set_option maxRecDepth 100000
set_option linter.all false
section
open Go.RowKit Go.Shelf
attribute [local go_sem] Oper.semAt_some
def Zhm  : Nat->List ByteArray->List ByteArray
 | 0,_=>[]
 | _+1,[]=>[]
 | n+1,x::r=>x::Zhm n (Zc9 x r)
def Zfl (ks:List ByteArray):List ByteArray:=Zhm ks.length ks
theorem Zi0 (x:ByteArray) (r:List ByteArray):(Zc9 x r).length<=r.length:=(List.dropWhile_sublist _).length_le
theorem Znu  : ∀ (n m:Nat) (ks:List ByteArray),ks.length<=n->ks.length<=m->Zhm n ks=Zhm m ks
 | n,m,[],_,_=>by cases n<;>cases m<;>rfl
 | n+1,m+1,x::r,h1,h2=>by
  have:=Zi0 x r
  simp only [List.length_cons] at h1 h2
  simp only [Zhm,Znu n m (Zc9 x r) (by omega) (by omega)]
theorem Ztg (x:ByteArray) (r:List ByteArray):Zfl (x::r)=x::Zfl (Zc9 x r):=by
 have:=Zi0 x r
 unfold Zfl
 simp only [List.length_cons,Zhm]
 rw [Znu r.length (Zc9 x r).length (Zc9 x r) this (Nat.le_refl _)]
theorem Zwo (ks:List ByteArray):(Zfl ks).length<=ks.length:=by
 have:∀ n ks,(Zhm n ks).length<=n:=by
  intro n
  induction n with
  | zero=>intro ks;simp [Zhm]
  | succ n ih =>
   intro ks
   cases ks with
   | nil=>simp [Zhm]
   | cons x r=>simp only [Zhm,List.length_cons];have:=ih (Zc9 x r);omega
 exact this _ _
def Zi1 (W:World) (d g:Nat) (ks:List ByteArray):Prop:=∃ a c,Rec W g #[.slice a ks.length c] 44/\Zfk W d g a ks/\ks.length<=c/\c<=9223372036854775807
theorem Zi1.rest {W:World} {d g:Nat} {ks:List ByteArray} (h:Zi1 W d g ks):Jd4 W d g W ks:=⟨h,rfl,fun _ _=>rfl,Below.refl _ _⟩
theorem Zi1.keep {W W':World} {d g:Nat} {ks:List ByteArray} (h:Zi1 W d g ks) (hk:∀ i,d<=i->i<=g->W'.heap[i]?=W.heap[i]?) (hl:d<=g):Zi1 W' d g ks:=by
 obtain ⟨a,c,h1,h2,h3⟩:=h
 refine ⟨a,c,h1.keep (hk g hl (Nat.le_refl _)),h2.imp id fun ⟨b,off,e,hb,hc⟩=>⟨b,off,e,hb,fun i x hx=>(World.cell?_of_block (hk b hb.1 (Nat.le_of_lt hb.2))).trans (hc i x hx)⟩,h3⟩
structure AnJ (w V:World) (p:GP) (nn nr:Int) (N R F T:List (Int × Value)) (X d g:Nat) (D:Option Addr) (C E:Nat) (done rest:List ByteArray) (W:World):Prop where
 gs:GS W p nn nr N R F T
 node:∃ la lc,Rec W X #[.int .i64 nn,.slice la done.length lc,.slice D C E] 47/\W.ownsRow (g+1) 9 1 (.slice la done.length lc) done.length (done.map Value.string)/\(done=[]->la=none/\lc=0)
 left:Zi1 W d g rest
 below:Below w.heap.size w W
 room:g<W.heap.size
 far:∀ b,w.heap.size<=b->b<d->b≠X->W.heap[b]?=V.heap[b]?
 old:p.g<w.heap.size/\p.n<w.heap.size/\p.r<w.heap.size/\p.f<w.heap.size/\p.t<w.heap.size
def Jb0 (d g:Nat) (ks:List ByteArray) (W:World) (v:ByteArray) (b:Bool) (w':World):Prop:=(ks=[]/\b=false/\w'=W)\/∃ x r,ks=x::r/\v=x/\b=true/\Jd4 W d g w' (Zc9 x r)
theorem Zrh {W:World} {d g:Nat} {ks:List ByteArray} (h:Zi1 W d g ks):Calls Tryz.prog 138 #[.pointer (some ⟨g,0,none⟩)] W fun e w'=>∃ v b,e=.returned (.tuple #[.string v,.bool b])/\Jb0 d g ks W v b w':=by
 cases ks with
 | nil =>
  obtain ⟨a,c,hr,_⟩:=h
  exact (Zv6 g a c W hr).mono fun e w' ⟨h1,h2⟩=>⟨_,_,h1,.inl ⟨rfl,rfl,h2⟩⟩
 | cons x r=>exact (Zv7 d g x r W h.rest).mono fun e w' ⟨h1,h2⟩=>⟨_,_,h1,.inr ⟨x,r,rfl,rfl,rfl,h2⟩⟩
def Zwp  : Value->Nat
 | .bool true=>1
 | _=>0
def AnI (w V:World) (p:GP) (nn nr:Int) (N R F T:List (Int × Value)) (X d g:Nat) (D:Option Addr) (C E:Nat) (S:List ByteArray) (l m:Value) (wr:World):Prop :=
 ∃ done rest,AnJ w V p nn nr N R F T X d g D C E done rest wr/\((m=.bool false/\(∃ s,l=.string s)/\done=S)\/∃ x,l=.string x/\m=.bool true/\done++x::Zfl rest=S)
theorem AnJ.next {w V:World} {p:GP} {nn nr:Int} {N R F T:List (Int × Value)} {X d g:Nat} {D:Option Addr} {C E:Nat} {done rest:List ByteArray} {W w':World} {v:ByteArray} {b:Bool} {S:List ByteArray}
  (h:AnJ w V p nn nr N R F T X d g D C E done rest W) (hn:Jb0 d g rest W v b w') (hS:done++Zfl rest=S) (hX:X<d) (hl:d<=g) (hw:w.heap.size<=X):AnI w V p nn nr N R F T X d g D C E S (.string v) (.bool b) w'/\(Zpi w' g+Zwp (.bool b)=0\/Zpi w' g+Zwp (.bool b)<=rest.length):=by
 rcases hn with ⟨rfl,rfl,rfl⟩ | ⟨x,r,rfl,rfl,rfl,hr⟩
 ·refine ⟨⟨done,[],h,.inl ⟨rfl,⟨v,rfl⟩,by simpa [Zfl,Zhm] using hS⟩⟩,.inl ?_⟩
  obtain ⟨a,c,h1,_⟩:=h.left
  rw [Zf7 h1];rfl
 ·rw [Ztg] at hS
  refine ⟨⟨done,Zc9 v r,⟨?_,?_,hr.at_,?_,by rw [hr.size];exact h.room,fun b h1 h2 h3=>(hr.other b (by omega)).trans (h.far b h1 h2 h3),h.old⟩,.inr ⟨v,rfl,rfl,hS⟩⟩,.inr ?_⟩
  ·exact ⟨h.gs.obj.keep (hr.other _ (by have:=h.old;omega)),h.gs.n.block (hr.other _ (by have:=h.old;omega)),h.gs.r.block (hr.other _ (by have:=h.old;omega)),h.gs.f.block (hr.other _ (by have:=h.old;omega)),h.gs.t.block (hr.other _ (by have:=h.old;omega))⟩
  ·obtain ⟨la,lc,h1,h2,h3⟩:=h.node
   exact ⟨la,lc,h1.keep (hr.other _ (by omega)),Jf h2 fun i hi _=>hr.other i (by omega),h3⟩
  ·exact h.below.trans (hr.below.mono (by omega))
  ·obtain ⟨a,c,h1,_⟩:=hr.at_
   rw [Zf7 h1]
   have:=Zi0 v r
   simp only [Zwp,List.length_cons]
   omega
def Jk4 (w:World) (K:World->Value->Prop) (v:Value) (w':World):Prop:=∃ V X,KB K V v/\w.heap.size<=X/\Rec V X #[.int .i64 0,.slice none 0 0,.slice none 0 0] 47/\Below w.heap.size w V/\V.heap.size<=w'.heap.size/\∀ b,w.heap.size<=b->b<V.heap.size->b≠X->w'.heap[b]?=V.heap[b]?
set_option maxRecDepth 100000 in
set_option maxHeartbeats 8000000 in
theorem Zpk {w:World} {p:GP} {nn nr:Int} {N R F T:List (Int × Value)} (h:GS w p nn nr N R F T) (B:Nat) (c8:p.Ok B) (hB:B<=w.heap.size)
  (ks:List ByteArray) (a:Option Addr) (cap:Nat) (pv:Value) (K:World->Value->Prop) (e3:∃ a n c,pv=.slice a n c)
  (f7:ks.length<=2000000) (b4:ks.length<=cap) (b6:cap<=9223372036854775807) (c9:Zca w.heap.size w a ks)
  (ha:Calls Tryz.prog 85 #[.slice a ks.length cap] w fun e w'=>e=.returned (.bool true)/\Below w.heap.size w w')
  (hs:∀ W,Below w.heap.size w W->Calls Tryz.prog 86 #[pv] W fun e w'=>e=.returned (.bool true)/\Below W.heap.size W w')
  (hk:∀ W,Below w.heap.size w W->Calls Tryz.prog 88 #[pv] W fun e w'=>∃ a n c,e=.returned (.slice a n c)/\K w' (.slice a n c)/\Below W.heap.size W w')
  (e6:I64 nn) (b3:nn<4611686018427387904) (d8:0<=nn) (a5:∀ q ∈ N,q.1≠nn) (e7:N.length+R.length<65536) :
  Calls Tryz.prog 30 #[p.val,.slice a ks.length cap,pv] w fun e w'=>e=.returned (.tuple #[.int .i64 nn,.int .i64 0])/\∃ la A lc D C E,GS w' p (nn+1) nr (N++[(nn,.agg #[.int .i64 nn,.slice la A lc,.slice D C E])]) R F T/\Below B w w'/\w'.ownsRow w.heap.size 9 1 (.slice la A lc) (Zfl (Zd4 ks)).length ((Zfl (Zd4 ks)).map Value.string)/\(Zfl (Zd4 ks)=[]->la=none/\A=0/\lc=0)/\Jk4 w K (.slice D C E) w':=by
 obtain ⟨qa,qn,qc,rfl⟩:=e3
 have i2:(Zd4 ks).length<=2000000:=by rw [Zoa];exact f7
 obtain ⟨S,c7⟩:∃ S,Zfl (Zd4 ks)=S:=⟨_,rfl⟩
 have o7:S.length<=2000000:=by rw [<- c7];exact Nat.le_trans (Zwo _) i2
 rw [c7]
 have l2:=Zb c7
 clear c7 i2
 have HG:=Zb h
 have HK:=Zb hk
 have HS:=Zb hs
 have HA:=Zb ha
 have HT:=Zb c9
 have g1:=Zb (Zcw h)
 have m1:=Zb c8
 have j1:=Zb a5
 clear h hk hs ha c9 c8 a5
 unfold GP.val at g1 |-
 go_enter Tryz.func30,Tryz.ntmps30
 go_wp2_with fail
 refine g1.out.mono ?_
 rintro e w1 ⟨rfl,i5⟩
 rw [i5]
 clear i5 g1
 go_wp2_with fail
 refine HA.out.mono ?_
 rintro e w2 ⟨rfl,k6⟩
 have e2:=Zb k6
 clear k6 HA
 go_wp2_with fail
 refine (HS.out w2 e2.out).mono ?_
 rintro e w3 ⟨rfl,U⟩
 have a1:=Zb (Za e2.out U)
 clear U HS
 have f2:=Zb (HG.out.below a1.out)
 have e4:=Zb (Zqr f2.out e7 nn b3)
 unfold GP.val at e4
 have c2:=f2.out.c2
 go_wp2_with fail
 refine e4.out.mono ?_
 rintro e w4 ⟨rfl,k3⟩
 have M:=Zb (Za a1.out k3)
 have f6:=Zb (HG.out.below M.out)
 clear k3 c2 e4 f2 a1 e2
 go_upto_region 7 with fail
 show (Code.region 7 Zj0 true).wp _ _ _ _
 refine Zwb p nn (.slice qa qn qc) w4.heap.size K _ _ _ rfl ⟨rfl,rfl⟩ ?_ ?_
 ·intro W hW
  exact ⟨(hW.cell (p:=⟨p.g,2,none⟩) f6.out.obj.lt).trans f6.out.c2,hW.size,HK.out W (Za M.out hW)⟩
 rintro c O hS f4 ⟨D,C,E,g2,j9⟩ ⟨X,e8,hX,c6⟩
 have c4:Hid (KB K O (.slice D C E)/\w.heap.size<=X/\Rec O X #[.int .i64 0,.slice none 0 0,.slice none 0 0] 47/\Below w.heap.size w O):=⟨j9,Nat.le_trans M.out.size hX,c6,Za M.out f4⟩
 clear j9
 obtain ⟨W6,d9,I⟩:=Jcf c.eval X O _ _ _ nn D C E c6 e8 g2
 refine ⟨W6,d9,?_⟩
 clear d9
 rw [Zba hS [33,34,35,36,37,38,39,40,8] (by kernel_rfl)]
 obtain ⟨n0,g7⟩:∃ y,c.eval (.tmp 33)=y:=⟨_,rfl⟩
 obtain ⟨p6,k0⟩:∃ y,c.eval (.tmp 34)=y:=⟨_,rfl⟩
 obtain ⟨q3,g5⟩:∃ y,c.eval (.tmp 35)=y:=⟨_,rfl⟩
 obtain ⟨p1,i6⟩:∃ y,c.eval (.tmp 36)=y:=⟨_,rfl⟩
 obtain ⟨p8,j0⟩:∃ y,c.eval (.tmp 37)=y:=⟨_,rfl⟩
 obtain ⟨p2,j7⟩:∃ y,c.eval (.tmp 38)=y:=⟨_,rfl⟩
 obtain ⟨p0,j4⟩:∃ y,c.eval (.tmp 39)=y:=⟨_,rfl⟩
 obtain ⟨p7,e0⟩:∃ y,c.eval (.tmp 40)=y:=⟨_,rfl⟩
 obtain ⟨y8,q8⟩:∃ y,c.eval (.tmp 8)=y:=⟨_,rfl⟩
 simp only [List.foldl_cons,List.foldl_nil,g7,k0,g5,i6,j0,j7,j4,e0,q8]
 rw [e8] at q8
 rw [g2] at e0
 subst q8 e0
 clear e8 g2 hS
 have m3:X<O.heap.size:=c6.lt
 have a8:Hid (Below w.heap.size w W6):=(M.out.trans (f4.mono M.out.size)).trans (I.below.mono (Nat.le_trans M.out.size hX))
 have g6:Hid (GS W6 p nn nr N R F T):=HG.out.below a8.out
 have g3:=Zb I.r
 have e9:X<W6.heap.size:=I.r.lt
 have f0:Hid (O.heap.size<=W6.heap.size/\∀ b,w.heap.size<=b->b<W6.heap.size->b≠X->W6.heap[b]?=O.heap[b]?):=⟨I.below.size,fun b _ _ h=>I.other b h⟩
 have g0:w.heap.size<=X:=Nat.le_trans M.out.size hX
 clear I c6 f4 m3 hX M f6 HK
 clear g7 k0 g5 i6 j0 j7 j4
 simp only [List.setIfInBounds_toArray,List.set_cons_succ,List.set_cons_zero]
 have HE:=Zb (Zob ks (by omega) a cap W6 b4 ((HT.out.below a8.out).mono a8.out.size))
 go_wp2_with fail
 refine HE.out.mono ?_
 rintro e w7 ⟨g,rfl,f5,j2,m6,c1⟩
 have c3:Hid (AnJ w O p nn nr N R F T X W6.heap.size g D C E [] (Zd4 ks) w7) :=
  ⟨g6.out.below c1,⟨none,0,g3.out.below c1 e9,World.ownsRow_nil _ _ _ _,fun _=>⟨rfl,rfl⟩⟩,j2.at_,a8.out.trans (c1.mono a8.out.size),by omega,fun b h1 h2 h3=>(c1.block b h2).trans (f0.out.2 b h1 h2 h3),HG.out.obj.lt,HG.out.n.lt,HG.out.r.lt,HG.out.f.lt,HG.out.t.lt⟩
 have e5:X<W6.heap.size:=e9
 obtain ⟨d,b1⟩:∃ d,W6.heap.size=d:=⟨_,rfl⟩
 have h8:O.heap.size<=d:=by rw [<- b1];exact f0.out.1
 have i7:=Zb h8
 clear h8 f0
 rw [b1] at c3 e5 f5
 clear j2 m6 c1 HE g6 g3 e9 b1 a8 HT
 have j5:=Zb (Zrh c3.out.left)
 go_wp2_with fail
 refine j5.out.mono ?_
 rintro e w8 ⟨v8,b8,rfl,g9⟩
 have f3:=Zb (c3.out.next (S:=S) g9 (by rw [List.nil_append];exact l2.out) e5 f5 g0).1
 clear g9 j5 c3 l2
 go_wp2_with fail
 go_loopw [10,11] (fun l m wr=>AnI w O p nn nr N R F T X d g D C E S l m wr) (fun _ m wr=>Zpi wr g+Zwp m)
 case atStart=>exact f3.out
 case round =>
  obtain ⟨done,rest,hJ,⟨rfl,⟨s,rfl⟩,b7⟩ | ⟨x,rfl,rfl,hd⟩⟩:=hrel
  ·have G:=Zb hJ
   have HD:=Zb b7
   obtain ⟨la,lc,b0,b9,k4⟩:=hJ.node
   have d7:=Zb k4
   clear k4
   have k:=Zb b0
   have Q:=Zb b9
   clear hJ b7 b0 b9 f3
   obtain ⟨A,a0⟩:∃ A,done.length=A:=⟨_,rfl⟩
   rw [a0] at k Q
   have a9:=Zb a0
   clear a0
   go_upto_region 13 with fail
   show (Code.region 13 Zls true).wp _ _ _ _
   refine Ztd p nn X la D A lc C E _ _ _ rfl ⟨rfl,rfl⟩ ?_ ?_
   ·intro W hW
    exact ⟨(hW.cell (p:=⟨p.g,0,none⟩) G.out.gs.obj.lt).trans G.out.gs.c0,(hW.cell (p:=⟨X,0,none⟩) k.out.lt).trans (k.out.cell 0 rfl),(hW.cell (p:=⟨X,1,none⟩) k.out.lt).trans (k.out.cell 1 rfl),(hW.cell (p:=⟨X,2,none⟩) k.out.lt).trans (k.out.cell 2 rfl)⟩
   intro c W9 hS P m8 m9 l7
   obtain ⟨a2,l4,f9,i8,o,a4⟩:=Zhj Tryz.underlying68' (G.out.gs.n.below P (Nat.le_refl _)) nn (.agg #[.int .i64 nn,.slice la A lc,.slice D C E]) e6 j1.out
   refine ⟨a2,?_,?_⟩
   ·generalize c.eval=ρ at *
    clear hS f9 o a4
    go_simp
   rw [Zba hS [60,61,62,63,64,65,66,67] (by kernel_rfl)]
   obtain ⟨o8,g8⟩:∃ y,c.eval (.tmp 60)=y:=⟨_,rfl⟩
   obtain ⟨o6,j3⟩:∃ y,c.eval (.tmp 61)=y:=⟨_,rfl⟩
   obtain ⟨q0,k5⟩:∃ y,c.eval (.tmp 62)=y:=⟨_,rfl⟩
   obtain ⟨q2,k7⟩:∃ y,c.eval (.tmp 63)=y:=⟨_,rfl⟩
   obtain ⟨o0,i3⟩:∃ y,c.eval (.tmp 64)=y:=⟨_,rfl⟩
   obtain ⟨p9,k2⟩:∃ y,c.eval (.tmp 65)=y:=⟨_,rfl⟩
   obtain ⟨p4,k8⟩:∃ y,c.eval (.tmp 66)=y:=⟨_,rfl⟩
   obtain ⟨p3,h0⟩:∃ y,c.eval (.tmp 67)=y:=⟨_,rfl⟩
   simp only [List.foldl_cons,List.foldl_nil,g8,j3,k5,k7,i3,k2,k8,h0]
   clear g8 j3 k5 k7 i3 k2 k8 h0 hS m8 m9 l7 l4
   simp only [List.setIfInBounds_toArray,List.set_cons_succ,List.set_cons_zero]
   obtain ⟨o1,o2,o3,o4,o5,n1,n2,n3,n4,n5,n6,n7,n8,n9,p5⟩:=m1.out
   obtain ⟨u1,u2,u3,u4,u5⟩:=G.out.old
   have b2:=Zb (G.out.gs.below P)
   have H:Hid (GS a2 p nn nr (N++[(nn,.agg #[.int .i64 nn,.slice la A lc,.slice D C E])]) R F T) :=
    ⟨b2.out.obj.keep (o _ n1),f9,b2.out.r.block (o _ (Ne.symm n5)),b2.out.f.block (o _ (Ne.symm n6)),b2.out.t.block (o _ (Ne.symm n7))⟩
   have l1:Hid (Rec a2 X #[.int .i64 nn,.slice la A lc,.slice D C E] 47):=(k.out.below P k.out.lt).keep (o _ (by omega))
   have d6:Hid (a2.ownsRow (g+1) 9 1 (.slice la A lc) A (done.map Value.string)):=Jf Q.out fun i hi hl=>(o i (by omega)).trans (P.block i hl)
   have l3:Hid (∀ b,w.heap.size<=b->b<O.heap.size->b≠X->a2.heap[b]?=O.heap[b]?):=fun b h1 h2 h3=>by
    have h4:b<d:=Nat.lt_of_lt_of_le h2 i7.out
    exact (o b (by omega)).trans ((P.block b (by have:=G.out.room;omega)).trans (G.out.far b h1 h4 h3))
   have h9:Hid (O.heap.size<=a2.heap.size):=by
    show _<=_
    have h1:=i7.out
    have h2:=G.out.room
    have h3:=P.size
    have h4:=a4.size
    omega
   have l0:Hid (Below B w a2):=(G.out.below.mono hB).trans ((P.mono (by have:=G.out.below.size;omega)).trans (a4.mono o2))
   clear f9 o a4 i8 P b2
   have c2:=H.out.c2
   have z2:=H.out.obj.z 2
   have q1:IntKind.i64.wrap (nn+1)=nn+1:=by rw [IntKind.wrap_i64];omega
   go_upto_region 15 with fail
   generalize L:World.setCell _ _ _=W11
   have k9:Hid (Rec W11 X #[.int .i64 nn,.slice la A lc,.slice D C E] 47):=by rw [<- L];exact l1.out.other (by omega)
   have i4:Hid (GS W11 p (nn+1) nr (N++[(nn,.agg #[.int .i64 nn,.slice la A lc,.slice D C E])]) R F T):=by
    rw [<- L]
    refine ⟨?_,H.out.n.block (Below.heap_setCell _ _ _ _ (Ne.symm n1)),H.out.r.block (Below.heap_setCell _ _ _ _ (Ne.symm n2)),H.out.f.block (Below.heap_setCell _ _ _ _ (Ne.symm n3)),H.out.t.block (Below.heap_setCell _ _ _ _ (Ne.symm n4))⟩
    have:=H.out.obj.set 2 (.int .i64 (nn+1))
    simpa [GP.cells] using this
   have k1:Hid (Below B w W11):=by rw [<- L];exact l0.out.setCell (p:=⟨p.g,2,none⟩) o1 _
   have d0:Hid (W11.ownsRow (g+1) 9 1 (.slice la A lc) A (done.map Value.string)):=by
    rw [<- L]
    exact Jf d6.out fun i hi _=>Below.heap_setCell _ _ _ _ (by show i≠p.g;omega)
   have l8:Hid (O.heap.size<=W11.heap.size/\∀ b,w.heap.size<=b->b<O.heap.size->b≠X->W11.heap[b]?=O.heap[b]?):=by
    rw [<- L]
    exact ⟨by simp [World.setCell];exact h9.out,fun b h1 h2 h3=>(Below.heap_setCell _ _ _ _ (by show b≠p.g;omega)).trans (l3.out b h1 h2 h3)⟩
   clear L c2 z2
   have x0:=k9.out.cell 0 rfl
   go_wp2_with fail
   go_ret2
   refine ⟨rfl,la,A,lc,D,C,E,i4.out,k1.out,?_,fun he=>?_,O,X,c4.out.1,c4.out.2.1,c4.out.2.2.1,c4.out.2.2.2,l8.out⟩
   ·have:=Zeq d0.out (show w.heap.size<=g+1 by omega)
    rw [HD.out] at this
    rw [<- a9.out,HD.out] at this |-
    exact this
   have f1:done=[]:=by rw [HD.out];exact he
   exact ⟨(d7.out f1).1,by rw [<- a9.out,f1];rfl,(d7.out f1).2⟩
  ·have G:=Zb hJ
   have HD:=Zb hd
   obtain ⟨la,lc,b0,b9,_⟩:=hJ.node
   have k:=Zb b0
   have Q:=Zb b9
   have x1:=b0.cell 1 rfl
   have o9:=hJ.room
   have m2:done.length+1<=2000000:=by
    have:=congrArg List.length hd
    simp only [List.length_append,List.length_cons] at this
    omega
   clear hJ hd b0 b9 f3
   obtain ⟨i0,hi,m4,m5,l9⟩:=info_parts Tryz.info9
   obtain ⟨A,a0⟩:∃ A,done.length=A:=⟨_,rfl⟩
   rw [a0] at k Q m2
   replace x1:wr.cell? ⟨X,1,none⟩=some (.slice la A lc):=k.out.cell 1 rfl
   have a9:=Zb a0
   clear a0
   go_wp2_with (at_builtin;refine wpList_append_own _ rfl _ _ 44 rfl (g+1) 9 i0 (.string ⟨#[]⟩) 1 16 Tryz.underlying44 hi m4 m5 l9 rfl (by decide) _ _ _ rfl (Jf Q.out fun g _ hg=>Below.heap_alloc _ _ _ hg) ⟨wr.heap.size,0,none⟩ 1 1 [.string x] rfl rfl ?d1 ?d2 ?d3 ?d4 ?d5 ?_)
   case d1 =>
    intro j u hj
    have j8:(⟨wr.heap.size,0,none⟩:Addr).add j=⟨wr.heap.size,j,none⟩:=by unfold Addr.add;split<;>simp_all
    rw [j8]
    refine Zaj _ _ _ _ _ ?_
    simpa using hj
   case d2=>intro u hu;simp only [List.mem_cons,List.not_mem_nil,or_false] at hu;subst hu;rfl
   case d3=>unfold maxLen;omega
   case d4=>omega
   case d5=>first | omega | (simp;omega)
   intro v3 w3 Y a6 _
   obtain ⟨ub,ud,rfl⟩:=Jn Y
   have U:Below (g+1) wr w3:=((Below.refl _ wr).alloc (by omega) _).trans (Zdk (Jf Q.out fun g _ hg=>Below.heap_alloc _ _ _ hg) (by simp;omega) a6)
   have a1:=Zb U
   have g4:=Zb Y
   have c5:=Zb (k.out.below U (by omega))
   have y1:=c5.out.cell 1 rfl
   have fy:=c5.out.z 1
   have m7:=U.size
   clear Y a6 U x1
   go_upto_region 11 with fail
   generalize a7:World.setCell _ _ _=W4
   have f8:Hid (AnJ w O p nn nr N R F T X d g D C E (done++[x]) rest W4):=by
    obtain ⟨u1,u2,u3,u4,u5⟩:=G.out.old
    have a3:∀ i,i<g+1->i≠X->W4.heap[i]?=wr.heap[i]?:=fun i hi hx=>by
     rw [<- a7]
     exact (Below.heap_setCell _ _ _ _ hx).trans (a1.out.block i hi)
    refine ⟨⟨G.out.gs.obj.keep (a3 _ (by omega) (by omega)),G.out.gs.n.block (a3 _ (by omega) (by omega)),G.out.gs.r.block (a3 _ (by omega) (by omega)),G.out.gs.f.block (a3 _ (by omega) (by omega)),G.out.gs.t.block (a3 _ (by omega) (by omega))⟩,⟨ub,ud,?_,?_,fun h=>by simp at h⟩,G.out.left.keep (fun i h1 h2=>a3 i (by omega) (by omega)) (by omega),?_,?_,fun b h1 h2 h3=>(a3 b (by omega) h3).trans (G.out.far b h1 h2 h3),G.out.old⟩
    ·rw [<- a7,List.length_append,a9.out]
     have:=c5.out.set 1 (.slice ub (A+1) ud)
     simpa using this
    ·rw [List.length_append,a9.out,List.map_append]
     exact Jf g4.out fun i hi _=>by
      rw [<- a7]
      exact Below.heap_setCell _ _ _ _ (by show i≠X;omega)
    ·rw [<- a7]
     exact (G.out.below.trans (a1.out.mono (by omega))).setCell (p:=⟨X,1,none⟩) g0 _
    ·rw [<- a7];simp [World.setCell];omega
   have i1:=Zb (Zrh f8.out.left)
   have l5:Hid (Zpi wr g=rest.length):=by
    obtain ⟨a,c,h1,_⟩:=G.out.left
    exact Zf7 h1
   clear a7 y1 fy a1 g4 c5 m7 k Q G a9
   go_wp2_with fail
   refine i1.out.mono ?_
   rintro e w5 ⟨v5,b5,rfl,h7⟩
   obtain ⟨j6,i9⟩:=f8.out.next (S:=S) h7 (by rw [List.append_assoc];exact HD.out) e5 f5 g0
   have m0:=Zb j6
   have l6:=Zb i9
   clear j6 i9 h7 i1 f8
   go_wp2_with fail
   go_roundw
   case rel=>exact m0.out
   case measure =>
    rw [l5.out]
    have e1:Zwp (.bool true)=1:=rfl
    rw [e1]
    rcases l6.out with h | h<;>omega
theorem Zkm {w:World} {p:GP} {nn nr:Int} {N R F T:List (Int × Value)} (h:GS w p nn nr N R F T) (B:Nat) (c8:p.Ok B) (hB:B<=w.heap.size)
  (ks:List ByteArray) (a:Option Addr) (cap:Nat) (pv:Value) (K:World->Value->Prop) (e3:∃ a n c,pv=.slice a n c)
  (f7:ks.length<=2000000) (b4:ks.length<=cap) (b6:cap<=9223372036854775807) (c9:Zca w.heap.size w a ks)
  (ha:Calls Tryz.prog 85 #[.slice a ks.length cap] w fun e w'=>e=.returned (.bool true)/\Below w.heap.size w w')
  (hs:∀ W,Below w.heap.size w W->Calls Tryz.prog 86 #[pv] W fun e w'=>e=.returned (.bool true)/\Below W.heap.size W w')
  (hk:∀ W,Below w.heap.size w W->Calls Tryz.prog 88 #[pv] W fun e w'=>∃ a n c,e=.returned (.slice a n c)/\K w' (.slice a n c)/\Below W.heap.size W w')
  (e6:I64 nn) (b3:nn<4611686018427387904) (d8:0<=nn) (a5:∀ q ∈ N,q.1≠nn) (e7:N.length+R.length<65536) :
  Calls Tryz.prog 30 #[p.val,.slice a ks.length cap,pv] w fun e w'=>e=.returned (.tuple #[.int .i64 nn,.int .i64 0])/\∃ la A lc D C E,GS w' p (nn+1) nr (N++[(nn,.agg #[.int .i64 nn,.slice la A lc,.slice D C E])]) R F T/\Below B w w'/\w'.ownsRow w.heap.size 9 1 (.slice la A lc) (Zfl (Zd4 ks)).length ((Zfl (Zd4 ks)).map Value.string)/\(Zfl (Zd4 ks)=[]->la=none/\A=0/\lc=0)/\∃ W,K W (.slice D C E) :=
 (Zpk h B c8 hB ks a cap pv K e3 f7 b4 b6 c9 ha hs hk e6 b3 d8 a5 e7).mono fun e w' ⟨h1,la,A,lc,D,C,E,h2,h3,h4,h5,V,X,⟨W,h6,_⟩,_⟩=>⟨h1,la,A,lc,D,C,E,h2,h3,h4,h5,W,h6⟩
end
section
open Go.RowKit Go.Shelf Go.WideShapes
theorem Tryz.info2  : (Tryz.prog.info? 2).map (fun i=>(i.zero,i.size,i.bytes))=some (some (.int .i64 0),1,8):=by kernel_rfl
theorem Zd1 {P:Program} {w w':World} {ρ:Operand->Value} {x y:Operand} {t ty:TypeId} {d:Option Tmp} {T:String} {af:Array Edge} {g:Option (Nat × Bool)} {vx vy v':Value} (hx:ρ x=vx) (hy:ρ y=vy)
  (h:(Builtin.append_ #[t,t] ty #[vx,vy]).run P w=.ok v' w') :
  (execOp ρ { dst:=d,op:=Op.call { callee:=Callee.builtin Builtin.append,args:=#[x,y],argTypes:=#[t,t] },type:=ty,T:=T,after:=af,guard:=g }).run P w=.ok (.value v') w':=by
 unfold execOp
 simp only [resolve,invoke,builtin,Sem.run_bind,Sem.run_pure,Result.andThen_ok,List.map_toArray,List.map_cons,List.map_nil,hx,hy,h]
noncomputable def Zj2  : Array Oper:=Zy Tryz.f32 9
def Ji0  : List Sig:=[⟨45,.move (.tmp 0),31,none⟩,⟨46,.nilCheck (.tmp 45),0,none⟩,⟨47,.fieldAddr 74 (.tmp 46) 0,0,none⟩,⟨48,.fieldAddr 71 (.tmp 47) 3,0,none⟩,⟨49,.load 2 (.tmp 48),2,none⟩,⟨50,.move (.tmp 1),2,none⟩,⟨51,.move (.tmp 2),2,none⟩,⟨52,.move (.tmp 3),9,none⟩,⟨53,.move (.tmp 4),45,none⟩,⟨54,.call { callee:=.value (.func 88),args:=#[.tmp 53],argTypes:=#[45] },45,none⟩,⟨55,.build 49 #[(0,.tmp 49),(1,.tmp 50),(2,.tmp 51),(3,.tmp 52),(4,.tmp 54)],49,none⟩,⟨12,.alloc 49,0,none⟩]
theorem Jfm  : (Jh Zj2).take Ji0.length=Ji0.map some:=by kernel_rfl
def Zi4 (i:Nat):List Nat:=nth [] [[],[0],[1],[2],[3],[],[],[],[],[8],[4,5,6,7,9],[],[0,1,2,3,4,5,6,7,8,9,10,11]] i
def Za8 (p:GP) (nr f t:Int) (s:ByteArray) (o:Value) (b:Nat) (K:World->Value->Prop):List (Value->World->Prop) :=
 [eqv (.pointer (some ⟨p.g,0,none⟩)),eqv (.pointer (some ⟨p.g,0,none⟩)),eqv (.pointer (some ⟨p.g,0,none⟩)),eqv (.pointer (some ⟨p.g,3,none⟩)),eqv (.int .i64 nr),eqv (.int .i64 f),eqv (.int .i64 t),eqv (.string s),eqv (o),fun v w=>∃ a n c,v=.slice a n c/\KB K w v,fun v w=>∃ a n c,v=.agg #[.int .i64 nr,.int .i64 f,.int .i64 t,.string s,.slice a n c]/\KB K w (.slice a n c),fun v w=>∃ X,v=.pointer (some ⟨X,0,none⟩)/\b<=X/\Rec w X #[.int .i64 0,.int .i64 0,.int .i64 0,.string ⟨#[]⟩,.slice none 0 0] 49]
structure Zgz (p:GP) (nr f t:Int) (s:ByteArray) (o:Value) (b:Nat) (K:World->Value->Prop) (c:Act):Prop where
 t0:c.eval (.tmp 0)=.pointer (some ⟨p.g,0,none⟩)
 t1:c.eval (.tmp 1)=.int .i64 f
 t2:c.eval (.tmp 2)=.int .i64 t
 t3:c.eval (.tmp 3)=.string s
 t4:c.eval (.tmp 4)=o
structure Zey (p:GP) (nr f t:Int) (s:ByteArray) (o:Value) (b:Nat) (K:World->Value->Prop) (w:World):Prop where
 c3:w.cell? ⟨p.g,3,none⟩=some (.int .i64 nr)
 b0:b<=w.heap.size
 k6:Calls Tryz.prog 88 #[o] w fun e w'=>∃ a n c,e=.returned (.slice a n c)/\K w' (.slice a n c)/\Below w.heap.size w w'
theorem Jfn (p:GP) (nr f t:Int) (s:ByteArray) (o:Value) (b:Nat) (K:World->Value->Prop) (Q:Exit->Act->World->Prop) (c:Act) (w:World) (m:Zgz p nr f t s o b K c) (z:Zey p nr f t s o b K w) (l:∀ q0 ∈ Zi4 9,Zg (Za8 p nr f t s o b K) q0 (val Zj2 c q0) w) :
  Zbp Tryz.prog Zj2 Q (Zg (Za8 p nr f t s o b K)) 9 c w:=by
 have M:Zj2[9]?=some (⟨some 54,.call { callee:=.value (.func 88),args:=#[.tmp 53],argTypes:=#[45] },45, "edit.go:44",#[⟨8,.data⟩],none⟩:Oper):=by kernel_rfl
 have c0:c.eval (.tmp 53)=o:=Zm (by kernel_rfl) rfl (l 8 (by decide))
 have L:Region.wanted (⟨some 54,.call { callee:=.value (.func 88),args:=#[.tmp 53],argTypes:=#[45] },45, "edit.go:44",#[⟨8,.data⟩],none⟩:Oper) (yielded Zj2 c.tmps)=true:=Zz rfl
 have ec:=evc c
 have Y:=evf c
 refine Zc2 M L (f:=88) (args:=#[o]) ?_ (z.k6.mono fun e w' ⟨a,n,c,h1,h2,h3⟩=>⟨_,h1,⟨a,n,c,rfl,w',h2,Below.refl _ _⟩,h3⟩)
 generalize c.eval=ρ at *
 clear l m z L M
 go_simp
theorem Jc0 (p:GP) (nr f t:Int) (s:ByteArray) (o:Value) (b:Nat) (K:World->Value->Prop) (Q:Exit->Act->World->Prop) (c:Act) (w:World) (m:Zgz p nr f t s o b K c) (z:Zey p nr f t s o b K w) (l:∀ q0 ∈ Zi4 10,Zg (Za8 p nr f t s o b K) q0 (val Zj2 c q0) w) :
  Zbp Tryz.prog Zj2 Q (Zg (Za8 p nr f t s o b K)) 10 c w:=by
 have M:Zj2[10]?=some (⟨some 55,.build 49 #[(0,.tmp 49),(1,.tmp 50),(2,.tmp 51),(3,.tmp 52),(4,.tmp 54)],49, "edit.go:44",#[⟨4,.data⟩,⟨5,.data⟩,⟨6,.data⟩,⟨7,.data⟩,⟨9,.data⟩],none⟩:Oper):=by kernel_rfl
 have b4:c.eval (.tmp 49)=.int .i64 nr:=Zm (by kernel_rfl) rfl (l 4 (by decide))
 have b7:c.eval (.tmp 50)=.int .i64 f:=Zm (by kernel_rfl) rfl (l 5 (by decide))
 have b5:c.eval (.tmp 51)=.int .i64 t:=Zm (by kernel_rfl) rfl (l 6 (by decide))
 have b8:c.eval (.tmp 52)=.string s:=Zm (by kernel_rfl) rfl (l 7 (by decide))
 have b1:(fun v w=>∃ a n c,v=.slice a n c/\KB K w v) (c.eval (.tmp 54)) w:=Jw (by kernel_rfl) rfl (l 9 (by decide))
 have L:Region.wanted (⟨some 55,.build 49 #[(0,.tmp 49),(1,.tmp 50),(2,.tmp 51),(3,.tmp 52),(4,.tmp 54)],49, "edit.go:44",#[⟨4,.data⟩,⟨5,.data⟩,⟨6,.data⟩,⟨7,.data⟩,⟨9,.data⟩],none⟩:Oper) (yielded Zj2 c.tmps)=true:=Zz rfl
 have ec:=evc c
 have Y:=evf c
 obtain ⟨a,n,cc,a5,hk⟩:=b1
 rw [a5] at hk
 refine Ze M L (v:=.agg #[.int .i64 nr,.int .i64 f,.int .i64 t,.string s,.slice a n cc]) ?_ ⟨a,n,cc,rfl,hk⟩ (Below.refl _ _)
 generalize c.eval=ρ at *
 clear l m z L M
 go_simp
theorem Jc1 (p:GP) (nr f t:Int) (s:ByteArray) (o:Value) (b:Nat) (K:World->Value->Prop) (Q:Exit->Act->World->Prop) (c:Act) (w:World) (m:Zgz p nr f t s o b K c) (z:Zey p nr f t s o b K w) (l:∀ q0 ∈ Zi4 11,Zg (Za8 p nr f t s o b K) q0 (val Zj2 c q0) w) :
  Zbp Tryz.prog Zj2 Q (Zg (Za8 p nr f t s o b K)) 11 c w:=by
 have M:Zj2[11]?=some (⟨some 12,.alloc 49,0, "edit.go:44",#[],none⟩:Oper):=by kernel_rfl
 have L:Region.wanted (⟨some 12,.alloc 49,0, "edit.go:44",#[],none⟩:Oper) (yielded Zj2 c.tmps)=true:=Zz rfl
 have ec:=evc c
 have Y:=evf c
 refine Ze M L (v:=.pointer (some ⟨w.heap.size,0,none⟩)) (w':=w.alloc (.cells #[.int .i64 0,.int .i64 0,.int .i64 0,.string ⟨#[]⟩,.slice none 0 0] 49)) ?_ ⟨w.heap.size,rfl,z.b0,Zl _ _ _⟩ ((Below.refl _ _).alloc (Nat.le_refl _) _)
 generalize c.eval=ρ at *
 clear l m z L M
 go_simp
theorem Zwy (p:GP) (nr f t:Int) (s:ByteArray) (o:Value) (b:Nat) (K:World->Value->Prop):∀ pr ∈ Za8 p nr f t s o b K,Zct pr:=by
 unfold Za8
 iterate 12 (first | refine List.forall_mem_cons.2 ⟨Zal _,?_⟩ | refine List.forall_mem_cons.2 ⟨fun v w w' ⟨a,n,c,h,hk⟩ m=>⟨a,n,c,h,hk.grow m⟩,?_⟩ | refine List.forall_mem_cons.2 ⟨fun v w w' ⟨a,n,c,h,hk⟩ m=>⟨a,n,c,h,hk.grow m⟩,?_⟩ | refine List.forall_mem_cons.2 ⟨fun v w w' ⟨X,h,hX,hr⟩ m=>⟨X,h,hX,hr.below m hr.lt⟩,?_⟩)
 exact List.forall_mem_nil _
theorem Jfo (p:GP) (nr f t:Int) (s:ByteArray) (o:Value) (b:Nat) (K:World->Value->Prop) (Q:Exit->Act->World->Prop):∀ i,i<12->(fun i=>i ∉ ([9,10,11]:List Nat)->∀ c w,Zgz p nr f t s o b K c->Zey p nr f t s o b K w->(∀ q0 ∈ Zi4 i,Zg (Za8 p nr f t s o b K) q0 (val Zj2 c q0) w)->Zbp Tryz.prog Zj2 Q (Zg (Za8 p nr f t s o b K)) i c w) i:=by
 iterate 12 (refine Zd ?_ (by
  intro W c w m z l
  first
  | exact absurd (by decide) W
  | (have hEq:=Za5 Jfm (by decide) l
     refine Zbb Jfm (by decide) rfl (fun _=>rfl) ?_
     obtain ⟨t0,t1,t2,t3,t4⟩:=m
     obtain ⟨c3,b0,k6⟩:=z
     have ec:=evc c
     have Y:=evf c
     dsimp only [Zi4,Ji0,Za8,nth,Zdj,Za2,eqv] at hEq |-
     refine .inl fun T af=>?_
     clear l W k6
     dsimp only [Sig.oper]
     generalize c.eval=ρ at *
     go_simp
     done)))
 exact Zf
theorem Jfp (p:GP) (nr f t:Int) (s:ByteArray) (o:Value) (b:Nat) (K:World->Value->Prop) (Q:Exit->Act->World->Prop):∀ i,i<12->(fun i=>∀ c w,Zgz p nr f t s o b K c->Zey p nr f t s o b K w->(∀ q0 ∈ Zi4 i,Zg (Za8 p nr f t s o b K) q0 (val Zj2 c q0) w)->Zbp Tryz.prog Zj2 Q (Zg (Za8 p nr f t s o b K)) i c w) i:=by
 intro i B
 by_cases h9:i=9
 ·subst h9;exact fun c w=>Jfn p nr f t s o b K Q c w
 by_cases h10:i=10
 ·subst h10;exact fun c w=>Jc0 p nr f t s o b K Q c w
 by_cases h11:i=11
 ·subst h11;exact fun c w=>Jc1 p nr f t s o b K Q c w
 exact Jfo p nr f t s o b K Q i B (by simp [*])
theorem Zwz (p:GP) (nr f t:Int) (s:ByteArray) (o:Value) (b:Nat) (K:World->Value->Prop) (Q:Exit->Act->World->Prop) (base:Act) (H:World) (O:base.tmps.size=78) (m:Zgz p nr f t s o b K base)
  (z:∀ w,Below H.heap.size H w->Zey p nr f t s o b K w) (hL:∀ c w,Zaf Zj2 base c->Below H.heap.size H w->(fun v w=>∃ a n c,v=.agg #[.int .i64 nr,.int .i64 f,.int .i64 t,.string s,.slice a n c]/\KB K w (.slice a n c)) (c.eval (.tmp 55)) w->(fun v w=>∃ X,v=.pointer (some ⟨X,0,none⟩)/\b<=X/\Rec w X #[.int .i64 0,.int .i64 0,.int .i64 0,.string ⟨#[]⟩,.slice none 0 0] 49) (c.eval (.tmp 12)) w->∃ w',(execOp c.eval (⟨none,.store 49 (.tmp 12) (.tmp 55),0, "edit.go:44",#[⟨11,.data⟩,⟨10,.data⟩,⟨9,.chain⟩,⟨0,.phase⟩,⟨1,.phase⟩,⟨2,.phase⟩,⟨3,.phase⟩,⟨4,.phase⟩,⟨5,.phase⟩,⟨6,.phase⟩,⟨7,.phase⟩,⟨8,.phase⟩,⟨9,.phase⟩,⟨10,.phase⟩,⟨11,.phase⟩],none⟩:Oper)).run Tryz.prog w=.ok .skip w'/\Q .normal c w'):(Code.region 9 Zj2 true).wp Tryz.prog Q base H:=by
 have G:(List.range 12).all (fun i=>(Zv Zj2 i).isSome)=true:=by kernel_rfl
 refine Zce (A:=Zi4) (F:=Zg (Za8 p nr f t s o b K)) 12 (by kernel_rfl) (by kernel_rfl) (by kernel_rfl) (by rw [O];kernel_rfl) ?_ (by decide) (fun i v w w'=>Jk (Zwy p nr f t s o b K) i v w w') ?_ ?_
 ·exact fun i B=>Option.isSome_iff_exists.1 (List.all_eq_true.1 G i (List.mem_range.2 B))
 ·intro i B c w I S l
  exact Jfp p nr f t s o b K Q i B c w ⟨(Zc I (by kernel_rfl)).trans m.t0,(Zc I (by kernel_rfl)).trans m.t1,(Zc I (by kernel_rfl)).trans m.t2,(Zc I (by kernel_rfl)).trans m.t3,(Zc I (by kernel_rfl)).trans m.t4⟩ (z w S) l
 ·intro c w I S l
  obtain ⟨w',h1,h2⟩:=hL c w I S (Jw (p:=fun v w=>∃ a n c,v=.agg #[.int .i64 nr,.int .i64 f,.int .i64 t,.string s,.slice a n c]/\KB K w (.slice a n c)) (by kernel_rfl) rfl (l 10 (by omega))) (Jw (p:=fun v w=>∃ X,v=.pointer (some ⟨X,0,none⟩)/\b<=X/\Rec w X #[.int .i64 0,.int .i64 0,.int .i64 0,.string ⟨#[]⟩,.slice none 0 0] 49) (by kernel_rfl) rfl (l 11 (by omega)))
  exact Zb5 (by kernel_rfl) (Zz rfl) h1 h2
noncomputable def Zl2  : Array Oper:=Zy Tryz.f32 10
def Jc2  : List Sig:=[⟨56,.move (.tmp 0),31,none⟩,⟨57,.nilCheck (.tmp 56),0,none⟩,⟨58,.fieldAddr 74 (.tmp 57) 0,0,none⟩,⟨59,.fieldAddr 71 (.tmp 58) 1,0,none⟩,⟨60,.load 69 (.tmp 59),69,none⟩,⟨61,.fieldAddr 49 (.tmp 12) 0,0,none⟩,⟨62,.load 2 (.tmp 61),2,none⟩,⟨63,.load 49 (.tmp 12),49,none⟩]
theorem Jb1  : (Jh Zl2).take Jc2.length=Jc2.map some:=by kernel_rfl
def Zl3 (i:Nat):List Nat:=nth [] [[],[0],[1],[2],[3],[],[5],[],[0,1,2,3,4,5,6,7]] i
def Zck (p:GP) (nr f t:Int) (s:ByteArray) (X:Nat) (D:Option Addr) (C E:Nat):List (Value->World->Prop) :=
 [eqv (.pointer (some ⟨p.g,0,none⟩)),eqv (.pointer (some ⟨p.g,0,none⟩)),eqv (.pointer (some ⟨p.g,0,none⟩)),eqv (.pointer (some ⟨p.g,1,none⟩)),eqv (.map (some p.r)),eqv (.pointer (some ⟨X,0,none⟩)),eqv (.int .i64 nr),eqv (.agg #[.int .i64 nr,.int .i64 f,.int .i64 t,.string s,.slice D C E])]
structure Zl4 (p:GP) (nr f t:Int) (s:ByteArray) (X:Nat) (D:Option Addr) (C E:Nat) (c:Act):Prop where
 t0:c.eval (.tmp 0)=.pointer (some ⟨p.g,0,none⟩)
 t12:c.eval (.tmp 12)=.pointer (some ⟨X,0,none⟩)
structure Zi5 (p:GP) (nr f t:Int) (s:ByteArray) (X:Nat) (D:Option Addr) (C E:Nat) (w:World):Prop where
 c1:w.cell? ⟨p.g,1,none⟩=some (.map (some p.r))
 x0:w.cell? ⟨X,0,none⟩=some (.int .i64 nr)
 x1:w.cell? ⟨X,1,none⟩=some (.int .i64 f)
 x2:w.cell? ⟨X,2,none⟩=some (.int .i64 t)
 x3:w.cell? ⟨X,3,none⟩=some (.string s)
 x4:w.cell? ⟨X,4,none⟩=some (.slice D C E)
theorem Ztl (p:GP) (nr f t:Int) (s:ByteArray) (X:Nat) (D:Option Addr) (C E:Nat):∀ pr ∈ Zck p nr f t s X D C E,Zct pr:=by
 unfold Zck
 iterate 8 (first | refine List.forall_mem_cons.2 ⟨Zal _,?_⟩)
 exact List.forall_mem_nil _
theorem Jc3 (p:GP) (nr f t:Int) (s:ByteArray) (X:Nat) (D:Option Addr) (C E:Nat) (Q:Exit->Act->World->Prop):∀ i,i<8->(fun i=>i ∉ ([]:List Nat)->∀ c w,Zl4 p nr f t s X D C E c->Zi5 p nr f t s X D C E w->(∀ q0 ∈ Zl3 i,Zg (Zck p nr f t s X D C E) q0 (val Zl2 c q0) w)->Zbp Tryz.prog Zl2 Q (Zg (Zck p nr f t s X D C E)) i c w) i:=by
 iterate 8 (refine Zd ?_ (by
  intro W c w m z l
  first
  | exact absurd (by decide) W
  | (have hEq:=Za5 Jb1 (by decide) l
     refine Zbb Jb1 (by decide) rfl (fun _=>rfl) ?_
     obtain ⟨t0,t12⟩:=m
     obtain ⟨c1,x0,x1,x2,x3,x4⟩:=z
     have ec:=evc c
     have Y:=evf c
     dsimp only [Zl3,Jc2,Zck,nth,Zdj,Za2,eqv] at hEq |-
     refine .inl fun T af=>?_
     clear l W
     dsimp only [Sig.oper]
     generalize c.eval=ρ at *
     go_simp
     done)))
 exact Zf
theorem Jc4 (p:GP) (nr f t:Int) (s:ByteArray) (X:Nat) (D:Option Addr) (C E:Nat) (Q:Exit->Act->World->Prop):∀ i,i<8->(fun i=>∀ c w,Zl4 p nr f t s X D C E c->Zi5 p nr f t s X D C E w->(∀ q0 ∈ Zl3 i,Zg (Zck p nr f t s X D C E) q0 (val Zl2 c q0) w)->Zbp Tryz.prog Zl2 Q (Zg (Zck p nr f t s X D C E)) i c w) i:=by
 intro i B
 exact Jc3 p nr f t s X D C E Q i B (by simp [*])
theorem Ztm (p:GP) (nr f t:Int) (s:ByteArray) (X:Nat) (D:Option Addr) (C E:Nat) (Q:Exit->Act->World->Prop) (base:Act) (H:World) (O:base.tmps.size=78) (m:Zl4 p nr f t s X D C E base)
  (z:∀ w,Below H.heap.size H w->Zi5 p nr f t s X D C E w) (hL:∀ c w,Zaf Zl2 base c->Below H.heap.size H w->c.eval (.tmp 60)=.map (some p.r)->c.eval (.tmp 62)=.int .i64 nr->c.eval (.tmp 63)=.agg #[.int .i64 nr,.int .i64 f,.int .i64 t,.string s,.slice D C E]->∃ w',(execOp c.eval (⟨none,.mapUpdate 69 (.tmp 60) (.tmp 62) (.tmp 63),0, "edit.go:45",#[⟨4,.data⟩,⟨6,.data⟩,⟨7,.data⟩,⟨0,.phase⟩,⟨1,.phase⟩,⟨2,.phase⟩,⟨3,.phase⟩,⟨4,.phase⟩,⟨5,.phase⟩,⟨6,.phase⟩,⟨7,.phase⟩],none⟩:Oper)).run Tryz.prog w=.ok .skip w'/\Q .normal c w'):(Code.region 10 Zl2 true).wp Tryz.prog Q base H:=by
 have G:(List.range 8).all (fun i=>(Zv Zl2 i).isSome)=true:=by kernel_rfl
 refine Zce (A:=Zl3) (F:=Zg (Zck p nr f t s X D C E)) 8 (by kernel_rfl) (by kernel_rfl) (by kernel_rfl) (by rw [O];kernel_rfl) ?_ (by decide) (fun i v w w'=>Jk (Ztl p nr f t s X D C E) i v w w') ?_ ?_
 ·exact fun i B=>Option.isSome_iff_exists.1 (List.all_eq_true.1 G i (List.mem_range.2 B))
 ·intro i B c w I S l
  exact Jc4 p nr f t s X D C E Q i B c w ⟨(Zc I (by kernel_rfl)).trans m.t0,(Zc I (by kernel_rfl)).trans m.t12⟩ (z w S) l
 ·intro c w I S l
  obtain ⟨w',h1,h2⟩:=hL c w I S (Jw (p:=eqv (.map (some p.r))) (by kernel_rfl) rfl (l 4 (by omega))) (Jw (p:=eqv (.int .i64 nr)) (by kernel_rfl) rfl (l 6 (by omega))) (Jw (p:=eqv (.agg #[.int .i64 nr,.int .i64 f,.int .i64 t,.string s,.slice D C E])) (by kernel_rfl) rfl (l 7 (by omega)))
  exact Zb5 (by kernel_rfl) (Zz rfl) h1 h2
noncomputable def Zn5  : Array Oper:=Zy Tryz.f40 1
def Ji1  : List Sig:=[⟨4,.move (.tmp 0),31,none⟩,⟨5,.nilCheck (.tmp 4),0,none⟩,⟨6,.fieldAddr 74 (.tmp 5) 1,0,none⟩,⟨7,.load 72 (.tmp 6),72,none⟩,⟨8,.fieldAddr 49 (.tmp 3) 1,0,none⟩,⟨9,.load 2 (.tmp 8),2,none⟩,⟨10,.move (.tmp 0),31,none⟩,⟨11,.nilCheck (.tmp 10),0,none⟩,⟨12,.fieldAddr 74 (.tmp 11) 1,0,none⟩,⟨13,.load 72 (.tmp 12),72,none⟩,⟨14,.fieldAddr 49 (.tmp 3) 1,0,none⟩,⟨15,.load 2 (.tmp 14),2,none⟩,⟨16,.lookup 72 (.tmp 13) (.tmp 15) false,100,none⟩,⟨17,.fieldAddr 49 (.tmp 3) 0,0,none⟩,⟨18,.load 2 (.tmp 17),2,none⟩,⟨19,.buildSlice 100 1 #[(0,.tmp 18)],100,none⟩,⟨20,.call { callee:=.builtin .append,args:=#[.tmp 16,.tmp 19],argTypes:=#[100,100] },100,none⟩]
theorem Jfq  : (Jh Zn5).take Ji1.length=Ji1.map some:=by kernel_rfl
def Zkv (i:Nat):List Nat:=nth [] [[],[0],[1],[2],[],[4],[],[6],[7],[8],[],[10],[9,11],[],[13],[14],[12,15],[0,1,2,3,4,5,6,7,8,9,10,11,12,13,14,15,16]] i
def Zbn (p:GP) (id k:Int) (X b:Nat):List (Value->World->Prop) :=
 [eqv (.pointer (some ⟨p.g,0,none⟩)),eqv (.pointer (some ⟨p.g,0,none⟩)),eqv (.pointer (some ⟨p.g,4,none⟩)),eqv (.map (some p.f)),eqv (.pointer (some ⟨X,1,none⟩)),eqv (.int .i64 k),eqv (.pointer (some ⟨p.g,0,none⟩)),eqv (.pointer (some ⟨p.g,0,none⟩)),eqv (.pointer (some ⟨p.g,4,none⟩)),eqv (.map (some p.f)),eqv (.pointer (some ⟨X,1,none⟩)),eqv (.int .i64 k),eqv (.slice none 0 0),eqv (.pointer (some ⟨X,0,none⟩)),eqv (.int .i64 id),laid [id],fun v w=>w.ownsRow b 2 1 v 1 [.int .i64 id]/\∃ a c,v=.slice a 1 c]
structure Zi6 (p:GP) (id k:Int) (X b:Nat) (c:Act):Prop where
 t0:c.eval (.tmp 0)=.pointer (some ⟨p.g,0,none⟩)
 t3:c.eval (.tmp 3)=.pointer (some ⟨X,0,none⟩)
structure Zga (p:GP) (id k:Int) (X b:Nat) (w:World):Prop where
 cm:w.cell? ⟨p.g,4,none⟩=some (.map (some p.f))
 xk:w.cell? ⟨X,1,none⟩=some (.int .i64 k)
 xi:w.cell? ⟨X,0,none⟩=some (.int .i64 id)
 lk:(Instr.lookup 72 (.map (some p.f)) (.int .i64 k) false).run Tryz.prog w=.ok (.slice none 0 0) w
 b0:b<=w.heap.size
theorem Jc5 (p:GP) (id k:Int) (X b:Nat) (Q:Exit->Act->World->Prop) (c:Act) (w:World) (m:Zi6 p id k X b c) (z:Zga p id k X b w) (l:∀ q0 ∈ Zkv 15,Zg (Zbn p id k X b) q0 (val Zn5 c q0) w) :
  Zbp Tryz.prog Zn5 Q (Zg (Zbn p id k X b)) 15 c w:=by
 have M:Zn5[15]?=some (⟨some 19,.buildSlice 100 1 #[(0,.tmp 18)],100, "edit.go:126",#[⟨14,.data⟩],none⟩:Oper):=by kernel_rfl
 have b6:c.eval (.tmp 18)=.int .i64 id:=Zm (by kernel_rfl) rfl (l 14 (by decide))
 have L:Region.wanted (⟨some 19,.buildSlice 100 1 #[(0,.tmp 18)],100, "edit.go:126",#[⟨14,.data⟩],none⟩:Oper) (yielded Zn5 c.tmps)=true:=Zz rfl
 have ec:=evc c
 have Y:=evf c
 refine Ze M L (v:=.slice (some ⟨w.heap.size,0,none⟩) 1 1) (w':=w.alloc (.cells #[.int .i64 id] 2)) ?_ ⟨w.heap.size,rfl,by simp,fun j hj=>?_⟩ ((Below.refl _ _).alloc (Nat.le_refl _) _)
 ·generalize c.eval=ρ at *
  clear l m z L M
  go_simp
 ·have R:j=0:=by simp at hj;omega
  subst R
  exact Zaj _ _ _ _ _ rfl
theorem Jc6 (p:GP) (id k:Int) (X b:Nat) (Q:Exit->Act->World->Prop) (c:Act) (w:World) (m:Zi6 p id k X b c) (z:Zga p id k X b w) (l:∀ q0 ∈ Zkv 16,Zg (Zbn p id k X b) q0 (val Zn5 c q0) w) :
  Zbp Tryz.prog Zn5 Q (Zg (Zbn p id k X b)) 16 c w:=by
 have M:Zn5[16]?=some (⟨some 20,.call { callee:=.builtin .append,args:=#[.tmp 16,.tmp 19],argTypes:=#[100,100] },100, "edit.go:126",#[⟨12,.data⟩,⟨15,.data⟩],none⟩:Oper):=by kernel_rfl
 have a6:c.eval (.tmp 16)=.slice none 0 0:=Zm (by kernel_rfl) rfl (l 12 (by decide))
 have a9:(laid [id]) (c.eval (.tmp 19)) w:=Jw (by kernel_rfl) rfl (l 15 (by decide))
 have L:Region.wanted (⟨some 20,.call { callee:=.builtin .append,args:=#[.tmp 16,.tmp 19],argTypes:=#[100,100] },100, "edit.go:126",#[⟨12,.data⟩,⟨15,.data⟩],none⟩:Oper) (yielded Zn5 c.tmps)=true:=Zz rfl
 have ec:=evc c
 have Y:=evf c
 obtain ⟨i0,B,a0,a1,a3⟩:=info_parts Tryz.info2
 obtain ⟨y,b2,hy,a4⟩:=a9
 obtain ⟨v',w',U,N,a2,_,_⟩:=run_append_own_at (P:=Tryz.prog) w b 100 100 2 i0 (.int .i64 0) 1 8 Tryz.underlying100 B a0 a1 a3 rfl (by decide) (.slice none 0 0) 0 [] (World.ownsRow_nil _ _ _ _) ⟨y,0,none⟩ 1 1 [.int .i64 id] rfl (fun j u hj=>by
  have R:j=0:=by
   have:=(List.getElem?_eq_some_iff.1 hj).1
   simp at this;omega
  subst R
  have:u=.int .i64 id:=by simpa using hj.symm
  subst this
  have V:(⟨y,0,none⟩:Addr).add 0=⟨y,0,none⟩:=by unfold Addr.add;split<;>simp_all
  rw [V]
  exact a4 0 (by simp)) (by intro u hu;simp only [List.mem_cons,List.not_mem_nil,or_false] at hu;subst hu;rfl) (by unfold maxLen;omega) (by omega) z.b0
 obtain ⟨ua,uc,rfl⟩:=Jn N
 refine Ze M L (v:=.slice ua (0+1) uc) (w':=w') ?_ ⟨N,ua,uc,rfl⟩ ((Below.refl _ w).grown a2 (Nat.le_refl _) (fun q h=>by cases h))
 exact Zd1 a6 b2 U
theorem Zw0 (p:GP) (id k:Int) (X b:Nat):∀ pr ∈ Zbn p id k X b,Zct pr:=by
 unfold Zbn
 iterate 17 (first | refine List.forall_mem_cons.2 ⟨Zal _,?_⟩ | refine List.forall_mem_cons.2 ⟨Zd6 _,?_⟩ | refine List.forall_mem_cons.2 ⟨fun v w w' ⟨h,h2⟩ m=>⟨Jf h fun g _ hg=>m.block g hg,h2⟩,?_⟩)
 exact List.forall_mem_nil _
theorem Jfr (p:GP) (id k:Int) (X b:Nat) (Q:Exit->Act->World->Prop):∀ i,i<17->(fun i=>i ∉ ([15,16]:List Nat)->∀ c w,Zi6 p id k X b c->Zga p id k X b w->(∀ q0 ∈ Zkv i,Zg (Zbn p id k X b) q0 (val Zn5 c q0) w)->Zbp Tryz.prog Zn5 Q (Zg (Zbn p id k X b)) i c w) i:=by
 iterate 17 (refine Zd ?_ (by
  intro W c w m z l
  first
  | exact absurd (by decide) W
  | (have hEq:=Za5 Jfq (by decide) l
     refine Zbb Jfq (by decide) rfl (fun _=>rfl) ?_
     obtain ⟨t0,t3⟩:=m
     obtain ⟨cm,xk,xi,lk,b0⟩:=z
     have ec:=evc c
     have Y:=evf c
     dsimp only [Zkv,Ji1,Zbn,nth,Zdj,Za2,eqv] at hEq |-
     refine .inl fun T af=>?_
     clear l W
     dsimp only [Sig.oper]
     generalize c.eval=ρ at *
     go_simp
     done)))
 exact Zf
theorem Jfs (p:GP) (id k:Int) (X b:Nat) (Q:Exit->Act->World->Prop):∀ i,i<17->(fun i=>∀ c w,Zi6 p id k X b c->Zga p id k X b w->(∀ q0 ∈ Zkv i,Zg (Zbn p id k X b) q0 (val Zn5 c q0) w)->Zbp Tryz.prog Zn5 Q (Zg (Zbn p id k X b)) i c w) i:=by
 intro i B
 by_cases h15:i=15
 ·subst h15;exact fun c w=>Jc5 p id k X b Q c w
 by_cases h16:i=16
 ·subst h16;exact fun c w=>Jc6 p id k X b Q c w
 exact Jfr p id k X b Q i B (by simp [*])
theorem Zw1 (p:GP) (id k:Int) (X b:Nat) (Q:Exit->Act->World->Prop) (base:Act) (H:World) (O:base.tmps.size=38) (m:Zi6 p id k X b base)
  (z:∀ w,Below H.heap.size H w->Zga p id k X b w) (hL:∀ c w,Zaf Zn5 base c->Below H.heap.size H w->c.eval (.tmp 7)=.map (some p.f)->c.eval (.tmp 9)=.int .i64 k->(fun v w=>w.ownsRow b 2 1 v 1 [.int .i64 id]/\∃ a c,v=.slice a 1 c) (c.eval (.tmp 20)) w->∃ w',(execOp c.eval (⟨none,.mapUpdate 72 (.tmp 7) (.tmp 9) (.tmp 20),0, "edit.go:126",#[⟨3,.data⟩,⟨5,.data⟩,⟨16,.data⟩,⟨16,.chain⟩,⟨0,.phase⟩,⟨1,.phase⟩,⟨2,.phase⟩,⟨3,.phase⟩,⟨4,.phase⟩,⟨5,.phase⟩,⟨6,.phase⟩,⟨7,.phase⟩,⟨8,.phase⟩,⟨9,.phase⟩,⟨10,.phase⟩,⟨11,.phase⟩,⟨12,.phase⟩,⟨13,.phase⟩,⟨14,.phase⟩,⟨15,.phase⟩,⟨16,.phase⟩],none⟩:Oper)).run Tryz.prog w=.ok .skip w'/\Q .normal c w'):(Code.region 1 Zn5 true).wp Tryz.prog Q base H:=by
 have G:(List.range 17).all (fun i=>(Zv Zn5 i).isSome)=true:=by kernel_rfl
 refine Zce (A:=Zkv) (F:=Zg (Zbn p id k X b)) 17 (by kernel_rfl) (by kernel_rfl) (by kernel_rfl) (by rw [O];kernel_rfl) ?_ (by decide) (fun i v w w'=>Jk (Zw0 p id k X b) i v w w') ?_ ?_
 ·exact fun i B=>Option.isSome_iff_exists.1 (List.all_eq_true.1 G i (List.mem_range.2 B))
 ·intro i B c w I S l
  exact Jfs p id k X b Q i B c w ⟨(Zc I (by kernel_rfl)).trans m.t0,(Zc I (by kernel_rfl)).trans m.t3⟩ (z w S) l
 ·intro c w I S l
  obtain ⟨w',h1,h2⟩:=hL c w I S (Jw (p:=eqv (.map (some p.f))) (by kernel_rfl) rfl (l 3 (by omega))) (Jw (p:=eqv (.int .i64 k)) (by kernel_rfl) rfl (l 5 (by omega))) (Jw (p:=fun v w=>w.ownsRow b 2 1 v 1 [.int .i64 id]/\∃ a c,v=.slice a 1 c) (by kernel_rfl) rfl (l 16 (by omega)))
  exact Zb5 (by kernel_rfl) (Zz rfl) h1 h2
noncomputable def Zn6  : Array Oper:=Zy Tryz.f40 2
def Ji2  : List Sig:=[⟨21,.move (.tmp 0),31,none⟩,⟨22,.nilCheck (.tmp 21),0,none⟩,⟨23,.fieldAddr 74 (.tmp 22) 2,0,none⟩,⟨24,.load 72 (.tmp 23),72,none⟩,⟨25,.fieldAddr 49 (.tmp 3) 2,0,none⟩,⟨26,.load 2 (.tmp 25),2,none⟩,⟨27,.move (.tmp 0),31,none⟩,⟨28,.nilCheck (.tmp 27),0,none⟩,⟨29,.fieldAddr 74 (.tmp 28) 2,0,none⟩,⟨30,.load 72 (.tmp 29),72,none⟩,⟨31,.fieldAddr 49 (.tmp 3) 2,0,none⟩,⟨32,.load 2 (.tmp 31),2,none⟩,⟨33,.lookup 72 (.tmp 30) (.tmp 32) false,100,none⟩,⟨34,.fieldAddr 49 (.tmp 3) 0,0,none⟩,⟨35,.load 2 (.tmp 34),2,none⟩,⟨36,.buildSlice 100 1 #[(0,.tmp 35)],100,none⟩,⟨37,.call { callee:=.builtin .append,args:=#[.tmp 33,.tmp 36],argTypes:=#[100,100] },100,none⟩]
theorem Jft  : (Jh Zn6).take Ji2.length=Ji2.map some:=by kernel_rfl
def Zkw (i:Nat):List Nat:=nth [] [[],[0],[1],[2],[],[4],[],[6],[7],[8],[],[10],[9,11],[],[13],[14],[12,15],[0,1,2,3,4,5,6,7,8,9,10,11,12,13,14,15,16]] i
def Zbo (p:GP) (id k:Int) (X b:Nat):List (Value->World->Prop) :=
 [eqv (.pointer (some ⟨p.g,0,none⟩)),eqv (.pointer (some ⟨p.g,0,none⟩)),eqv (.pointer (some ⟨p.g,5,none⟩)),eqv (.map (some p.t)),eqv (.pointer (some ⟨X,2,none⟩)),eqv (.int .i64 k),eqv (.pointer (some ⟨p.g,0,none⟩)),eqv (.pointer (some ⟨p.g,0,none⟩)),eqv (.pointer (some ⟨p.g,5,none⟩)),eqv (.map (some p.t)),eqv (.pointer (some ⟨X,2,none⟩)),eqv (.int .i64 k),eqv (.slice none 0 0),eqv (.pointer (some ⟨X,0,none⟩)),eqv (.int .i64 id),laid [id],fun v w=>w.ownsRow b 2 1 v 1 [.int .i64 id]/\∃ a c,v=.slice a 1 c]
structure Zi7 (p:GP) (id k:Int) (X b:Nat) (c:Act):Prop where
 t0:c.eval (.tmp 0)=.pointer (some ⟨p.g,0,none⟩)
 t3:c.eval (.tmp 3)=.pointer (some ⟨X,0,none⟩)
structure Zgb (p:GP) (id k:Int) (X b:Nat) (w:World):Prop where
 cm:w.cell? ⟨p.g,5,none⟩=some (.map (some p.t))
 xk:w.cell? ⟨X,2,none⟩=some (.int .i64 k)
 xi:w.cell? ⟨X,0,none⟩=some (.int .i64 id)
 lk:(Instr.lookup 72 (.map (some p.t)) (.int .i64 k) false).run Tryz.prog w=.ok (.slice none 0 0) w
 b0:b<=w.heap.size
theorem Jc7 (p:GP) (id k:Int) (X b:Nat) (Q:Exit->Act->World->Prop) (c:Act) (w:World) (m:Zi7 p id k X b c) (z:Zgb p id k X b w) (l:∀ q0 ∈ Zkw 15,Zg (Zbo p id k X b) q0 (val Zn6 c q0) w) :
  Zbp Tryz.prog Zn6 Q (Zg (Zbo p id k X b)) 15 c w:=by
 have M:Zn6[15]?=some (⟨some 36,.buildSlice 100 1 #[(0,.tmp 35)],100, "edit.go:127",#[⟨14,.data⟩],none⟩:Oper):=by kernel_rfl
 have b9:c.eval (.tmp 35)=.int .i64 id:=Zm (by kernel_rfl) rfl (l 14 (by decide))
 have L:Region.wanted (⟨some 36,.buildSlice 100 1 #[(0,.tmp 35)],100, "edit.go:127",#[⟨14,.data⟩],none⟩:Oper) (yielded Zn6 c.tmps)=true:=Zz rfl
 have ec:=evc c
 have Y:=evf c
 refine Ze M L (v:=.slice (some ⟨w.heap.size,0,none⟩) 1 1) (w':=w.alloc (.cells #[.int .i64 id] 2)) ?_ ⟨w.heap.size,rfl,by simp,fun j hj=>?_⟩ ((Below.refl _ _).alloc (Nat.le_refl _) _)
 ·generalize c.eval=ρ at *
  clear l m z L M
  go_simp
 ·have R:j=0:=by simp at hj;omega
  subst R
  exact Zaj _ _ _ _ _ rfl
theorem Jc8 (p:GP) (id k:Int) (X b:Nat) (Q:Exit->Act->World->Prop) (c:Act) (w:World) (m:Zi7 p id k X b c) (z:Zgb p id k X b w) (l:∀ q0 ∈ Zkw 16,Zg (Zbo p id k X b) q0 (val Zn6 c q0) w) :
  Zbp Tryz.prog Zn6 Q (Zg (Zbo p id k X b)) 16 c w:=by
 have M:Zn6[16]?=some (⟨some 37,.call { callee:=.builtin .append,args:=#[.tmp 33,.tmp 36],argTypes:=#[100,100] },100, "edit.go:127",#[⟨12,.data⟩,⟨15,.data⟩],none⟩:Oper):=by kernel_rfl
 have b3:c.eval (.tmp 33)=.slice none 0 0:=Zm (by kernel_rfl) rfl (l 12 (by decide))
 have a8:(laid [id]) (c.eval (.tmp 36)) w:=Jw (by kernel_rfl) rfl (l 15 (by decide))
 have L:Region.wanted (⟨some 37,.call { callee:=.builtin .append,args:=#[.tmp 33,.tmp 36],argTypes:=#[100,100] },100, "edit.go:127",#[⟨12,.data⟩,⟨15,.data⟩],none⟩:Oper) (yielded Zn6 c.tmps)=true:=Zz rfl
 have ec:=evc c
 have Y:=evf c
 obtain ⟨i0,B,a0,a1,a3⟩:=info_parts Tryz.info2
 obtain ⟨y,a7,hy,a4⟩:=a8
 obtain ⟨v',w',U,N,a2,_,_⟩:=run_append_own_at (P:=Tryz.prog) w b 100 100 2 i0 (.int .i64 0) 1 8 Tryz.underlying100 B a0 a1 a3 rfl (by decide) (.slice none 0 0) 0 [] (World.ownsRow_nil _ _ _ _) ⟨y,0,none⟩ 1 1 [.int .i64 id] rfl (fun j u hj=>by
  have R:j=0:=by
   have:=(List.getElem?_eq_some_iff.1 hj).1
   simp at this;omega
  subst R
  have:u=.int .i64 id:=by simpa using hj.symm
  subst this
  have V:(⟨y,0,none⟩:Addr).add 0=⟨y,0,none⟩:=by unfold Addr.add;split<;>simp_all
  rw [V]
  exact a4 0 (by simp)) (by intro u hu;simp only [List.mem_cons,List.not_mem_nil,or_false] at hu;subst hu;rfl) (by unfold maxLen;omega) (by omega) z.b0
 obtain ⟨ua,uc,rfl⟩:=Jn N
 refine Ze M L (v:=.slice ua (0+1) uc) (w':=w') ?_ ⟨N,ua,uc,rfl⟩ ((Below.refl _ w).grown a2 (Nat.le_refl _) (fun q h=>by cases h))
 exact Zd1 b3 a7 U
theorem Zw2 (p:GP) (id k:Int) (X b:Nat):∀ pr ∈ Zbo p id k X b,Zct pr:=by
 unfold Zbo
 iterate 17 (first | refine List.forall_mem_cons.2 ⟨Zal _,?_⟩ | refine List.forall_mem_cons.2 ⟨Zd6 _,?_⟩ | refine List.forall_mem_cons.2 ⟨fun v w w' ⟨h,h2⟩ m=>⟨Jf h fun g _ hg=>m.block g hg,h2⟩,?_⟩)
 exact List.forall_mem_nil _
theorem Jfu (p:GP) (id k:Int) (X b:Nat) (Q:Exit->Act->World->Prop):∀ i,i<17->(fun i=>i ∉ ([15,16]:List Nat)->∀ c w,Zi7 p id k X b c->Zgb p id k X b w->(∀ q0 ∈ Zkw i,Zg (Zbo p id k X b) q0 (val Zn6 c q0) w)->Zbp Tryz.prog Zn6 Q (Zg (Zbo p id k X b)) i c w) i:=by
 iterate 17 (refine Zd ?_ (by
  intro W c w m z l
  first
  | exact absurd (by decide) W
  | (have hEq:=Za5 Jft (by decide) l
     refine Zbb Jft (by decide) rfl (fun _=>rfl) ?_
     obtain ⟨t0,t3⟩:=m
     obtain ⟨cm,xk,xi,lk,b0⟩:=z
     have ec:=evc c
     have Y:=evf c
     dsimp only [Zkw,Ji2,Zbo,nth,Zdj,Za2,eqv] at hEq |-
     refine .inl fun T af=>?_
     clear l W
     dsimp only [Sig.oper]
     generalize c.eval=ρ at *
     go_simp
     done)))
 exact Zf
theorem Jfv (p:GP) (id k:Int) (X b:Nat) (Q:Exit->Act->World->Prop):∀ i,i<17->(fun i=>∀ c w,Zi7 p id k X b c->Zgb p id k X b w->(∀ q0 ∈ Zkw i,Zg (Zbo p id k X b) q0 (val Zn6 c q0) w)->Zbp Tryz.prog Zn6 Q (Zg (Zbo p id k X b)) i c w) i:=by
 intro i B
 by_cases h15:i=15
 ·subst h15;exact fun c w=>Jc7 p id k X b Q c w
 by_cases h16:i=16
 ·subst h16;exact fun c w=>Jc8 p id k X b Q c w
 exact Jfu p id k X b Q i B (by simp [*])
theorem Zw3 (p:GP) (id k:Int) (X b:Nat) (Q:Exit->Act->World->Prop) (base:Act) (H:World) (O:base.tmps.size=38) (m:Zi7 p id k X b base)
  (z:∀ w,Below H.heap.size H w->Zgb p id k X b w) (hL:∀ c w,Zaf Zn6 base c->Below H.heap.size H w->c.eval (.tmp 24)=.map (some p.t)->c.eval (.tmp 26)=.int .i64 k->(fun v w=>w.ownsRow b 2 1 v 1 [.int .i64 id]/\∃ a c,v=.slice a 1 c) (c.eval (.tmp 37)) w->∃ w',(execOp c.eval (⟨none,.mapUpdate 72 (.tmp 24) (.tmp 26) (.tmp 37),0, "edit.go:127",#[⟨3,.data⟩,⟨5,.data⟩,⟨16,.data⟩,⟨16,.chain⟩,⟨0,.phase⟩,⟨1,.phase⟩,⟨2,.phase⟩,⟨3,.phase⟩,⟨4,.phase⟩,⟨5,.phase⟩,⟨6,.phase⟩,⟨7,.phase⟩,⟨8,.phase⟩,⟨9,.phase⟩,⟨10,.phase⟩,⟨11,.phase⟩,⟨12,.phase⟩,⟨13,.phase⟩,⟨14,.phase⟩,⟨15,.phase⟩,⟨16,.phase⟩],none⟩:Oper)).run Tryz.prog w=.ok .skip w'/\Q .normal c w'):(Code.region 2 Zn6 true).wp Tryz.prog Q base H:=by
 have G:(List.range 17).all (fun i=>(Zv Zn6 i).isSome)=true:=by kernel_rfl
 refine Zce (A:=Zkw) (F:=Zg (Zbo p id k X b)) 17 (by kernel_rfl) (by kernel_rfl) (by kernel_rfl) (by rw [O];kernel_rfl) ?_ (by decide) (fun i v w w'=>Jk (Zw2 p id k X b) i v w w') ?_ ?_
 ·exact fun i B=>Option.isSome_iff_exists.1 (List.all_eq_true.1 G i (List.mem_range.2 B))
 ·intro i B c w I S l
  exact Jfv p id k X b Q i B c w ⟨(Zc I (by kernel_rfl)).trans m.t0,(Zc I (by kernel_rfl)).trans m.t3⟩ (z w S) l
 ·intro c w I S l
  obtain ⟨w',h1,h2⟩:=hL c w I S (Jw (p:=eqv (.map (some p.t))) (by kernel_rfl) rfl (l 3 (by omega))) (Jw (p:=eqv (.int .i64 k)) (by kernel_rfl) rfl (l 5 (by omega))) (Jw (p:=fun v w=>w.ownsRow b 2 1 v 1 [.int .i64 id]/\∃ a c,v=.slice a 1 c) (by kernel_rfl) rfl (l 16 (by omega)))
  exact Zb5 (by kernel_rfl) (Zz rfl) h1 h2
end
