import Derived.Test.YteddjlbfbpecjaaGreatDoorJoin7
namespace Go.Proofs.YteddjlbfbpecjaaGreatDoor
set_option maxHeartbeats 4000000
set_option maxRecDepth 100000
set_option linter.all false
section
open Go.RowKit Go.Shelf
attribute [local go_sem] Oper.semAt_some
def Zhm  : Nat->List ByteArray->List ByteArray
 | 0,_=>[]
 | _+1,[]=>[]
 | n+1,x::r=>x::Zhm n (Zc9 x r)
def Zfl (ks:List ByteArray):List ByteArray:=Zhm ks.length ks
theorem Zi0 (x:ByteArray) (r:List ByteArray):(Zc9 x r).length<=r.length:=(List.dropWhile_sublist _).length_le
theorem Znu  : ∀ (n m:Nat) (ks:List ByteArray),ks.length<=n->ks.length<=m->Zhm n ks=Zhm m ks
 | n,m,[],_,_=>by cases n<;>cases m<;>rfl
 | n+1,m+1,x::r,h1,h2=>by
  have:=Zi0 x r
  simp only [List.length_cons] at h1 h2
  simp only [Zhm,Znu n m (Zc9 x r) (by omega) (by omega)]
theorem Ztg (x:ByteArray) (r:List ByteArray):Zfl (x::r)=x::Zfl (Zc9 x r):=by
 have:=Zi0 x r
 unfold Zfl
 simp only [List.length_cons,Zhm]
 rw [Znu r.length (Zc9 x r).length (Zc9 x r) this (Nat.le_refl _)]
theorem Zwo (ks:List ByteArray):(Zfl ks).length<=ks.length:=by
 have:∀ n ks,(Zhm n ks).length<=n:=by
  intro n
  induction n with
  | zero=>intro ks;simp [Zhm]
  | succ n ih =>
   intro ks
   cases ks with
   | nil=>simp [Zhm]
   | cons x r=>simp only [Zhm,List.length_cons];have:=ih (Zc9 x r);omega
 exact this _ _
def Zi1 (W:World) (d g:Nat) (ks:List ByteArray):Prop:=∃ a c,Rec W g #[.slice a ks.length c] 44/\Zfk W d g a ks/\ks.length<=c/\c<=9223372036854775807
theorem Zi1.rest {W:World} {d g:Nat} {ks:List ByteArray} (h:Zi1 W d g ks):Jd4 W d g W ks:=⟨h,rfl,fun _ _=>rfl,Below.refl _ _⟩
theorem Zi1.keep {W W':World} {d g:Nat} {ks:List ByteArray} (h:Zi1 W d g ks) (hk:∀ i,d<=i->i<=g->W'.heap[i]?=W.heap[i]?) (hl:d<=g):Zi1 W' d g ks:=by
 obtain ⟨a,c,h1,h2,h3⟩:=h
 refine ⟨a,c,h1.keep (hk g hl (Nat.le_refl _)),h2.imp id fun ⟨b,off,e,hb,hc⟩=>⟨b,off,e,hb,fun i x hx=>(World.cell?_of_block (hk b hb.1 (Nat.le_of_lt hb.2))).trans (hc i x hx)⟩,h3⟩
structure AnJ (w V:World) (p:GP) (nn nr:Int) (N R F T:List (Int × Value)) (X d g:Nat) (E:Option Addr) (C D:Nat) (done rest:List ByteArray) (W:World):Prop where
 gs:GS W p nn nr N R F T
 node:∃ la lc,Rec W X #[.int .i64 nn,.slice la done.length lc,.slice E C D] 47/\W.ownsRow (g+1) 9 1 (.slice la done.length lc) done.length (done.map Value.string)/\(done=[]->la=none/\lc=0)
 left:Zi1 W d g rest
 below:Below w.heap.size w W
 room:g<W.heap.size
 far:∀ b,w.heap.size<=b->b<d->b≠X->W.heap[b]?=V.heap[b]?
 old:p.g<w.heap.size/\p.n<w.heap.size/\p.r<w.heap.size/\p.f<w.heap.size/\p.t<w.heap.size
def Jb0 (d g:Nat) (ks:List ByteArray) (W:World) (v:ByteArray) (b:Bool) (w':World):Prop:=(ks=[]/\b=false/\w'=W)\/∃ x r,ks=x::r/\v=x/\b=true/\Jd4 W d g w' (Zc9 x r)
theorem Zrh {W:World} {d g:Nat} {ks:List ByteArray} (h:Zi1 W d g ks):Calls Tryz.prog 138 #[.pointer (some ⟨g,0,none⟩)] W fun e w'=>∃ v b,e=.returned (.tuple #[.string v,.bool b])/\Jb0 d g ks W v b w':=by
 cases ks with
 | nil =>
  obtain ⟨a,c,hr,_⟩:=h
  exact (Zv6 g a c W hr).mono fun e w' ⟨h1,h2⟩=>⟨_,_,h1,.inl ⟨rfl,rfl,h2⟩⟩
 | cons x r=>exact (Zv7 d g x r W h.rest).mono fun e w' ⟨h1,h2⟩=>⟨_,_,h1,.inr ⟨x,r,rfl,rfl,rfl,h2⟩⟩
def Zwp  : Value->Nat
 | .bool true=>1
 | _=>0
def AnI (w V:World) (p:GP) (nn nr:Int) (N R F T:List (Int × Value)) (X d g:Nat) (E:Option Addr) (C D:Nat) (S:List ByteArray) (l m:Value) (wr:World):Prop :=
 ∃ done rest,AnJ w V p nn nr N R F T X d g E C D done rest wr/\((m=.bool false/\(∃ s,l=.string s)/\done=S)\/∃ x,l=.string x/\m=.bool true/\done++x::Zfl rest=S)
theorem AnJ.next {w V:World} {p:GP} {nn nr:Int} {N R F T:List (Int × Value)} {X d g:Nat} {E:Option Addr} {C D:Nat} {done rest:List ByteArray} {W w':World} {v:ByteArray} {b:Bool} {S:List ByteArray}
  (h:AnJ w V p nn nr N R F T X d g E C D done rest W) (hn:Jb0 d g rest W v b w') (hS:done++Zfl rest=S) (hX:X<d) (hl:d<=g) (hw:w.heap.size<=X):AnI w V p nn nr N R F T X d g E C D S (.string v) (.bool b) w'/\(Zpi w' g+Zwp (.bool b)=0\/Zpi w' g+Zwp (.bool b)<=rest.length):=by
 rcases hn with ⟨rfl,rfl,rfl⟩ | ⟨x,r,rfl,rfl,rfl,hr⟩
 ·refine ⟨⟨done,[],h,.inl ⟨rfl,⟨v,rfl⟩,by simpa [Zfl,Zhm] using hS⟩⟩,.inl ?_⟩
  obtain ⟨a,c,h1,_⟩:=h.left
  rw [Zf7 h1];rfl
 ·rw [Ztg] at hS
  refine ⟨⟨done,Zc9 v r,⟨?_,?_,hr.at_,?_,by rw [hr.size];exact h.room,fun b h1 h2 h3=>(hr.other b (by omega)).trans (h.far b h1 h2 h3),h.old⟩,.inr ⟨v,rfl,rfl,hS⟩⟩,.inr ?_⟩
  ·exact ⟨h.gs.obj.keep (hr.other _ (by have:=h.old;omega)),h.gs.n.block (hr.other _ (by have:=h.old;omega)),h.gs.r.block (hr.other _ (by have:=h.old;omega)),h.gs.f.block (hr.other _ (by have:=h.old;omega)),h.gs.t.block (hr.other _ (by have:=h.old;omega))⟩
  ·obtain ⟨la,lc,h1,h2,h3⟩:=h.node
   exact ⟨la,lc,h1.keep (hr.other _ (by omega)),Jf h2 fun i hi _=>hr.other i (by omega),h3⟩
  ·exact h.below.trans (hr.below.mono (by omega))
  ·obtain ⟨a,c,h1,_⟩:=hr.at_
   rw [Zf7 h1]
   have:=Zi0 v r
   simp only [Zwp,List.length_cons]
   omega
def Jk4 (w:World) (K:World->Value->Prop) (v:Value) (w':World):Prop:=∃ V X,KB K V v/\w.heap.size<=X/\Rec V X #[.int .i64 0,.slice none 0 0,.slice none 0 0] 47/\Below w.heap.size w V/\V.heap.size<=w'.heap.size/\∀ b,w.heap.size<=b->b<V.heap.size->b≠X->w'.heap[b]?=V.heap[b]?
set_option maxRecDepth 100000 in
set_option maxHeartbeats 8000000 in
theorem Zpk {w:World} {p:GP} {nn nr:Int} {N R F T:List (Int × Value)} (h:GS w p nn nr N R F T) (B:Nat) (c7:p.Ok B) (hB:B<=w.heap.size)
  (ks:List ByteArray) (a:Option Addr) (cap:Nat) (pv:Value) (K:World->Value->Prop) (f2:∃ a n c,pv=.slice a n c)
  (e3:ks.length<=2000000) (c1:ks.length<=cap) (b3:cap<=9223372036854775807) (c8:Zca w.heap.size w a ks)
  (ha:Calls Tryz.prog 85 #[.slice a ks.length cap] w fun e w'=>e=.returned (.bool true)/\Below w.heap.size w w')
  (hs:∀ W,Below w.heap.size w W->Calls Tryz.prog 86 #[pv] W fun e w'=>e=.returned (.bool true)/\Below W.heap.size W w')
  (hk:∀ W,Below w.heap.size w W->Calls Tryz.prog 88 #[pv] W fun e w'=>∃ a n c,e=.returned (.slice a n c)/\K w' (.slice a n c)/\Below W.heap.size W w')
  (e4:I64 nn) (b7:nn<4611686018427387904) (d8:0<=nn) (a4:∀ q ∈ N,q.1≠nn) (f0:N.length+R.length<65536) :
  Calls Tryz.prog 30 #[p.val,.slice a ks.length cap,pv] w fun e w'=>e=.returned (.tuple #[.int .i64 nn,.int .i64 0])/\∃ la A lc E C D,GS w' p (nn+1) nr (N++[(nn,.agg #[.int .i64 nn,.slice la A lc,.slice E C D])]) R F T/\Below B w w'/\w'.ownsRow w.heap.size 9 1 (.slice la A lc) (Zfl (Zd4 ks)).length ((Zfl (Zd4 ks)).map Value.string)/\(Zfl (Zd4 ks)=[]->la=none/\A=0/\lc=0)/\Jk4 w K (.slice E C D) w':=by
 obtain ⟨qa,qn,qc,rfl⟩:=f2
 have j4:(Zd4 ks).length<=2000000:=by rw [Zoa];exact e3
 obtain ⟨S,c6⟩:∃ S,Zfl (Zd4 ks)=S:=⟨_,rfl⟩
 have p5:S.length<=2000000:=by rw [<- c6];exact Nat.le_trans (Zwo _) j4
 rw [c6]
 have j2:=Zb c6
 clear c6 j4
 have HG:=Zb h
 have HK:=Zb hk
 have HS:=Zb hs
 have HA:=Zb ha
 have HT:=Zb c8
 have f8:=Zb (Zcw h)
 have m2:=Zb c7
 have g8:=Zb a4
 clear h hk hs ha c8 c7 a4
 unfold GP.val at f8 |-
 go_enter Tryz.func30,Tryz.ntmps30
 go_wp2_with fail
 refine f8.out.mono ?_
 rintro e w1 ⟨rfl,k0⟩
 rw [k0]
 clear k0 f8
 go_wp2_with fail
 refine HA.out.mono ?_
 rintro e w2 ⟨rfl,h9⟩
 have g0:=Zb h9
 clear h9 HA
 go_wp2_with fail
 refine (HS.out w2 g0.out).mono ?_
 rintro e w3 ⟨rfl,U⟩
 have a0:=Zb (Za g0.out U)
 clear U HS
 have e9:=Zb (HG.out.below a0.out)
 have e2:=Zb (Zqr e9.out f0 nn b7)
 unfold GP.val at e2
 have c2:=e9.out.c2
 go_wp2_with fail
 refine e2.out.mono ?_
 rintro e w4 ⟨rfl,k8⟩
 have M:=Zb (Za a0.out k8)
 have e7:=Zb (HG.out.below M.out)
 clear k8 c2 e2 e9 a0 g0
 go_upto_region 7 with fail
 show (Code.region 7 Zj0 true).wp _ _ _ _
 refine Zwb p nn (.slice qa qn qc) w4.heap.size K _ _ _ rfl ⟨rfl,rfl⟩ ?_ ?_
 ·intro W hW
  exact ⟨(hW.cell (p:=⟨p.g,2,none⟩) e7.out.obj.lt).trans e7.out.c2,hW.size,HK.out W (Za M.out hW)⟩
 rintro c O hS f6 ⟨E,C,D,f1,i8⟩ ⟨X,e8,hX,c4⟩
 have c5:Hid (KB K O (.slice E C D)/\w.heap.size<=X/\Rec O X #[.int .i64 0,.slice none 0 0,.slice none 0 0] 47/\Below w.heap.size w O):=⟨i8,Nat.le_trans M.out.size hX,c4,Za M.out f6⟩
 clear i8
 obtain ⟨W6,d7,L⟩:=Jcf c.eval X O _ _ _ nn E C D c4 e8 f1
 refine ⟨W6,d7,?_⟩
 clear d7
 rw [Zba hS [33,34,35,36,37,38,39,40,8] (by kernel_rfl)]
 obtain ⟨q2,k4⟩:∃ y,c.eval (.tmp 33)=y:=⟨_,rfl⟩
 obtain ⟨o0,k2⟩:∃ y,c.eval (.tmp 34)=y:=⟨_,rfl⟩
 obtain ⟨p3,j8⟩:∃ y,c.eval (.tmp 35)=y:=⟨_,rfl⟩
 obtain ⟨o6,i7⟩:∃ y,c.eval (.tmp 36)=y:=⟨_,rfl⟩
 obtain ⟨o9,h0⟩:∃ y,c.eval (.tmp 37)=y:=⟨_,rfl⟩
 obtain ⟨p4,l1⟩:∃ y,c.eval (.tmp 38)=y:=⟨_,rfl⟩
 obtain ⟨n0,g5⟩:∃ y,c.eval (.tmp 39)=y:=⟨_,rfl⟩
 obtain ⟨q0,f9⟩:∃ y,c.eval (.tmp 40)=y:=⟨_,rfl⟩
 obtain ⟨y8,q8⟩:∃ y,c.eval (.tmp 8)=y:=⟨_,rfl⟩
 simp only [List.foldl_cons,List.foldl_nil,k4,k2,j8,i7,h0,l1,g5,f9,q8]
 rw [e8] at q8
 rw [f1] at f9
 subst q8 f9
 clear e8 f1 hS
 have m8:X<O.heap.size:=c4.lt
 have a8:Hid (Below w.heap.size w W6):=(M.out.trans (f6.mono M.out.size)).trans (L.below.mono (Nat.le_trans M.out.size hX))
 have g7:Hid (GS W6 p nn nr N R F T):=HG.out.below a8.out
 have j9:=Zb L.r
 have e5:X<W6.heap.size:=L.r.lt
 have g2:Hid (O.heap.size<=W6.heap.size/\∀ b,w.heap.size<=b->b<W6.heap.size->b≠X->W6.heap[b]?=O.heap[b]?):=⟨L.below.size,fun b _ _ h=>L.other b h⟩
 have f7:w.heap.size<=X:=Nat.le_trans M.out.size hX
 clear L c4 f6 m8 hX M e7 HK
 clear k4 k2 j8 i7 h0 l1 g5
 simp only [List.setIfInBounds_toArray,List.set_cons_succ,List.set_cons_zero]
 have HE:=Zb (Zob ks (by omega) a cap W6 c1 ((HT.out.below a8.out).mono a8.out.size))
 go_wp2_with fail
 refine HE.out.mono ?_
 rintro e w7 ⟨g,rfl,f4,g4,m4,b9⟩
 have d6:Hid (AnJ w O p nn nr N R F T X W6.heap.size g E C D [] (Zd4 ks) w7) :=
  ⟨g7.out.below b9,⟨none,0,j9.out.below b9 e5,World.ownsRow_nil _ _ _ _,fun _=>⟨rfl,rfl⟩⟩,g4.at_,a8.out.trans (b9.mono a8.out.size),by omega,fun b h1 h2 h3=>(b9.block b h2).trans (g2.out.2 b h1 h2 h3),HG.out.obj.lt,HG.out.n.lt,HG.out.r.lt,HG.out.f.lt,HG.out.t.lt⟩
 have g1:X<W6.heap.size:=e5
 obtain ⟨d,b6⟩:∃ d,W6.heap.size=d:=⟨_,rfl⟩
 have i9:O.heap.size<=d:=by rw [<- b6];exact g2.out.1
 have i2:=Zb i9
 clear i9 g2
 rw [b6] at d6 g1 f4
 clear g4 m4 b9 HE g7 j9 e5 b6 a8 HT
 have g6:=Zb (Zrh d6.out.left)
 go_wp2_with fail
 refine g6.out.mono ?_
 rintro e w8 ⟨v8,b8,rfl,i5⟩
 have e0:=Zb (d6.out.next (S:=S) i5 (by rw [List.nil_append];exact j2.out) g1 f4 f7).1
 clear i5 g6 d6 j2
 go_wp2_with fail
 go_loopw [10,11] (fun l m wr=>AnI w O p nn nr N R F T X d g E C D S l m wr) (fun _ m wr=>Zpi wr g+Zwp m)
 case atStart=>exact e0.out
 case round =>
  obtain ⟨done,rest,hJ,⟨rfl,⟨s,rfl⟩,b2⟩ | ⟨x,rfl,rfl,hd⟩⟩:=hrel
  ·have H:=Zb hJ
   have HD:=Zb b2
   obtain ⟨la,lc,a7,b4,k3⟩:=hJ.node
   have d9:=Zb k3
   clear k3
   have o:=Zb a7
   have a1:=Zb b4
   clear hJ b2 a7 b4 e0
   obtain ⟨A,Q⟩:∃ A,done.length=A:=⟨_,rfl⟩
   rw [Q] at o a1
   have a9:=Zb Q
   clear Q
   go_upto_region 13 with fail
   show (Code.region 13 Zls true).wp _ _ _ _
   refine Ztd p nn X la E A lc C D _ _ _ rfl ⟨rfl,rfl⟩ ?_ ?_
   ·intro W hW
    exact ⟨(hW.cell (p:=⟨p.g,0,none⟩) H.out.gs.obj.lt).trans H.out.gs.c0,(hW.cell (p:=⟨X,0,none⟩) o.out.lt).trans (o.out.cell 0 rfl),(hW.cell (p:=⟨X,1,none⟩) o.out.lt).trans (o.out.cell 1 rfl),(hW.cell (p:=⟨X,2,none⟩) o.out.lt).trans (o.out.cell 2 rfl)⟩
   intro c W9 hS P l5 l8 m1
   obtain ⟨Y,l3,f3,l0,k,a5⟩:=Zhj Tryz.underlying68' (H.out.gs.n.below P (Nat.le_refl _)) nn (.agg #[.int .i64 nn,.slice la A lc,.slice E C D]) e4 g8.out
   refine ⟨Y,?_,?_⟩
   ·generalize c.eval=ρ at *
    clear hS f3 k a5
    go_simp
   rw [Zba hS [60,61,62,63,64,65,66,67] (by kernel_rfl)]
   obtain ⟨o7,k9⟩:∃ y,c.eval (.tmp 60)=y:=⟨_,rfl⟩
   obtain ⟨p8,h7⟩:∃ y,c.eval (.tmp 61)=y:=⟨_,rfl⟩
   obtain ⟨o8,j1⟩:∃ y,c.eval (.tmp 62)=y:=⟨_,rfl⟩
   obtain ⟨p1,h8⟩:∃ y,c.eval (.tmp 63)=y:=⟨_,rfl⟩
   obtain ⟨p7,k1⟩:∃ y,c.eval (.tmp 64)=y:=⟨_,rfl⟩
   obtain ⟨p6,i3⟩:∃ y,c.eval (.tmp 65)=y:=⟨_,rfl⟩
   obtain ⟨q3,k6⟩:∃ y,c.eval (.tmp 66)=y:=⟨_,rfl⟩
   obtain ⟨p2,i1⟩:∃ y,c.eval (.tmp 67)=y:=⟨_,rfl⟩
   simp only [List.foldl_cons,List.foldl_nil,k9,h7,j1,h8,k1,i3,k6,i1]
   clear k9 h7 j1 h8 k1 i3 k6 i1 hS l5 l8 m1 l3
   simp only [List.setIfInBounds_toArray,List.set_cons_succ,List.set_cons_zero]
   obtain ⟨o1,o2,o3,o4,o5,n1,n2,n3,n4,n5,n6,n7,n8,n9,p9⟩:=m2.out
   obtain ⟨u1,u2,u3,u4,u5⟩:=H.out.old
   have b1:=Zb (H.out.gs.below P)
   have G:Hid (GS Y p nn nr (N++[(nn,.agg #[.int .i64 nn,.slice la A lc,.slice E C D])]) R F T) :=
    ⟨b1.out.obj.keep (k _ n1),f3,b1.out.r.block (k _ (Ne.symm n5)),b1.out.f.block (k _ (Ne.symm n6)),b1.out.t.block (k _ (Ne.symm n7))⟩
   have j3:Hid (Rec Y X #[.int .i64 nn,.slice la A lc,.slice E C D] 47):=(o.out.below P o.out.lt).keep (k _ (by omega))
   have c9:Hid (Y.ownsRow (g+1) 9 1 (.slice la A lc) A (done.map Value.string)):=Jf a1.out fun i hi hl=>(k i (by omega)).trans (P.block i hl)
   have m5:Hid (∀ b,w.heap.size<=b->b<O.heap.size->b≠X->Y.heap[b]?=O.heap[b]?):=fun b h1 h2 h3=>by
    have h4:b<d:=Nat.lt_of_lt_of_le h2 i2.out
    exact (k b (by omega)).trans ((P.block b (by have:=H.out.room;omega)).trans (H.out.far b h1 h4 h3))
   have k5:Hid (O.heap.size<=Y.heap.size):=by
    show _<=_
    have h1:=i2.out
    have h2:=H.out.room
    have h3:=P.size
    have h4:=a5.size
    omega
   have g3:Hid (Below B w Y):=(H.out.below.mono hB).trans ((P.mono (by have:=H.out.below.size;omega)).trans (a5.mono o2))
   clear f3 k a5 l0 P b1
   have c2:=G.out.c2
   have z2:=G.out.obj.z 2
   have p0:IntKind.i64.wrap (nn+1)=nn+1:=by rw [IntKind.wrap_i64];omega
   go_upto_region 15 with fail
   generalize I:World.setCell _ _ _=W11
   have k7:Hid (Rec W11 X #[.int .i64 nn,.slice la A lc,.slice E C D] 47):=by rw [<- I];exact j3.out.other (by omega)
   have i4:Hid (GS W11 p (nn+1) nr (N++[(nn,.agg #[.int .i64 nn,.slice la A lc,.slice E C D])]) R F T):=by
    rw [<- I]
    refine ⟨?_,G.out.n.block (Below.heap_setCell _ _ _ _ (Ne.symm n1)),G.out.r.block (Below.heap_setCell _ _ _ _ (Ne.symm n2)),G.out.f.block (Below.heap_setCell _ _ _ _ (Ne.symm n3)),G.out.t.block (Below.heap_setCell _ _ _ _ (Ne.symm n4))⟩
    have:=G.out.obj.set 2 (.int .i64 (nn+1))
    simpa [GP.cells] using this
   have i6:Hid (Below B w W11):=by rw [<- I];exact g3.out.setCell (p:=⟨p.g,2,none⟩) o1 _
   have c3:Hid (W11.ownsRow (g+1) 9 1 (.slice la A lc) A (done.map Value.string)):=by
    rw [<- I]
    exact Jf c9.out fun i hi _=>Below.heap_setCell _ _ _ _ (by show i≠p.g;omega)
   have l7:Hid (O.heap.size<=W11.heap.size/\∀ b,w.heap.size<=b->b<O.heap.size->b≠X->W11.heap[b]?=O.heap[b]?):=by
    rw [<- I]
    exact ⟨by simp [World.setCell];exact k5.out,fun b h1 h2 h3=>(Below.heap_setCell _ _ _ _ (by show b≠p.g;omega)).trans (m5.out b h1 h2 h3)⟩
   clear I c2 z2
   have x0:=k7.out.cell 0 rfl
   go_wp2_with fail
   go_ret2
   refine ⟨rfl,la,A,lc,E,C,D,i4.out,i6.out,?_,fun he=>?_,O,X,c5.out.1,c5.out.2.1,c5.out.2.2.1,c5.out.2.2.2,l7.out⟩
   ·have:=Zeq c3.out (show w.heap.size<=g+1 by omega)
    rw [HD.out] at this
    rw [<- a9.out,HD.out] at this |-
    exact this
   have f5:done=[]:=by rw [HD.out];exact he
   exact ⟨(d9.out f5).1,by rw [<- a9.out,f5];rfl,(d9.out f5).2⟩
  ·have H:=Zb hJ
   have HD:=Zb hd
   obtain ⟨la,lc,a7,b4,_⟩:=hJ.node
   have o:=Zb a7
   have a1:=Zb b4
   have x1:=a7.cell 1 rfl
   have q1:=hJ.room
   have l4:done.length+1<=2000000:=by
    have:=congrArg List.length hd
    simp only [List.length_append,List.length_cons] at this
    omega
   clear hJ hd a7 b4 e0
   obtain ⟨i0,hi,m9,m7,l6⟩:=info_parts Tryz.info9
   obtain ⟨A,Q⟩:∃ A,done.length=A:=⟨_,rfl⟩
   rw [Q] at o a1 l4
   replace x1:wr.cell? ⟨X,1,none⟩=some (.slice la A lc):=o.out.cell 1 rfl
   have a9:=Zb Q
   clear Q
   go_wp2_with (at_builtin;refine wpList_append_own _ rfl _ _ 44 rfl (g+1) 9 i0 (.string ⟨#[]⟩) 1 16 Tryz.underlying44 hi m9 m7 l6 rfl (by decide) _ _ _ rfl (Jf a1.out fun g _ hg=>Below.heap_alloc _ _ _ hg) ⟨wr.heap.size,0,none⟩ 1 1 [.string x] rfl rfl ?d1 ?d2 ?d3 ?d4 ?d5 ?_)
   case d1 =>
    intro j u hj
    have j5:(⟨wr.heap.size,0,none⟩:Addr).add j=⟨wr.heap.size,j,none⟩:=by unfold Addr.add;split<;>simp_all
    rw [j5]
    refine Zaj _ _ _ _ _ ?_
    simpa using hj
   case d2=>intro u hu;simp only [List.mem_cons,List.not_mem_nil,or_false] at hu;subst hu;rfl
   case d3=>unfold maxLen;omega
   case d4=>omega
   case d5=>first | omega | (simp;omega)
   intro v3 w3 a3 a6 _
   obtain ⟨ub,ud,rfl⟩:=Jn a3
   have U:Below (g+1) wr w3:=((Below.refl _ wr).alloc (by omega) _).trans (Zdk (Jf a1.out fun g _ hg=>Below.heap_alloc _ _ _ hg) (by simp;omega) a6)
   have a0:=Zb U
   have l2:=Zb a3
   have d0:=Zb (o.out.below U (by omega))
   have y1:=d0.out.cell 1 rfl
   have fy:=d0.out.z 1
   have l9:=U.size
   clear a3 a6 U x1
   go_upto_region 11 with fail
   generalize b0:World.setCell _ _ _=W4
   have e6:Hid (AnJ w O p nn nr N R F T X d g E C D (done++[x]) rest W4):=by
    obtain ⟨u1,u2,u3,u4,u5⟩:=H.out.old
    have a2:∀ i,i<g+1->i≠X->W4.heap[i]?=wr.heap[i]?:=fun i hi hx=>by
     rw [<- b0]
     exact (Below.heap_setCell _ _ _ _ hx).trans (a0.out.block i hi)
    refine ⟨⟨H.out.gs.obj.keep (a2 _ (by omega) (by omega)),H.out.gs.n.block (a2 _ (by omega) (by omega)),H.out.gs.r.block (a2 _ (by omega) (by omega)),H.out.gs.f.block (a2 _ (by omega) (by omega)),H.out.gs.t.block (a2 _ (by omega) (by omega))⟩,⟨ub,ud,?_,?_,fun h=>by simp at h⟩,H.out.left.keep (fun i h1 h2=>a2 i (by omega) (by omega)) (by omega),?_,?_,fun b h1 h2 h3=>(a2 b (by omega) h3).trans (H.out.far b h1 h2 h3),H.out.old⟩
    ·rw [<- b0,List.length_append,a9.out]
     have:=d0.out.set 1 (.slice ub (A+1) ud)
     simpa using this
    ·rw [List.length_append,a9.out,List.map_append]
     exact Jf l2.out fun i hi _=>by
      rw [<- b0]
      exact Below.heap_setCell _ _ _ _ (by show i≠X;omega)
    ·rw [<- b0]
     exact (H.out.below.trans (a0.out.mono (by omega))).setCell (p:=⟨X,1,none⟩) f7 _
    ·rw [<- b0];simp [World.setCell];omega
   have j0:=Zb (Zrh e6.out.left)
   have m0:Hid (Zpi wr g=rest.length):=by
    obtain ⟨a,c,h1,_⟩:=H.out.left
    exact Zf7 h1
   clear b0 y1 fy a0 l2 d0 l9 o a1 H a9
   go_wp2_with fail
   refine j0.out.mono ?_
   rintro e w5 ⟨v5,b5,rfl,g9⟩
   obtain ⟨j7,j6⟩:=e6.out.next (S:=S) g9 (by rw [List.append_assoc];exact HD.out) g1 f4 f7
   have m6:=Zb j7
   have m3:=Zb j6
   clear j7 j6 g9 j0 e6
   go_wp2_with fail
   go_roundw
   case rel=>exact m6.out
   case measure =>
    rw [m0.out]
    have e1:Zwp (.bool true)=1:=rfl
    rw [e1]
    rcases m3.out with h | h<;>omega
theorem Zkm {w:World} {p:GP} {nn nr:Int} {N R F T:List (Int × Value)} (h:GS w p nn nr N R F T) (B:Nat) (c7:p.Ok B) (hB:B<=w.heap.size)
  (ks:List ByteArray) (a:Option Addr) (cap:Nat) (pv:Value) (K:World->Value->Prop) (f2:∃ a n c,pv=.slice a n c)
  (e3:ks.length<=2000000) (c1:ks.length<=cap) (b3:cap<=9223372036854775807) (c8:Zca w.heap.size w a ks)
  (ha:Calls Tryz.prog 85 #[.slice a ks.length cap] w fun e w'=>e=.returned (.bool true)/\Below w.heap.size w w')
  (hs:∀ W,Below w.heap.size w W->Calls Tryz.prog 86 #[pv] W fun e w'=>e=.returned (.bool true)/\Below W.heap.size W w')
  (hk:∀ W,Below w.heap.size w W->Calls Tryz.prog 88 #[pv] W fun e w'=>∃ a n c,e=.returned (.slice a n c)/\K w' (.slice a n c)/\Below W.heap.size W w')
  (e4:I64 nn) (b7:nn<4611686018427387904) (d8:0<=nn) (a4:∀ q ∈ N,q.1≠nn) (f0:N.length+R.length<65536) :
  Calls Tryz.prog 30 #[p.val,.slice a ks.length cap,pv] w fun e w'=>e=.returned (.tuple #[.int .i64 nn,.int .i64 0])/\∃ la A lc E C D,GS w' p (nn+1) nr (N++[(nn,.agg #[.int .i64 nn,.slice la A lc,.slice E C D])]) R F T/\Below B w w'/\w'.ownsRow w.heap.size 9 1 (.slice la A lc) (Zfl (Zd4 ks)).length ((Zfl (Zd4 ks)).map Value.string)/\(Zfl (Zd4 ks)=[]->la=none/\A=0/\lc=0)/\∃ W,K W (.slice E C D) :=
 (Zpk h B c7 hB ks a cap pv K f2 e3 c1 b3 c8 ha hs hk e4 b7 d8 a4 f0).mono fun e w' ⟨h1,la,A,lc,E,C,D,h2,h3,h4,h5,V,X,⟨W,h6,_⟩,_⟩=>⟨h1,la,A,lc,E,C,D,h2,h3,h4,h5,W,h6⟩
end
section
open Go.RowKit Go.Shelf Go.WideShapes
theorem Tryz.info2  : (Tryz.prog.info? 2).map (fun i=>(i.zero,i.size,i.bytes))=some (some (.int .i64 0),1,8):=by kernel_rfl
theorem Zd1 {P:Program} {w w':World} {ρ:Operand->Value} {x y:Operand} {t ty:TypeId} {d:Option Tmp} {pos:String} {af:Array Edge} {g:Option (Nat × Bool)} {vx vy v':Value} (hx:ρ x=vx) (hy:ρ y=vy)
  (h:(Builtin.append_ #[t,t] ty #[vx,vy]).run P w=.ok v' w') :
  (execOp ρ { dst:=d,op:=Op.call { callee:=Callee.builtin Builtin.append,args:=#[x,y],argTypes:=#[t,t] },type:=ty,pos:=pos,after:=af,guard:=g }).run P w=.ok (.value v') w':=by
 unfold execOp
 simp only [resolve,invoke,builtin,Sem.run_bind,Sem.run_pure,Result.andThen_ok,List.map_toArray,List.map_cons,List.map_nil,hx,hy,h]
noncomputable def Zj2  : Array Oper:=Zy Tryz.f32 9
def Ji0  : List Sig:=[⟨45,.move (.tmp 0),31,none⟩,⟨46,.nilCheck (.tmp 45),0,none⟩,⟨47,.fieldAddr 74 (.tmp 46) 0,0,none⟩,⟨48,.fieldAddr 71 (.tmp 47) 3,0,none⟩,⟨49,.load 2 (.tmp 48),2,none⟩,⟨50,.move (.tmp 1),2,none⟩,⟨51,.move (.tmp 2),2,none⟩,⟨52,.move (.tmp 3),9,none⟩,⟨53,.move (.tmp 4),45,none⟩,⟨54,.call { callee:=.value (.func 88),args:=#[.tmp 53],argTypes:=#[45] },45,none⟩,⟨55,.build 49 #[(0,.tmp 49),(1,.tmp 50),(2,.tmp 51),(3,.tmp 52),(4,.tmp 54)],49,none⟩,⟨12,.alloc 49,0,none⟩]
theorem Jfm  : (Jh Zj2).take Ji0.length=Ji0.map some:=by kernel_rfl
def Zi4 (i:Nat):List Nat:=nth [] [[],[0],[1],[2],[3],[],[],[],[],[8],[4,5,6,7,9],[],[0,1,2,3,4,5,6,7,8,9,10,11]] i
def Za8 (p:GP) (nr f t:Int) (s:ByteArray) (o:Value) (b:Nat) (K:World->Value->Prop):List (Value->World->Prop) :=
 [eqv (.pointer (some ⟨p.g,0,none⟩)),eqv (.pointer (some ⟨p.g,0,none⟩)),eqv (.pointer (some ⟨p.g,0,none⟩)),eqv (.pointer (some ⟨p.g,3,none⟩)),eqv (.int .i64 nr),eqv (.int .i64 f),eqv (.int .i64 t),eqv (.string s),eqv (o),fun v w=>∃ a n c,v=.slice a n c/\KB K w v,fun v w=>∃ a n c,v=.agg #[.int .i64 nr,.int .i64 f,.int .i64 t,.string s,.slice a n c]/\KB K w (.slice a n c),fun v w=>∃ X,v=.pointer (some ⟨X,0,none⟩)/\b<=X/\Rec w X #[.int .i64 0,.int .i64 0,.int .i64 0,.string ⟨#[]⟩,.slice none 0 0] 49]
structure Zgz (p:GP) (nr f t:Int) (s:ByteArray) (o:Value) (b:Nat) (K:World->Value->Prop) (c:Act):Prop where
 t0:c.eval (.tmp 0)=.pointer (some ⟨p.g,0,none⟩)
 t1:c.eval (.tmp 1)=.int .i64 f
 t2:c.eval (.tmp 2)=.int .i64 t
 t3:c.eval (.tmp 3)=.string s
 t4:c.eval (.tmp 4)=o
structure Zey (p:GP) (nr f t:Int) (s:ByteArray) (o:Value) (b:Nat) (K:World->Value->Prop) (w:World):Prop where
 c3:w.cell? ⟨p.g,3,none⟩=some (.int .i64 nr)
 b0:b<=w.heap.size
 k6:Calls Tryz.prog 88 #[o] w fun e w'=>∃ a n c,e=.returned (.slice a n c)/\K w' (.slice a n c)/\Below w.heap.size w w'
theorem Jfn (p:GP) (nr f t:Int) (s:ByteArray) (o:Value) (b:Nat) (K:World->Value->Prop) (Q:Exit->Act->World->Prop) (c:Act) (w:World) (m:Zgz p nr f t s o b K c) (z:Zey p nr f t s o b K w) (l:∀ q0 ∈ Zi4 9,Zg (Za8 p nr f t s o b K) q0 (val Zj2 c q0) w) :
  Zbp Tryz.prog Zj2 Q (Zg (Za8 p nr f t s o b K)) 9 c w:=by
 have L:Zj2[9]?=some (⟨some 54,.call { callee:=.value (.func 88),args:=#[.tmp 53],argTypes:=#[45] },45, "edit.go:44",#[⟨8,.data⟩],none⟩:Oper):=by kernel_rfl
 have b6:c.eval (.tmp 53)=o:=Zm (by kernel_rfl) rfl (l 8 (by decide))
 have M:Region.wanted (⟨some 54,.call { callee:=.value (.func 88),args:=#[.tmp 53],argTypes:=#[45] },45, "edit.go:44",#[⟨8,.data⟩],none⟩:Oper) (yielded Zj2 c.tmps)=true:=Zz rfl
 have Y:=evc c
 have W:=evf c
 refine Zc2 L M (f:=88) (args:=#[o]) ?_ (z.k6.mono fun e w' ⟨a,n,c,h1,h2,h3⟩=>⟨_,h1,⟨a,n,c,rfl,w',h2,Below.refl _ _⟩,h3⟩)
 generalize c.eval=ρ at *
 clear l m z M L
 go_simp
theorem Jc0 (p:GP) (nr f t:Int) (s:ByteArray) (o:Value) (b:Nat) (K:World->Value->Prop) (Q:Exit->Act->World->Prop) (c:Act) (w:World) (m:Zgz p nr f t s o b K c) (z:Zey p nr f t s o b K w) (l:∀ q0 ∈ Zi4 10,Zg (Za8 p nr f t s o b K) q0 (val Zj2 c q0) w) :
  Zbp Tryz.prog Zj2 Q (Zg (Za8 p nr f t s o b K)) 10 c w:=by
 have L:Zj2[10]?=some (⟨some 55,.build 49 #[(0,.tmp 49),(1,.tmp 50),(2,.tmp 51),(3,.tmp 52),(4,.tmp 54)],49, "edit.go:44",#[⟨4,.data⟩,⟨5,.data⟩,⟨6,.data⟩,⟨7,.data⟩,⟨9,.data⟩],none⟩:Oper):=by kernel_rfl
 have b8:c.eval (.tmp 49)=.int .i64 nr:=Zm (by kernel_rfl) rfl (l 4 (by decide))
 have b9:c.eval (.tmp 50)=.int .i64 f:=Zm (by kernel_rfl) rfl (l 5 (by decide))
 have b4:c.eval (.tmp 51)=.int .i64 t:=Zm (by kernel_rfl) rfl (l 6 (by decide))
 have b7:c.eval (.tmp 52)=.string s:=Zm (by kernel_rfl) rfl (l 7 (by decide))
 have a9:(fun v w=>∃ a n c,v=.slice a n c/\KB K w v) (c.eval (.tmp 54)) w:=Jw (by kernel_rfl) rfl (l 9 (by decide))
 have M:Region.wanted (⟨some 55,.build 49 #[(0,.tmp 49),(1,.tmp 50),(2,.tmp 51),(3,.tmp 52),(4,.tmp 54)],49, "edit.go:44",#[⟨4,.data⟩,⟨5,.data⟩,⟨6,.data⟩,⟨7,.data⟩,⟨9,.data⟩],none⟩:Oper) (yielded Zj2 c.tmps)=true:=Zz rfl
 have Y:=evc c
 have W:=evf c
 obtain ⟨a,n,cc,a8,hk⟩:=a9
 rw [a8] at hk
 refine Ze L M (v:=.agg #[.int .i64 nr,.int .i64 f,.int .i64 t,.string s,.slice a n cc]) ?_ ⟨a,n,cc,rfl,hk⟩ (Below.refl _ _)
 generalize c.eval=ρ at *
 clear l m z M L
 go_simp
theorem Jc1 (p:GP) (nr f t:Int) (s:ByteArray) (o:Value) (b:Nat) (K:World->Value->Prop) (Q:Exit->Act->World->Prop) (c:Act) (w:World) (m:Zgz p nr f t s o b K c) (z:Zey p nr f t s o b K w) (l:∀ q0 ∈ Zi4 11,Zg (Za8 p nr f t s o b K) q0 (val Zj2 c q0) w) :
  Zbp Tryz.prog Zj2 Q (Zg (Za8 p nr f t s o b K)) 11 c w:=by
 have L:Zj2[11]?=some (⟨some 12,.alloc 49,0, "edit.go:44",#[],none⟩:Oper):=by kernel_rfl
 have M:Region.wanted (⟨some 12,.alloc 49,0, "edit.go:44",#[],none⟩:Oper) (yielded Zj2 c.tmps)=true:=Zz rfl
 have Y:=evc c
 have W:=evf c
 refine Ze L M (v:=.pointer (some ⟨w.heap.size,0,none⟩)) (w':=w.alloc (.cells #[.int .i64 0,.int .i64 0,.int .i64 0,.string ⟨#[]⟩,.slice none 0 0] 49)) ?_ ⟨w.heap.size,rfl,z.b0,Zl _ _ _⟩ ((Below.refl _ _).alloc (Nat.le_refl _) _)
 generalize c.eval=ρ at *
 clear l m z M L
 go_simp
theorem Zwy (p:GP) (nr f t:Int) (s:ByteArray) (o:Value) (b:Nat) (K:World->Value->Prop):∀ pr ∈ Za8 p nr f t s o b K,Zct pr:=by
 unfold Za8
 iterate 12 (first | refine List.forall_mem_cons.2 ⟨Zal _,?_⟩ | refine List.forall_mem_cons.2 ⟨fun v w w' ⟨a,n,c,h,hk⟩ m=>⟨a,n,c,h,hk.grow m⟩,?_⟩ | refine List.forall_mem_cons.2 ⟨fun v w w' ⟨a,n,c,h,hk⟩ m=>⟨a,n,c,h,hk.grow m⟩,?_⟩ | refine List.forall_mem_cons.2 ⟨fun v w w' ⟨X,h,hX,hr⟩ m=>⟨X,h,hX,hr.below m hr.lt⟩,?_⟩)
 exact List.forall_mem_nil _
theorem Jfo (p:GP) (nr f t:Int) (s:ByteArray) (o:Value) (b:Nat) (K:World->Value->Prop) (Q:Exit->Act->World->Prop):∀ i,i<12->(fun i=>i ∉ ([9,10,11]:List Nat)->∀ c w,Zgz p nr f t s o b K c->Zey p nr f t s o b K w->(∀ q0 ∈ Zi4 i,Zg (Za8 p nr f t s o b K) q0 (val Zj2 c q0) w)->Zbp Tryz.prog Zj2 Q (Zg (Za8 p nr f t s o b K)) i c w) i:=by
 iterate 12 (refine Zd ?_ (by
  intro V c w m z l
  first
  | exact absurd (by decide) V
  | (have hEq:=Za5 Jfm (by decide) l
     refine Zbb Jfm (by decide) rfl (fun _=>rfl) ?_
     obtain ⟨t0,t1,t2,t3,t4⟩:=m
     obtain ⟨c3,b0,k6⟩:=z
     have Y:=evc c
     have W:=evf c
     dsimp only [Zi4,Ji0,Za8,nth,Zdj,Za2,eqv] at hEq |-
     refine .inl fun pos af=>?_
     clear l V k6
     dsimp only [Sig.oper]
     generalize c.eval=ρ at *
     go_simp
     done)))
 exact Zf
theorem Jfp (p:GP) (nr f t:Int) (s:ByteArray) (o:Value) (b:Nat) (K:World->Value->Prop) (Q:Exit->Act->World->Prop):∀ i,i<12->(fun i=>∀ c w,Zgz p nr f t s o b K c->Zey p nr f t s o b K w->(∀ q0 ∈ Zi4 i,Zg (Za8 p nr f t s o b K) q0 (val Zj2 c q0) w)->Zbp Tryz.prog Zj2 Q (Zg (Za8 p nr f t s o b K)) i c w) i:=by
 intro i B
 by_cases h9:i=9
 ·subst h9;exact fun c w=>Jfn p nr f t s o b K Q c w
 by_cases h10:i=10
 ·subst h10;exact fun c w=>Jc0 p nr f t s o b K Q c w
 by_cases h11:i=11
 ·subst h11;exact fun c w=>Jc1 p nr f t s o b K Q c w
 exact Jfo p nr f t s o b K Q i B (by simp [*])
theorem Zwz (p:GP) (nr f t:Int) (s:ByteArray) (o:Value) (b:Nat) (K:World->Value->Prop) (Q:Exit->Act->World->Prop) (base:Act) (G:World) (R:base.tmps.size=78) (m:Zgz p nr f t s o b K base)
  (z:∀ w,Below G.heap.size G w->Zey p nr f t s o b K w) (hL:∀ c w,Zaf Zj2 base c->Below G.heap.size G w->(fun v w=>∃ a n c,v=.agg #[.int .i64 nr,.int .i64 f,.int .i64 t,.string s,.slice a n c]/\KB K w (.slice a n c)) (c.eval (.tmp 55)) w->(fun v w=>∃ X,v=.pointer (some ⟨X,0,none⟩)/\b<=X/\Rec w X #[.int .i64 0,.int .i64 0,.int .i64 0,.string ⟨#[]⟩,.slice none 0 0] 49) (c.eval (.tmp 12)) w->∃ w',(execOp c.eval (⟨none,.store 49 (.tmp 12) (.tmp 55),0, "edit.go:44",#[⟨11,.data⟩,⟨10,.data⟩,⟨9,.chain⟩,⟨0,.phase⟩,⟨1,.phase⟩,⟨2,.phase⟩,⟨3,.phase⟩,⟨4,.phase⟩,⟨5,.phase⟩,⟨6,.phase⟩,⟨7,.phase⟩,⟨8,.phase⟩,⟨9,.phase⟩,⟨10,.phase⟩,⟨11,.phase⟩],none⟩:Oper)).run Tryz.prog w=.ok .skip w'/\Q .normal c w'):(Code.region 9 Zj2 true).wp Tryz.prog Q base G:=by
 have H:(List.range 12).all (fun i=>(Zv Zj2 i).isSome)=true:=by kernel_rfl
 refine Zce (A:=Zi4) (F:=Zg (Za8 p nr f t s o b K)) 12 (by kernel_rfl) (by kernel_rfl) (by kernel_rfl) (by rw [R];kernel_rfl) ?_ (by decide) (fun i v w w'=>Jk (Zwy p nr f t s o b K) i v w w') ?_ ?_
 ·exact fun i B=>Option.isSome_iff_exists.1 (List.all_eq_true.1 H i (List.mem_range.2 B))
 ·intro i B c w I O l
  exact Jfp p nr f t s o b K Q i B c w ⟨(Zc I (by kernel_rfl)).trans m.t0,(Zc I (by kernel_rfl)).trans m.t1,(Zc I (by kernel_rfl)).trans m.t2,(Zc I (by kernel_rfl)).trans m.t3,(Zc I (by kernel_rfl)).trans m.t4⟩ (z w O) l
 ·intro c w I O l
  obtain ⟨w',h1,h2⟩:=hL c w I O (Jw (p:=fun v w=>∃ a n c,v=.agg #[.int .i64 nr,.int .i64 f,.int .i64 t,.string s,.slice a n c]/\KB K w (.slice a n c)) (by kernel_rfl) rfl (l 10 (by omega))) (Jw (p:=fun v w=>∃ X,v=.pointer (some ⟨X,0,none⟩)/\b<=X/\Rec w X #[.int .i64 0,.int .i64 0,.int .i64 0,.string ⟨#[]⟩,.slice none 0 0] 49) (by kernel_rfl) rfl (l 11 (by omega)))
  exact Zb5 (by kernel_rfl) (Zz rfl) h1 h2
noncomputable def Zl2  : Array Oper:=Zy Tryz.f32 10
def Jc2  : List Sig:=[⟨56,.move (.tmp 0),31,none⟩,⟨57,.nilCheck (.tmp 56),0,none⟩,⟨58,.fieldAddr 74 (.tmp 57) 0,0,none⟩,⟨59,.fieldAddr 71 (.tmp 58) 1,0,none⟩,⟨60,.load 69 (.tmp 59),69,none⟩,⟨61,.fieldAddr 49 (.tmp 12) 0,0,none⟩,⟨62,.load 2 (.tmp 61),2,none⟩,⟨63,.load 49 (.tmp 12),49,none⟩]
theorem Jb1  : (Jh Zl2).take Jc2.length=Jc2.map some:=by kernel_rfl
def Zl3 (i:Nat):List Nat:=nth [] [[],[0],[1],[2],[3],[],[5],[],[0,1,2,3,4,5,6,7]] i
def Zck (p:GP) (nr f t:Int) (s:ByteArray) (X:Nat) (E:Option Addr) (D C:Nat):List (Value->World->Prop) :=
 [eqv (.pointer (some ⟨p.g,0,none⟩)),eqv (.pointer (some ⟨p.g,0,none⟩)),eqv (.pointer (some ⟨p.g,0,none⟩)),eqv (.pointer (some ⟨p.g,1,none⟩)),eqv (.map (some p.r)),eqv (.pointer (some ⟨X,0,none⟩)),eqv (.int .i64 nr),eqv (.agg #[.int .i64 nr,.int .i64 f,.int .i64 t,.string s,.slice E D C])]
structure Zl4 (p:GP) (nr f t:Int) (s:ByteArray) (X:Nat) (E:Option Addr) (D C:Nat) (c:Act):Prop where
 t0:c.eval (.tmp 0)=.pointer (some ⟨p.g,0,none⟩)
 t12:c.eval (.tmp 12)=.pointer (some ⟨X,0,none⟩)
structure Zi5 (p:GP) (nr f t:Int) (s:ByteArray) (X:Nat) (E:Option Addr) (D C:Nat) (w:World):Prop where
 c1:w.cell? ⟨p.g,1,none⟩=some (.map (some p.r))
 x0:w.cell? ⟨X,0,none⟩=some (.int .i64 nr)
 x1:w.cell? ⟨X,1,none⟩=some (.int .i64 f)
 x2:w.cell? ⟨X,2,none⟩=some (.int .i64 t)
 x3:w.cell? ⟨X,3,none⟩=some (.string s)
 x4:w.cell? ⟨X,4,none⟩=some (.slice E D C)
theorem Ztl (p:GP) (nr f t:Int) (s:ByteArray) (X:Nat) (E:Option Addr) (D C:Nat):∀ pr ∈ Zck p nr f t s X E D C,Zct pr:=by
 unfold Zck
 iterate 8 (first | refine List.forall_mem_cons.2 ⟨Zal _,?_⟩)
 exact List.forall_mem_nil _
theorem Jc3 (p:GP) (nr f t:Int) (s:ByteArray) (X:Nat) (E:Option Addr) (D C:Nat) (Q:Exit->Act->World->Prop):∀ i,i<8->(fun i=>i ∉ ([]:List Nat)->∀ c w,Zl4 p nr f t s X E D C c->Zi5 p nr f t s X E D C w->(∀ q0 ∈ Zl3 i,Zg (Zck p nr f t s X E D C) q0 (val Zl2 c q0) w)->Zbp Tryz.prog Zl2 Q (Zg (Zck p nr f t s X E D C)) i c w) i:=by
 iterate 8 (refine Zd ?_ (by
  intro V c w m z l
  first
  | exact absurd (by decide) V
  | (have hEq:=Za5 Jb1 (by decide) l
     refine Zbb Jb1 (by decide) rfl (fun _=>rfl) ?_
     obtain ⟨t0,t12⟩:=m
     obtain ⟨c1,x0,x1,x2,x3,x4⟩:=z
     have Y:=evc c
     have W:=evf c
     dsimp only [Zl3,Jc2,Zck,nth,Zdj,Za2,eqv] at hEq |-
     refine .inl fun pos af=>?_
     clear l V
     dsimp only [Sig.oper]
     generalize c.eval=ρ at *
     go_simp
     done)))
 exact Zf
theorem Jc4 (p:GP) (nr f t:Int) (s:ByteArray) (X:Nat) (E:Option Addr) (D C:Nat) (Q:Exit->Act->World->Prop):∀ i,i<8->(fun i=>∀ c w,Zl4 p nr f t s X E D C c->Zi5 p nr f t s X E D C w->(∀ q0 ∈ Zl3 i,Zg (Zck p nr f t s X E D C) q0 (val Zl2 c q0) w)->Zbp Tryz.prog Zl2 Q (Zg (Zck p nr f t s X E D C)) i c w) i:=by
 intro i B
 exact Jc3 p nr f t s X E D C Q i B (by simp [*])
theorem Ztm (p:GP) (nr f t:Int) (s:ByteArray) (X:Nat) (E:Option Addr) (D C:Nat) (Q:Exit->Act->World->Prop) (base:Act) (G:World) (R:base.tmps.size=78) (m:Zl4 p nr f t s X E D C base)
  (z:∀ w,Below G.heap.size G w->Zi5 p nr f t s X E D C w) (hL:∀ c w,Zaf Zl2 base c->Below G.heap.size G w->c.eval (.tmp 60)=.map (some p.r)->c.eval (.tmp 62)=.int .i64 nr->c.eval (.tmp 63)=.agg #[.int .i64 nr,.int .i64 f,.int .i64 t,.string s,.slice E D C]->∃ w',(execOp c.eval (⟨none,.mapUpdate 69 (.tmp 60) (.tmp 62) (.tmp 63),0, "edit.go:45",#[⟨4,.data⟩,⟨6,.data⟩,⟨7,.data⟩,⟨0,.phase⟩,⟨1,.phase⟩,⟨2,.phase⟩,⟨3,.phase⟩,⟨4,.phase⟩,⟨5,.phase⟩,⟨6,.phase⟩,⟨7,.phase⟩],none⟩:Oper)).run Tryz.prog w=.ok .skip w'/\Q .normal c w'):(Code.region 10 Zl2 true).wp Tryz.prog Q base G:=by
 have H:(List.range 8).all (fun i=>(Zv Zl2 i).isSome)=true:=by kernel_rfl
 refine Zce (A:=Zl3) (F:=Zg (Zck p nr f t s X E D C)) 8 (by kernel_rfl) (by kernel_rfl) (by kernel_rfl) (by rw [R];kernel_rfl) ?_ (by decide) (fun i v w w'=>Jk (Ztl p nr f t s X E D C) i v w w') ?_ ?_
 ·exact fun i B=>Option.isSome_iff_exists.1 (List.all_eq_true.1 H i (List.mem_range.2 B))
 ·intro i B c w I O l
  exact Jc4 p nr f t s X E D C Q i B c w ⟨(Zc I (by kernel_rfl)).trans m.t0,(Zc I (by kernel_rfl)).trans m.t12⟩ (z w O) l
 ·intro c w I O l
  obtain ⟨w',h1,h2⟩:=hL c w I O (Jw (p:=eqv (.map (some p.r))) (by kernel_rfl) rfl (l 4 (by omega))) (Jw (p:=eqv (.int .i64 nr)) (by kernel_rfl) rfl (l 6 (by omega))) (Jw (p:=eqv (.agg #[.int .i64 nr,.int .i64 f,.int .i64 t,.string s,.slice E D C])) (by kernel_rfl) rfl (l 7 (by omega)))
  exact Zb5 (by kernel_rfl) (Zz rfl) h1 h2
noncomputable def Zn5  : Array Oper:=Zy Tryz.f40 1
def Ji1  : List Sig:=[⟨4,.move (.tmp 0),31,none⟩,⟨5,.nilCheck (.tmp 4),0,none⟩,⟨6,.fieldAddr 74 (.tmp 5) 1,0,none⟩,⟨7,.load 72 (.tmp 6),72,none⟩,⟨8,.fieldAddr 49 (.tmp 3) 1,0,none⟩,⟨9,.load 2 (.tmp 8),2,none⟩,⟨10,.move (.tmp 0),31,none⟩,⟨11,.nilCheck (.tmp 10),0,none⟩,⟨12,.fieldAddr 74 (.tmp 11) 1,0,none⟩,⟨13,.load 72 (.tmp 12),72,none⟩,⟨14,.fieldAddr 49 (.tmp 3) 1,0,none⟩,⟨15,.load 2 (.tmp 14),2,none⟩,⟨16,.lookup 72 (.tmp 13) (.tmp 15) false,100,none⟩,⟨17,.fieldAddr 49 (.tmp 3) 0,0,none⟩,⟨18,.load 2 (.tmp 17),2,none⟩,⟨19,.buildSlice 100 1 #[(0,.tmp 18)],100,none⟩,⟨20,.call { callee:=.builtin .append,args:=#[.tmp 16,.tmp 19],argTypes:=#[100,100] },100,none⟩]
theorem Jfq  : (Jh Zn5).take Ji1.length=Ji1.map some:=by kernel_rfl
def Zkv (i:Nat):List Nat:=nth [] [[],[0],[1],[2],[],[4],[],[6],[7],[8],[],[10],[9,11],[],[13],[14],[12,15],[0,1,2,3,4,5,6,7,8,9,10,11,12,13,14,15,16]] i
def Zbn (p:GP) (id k:Int) (X b:Nat):List (Value->World->Prop) :=
 [eqv (.pointer (some ⟨p.g,0,none⟩)),eqv (.pointer (some ⟨p.g,0,none⟩)),eqv (.pointer (some ⟨p.g,4,none⟩)),eqv (.map (some p.f)),eqv (.pointer (some ⟨X,1,none⟩)),eqv (.int .i64 k),eqv (.pointer (some ⟨p.g,0,none⟩)),eqv (.pointer (some ⟨p.g,0,none⟩)),eqv (.pointer (some ⟨p.g,4,none⟩)),eqv (.map (some p.f)),eqv (.pointer (some ⟨X,1,none⟩)),eqv (.int .i64 k),eqv (.slice none 0 0),eqv (.pointer (some ⟨X,0,none⟩)),eqv (.int .i64 id),laid [id],fun v w=>w.ownsRow b 2 1 v 1 [.int .i64 id]/\∃ a c,v=.slice a 1 c]
structure Zi6 (p:GP) (id k:Int) (X b:Nat) (c:Act):Prop where
 t0:c.eval (.tmp 0)=.pointer (some ⟨p.g,0,none⟩)
 t3:c.eval (.tmp 3)=.pointer (some ⟨X,0,none⟩)
structure Zga (p:GP) (id k:Int) (X b:Nat) (w:World):Prop where
 cm:w.cell? ⟨p.g,4,none⟩=some (.map (some p.f))
 xk:w.cell? ⟨X,1,none⟩=some (.int .i64 k)
 xi:w.cell? ⟨X,0,none⟩=some (.int .i64 id)
 lk:(Instr.lookup 72 (.map (some p.f)) (.int .i64 k) false).run Tryz.prog w=.ok (.slice none 0 0) w
 b0:b<=w.heap.size
theorem Jc5 (p:GP) (id k:Int) (X b:Nat) (Q:Exit->Act->World->Prop) (c:Act) (w:World) (m:Zi6 p id k X b c) (z:Zga p id k X b w) (l:∀ q0 ∈ Zkv 15,Zg (Zbn p id k X b) q0 (val Zn5 c q0) w) :
  Zbp Tryz.prog Zn5 Q (Zg (Zbn p id k X b)) 15 c w:=by
 have L:Zn5[15]?=some (⟨some 19,.buildSlice 100 1 #[(0,.tmp 18)],100, "edit.go:126",#[⟨14,.data⟩],none⟩:Oper):=by kernel_rfl
 have b5:c.eval (.tmp 18)=.int .i64 id:=Zm (by kernel_rfl) rfl (l 14 (by decide))
 have M:Region.wanted (⟨some 19,.buildSlice 100 1 #[(0,.tmp 18)],100, "edit.go:126",#[⟨14,.data⟩],none⟩:Oper) (yielded Zn5 c.tmps)=true:=Zz rfl
 have Y:=evc c
 have W:=evf c
 refine Ze L M (v:=.slice (some ⟨w.heap.size,0,none⟩) 1 1) (w':=w.alloc (.cells #[.int .i64 id] 2)) ?_ ⟨w.heap.size,rfl,by simp,fun j hj=>?_⟩ ((Below.refl _ _).alloc (Nat.le_refl _) _)
 ·generalize c.eval=ρ at *
  clear l m z M L
  go_simp
 ·have S:j=0:=by simp at hj;omega
  subst S
  exact Zaj _ _ _ _ _ rfl
theorem Jc6 (p:GP) (id k:Int) (X b:Nat) (Q:Exit->Act->World->Prop) (c:Act) (w:World) (m:Zi6 p id k X b c) (z:Zga p id k X b w) (l:∀ q0 ∈ Zkv 16,Zg (Zbn p id k X b) q0 (val Zn5 c q0) w) :
  Zbp Tryz.prog Zn5 Q (Zg (Zbn p id k X b)) 16 c w:=by
 have L:Zn5[16]?=some (⟨some 20,.call { callee:=.builtin .append,args:=#[.tmp 16,.tmp 19],argTypes:=#[100,100] },100, "edit.go:126",#[⟨12,.data⟩,⟨15,.data⟩],none⟩:Oper):=by kernel_rfl
 have a5:c.eval (.tmp 16)=.slice none 0 0:=Zm (by kernel_rfl) rfl (l 12 (by decide))
 have a6:(laid [id]) (c.eval (.tmp 19)) w:=Jw (by kernel_rfl) rfl (l 15 (by decide))
 have M:Region.wanted (⟨some 20,.call { callee:=.builtin .append,args:=#[.tmp 16,.tmp 19],argTypes:=#[100,100] },100, "edit.go:126",#[⟨12,.data⟩,⟨15,.data⟩],none⟩:Oper) (yielded Zn5 c.tmps)=true:=Zz rfl
 have Y:=evc c
 have W:=evf c
 obtain ⟨i0,B,a3,a2,a1⟩:=info_parts Tryz.info2
 obtain ⟨y,b3,hy,a4⟩:=a6
 obtain ⟨v',w',U,N,a0,_,_⟩:=run_append_own_at (P:=Tryz.prog) w b 100 100 2 i0 (.int .i64 0) 1 8 Tryz.underlying100 B a3 a2 a1 rfl (by decide) (.slice none 0 0) 0 [] (World.ownsRow_nil _ _ _ _) ⟨y,0,none⟩ 1 1 [.int .i64 id] rfl (fun j u hj=>by
  have S:j=0:=by
   have:=(List.getElem?_eq_some_iff.1 hj).1
   simp at this;omega
  subst S
  have:u=.int .i64 id:=by simpa using hj.symm
  subst this
  have T:(⟨y,0,none⟩:Addr).add 0=⟨y,0,none⟩:=by unfold Addr.add;split<;>simp_all
  rw [T]
  exact a4 0 (by simp)) (by intro u hu;simp only [List.mem_cons,List.not_mem_nil,or_false] at hu;subst hu;rfl) (by unfold maxLen;omega) (by omega) z.b0
 obtain ⟨ua,uc,rfl⟩:=Jn N
 refine Ze L M (v:=.slice ua (0+1) uc) (w':=w') ?_ ⟨N,ua,uc,rfl⟩ ((Below.refl _ w).grown a0 (Nat.le_refl _) (fun q h=>by cases h))
 exact Zd1 a5 b3 U
theorem Zw0 (p:GP) (id k:Int) (X b:Nat):∀ pr ∈ Zbn p id k X b,Zct pr:=by
 unfold Zbn
 iterate 17 (first | refine List.forall_mem_cons.2 ⟨Zal _,?_⟩ | refine List.forall_mem_cons.2 ⟨Zd6 _,?_⟩ | refine List.forall_mem_cons.2 ⟨fun v w w' ⟨h,h2⟩ m=>⟨Jf h fun g _ hg=>m.block g hg,h2⟩,?_⟩)
 exact List.forall_mem_nil _
theorem Jfr (p:GP) (id k:Int) (X b:Nat) (Q:Exit->Act->World->Prop):∀ i,i<17->(fun i=>i ∉ ([15,16]:List Nat)->∀ c w,Zi6 p id k X b c->Zga p id k X b w->(∀ q0 ∈ Zkv i,Zg (Zbn p id k X b) q0 (val Zn5 c q0) w)->Zbp Tryz.prog Zn5 Q (Zg (Zbn p id k X b)) i c w) i:=by
 iterate 17 (refine Zd ?_ (by
  intro V c w m z l
  first
  | exact absurd (by decide) V
  | (have hEq:=Za5 Jfq (by decide) l
     refine Zbb Jfq (by decide) rfl (fun _=>rfl) ?_
     obtain ⟨t0,t3⟩:=m
     obtain ⟨cm,xk,xi,lk,b0⟩:=z
     have Y:=evc c
     have W:=evf c
     dsimp only [Zkv,Ji1,Zbn,nth,Zdj,Za2,eqv] at hEq |-
     refine .inl fun pos af=>?_
     clear l V
     dsimp only [Sig.oper]
     generalize c.eval=ρ at *
     go_simp
     done)))
 exact Zf
theorem Jfs (p:GP) (id k:Int) (X b:Nat) (Q:Exit->Act->World->Prop):∀ i,i<17->(fun i=>∀ c w,Zi6 p id k X b c->Zga p id k X b w->(∀ q0 ∈ Zkv i,Zg (Zbn p id k X b) q0 (val Zn5 c q0) w)->Zbp Tryz.prog Zn5 Q (Zg (Zbn p id k X b)) i c w) i:=by
 intro i B
 by_cases h15:i=15
 ·subst h15;exact fun c w=>Jc5 p id k X b Q c w
 by_cases h16:i=16
 ·subst h16;exact fun c w=>Jc6 p id k X b Q c w
 exact Jfr p id k X b Q i B (by simp [*])
theorem Zw1 (p:GP) (id k:Int) (X b:Nat) (Q:Exit->Act->World->Prop) (base:Act) (G:World) (R:base.tmps.size=38) (m:Zi6 p id k X b base)
  (z:∀ w,Below G.heap.size G w->Zga p id k X b w) (hL:∀ c w,Zaf Zn5 base c->Below G.heap.size G w->c.eval (.tmp 7)=.map (some p.f)->c.eval (.tmp 9)=.int .i64 k->(fun v w=>w.ownsRow b 2 1 v 1 [.int .i64 id]/\∃ a c,v=.slice a 1 c) (c.eval (.tmp 20)) w->∃ w',(execOp c.eval (⟨none,.mapUpdate 72 (.tmp 7) (.tmp 9) (.tmp 20),0, "edit.go:126",#[⟨3,.data⟩,⟨5,.data⟩,⟨16,.data⟩,⟨16,.chain⟩,⟨0,.phase⟩,⟨1,.phase⟩,⟨2,.phase⟩,⟨3,.phase⟩,⟨4,.phase⟩,⟨5,.phase⟩,⟨6,.phase⟩,⟨7,.phase⟩,⟨8,.phase⟩,⟨9,.phase⟩,⟨10,.phase⟩,⟨11,.phase⟩,⟨12,.phase⟩,⟨13,.phase⟩,⟨14,.phase⟩,⟨15,.phase⟩,⟨16,.phase⟩],none⟩:Oper)).run Tryz.prog w=.ok .skip w'/\Q .normal c w'):(Code.region 1 Zn5 true).wp Tryz.prog Q base G:=by
 have H:(List.range 17).all (fun i=>(Zv Zn5 i).isSome)=true:=by kernel_rfl
 refine Zce (A:=Zkv) (F:=Zg (Zbn p id k X b)) 17 (by kernel_rfl) (by kernel_rfl) (by kernel_rfl) (by rw [R];kernel_rfl) ?_ (by decide) (fun i v w w'=>Jk (Zw0 p id k X b) i v w w') ?_ ?_
 ·exact fun i B=>Option.isSome_iff_exists.1 (List.all_eq_true.1 H i (List.mem_range.2 B))
 ·intro i B c w I O l
  exact Jfs p id k X b Q i B c w ⟨(Zc I (by kernel_rfl)).trans m.t0,(Zc I (by kernel_rfl)).trans m.t3⟩ (z w O) l
 ·intro c w I O l
  obtain ⟨w',h1,h2⟩:=hL c w I O (Jw (p:=eqv (.map (some p.f))) (by kernel_rfl) rfl (l 3 (by omega))) (Jw (p:=eqv (.int .i64 k)) (by kernel_rfl) rfl (l 5 (by omega))) (Jw (p:=fun v w=>w.ownsRow b 2 1 v 1 [.int .i64 id]/\∃ a c,v=.slice a 1 c) (by kernel_rfl) rfl (l 16 (by omega)))
  exact Zb5 (by kernel_rfl) (Zz rfl) h1 h2
noncomputable def Zn6  : Array Oper:=Zy Tryz.f40 2
def Ji2  : List Sig:=[⟨21,.move (.tmp 0),31,none⟩,⟨22,.nilCheck (.tmp 21),0,none⟩,⟨23,.fieldAddr 74 (.tmp 22) 2,0,none⟩,⟨24,.load 72 (.tmp 23),72,none⟩,⟨25,.fieldAddr 49 (.tmp 3) 2,0,none⟩,⟨26,.load 2 (.tmp 25),2,none⟩,⟨27,.move (.tmp 0),31,none⟩,⟨28,.nilCheck (.tmp 27),0,none⟩,⟨29,.fieldAddr 74 (.tmp 28) 2,0,none⟩,⟨30,.load 72 (.tmp 29),72,none⟩,⟨31,.fieldAddr 49 (.tmp 3) 2,0,none⟩,⟨32,.load 2 (.tmp 31),2,none⟩,⟨33,.lookup 72 (.tmp 30) (.tmp 32) false,100,none⟩,⟨34,.fieldAddr 49 (.tmp 3) 0,0,none⟩,⟨35,.load 2 (.tmp 34),2,none⟩,⟨36,.buildSlice 100 1 #[(0,.tmp 35)],100,none⟩,⟨37,.call { callee:=.builtin .append,args:=#[.tmp 33,.tmp 36],argTypes:=#[100,100] },100,none⟩]
theorem Jft  : (Jh Zn6).take Ji2.length=Ji2.map some:=by kernel_rfl
def Zkw (i:Nat):List Nat:=nth [] [[],[0],[1],[2],[],[4],[],[6],[7],[8],[],[10],[9,11],[],[13],[14],[12,15],[0,1,2,3,4,5,6,7,8,9,10,11,12,13,14,15,16]] i
def Zbo (p:GP) (id k:Int) (X b:Nat):List (Value->World->Prop) :=
 [eqv (.pointer (some ⟨p.g,0,none⟩)),eqv (.pointer (some ⟨p.g,0,none⟩)),eqv (.pointer (some ⟨p.g,5,none⟩)),eqv (.map (some p.t)),eqv (.pointer (some ⟨X,2,none⟩)),eqv (.int .i64 k),eqv (.pointer (some ⟨p.g,0,none⟩)),eqv (.pointer (some ⟨p.g,0,none⟩)),eqv (.pointer (some ⟨p.g,5,none⟩)),eqv (.map (some p.t)),eqv (.pointer (some ⟨X,2,none⟩)),eqv (.int .i64 k),eqv (.slice none 0 0),eqv (.pointer (some ⟨X,0,none⟩)),eqv (.int .i64 id),laid [id],fun v w=>w.ownsRow b 2 1 v 1 [.int .i64 id]/\∃ a c,v=.slice a 1 c]
structure Zi7 (p:GP) (id k:Int) (X b:Nat) (c:Act):Prop where
 t0:c.eval (.tmp 0)=.pointer (some ⟨p.g,0,none⟩)
 t3:c.eval (.tmp 3)=.pointer (some ⟨X,0,none⟩)
structure Zgb (p:GP) (id k:Int) (X b:Nat) (w:World):Prop where
 cm:w.cell? ⟨p.g,5,none⟩=some (.map (some p.t))
 xk:w.cell? ⟨X,2,none⟩=some (.int .i64 k)
 xi:w.cell? ⟨X,0,none⟩=some (.int .i64 id)
 lk:(Instr.lookup 72 (.map (some p.t)) (.int .i64 k) false).run Tryz.prog w=.ok (.slice none 0 0) w
 b0:b<=w.heap.size
theorem Jc7 (p:GP) (id k:Int) (X b:Nat) (Q:Exit->Act->World->Prop) (c:Act) (w:World) (m:Zi7 p id k X b c) (z:Zgb p id k X b w) (l:∀ q0 ∈ Zkw 15,Zg (Zbo p id k X b) q0 (val Zn6 c q0) w) :
  Zbp Tryz.prog Zn6 Q (Zg (Zbo p id k X b)) 15 c w:=by
 have L:Zn6[15]?=some (⟨some 36,.buildSlice 100 1 #[(0,.tmp 35)],100, "edit.go:127",#[⟨14,.data⟩],none⟩:Oper):=by kernel_rfl
 have c0:c.eval (.tmp 35)=.int .i64 id:=Zm (by kernel_rfl) rfl (l 14 (by decide))
 have M:Region.wanted (⟨some 36,.buildSlice 100 1 #[(0,.tmp 35)],100, "edit.go:127",#[⟨14,.data⟩],none⟩:Oper) (yielded Zn6 c.tmps)=true:=Zz rfl
 have Y:=evc c
 have W:=evf c
 refine Ze L M (v:=.slice (some ⟨w.heap.size,0,none⟩) 1 1) (w':=w.alloc (.cells #[.int .i64 id] 2)) ?_ ⟨w.heap.size,rfl,by simp,fun j hj=>?_⟩ ((Below.refl _ _).alloc (Nat.le_refl _) _)
 ·generalize c.eval=ρ at *
  clear l m z M L
  go_simp
 ·have S:j=0:=by simp at hj;omega
  subst S
  exact Zaj _ _ _ _ _ rfl
theorem Jc8 (p:GP) (id k:Int) (X b:Nat) (Q:Exit->Act->World->Prop) (c:Act) (w:World) (m:Zi7 p id k X b c) (z:Zgb p id k X b w) (l:∀ q0 ∈ Zkw 16,Zg (Zbo p id k X b) q0 (val Zn6 c q0) w) :
  Zbp Tryz.prog Zn6 Q (Zg (Zbo p id k X b)) 16 c w:=by
 have L:Zn6[16]?=some (⟨some 37,.call { callee:=.builtin .append,args:=#[.tmp 33,.tmp 36],argTypes:=#[100,100] },100, "edit.go:127",#[⟨12,.data⟩,⟨15,.data⟩],none⟩:Oper):=by kernel_rfl
 have a7:c.eval (.tmp 33)=.slice none 0 0:=Zm (by kernel_rfl) rfl (l 12 (by decide))
 have b2:(laid [id]) (c.eval (.tmp 36)) w:=Jw (by kernel_rfl) rfl (l 15 (by decide))
 have M:Region.wanted (⟨some 37,.call { callee:=.builtin .append,args:=#[.tmp 33,.tmp 36],argTypes:=#[100,100] },100, "edit.go:127",#[⟨12,.data⟩,⟨15,.data⟩],none⟩:Oper) (yielded Zn6 c.tmps)=true:=Zz rfl
 have Y:=evc c
 have W:=evf c
 obtain ⟨i0,B,a3,a2,a1⟩:=info_parts Tryz.info2
 obtain ⟨y,b1,hy,a4⟩:=b2
 obtain ⟨v',w',U,N,a0,_,_⟩:=run_append_own_at (P:=Tryz.prog) w b 100 100 2 i0 (.int .i64 0) 1 8 Tryz.underlying100 B a3 a2 a1 rfl (by decide) (.slice none 0 0) 0 [] (World.ownsRow_nil _ _ _ _) ⟨y,0,none⟩ 1 1 [.int .i64 id] rfl (fun j u hj=>by
  have S:j=0:=by
   have:=(List.getElem?_eq_some_iff.1 hj).1
   simp at this;omega
  subst S
  have:u=.int .i64 id:=by simpa using hj.symm
  subst this
  have T:(⟨y,0,none⟩:Addr).add 0=⟨y,0,none⟩:=by unfold Addr.add;split<;>simp_all
  rw [T]
  exact a4 0 (by simp)) (by intro u hu;simp only [List.mem_cons,List.not_mem_nil,or_false] at hu;subst hu;rfl) (by unfold maxLen;omega) (by omega) z.b0
 obtain ⟨ua,uc,rfl⟩:=Jn N
 refine Ze L M (v:=.slice ua (0+1) uc) (w':=w') ?_ ⟨N,ua,uc,rfl⟩ ((Below.refl _ w).grown a0 (Nat.le_refl _) (fun q h=>by cases h))
 exact Zd1 a7 b1 U
theorem Zw2 (p:GP) (id k:Int) (X b:Nat):∀ pr ∈ Zbo p id k X b,Zct pr:=by
 unfold Zbo
 iterate 17 (first | refine List.forall_mem_cons.2 ⟨Zal _,?_⟩ | refine List.forall_mem_cons.2 ⟨Zd6 _,?_⟩ | refine List.forall_mem_cons.2 ⟨fun v w w' ⟨h,h2⟩ m=>⟨Jf h fun g _ hg=>m.block g hg,h2⟩,?_⟩)
 exact List.forall_mem_nil _
theorem Jfu (p:GP) (id k:Int) (X b:Nat) (Q:Exit->Act->World->Prop):∀ i,i<17->(fun i=>i ∉ ([15,16]:List Nat)->∀ c w,Zi7 p id k X b c->Zgb p id k X b w->(∀ q0 ∈ Zkw i,Zg (Zbo p id k X b) q0 (val Zn6 c q0) w)->Zbp Tryz.prog Zn6 Q (Zg (Zbo p id k X b)) i c w) i:=by
 iterate 17 (refine Zd ?_ (by
  intro V c w m z l
  first
  | exact absurd (by decide) V
  | (have hEq:=Za5 Jft (by decide) l
     refine Zbb Jft (by decide) rfl (fun _=>rfl) ?_
     obtain ⟨t0,t3⟩:=m
     obtain ⟨cm,xk,xi,lk,b0⟩:=z
     have Y:=evc c
     have W:=evf c
     dsimp only [Zkw,Ji2,Zbo,nth,Zdj,Za2,eqv] at hEq |-
     refine .inl fun pos af=>?_
     clear l V
     dsimp only [Sig.oper]
     generalize c.eval=ρ at *
     go_simp
     done)))
 exact Zf
theorem Jfv (p:GP) (id k:Int) (X b:Nat) (Q:Exit->Act->World->Prop):∀ i,i<17->(fun i=>∀ c w,Zi7 p id k X b c->Zgb p id k X b w->(∀ q0 ∈ Zkw i,Zg (Zbo p id k X b) q0 (val Zn6 c q0) w)->Zbp Tryz.prog Zn6 Q (Zg (Zbo p id k X b)) i c w) i:=by
 intro i B
 by_cases h15:i=15
 ·subst h15;exact fun c w=>Jc7 p id k X b Q c w
 by_cases h16:i=16
 ·subst h16;exact fun c w=>Jc8 p id k X b Q c w
 exact Jfu p id k X b Q i B (by simp [*])
theorem Zw3 (p:GP) (id k:Int) (X b:Nat) (Q:Exit->Act->World->Prop) (base:Act) (G:World) (R:base.tmps.size=38) (m:Zi7 p id k X b base)
  (z:∀ w,Below G.heap.size G w->Zgb p id k X b w) (hL:∀ c w,Zaf Zn6 base c->Below G.heap.size G w->c.eval (.tmp 24)=.map (some p.t)->c.eval (.tmp 26)=.int .i64 k->(fun v w=>w.ownsRow b 2 1 v 1 [.int .i64 id]/\∃ a c,v=.slice a 1 c) (c.eval (.tmp 37)) w->∃ w',(execOp c.eval (⟨none,.mapUpdate 72 (.tmp 24) (.tmp 26) (.tmp 37),0, "edit.go:127",#[⟨3,.data⟩,⟨5,.data⟩,⟨16,.data⟩,⟨16,.chain⟩,⟨0,.phase⟩,⟨1,.phase⟩,⟨2,.phase⟩,⟨3,.phase⟩,⟨4,.phase⟩,⟨5,.phase⟩,⟨6,.phase⟩,⟨7,.phase⟩,⟨8,.phase⟩,⟨9,.phase⟩,⟨10,.phase⟩,⟨11,.phase⟩,⟨12,.phase⟩,⟨13,.phase⟩,⟨14,.phase⟩,⟨15,.phase⟩,⟨16,.phase⟩],none⟩:Oper)).run Tryz.prog w=.ok .skip w'/\Q .normal c w'):(Code.region 2 Zn6 true).wp Tryz.prog Q base G:=by
 have H:(List.range 17).all (fun i=>(Zv Zn6 i).isSome)=true:=by kernel_rfl
 refine Zce (A:=Zkw) (F:=Zg (Zbo p id k X b)) 17 (by kernel_rfl) (by kernel_rfl) (by kernel_rfl) (by rw [R];kernel_rfl) ?_ (by decide) (fun i v w w'=>Jk (Zw2 p id k X b) i v w w') ?_ ?_
 ·exact fun i B=>Option.isSome_iff_exists.1 (List.all_eq_true.1 H i (List.mem_range.2 B))
 ·intro i B c w I O l
  exact Jfv p id k X b Q i B c w ⟨(Zc I (by kernel_rfl)).trans m.t0,(Zc I (by kernel_rfl)).trans m.t3⟩ (z w O) l
 ·intro c w I O l
  obtain ⟨w',h1,h2⟩:=hL c w I O (Jw (p:=eqv (.map (some p.t))) (by kernel_rfl) rfl (l 3 (by omega))) (Jw (p:=eqv (.int .i64 k)) (by kernel_rfl) rfl (l 5 (by omega))) (Jw (p:=fun v w=>w.ownsRow b 2 1 v 1 [.int .i64 id]/\∃ a c,v=.slice a 1 c) (by kernel_rfl) rfl (l 16 (by omega)))
  exact Zb5 (by kernel_rfl) (Zz rfl) h1 h2
end
