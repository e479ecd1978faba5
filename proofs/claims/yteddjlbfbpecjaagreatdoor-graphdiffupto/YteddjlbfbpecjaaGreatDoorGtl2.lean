import Derived.Test.YteddjlbfbpecjaaGreatDoorJoin26
namespace Go.Proofs.YteddjlbfbpecjaaGreatDoor
open Go.RowKit Go.Shelf
set_option linter.all false
attribute [local go_sem] Oper.semAt_some
def Css {α:Type} (k:Nat) (L:Value->α->Prop) (s:List (List Value)) (xs:List α):Prop :=
 s.length=xs.length/\∀ (i:Nat) (x:α),xs[i]?=some x->∃ cs:List Value,s[i]?=some cs/\cs.length=k/\L (.agg cs.toArray) x
theorem Zh1 {α:Type} {k:Nat} {L:Value->α->Prop}:Css k L [] []:=⟨rfl,fun i x h=>by simp at h⟩
theorem Css.step {α:Type} {k:Nat} {L:Value->α->Prop} {s:List (List Value)} {xs:List α} {j:Nat} {x:α} {cs:List Value} (h:Css k L s (xs.take j)) (hx:xs[j]?=some x) (hl:cs.length=k) (hv:L (.agg cs.toArray) x):Css k L (s++[cs]) (xs.take (j+1)):=by
 have hj:=(List.getElem?_eq_some_iff.1 hx).1
 have d7:(xs.take j).length=j:=by rw [List.length_take];omega
 have i2:s.length=j:=by rw [h.1,d7]
 rw [List.take_add_one,hx]
 refine ⟨by simp [h.1],fun i y hy=>?_⟩
 by_cases O:i<j
 ·rw [List.getElem?_append_left (by omega)] at hy
  obtain ⟨u,h1,h2⟩:=h.2 i y hy
  exact ⟨u,by rw [List.getElem?_append_left (by omega)];exact h1,h2⟩
 ·rw [List.getElem?_append_right (by omega),d7] at hy
  have k9:i - j=0:=by
   have:=(List.getElem?_eq_some_iff.1 hy).1
   simp at this;omega
  rw [k9] at hy
  simp only [Option.toList_some,List.getElem?_cons_zero,Option.some.injEq] at hy
  subst hy
  exact ⟨cs,by rw [List.getElem?_append_right (by omega),i2,k9];rfl,hl,hv⟩
theorem Zyn {k:Nat}:∀ (s:List (List Value)) (i q:Nat) (cs:List Value),(∀ c ∈ s,c.length=k)->s[i]?=some cs->q<k->s.flatten[i*k+q]?=cs[q]?
 | [],i,q,cs,_,O,_=>by simp at O
 | c::r,0,q,cs,h,O,C=>by
  simp only [List.getElem?_cons_zero,Option.some.injEq] at O
  subst O
  rw [List.flatten_cons,Nat.zero_mul,Nat.zero_add,List.getElem?_append_left (by rw [h c List.mem_cons_self];exact C)]
 | c::r,i+1,q,cs,h,O,C=>by
  simp only [List.getElem?_cons_succ] at O
  have hc:=h c List.mem_cons_self
  rw [List.flatten_cons,List.getElem?_append_right (by rw [hc,Nat.add_mul];omega),hc,show (i+1)*k+q - k=i*k+q by rw [Nat.add_mul];omega]
  exact Zyn r i q cs (fun d hd=>h d (List.mem_cons_of_mem _ hd)) O C
theorem Css.all {α:Type} {k:Nat} {L:Value->α->Prop} {s:List (List Value)} {xs:List α} (h:Css k L s xs):∀ c ∈ s,c.length=k:=by
 intro c hc
 obtain ⟨i,O⟩:=List.getElem?_of_mem hc
 have hl:=(List.getElem?_eq_some_iff.1 O).1
 obtain ⟨cs,h1,h2,_⟩:=h.2 i _ (List.getElem?_eq_getElem (by rw [<- h.1];exact hl))
 rw [O] at h1
 injection h1 with h1
 subst h1
 exact h2
theorem Zab.mono {B B':Nat} (hB:B<=B') {w:World} {ad:Option Addr} {ks:List ByteArray} (h:Zab B w ad ks):Zab B' w ad ks:=h.imp id fun ⟨b,o,e,hl,hc⟩=>⟨b,o,e,by omega,hc⟩
theorem Jd.mono {B B':Nat} (hB:B<=B') {w:World} {v:Value} {ps:List (ByteArray × Zi)} (h:Jd B w v ps):Jd B' w v ps:=by
 obtain ⟨T,pc,e,h1,h2,h3⟩:=h
 refine ⟨T,pc,e,h1,h2,h3.imp id fun ⟨bl,off,e,hl,hc⟩=>⟨bl,off,e,by omega,fun i q C=>?_⟩⟩
 obtain ⟨c0,hs,v0,v1,v2,v3,v4,v5,o1,hv⟩:=hc i q C
 exact ⟨c0,hs,v0,v1,v2,v3,v4,v5,o1,hv.mono hB⟩
theorem Ja.mono {B B':Nat} (hB:B<=B') {w:World} {v:Value} {n:Zo} (h:Ja B w v n):Ja B' w v n:=by
 obtain ⟨la,lc,T,pc,e,hs,hk,hp⟩:=h
 exact ⟨la,lc,T,pc,e,hs,hk.mono hB,hp.mono hB⟩
theorem Ji.mono {B B':Nat} (hB:B<=B') {w:World} {v:Value} {n:Jg} (h:Ji B w v n):Ji B' w v n:=by
 obtain ⟨T,pc,e,hp⟩:=h
 exact ⟨T,pc,e,hp.mono hB⟩
theorem Zgm {w:World} {base e k n g cap:Nat} {s:List (List Value)} (h:w.ownsRow base e k (.slice (some ⟨g,0,none⟩) n cap) n s.flatten) (hk:∀ c ∈ s,c.length=k) {i:Nat} {cs:List Value} (O:s[i]?=some cs) {q:Nat} {v:Value} (C:cs[q]?=some v):w.cell? ⟨g,i*k+q,none⟩=some v:=by
 have r5:=(List.getElem?_eq_some_iff.1 C).1
 have i2:=hk cs (List.mem_of_getElem? O)
 have:=h.cells (g:=g) rfl (i*k+q) v (by rw [Zyn s i q cs hk O (by omega)];exact C)
 have a4:(⟨g,0,none⟩:Addr).add (i*k+q)=⟨g,i*k+q,none⟩:=by unfold Addr.add;split<;>simp_all
 rwa [a4] at this
theorem Zyo {B base:Nat} {w w':World} {v:Value} {s:List (List Value)} {E:List Zo} (h:w'.ownsRow base 47 3 v E.length s.flatten) (hc:Css 3 (Ja B w) s E) (hb:Below B w w') (hB:B<=w'.heap.size):Jj w'.heap.size w' v E:=by
 have h':=h
 obtain ⟨g1,⟨g2,g3⟩ | ⟨g,cap,cur,g2,g3,g4,g5,g6,g7⟩⟩:=h
 ·have:E=[]:=List.eq_nil_of_length_eq_zero g3
  subst this
  exact ⟨none,0,g2,by simp,by omega,.inl rfl⟩
 ·subst g2
  refine ⟨_,cap,rfl,g5,by simp only [maxLen] at g6;omega,.inr ⟨g,0,rfl,(Array.getElem?_eq_some_iff.1 g4).1,fun i n O=>?_⟩⟩
  obtain ⟨cs,k1,k2,k3⟩:=hc.2 i n O
  obtain ⟨la,lc,T,pc,e,hs,hk,hp⟩:=k3
  have e2:cs=[.int .i64 n.id,.slice la n.labels.length lc,.slice T n.props.length pc]:=by
   injection e with e
   simpa using congrArg Array.toList e
  subst e2
  rw [Nat.zero_add]
  have V:=fun q v C=>Zgm h' hc.all k1 (q:=q) (v:=v) C
  exact ⟨la,lc,_,⟨V 0 _ rfl,V 1 _ rfl,V 2 _ rfl⟩,hs,(hk.below hb).mono hB,(Jd.below hb hp).mono hB⟩
theorem Jbi {B base:Nat} {w w':World} {v:Value} {s:List (List Value)} {E:List Jg} (h:w'.ownsRow base 49 5 v E.length s.flatten) (hc:Css 5 (Ji B w) s E) (hb:Below B w w') (hB:B<=w'.heap.size) (ht:∀ r ∈ E,r.type.size<=maxLen):Jt w'.heap.size w' v E:=by
 have h':=h
 obtain ⟨g1,⟨g2,g3⟩ | ⟨g,cap,cur,g2,g3,g4,g5,g6,g7⟩⟩:=h
 ·have:E=[]:=List.eq_nil_of_length_eq_zero g3
  subst this
  exact ⟨none,0,g2,by simp,by omega,.inl rfl⟩
 ·subst g2
  refine ⟨_,cap,rfl,g5,by simp only [maxLen] at g6;omega,.inr ⟨g,0,rfl,(Array.getElem?_eq_some_iff.1 g4).1,fun i n O=>?_⟩⟩
  obtain ⟨cs,k1,k2,k3⟩:=hc.2 i n O
  obtain ⟨T,pc,e,hp⟩:=k3
  have e2:cs=[.int .i64 n.id,.int .i64 n.fr,.int .i64 n.tt,.string n.type,.slice T n.props.length pc]:=by
   injection e with e
   simpa using congrArg Array.toList e
  subst e2
  rw [Nat.zero_add]
  have V:=fun q v C=>Zgm h' hc.all k1 (q:=q) (v:=v) C
  exact ⟨_,⟨V 0 _ rfl,V 1 _ rfl,V 2 _ rfl,V 3 _ rfl,V 4 _ rfl⟩,ht n (List.mem_of_getElem? O),(Jd.below hb hp).mono hB⟩
structure Zfb (B:Nat) (w:World) (N R:List (Int × Value)) (E:List Zo) (S:List Jg):Prop where
 nl:N.length<=2000000
 rl:R.length<=2000000
 no:E.map Zo.id=Zff (N.map Prod.fst)
 ro:S.map Jg.id=Zff (R.map Prod.fst)
 nu:Zhn N
 ru:Zhn R
 ne:∀ n ∈ E,∃ v,(n.id,v) ∈ N/\Ja B w v n
 re:∀ r ∈ S,∃ v,(r.id,v) ∈ R/\Ji B w v r
 ty:∀ r ∈ S,r.type.size<=maxLen
theorem Zfb.below {B:Nat} {w w':World} {N R:List (Int × Value)} {E:List Zo} {S:List Jg} (h:Zfb B w N R E S) (hb:Below B w w'):Zfb B w' N R E S :=
 ⟨h.nl,h.rl,h.no,h.ro,h.nu,h.ru,fun n hn=>by obtain ⟨v,h1,h2⟩:=h.ne n hn;exact ⟨v,h1,h2.below hb⟩,fun n hn=>by obtain ⟨v,h1,h2⟩:=h.re n hn;exact ⟨v,h1,h2.below hb⟩,h.ty⟩
theorem Zjn (l:List Int):(Zff l).length=l.length:=by unfold Zff;exact List.length_mergeSort _
theorem Zfb.nlen {B:Nat} {w:World} {N R:List (Int × Value)} {E:List Zo} {S:List Jg} (h:Zfb B w N R E S):E.length=N.length:=by
 have:=congrArg List.length h.no
 simpa [Zjn] using this
theorem Zfb.rlen {B:Nat} {w:World} {N R:List (Int × Value)} {E:List Zo} {S:List Jg} (h:Zfb B w N R E S):S.length=R.length:=by
 have:=congrArg List.length h.ro
 simpa [Zjn] using this
structure TlJ (w Q:World) (X:Nat) (nv rv:Value) (nn nr:Int) (wr:World):Prop where
 box:Rec wr X #[nv,rv,.int .i64 nn,.int .i64 nr] 25
 keep:Below w.heap.size w wr
 old:∀ i,i<Q.heap.size->i≠X->wr.heap[i]?=Q.heap[i]?
 sz:Q.heap.size<=wr.heap.size
def Jgl (w:World) (g:Zt) (e:Ending) (w':World):Prop:=∃ v,e=.returned v/\Zr w'.heap.size w' v g/\Below w.heap.size w w'
set_option maxRecDepth 100000 in
set_option maxHeartbeats 16000000 in
theorem Zsg {w:World} {p:GP} {nn nr:Int} {N R:List (Int × Value)} (h:PS w p nn nr N R) (B:Nat) (hB:B<=w.heap.size) (E:List Zo) (S:List Jg) (ht:Zfb B w N R E S) :
  Calls Tryz.prog 52 #[.pointer (some ⟨p.g,0,none⟩)] w (Jgl w ⟨E,S,nn,nr⟩):=by
 have HG:=Zb h
 have HT:=Zb ht
 have n6:Hid (∀ q ∈ N,I64 q.1):=by obtain ⟨_,_,_,_,h3,_⟩:=h.n;exact h3
 have n7:Hid (∀ q ∈ R,I64 q.1):=by obtain ⟨_,_,_,_,h3,_⟩:=h.r;exact h3
 have e7:=ht.nlen
 have e9:=ht.rlen
 have n1:=ht.nl
 have o2:=ht.rl
 obtain ⟨n,hn⟩:∃ n,E.length=n:=⟨_,rfl⟩
 obtain ⟨m,hm⟩:∃ m,S.length=m:=⟨_,rfl⟩
 rw [hn] at e7
 rw [hm] at e9
 have HN:=Zb hn
 have HM:=Zb hm
 have m8:=Zb e7
 have n8:=Zb e9
 have r7:n<=2000000:=by omega
 have s5:m<=2000000:=by omega
 clear h ht hn hm e7 e9
 go_enter Tryz.func52,Tryz.ntmps52
 go_upto_region 1 with fail
 generalize f5:World.alloc _ _=W1
 have l4:Hid (Below w.heap.size w W1):=by rw [<- f5];exact (Below.refl _ _).alloc (Nat.le_refl _) _
 have d5:Hid (Rec W1 w.heap.size #[.slice none 0 0,.slice none 0 0,.int .i64 0,.int .i64 0] 25):=by rw [<- f5];exact Zl _ _ _
 have a8:=Zb (HG.out.below l4.out)
 clear f5
 show (Code.region 1 Zsv true).wp _ _ _ _
 refine Zuw p nn nr W1.heap.size _ _ _ rfl ⟨rfl⟩ ?_ ?_
 ·intro W hW
  exact ⟨(hW.cell (p:=⟨p.g,2,none⟩) a8.out.lt).trans a8.out.c2,(hW.cell (p:=⟨p.g,3,none⟩) a8.out.lt).trans a8.out.c3,hW.size⟩
 rintro c W2 hS l8 j5 ⟨X,e3,hX,l0⟩
 obtain ⟨W3,d6,c6⟩:=Jdc c.eval X W2 _ _ _ _ nn nr l0 e3 j5
 refine ⟨W3,d6,?_⟩
 clear d6
 rw [Zba hS [8,9,10,11,12,13,14,15,16,3] (by kernel_rfl)]
 obtain ⟨y8,q8⟩:∃ y,c.eval (.tmp 8)=y:=⟨_,rfl⟩
 obtain ⟨y9,q9⟩:∃ y,c.eval (.tmp 9)=y:=⟨_,rfl⟩
 obtain ⟨s2,m5⟩:∃ y,c.eval (.tmp 10)=y:=⟨_,rfl⟩
 obtain ⟨s1,l2⟩:∃ y,c.eval (.tmp 11)=y:=⟨_,rfl⟩
 obtain ⟨t1,m0⟩:∃ y,c.eval (.tmp 12)=y:=⟨_,rfl⟩
 obtain ⟨r0,h4⟩:∃ y,c.eval (.tmp 13)=y:=⟨_,rfl⟩
 obtain ⟨t0,i9⟩:∃ y,c.eval (.tmp 14)=y:=⟨_,rfl⟩
 obtain ⟨p7,j1⟩:∃ y,c.eval (.tmp 15)=y:=⟨_,rfl⟩
 obtain ⟨q5,j0⟩:∃ y,c.eval (.tmp 16)=y:=⟨_,rfl⟩
 obtain ⟨y3,q3⟩:∃ y,c.eval (.tmp 3)=y:=⟨_,rfl⟩
 simp only [List.foldl_cons,List.foldl_nil,q8,q9,m5,l2,m0,h4,i9,j1,j0,q3]
 rw [e3] at q3
 subst q3
 clear q8 q9 m5 l2 m0 h4 i9 j1 j0
 simp only [List.setIfInBounds_toArray,List.set_cons_succ,List.set_cons_zero]
 clear e3 j5 hS
 have n0:w.heap.size<W1.heap.size:=d5.out.lt
 have d1:Hid (Below W1.heap.size W1 W3):=l8.trans (c6.below.mono hX)
 have d4:=Zb c6.r
 have d3:=Zb (a8.out.below d1.out)
 have f6:=Zb (d5.out.below d1.out d5.out.lt)
 clear c6 l0 l8 a8 d5
 have c0:=d3.out.c0
 have g0:=Zb (Zne d3.out.n n1)
 go_wp2_with fail
 refine g0.out.mono ?_
 rintro e Q ⟨v4,rfl,a7,b6⟩
 rw [<- m8.out] at a7
 obtain ⟨va,vc,hv⟩:=Jn a7
 subst hv
 have n3:=Zb a7
 have e1:n<=vc/\vc<=9223372036854775807:=by
  rcases a7.2 with ⟨h1,h0⟩ | ⟨D,gc,cur,h1,_,_,r1,r2,_⟩
  ·injection h1 with _ _ h3;omega
  ·injection h1 with _ _ h3;subst h3;exact ⟨r1,by unfold maxLen at r2;omega⟩
 obtain ⟨p1,o8⟩:=e1
 have P:=Zb (d3.out.below b6)
 have l6:=Zb (d4.out.below b6 d4.out.lt)
 have h5:=Zb (f6.out.below b6 f6.out.lt)
 have f7:X<Q.heap.size:=l6.out.lt
 have i8:Hid (Below w.heap.size w Q):=l4.out.trans ((d1.out.mono (by omega)).trans (b6.mono (by have:=d1.out.size;omega)))
 have o9:Hid (∀ i,i<w.heap.size->i≠X):=fun i O=>by omega
 have o6:Hid (∀ q,(Value.slice va n vc).ownBlock=some q->q≠X/\q<Q.heap.size):=fun q C=>⟨fun e=>by have:=(a7.lt q C).1;have:=d4.out.lt;omega,(a7.lt q C).2⟩
 clear a7 b6 c0 g0 d3 d4 f6
 have p9:w.heap.size<X:=by omega
 clear hX n0
 go_wp2_with fail
 go_loopw [23] (fun i wr=>∃ (j:Nat) (SV:Value) (s:List (List Value)),j<=n/\i=.int .i64 j/\TlJ w Q X SV (.slice none 0 0) nn nr wr/\wr.ownsRow Q.heap.size 47 3 SV j s.flatten/\Css 3 (Ja B w) s (E.take j)) (fun i _=>n - (intOf i).toNat)
 case atStart=>exact ⟨0,.slice none 0 0,[],Nat.zero_le _,rfl,⟨l6.out,i8.out,fun _ _ _=>rfl,Nat.le_refl _⟩,World.ownsRow_nil _ _ _ _,Zh1⟩
 case round =>
  obtain ⟨j,SV,s,hj,rfl,b8,t,a1⟩:=hrel
  have f:=Zb b8
  have Y:=Zb t
  have a5:=Zb a1
  clear b8 t a1
  by_cases hlt:j<n
  ·have c5:(j:Int)<n:=by omega
   obtain ⟨x,hx⟩:∃ q,E[j]?=some q:=⟨_,List.getElem?_eq_getElem (by have:=HN.out;omega)⟩
   have HX:=Zb hx
   obtain ⟨xv,F,G⟩:=HT.out.ne x (List.mem_of_getElem? hx)
   have b4:=Zb G
   obtain ⟨la,lc,T,pc,rfl,o4,m7,f3⟩:=G
   clear o4 m7 f3
   have b9:Hid (∀ W,MI W p.n N->(Instr.lookup 68 (.map (some p.n)) (.int .i64 x.id) false).run Tryz.prog W=.ok (.agg #[.int .i64 x.id,.slice la x.labels.length lc,.slice T x.props.length pc]) W):=fun W hW =>
    (Zk7 (z:=.agg #[.int .i64 0,.slice none 0 0,.slice none 0 0]) Tryz.underlying68' hW x.id _ (n6.out _ F) F (fun q C e=>HT.out.nu q C _ F e)).2
   have b7:∃ D,va=some ⟨D,0,none⟩/\Q.cell? ⟨D,j,none⟩=some (.int .i64 x.id)/\D≠X/\D<Q.heap.size:=by
    have h':=n3.out
    rcases h'.2 with ⟨h1,h0⟩ | ⟨D,gc,cur,h1,_⟩
    ·omega
    ·injection h1 with h1 _ h3
     subst h1
     refine ⟨D,rfl,?_,o6.out D rfl⟩
     have:=h'.cells (g:=D) rfl j (.int .i64 x.id) (by rw [<- HT.out.no,List.map_map,List.getElem?_map,hx];rfl)
     have a4:(⟨D,0,none⟩:Addr).add j=⟨D,j,none⟩:=by unfold Addr.add;split<;>simp_all
     rwa [a4] at this
   obtain ⟨D,rfl,a9,d9,e8⟩:=b7
   have b5:wr.cell? ⟨D,j,none⟩=some (.int .i64 x.id):=(World.cell?_of_block (a:=⟨D,j,none⟩) (f.out.old D e8 d9)).trans a9
   clear hx F a9
   obtain ⟨xi,xl,xp⟩:=x
   simp only at b5 b9 b4
   go_upto_region 5 with fail
   clear b5
   have c8:Hid (∀ W,wr.grownBy W SV.ownBlock->(∀ i,i<Q.heap.size->W.heap[i]?=wr.heap[i]?)/\(∀ q,SV.ownBlock=some q->q<W.heap.size)):=fun W hg =>
    ⟨fun i O=>hg.block i (by have:=f.out.sz;omega) fun e=>by have:=(Y.out.lt i e.symm).1;omega,fun q C=>by have h1:=(Y.out.lt q C).2;have h2:=hg.size;omega⟩
   have f1:Hid (MI wr p.n N):=P.out.n.block (f.out.old _ P.out.n.lt (by have:=HG.out.n.lt;omega))
   have c7:Hid (wr.heap[p.g]?=Q.heap[p.g]?):=f.out.old _ P.out.lt (by have:=HG.out.lt;omega)
   show (Code.region 5 Zj4 true).wp _ _ _ _
   refine Zys SV.ownBlock wr p xi X Q.heap.size SV j s.flatten xi la xl.length lc T xp.length pc _ _ rfl ⟨rfl,rfl,rfl⟩ ?_ ?_ ?_
   ·intro W hW
    obtain ⟨k1,k3⟩:=c8.out W hW
    exact ⟨(World.cell?_of_block (a:=⟨X,0,none⟩) (k1 _ f7)).trans (f.out.box.cell 0 rfl),Jn Y.out,(World.cell?_of_block (a:=⟨p.g,0,none⟩) ((k1 _ P.out.lt).trans c7.out)).trans P.out.c0,b9.out W (f1.out.block (k1 _ P.out.n.lt)),k3⟩
   ·intro W hW
    exact ⟨Zkh Y.out fun q C=>hW.block q (Y.out.lt q C).2,by omega,by have:=hW.size;have:=f.out.sz;omega,rfl,hW.size⟩
   rintro c W5 hS I ⟨t,M,K,j9⟩ n9
   rw [j9] at t
   obtain ⟨k1,k3⟩:=c8.out W5 I
   have H:=f.out.box.keep (k1 _ f7)
   have x0:=H.cell 0 rfl
   have z0:=H.z 0
   obtain ⟨sa,sc,U⟩:=Jn Y.out
   rw [U] at x0
   refine ⟨W5.setCell ⟨X,0,none⟩ (.slice M (j+1) K),?_,?_⟩
   ·generalize c.eval=ρ at *
    clear hS t I k1 k3 H U
    go_simp
   rw [Zba hS [27,28,29,30,31,32,33,34,35,36,37] (by kernel_rfl)]
   obtain ⟨p4,m4⟩:∃ y,c.eval (.tmp 27)=y:=⟨_,rfl⟩
   obtain ⟨p6,m3⟩:∃ y,c.eval (.tmp 28)=y:=⟨_,rfl⟩
   obtain ⟨t3,j3⟩:∃ y,c.eval (.tmp 29)=y:=⟨_,rfl⟩
   obtain ⟨s8,l7⟩:∃ y,c.eval (.tmp 30)=y:=⟨_,rfl⟩
   obtain ⟨q7,k4⟩:∃ y,c.eval (.tmp 31)=y:=⟨_,rfl⟩
   obtain ⟨s4,f9⟩:∃ y,c.eval (.tmp 32)=y:=⟨_,rfl⟩
   obtain ⟨p8,j6⟩:∃ y,c.eval (.tmp 33)=y:=⟨_,rfl⟩
   obtain ⟨q6,i7⟩:∃ y,c.eval (.tmp 34)=y:=⟨_,rfl⟩
   obtain ⟨r6,j4⟩:∃ y,c.eval (.tmp 35)=y:=⟨_,rfl⟩
   obtain ⟨q4,l1⟩:∃ y,c.eval (.tmp 36)=y:=⟨_,rfl⟩
   obtain ⟨t2,i1⟩:∃ y,c.eval (.tmp 37)=y:=⟨_,rfl⟩
   simp only [List.foldl_cons,List.foldl_nil,m4,m3,j3,l7,k4,f9,j6,i7,j4,l1,i1]
   clear m4 m3 j3 l7 k4 f9 j6 i7 j4 l1 i1
   simp only [List.setIfInBounds_toArray,List.set_cons_succ,List.set_cons_zero]
   clear hS j9 n9 x0 z0
   have f2:Hid (TlJ w Q X (.slice M (j+1) K) (.slice none 0 0) nn nr (W5.setCell ⟨X,0,none⟩ (.slice M (j+1) K))):=by
    refine ⟨?_,?_,?_,?_⟩
    ·simpa using H.set 0 (.slice M (j+1) K)
    ·exact (f.out.keep.trans (Zqp I (fun q C=>by have:=(Y.out.lt q C).1;have:=i8.out.size;omega) f.out.keep.size)).setCell (p:=⟨X,0,none⟩) (by show w.heap.size<=X;omega) _
    ·exact fun i h1 h2=>(Below.heap_setCell _ _ _ _ h2).trans ((k1 i h1).trans (f.out.old i h1 h2))
    ·have h1:=I.size
     have h2:=f.out.sz
     have h3:(W5.setCell ⟨X,0,none⟩ (.slice M (j+1) K)).heap.size=W5.heap.size:=by simp
     omega
   have e6:Hid ((W5.setCell ⟨X,0,none⟩ (.slice M (j+1) K)).ownsRow Q.heap.size 47 3 (.slice M (j+1) K) (j+1) (s++([[.int .i64 xi,.slice la xl.length lc,.slice T xp.length pc]]:List (List Value))).flatten):=by
    show World.ownsRow _ _ _ _ _ _ _
    rw [List.flatten_append]
    exact Jf (by simpa using t) fun g hg _=>Below.heap_setCell _ _ _ _ (by show g≠X;omega)
   have e5:Hid (Css 3 (Ja B w) (s++([[.int .i64 xi,.slice la xl.length lc,.slice T xp.length pc]]:List (List Value))) (E.take (j+1))):=a5.out.step HX.out rfl b4.out
   generalize W5.setCell ⟨X,0,none⟩ (.slice M (j+1) K)=W6 at *
   clear t H I k1 k3 U
   go_wp2_with fail
   go_roundw
   case rel=>exact ⟨j+1,_,_,by omega,by go_num,f2.out,e6.out,e5.out⟩
   case measure=>simp [intOf];omega
  ·have c5:¬ (j:Int)<n:=by omega
   have i6:j=n:=by omega
   have o5:Hid (Css 3 (Ja B w) s E):=by
    have:=a5.out
    rwa [List.take_of_length_le (by have:=HN.out;omega)] at this
   have j2:Hid (wr.ownsRow Q.heap.size 47 3 SV n s.flatten):=by rw [<- i6];exact Y.out
   have g9:=P.out.lt
   have f0:p.g≠X:=by have:=HG.out.lt;omega
   have h9:p.r≠X:=by have:=HG.out.r.lt;omega
   have c1:wr.cell? ⟨p.g,1,none⟩=some (.map (some p.r)):=(World.cell?_of_block (a:=⟨p.g,1,none⟩) (f.out.old _ g9 f0)).trans P.out.c1
   have e0:=Zb (P.out.r.block (f.out.old _ P.out.r.lt h9))
   have f4:=Zb (h5.out.keep (f.out.old _ h5.out.lt (by omega)))
   have c7:Hid (wr.heap[p.g]?=Q.heap[p.g]?):=f.out.old _ g9 f0
   clear a5 Y i6
   have k8:=Zb (Znf e0.out o2)
   go_wp2_with fail
   refine k8.out.mono ?_
   rintro e w6 ⟨v6,rfl,a6,a2⟩
   rw [<- n8.out] at a6
   obtain ⟨ta,tc,hv⟩:=Jn a6
   subst hv
   have e6:=Zb a6
   have e4:m<=tc/\tc<=9223372036854775807:=by
    rcases a6.2 with ⟨h1,h0⟩ | ⟨D,gc,cur,h1,_,_,r1,r2,_⟩
    ·injection h1 with _ _ h3;omega
    ·injection h1 with _ _ h3;subst h3;exact ⟨r1,by unfold maxLen at r2;omega⟩
   obtain ⟨p2,p0⟩:=e4
   have n5:=Zb (f.out.box.below a2 f.out.box.lt)
   have k7:=Zb (Jf j2.out fun g _ hg=>a2.block g hg)
   have l5:=Zb (f4.out.below a2 f4.out.lt)
   have c4:=Zb (e0.out.below a2 (Nat.le_refl _))
   have s0:X<wr.heap.size:=f.out.box.lt
   have o0:p.g<wr.heap.size:=by have:=f.out.sz;omega
   have h6:Hid (w6.cell? ⟨p.g,1,none⟩=some (.map (some p.r))):=(a2.cell (p:=⟨p.g,1,none⟩) o0).trans c1
   have l3:Hid (Below w.heap.size w w6):=f.out.keep.trans (a2.mono f.out.keep.size)
   have r4:Q.heap.size<=wr.heap.size:=f.out.sz
   have s6:wr.heap.size<=w6.heap.size:=a2.size
   have m6:Hid (∀ q,(Value.slice ta m tc).ownBlock=some q->q≠X/\q<w6.heap.size):=fun q C=>⟨fun e=>by have:=(a6.lt q C).1;omega,(a6.lt q C).2⟩
   clear a6 a2 k8 c1 f4 j2 e0 c7
   go_wp2_with fail
   go_loopw [45] (fun i wr=>∃ (j:Nat) (RV:Value) (a3:List (List Value)),j<=m/\i=.int .i64 j/\TlJ w w6 X SV RV nn nr wr/\wr.ownsRow w6.heap.size 49 5 RV j a3.flatten/\Css 5 (Ji B w) a3 (S.take j)) (fun i _=>m - (intOf i).toNat)
   case atStart=>exact ⟨0,.slice none 0 0,[],Nat.zero_le _,rfl,⟨n5.out,l3.out,fun _ _ _=>rfl,Nat.le_refl _⟩,World.ownsRow_nil _ _ _ _,Zh1⟩
   case round =>
    clear f
    obtain ⟨j,RV,a3,hj,rfl,b8,t,a1⟩:=hrel
    have f:=Zb b8
    have Y:=Zb t
    have a5:=Zb a1
    clear b8 t a1
    by_cases hlt:j<m
    ·have c5:(j:Int)<m:=by omega
     obtain ⟨x,hx⟩:∃ q,S[j]?=some q:=⟨_,List.getElem?_eq_getElem (by have:=HM.out;omega)⟩
     have HX:=Zb hx
     obtain ⟨xv,F,G⟩:=HT.out.re x (List.mem_of_getElem? hx)
     have b4:=Zb G
     obtain ⟨T,pc,rfl,f3⟩:=G
     clear f3
     have b9:Hid (∀ W,MI W p.r R->(Instr.lookup 69 (.map (some p.r)) (.int .i64 x.id) false).run Tryz.prog W=.ok (.agg #[.int .i64 x.id,.int .i64 x.fr,.int .i64 x.tt,.string x.type,.slice T x.props.length pc]) W):=fun W hW =>
      (Zk7 (z:=.agg #[.int .i64 0,.int .i64 0,.int .i64 0,.string ⟨#[]⟩,.slice none 0 0]) Tryz.underlying69' hW x.id _ (n7.out _ F) F (fun q C e=>HT.out.ru q C _ F e)).2
     have b7:∃ D,ta=some ⟨D,0,none⟩/\w6.cell? ⟨D,j,none⟩=some (.int .i64 x.id)/\D≠X/\D<w6.heap.size:=by
      have h':=e6.out
      rcases h'.2 with ⟨h1,h0⟩ | ⟨D,gc,cur,h1,_⟩
      ·omega
      ·injection h1 with h1 _ h3
       subst h1
       refine ⟨D,rfl,?_,m6.out D rfl⟩
       have:=h'.cells (g:=D) rfl j (.int .i64 x.id) (by rw [<- HT.out.ro,List.map_map,List.getElem?_map,hx];rfl)
       have a4:(⟨D,0,none⟩:Addr).add j=⟨D,j,none⟩:=by unfold Addr.add;split<;>simp_all
       rwa [a4] at this
     obtain ⟨D,rfl,a9,d9,e8⟩:=b7
     have b5:wr.cell? ⟨D,j,none⟩=some (.int .i64 x.id):=(World.cell?_of_block (a:=⟨D,j,none⟩) (f.out.old D e8 d9)).trans a9
     clear hx F a9
     obtain ⟨xi,fr,tt,ty,xp⟩:=x
     simp only at b5 b9 b4
     go_upto_region 10 with fail
     clear b5
     have c8:Hid (∀ W,wr.grownBy W RV.ownBlock->(∀ i,i<w6.heap.size->W.heap[i]?=wr.heap[i]?)/\(∀ q,RV.ownBlock=some q->q<W.heap.size)):=fun W hg =>
      ⟨fun i O=>hg.block i (by have:=f.out.sz;omega) fun e=>by have:=(Y.out.lt i e.symm).1;omega,fun q C=>by have h1:=(Y.out.lt q C).2;have h2:=hg.size;omega⟩
     have f1:Hid (MI wr p.r R):=c4.out.block (f.out.old _ c4.out.lt h9)
     have c7:Hid (wr.heap[p.g]?=w6.heap[p.g]?):=f.out.old _ (by omega) f0
     show (Code.region 10 Zdi true).wp _ _ _ _
     refine Zt6 RV.ownBlock wr p xi X w6.heap.size RV j a3.flatten xi fr tt ty T xp.length pc _ _ rfl ⟨rfl,rfl,rfl⟩ ?_ ?_ ?_
     ·intro W hW
      obtain ⟨k1,k3⟩:=c8.out W hW
      exact ⟨(World.cell?_of_block (a:=⟨X,1,none⟩) (k1 X (by omega))).trans (f.out.box.cell 1 rfl),Jn Y.out,(World.cell?_of_block (a:=⟨p.g,1,none⟩) ((k1 p.g (by omega)).trans c7.out)).trans h6.out,b9.out W (f1.out.block (k1 _ c4.out.lt)),k3⟩
     ·intro W hW
      exact ⟨Zkh Y.out fun q C=>hW.block q (Y.out.lt q C).2,by omega,by have:=hW.size;have:=f.out.sz;omega,rfl,hW.size⟩
     rintro c W5 hS I ⟨t,M,K,k6⟩ o7
     rw [k6] at t
     obtain ⟨k1,k3⟩:=c8.out W5 I
     have H:=f.out.box.keep (k1 X (by omega))
     have x0:=H.cell 1 rfl
     have z0:=H.z 1
     obtain ⟨sa,sc,U⟩:=Jn Y.out
     rw [U] at x0
     refine ⟨W5.setCell ⟨X,1,none⟩ (.slice M (j+1) K),?_,?_⟩
     ·generalize c.eval=ρ at *
      clear hS t I k1 k3 H U
      go_simp
     rw [Zba hS [49,50,51,52,53,54,55,56,57,58,59] (by kernel_rfl)]
     obtain ⟨r9,i0⟩:∃ y,c.eval (.tmp 49)=y:=⟨_,rfl⟩
     obtain ⟨t5,i3⟩:∃ y,c.eval (.tmp 50)=y:=⟨_,rfl⟩
     obtain ⟨t4,k5⟩:∃ y,c.eval (.tmp 51)=y:=⟨_,rfl⟩
     obtain ⟨s7,k0⟩:∃ y,c.eval (.tmp 52)=y:=⟨_,rfl⟩
     obtain ⟨r8,i5⟩:∃ y,c.eval (.tmp 53)=y:=⟨_,rfl⟩
     obtain ⟨s3,l9⟩:∃ y,c.eval (.tmp 54)=y:=⟨_,rfl⟩
     obtain ⟨s9,i4⟩:∃ y,c.eval (.tmp 55)=y:=⟨_,rfl⟩
     obtain ⟨r3,j8⟩:∃ y,c.eval (.tmp 56)=y:=⟨_,rfl⟩
     obtain ⟨p5,f8⟩:∃ y,c.eval (.tmp 57)=y:=⟨_,rfl⟩
     obtain ⟨t6,g8⟩:∃ y,c.eval (.tmp 58)=y:=⟨_,rfl⟩
     obtain ⟨p3,m1⟩:∃ y,c.eval (.tmp 59)=y:=⟨_,rfl⟩
     simp only [List.foldl_cons,List.foldl_nil,i0,i3,k5,k0,i5,l9,i4,j8,f8,g8,m1]
     clear i0 i3 k5 k0 i5 l9 i4 j8 f8 g8 m1
     simp only [List.setIfInBounds_toArray,List.set_cons_succ,List.set_cons_zero]
     clear hS k6 o7 x0 z0
     have f2:Hid (TlJ w w6 X SV (.slice M (j+1) K) nn nr (W5.setCell ⟨X,1,none⟩ (.slice M (j+1) K))):=by
      refine ⟨?_,?_,?_,?_⟩
      ·simpa using H.set 1 (.slice M (j+1) K)
      ·exact (f.out.keep.trans (Zqp I (fun q C=>by have:=(Y.out.lt q C).1;have:=l3.out.size;omega) f.out.keep.size)).setCell (p:=⟨X,1,none⟩) (by show w.heap.size<=X;omega) _
      ·exact fun i h1 h2=>(Below.heap_setCell _ _ _ _ h2).trans ((k1 i h1).trans (f.out.old i h1 h2))
      ·have h1:=I.size
       have h2:=f.out.sz
       have h3:(W5.setCell ⟨X,1,none⟩ (.slice M (j+1) K)).heap.size=W5.heap.size:=by simp
       omega
     have o3:Hid ((W5.setCell ⟨X,1,none⟩ (.slice M (j+1) K)).ownsRow w6.heap.size 49 5 (.slice M (j+1) K) (j+1) (a3++([[.int .i64 xi,.int .i64 fr,.int .i64 tt,.string ty,.slice T xp.length pc]]:List (List Value))).flatten):=by
      show World.ownsRow _ _ _ _ _ _ _
      rw [List.flatten_append]
      exact Jf (by simpa using t) fun g hg _=>Below.heap_setCell _ _ _ _ (by show g≠X;omega)
     have e5:Hid (Css 5 (Ji B w) (a3++([[.int .i64 xi,.int .i64 fr,.int .i64 tt,.string ty,.slice T xp.length pc]]:List (List Value))) (S.take (j+1))):=a5.out.step HX.out rfl b4.out
     generalize W5.setCell ⟨X,1,none⟩ (.slice M (j+1) K)=W6 at *
     clear t H I k1 k3 U
     go_wp2_with fail
     go_roundw
     case rel=>exact ⟨j+1,_,_,by omega,by go_num,f2.out,o3.out,e5.out⟩
     case measure=>simp [intOf];omega
    ·have c5:¬ (j:Int)<m:=by omega
     have h7:j=m:=by omega
     have m9:Hid (Css 5 (Ji B w) a3 S):=by
      have:=a5.out
      rwa [List.take_of_length_le (by have:=HM.out;omega)] at this
     have j7:Hid (wr.ownsRow w6.heap.size 49 5 RV m a3.flatten):=by rw [<- h7];exact Y.out
     have d8:Hid (wr.ownsRow Q.heap.size 47 3 SV n s.flatten):=Jf k7.out fun g hg hl=>f.out.old g hl (by omega)
     have a0:=Zb (l5.out.keep (f.out.old _ l5.out.lt (by omega)))
     obtain ⟨sa,sc,U⟩:=Jn d8.out
     obtain ⟨M,K,n2⟩:=Jn j7.out
     subst U n2
     clear a5 Y h7
     have x0:=f.out.box.cell 0 rfl
     have x1:=f.out.box.cell 1 rfl
     have x2:=f.out.box.cell 2 rfl
     have x3:=f.out.box.cell 3 rfl
     have b0:=a0.out.cell 0 rfl
     have b1:=a0.out.cell 1 rfl
     have b2:=a0.out.cell 2 rfl
     have b3:=a0.out.cell 3 rfl
     have y0:=a0.out.z 0
     have y1:=a0.out.z 1
     have y2:=a0.out.z 2
     have y3:=a0.out.z 3
     go_wp2_with fail
     generalize c9:World.setCell _ _ _=W9
     have d2:Hid (Rec W9 w.heap.size #[.slice sa n sc,.slice M m K,.int .i64 nn,.int .i64 nr] 25):=by rw [<- c9];exact (((a0.out.set 0 _).set 1 _).set 2 _).set 3 _
     have d0:Hid (Below w.heap.size w W9):=by rw [<- c9];exact (((f.out.keep.setCell (Nat.le_refl _) _).setCell (Nat.le_refl _) _).setCell (Nat.le_refl _) _).setCell (Nat.le_refl _) _
     have m2:Hid (∀ g,g≠w.heap.size->W9.heap[g]?=wr.heap[g]?):=fun g hg=>by
      rw [<- c9]
      exact (Below.heap_setCell _ _ _ _ hg).trans ((Below.heap_setCell _ _ _ _ hg).trans ((Below.heap_setCell _ _ _ _ hg).trans (Below.heap_setCell _ _ _ _ hg)))
     clear c9
     have q0:=d2.out.cell 0 rfl
     have q1:=d2.out.cell 1 rfl
     have q2:=d2.out.cell 2 rfl
     have q3:=d2.out.cell 3 rfl
     have h8:B<=W9.heap.size:=by have:=d0.out.size;omega
     have n4:Hid (Zr W9.heap.size W9 (.agg #[.slice sa n sc,.slice M m K,.int .i64 nn,.int .i64 nr]) ⟨E,S,nn,nr⟩):=by
      refine ⟨sa,sc,M,K,by simp only [HN.out,HM.out],?_,?_⟩
      ·simp only [HN.out]
       refine Zyo (base:=Q.heap.size) ?_ o5.out (d0.out.mono hB) h8
       rw [HN.out]
       exact Jf d8.out fun g hg _=>m2.out g (by omega)
      ·simp only [HM.out]
       refine Jbi (base:=w6.heap.size) ?_ m9.out (d0.out.mono hB) h8 HT.out.ty
       rw [HM.out]
       exact Jf j7.out fun g hg _=>m2.out g (by omega)
     refine bodyPost_ret (v:=.agg #[.slice sa n sc,.slice M m K,.int .i64 nn,.int .i64 nr]) ?_ rfl ⟨_,rfl,n4.out,d0.out⟩
     simp [results,Tryz.results52,go_sem,q0,q1,q2,q3]
