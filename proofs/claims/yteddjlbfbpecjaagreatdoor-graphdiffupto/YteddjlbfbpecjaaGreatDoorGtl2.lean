import Derived.Test.YteddjlbfbpecjaaGreatDoorJoin26
namespace Go.Proofs.YteddjlbfbpecjaaGreatDoor
open Go.RowKit Go.Shelf
set_option linter.all false
attribute [local go_sem] Oper.semAt_some
def Css {α:Type} (k:Nat) (L:Value->α->Prop) (s:List (List Value)) (xs:List α):Prop :=
 s.length=xs.length/\∀ (i:Nat) (x:α),xs[i]?=some x->∃ cs:List Value,s[i]?=some cs/\cs.length=k/\L (.agg cs.toArray) x
theorem Zh1 {α:Type} {k:Nat} {L:Value->α->Prop}:Css k L [] []:=⟨rfl,fun i x h=>by simp at h⟩
theorem Css.step {α:Type} {k:Nat} {L:Value->α->Prop} {s:List (List Value)} {xs:List α} {j:Nat} {x:α} {cs:List Value} (h:Css k L s (xs.take j)) (hx:xs[j]?=some x) (hl:cs.length=k) (hv:L (.agg cs.toArray) x):Css k L (s++[cs]) (xs.take (j+1)):=by
 have hj:=(List.getElem?_eq_some_iff.1 hx).1
 have d7:(xs.take j).length=j:=by rw [List.length_take];omega
 have m6:s.length=j:=by rw [h.1,d7]
 rw [List.take_add_one,hx]
 refine ⟨by simp [h.1],fun i y hy=>?_⟩
 by_cases O:i<j
 ·rw [List.getElem?_append_left (by omega)] at hy
  obtain ⟨u,h1,h2⟩:=h.2 i y hy
  exact ⟨u,by rw [List.getElem?_append_left (by omega)];exact h1,h2⟩
 ·rw [List.getElem?_append_right (by omega),d7] at hy
  have k4:i - j=0:=by
   have:=(List.getElem?_eq_some_iff.1 hy).1
   simp at this;omega
  rw [k4] at hy
  simp only [Option.toList_some,List.getElem?_cons_zero,Option.some.injEq] at hy
  subst hy
  exact ⟨cs,by rw [List.getElem?_append_right (by omega),m6,k4];rfl,hl,hv⟩
theorem Zyn {k:Nat}:∀ (s:List (List Value)) (i q:Nat) (cs:List Value),(∀ c ∈ s,c.length=k)->s[i]?=some cs->q<k->s.flatten[i*k+q]?=cs[q]?
 | [],i,q,cs,_,O,_=>by simp at O
 | c::r,0,q,cs,h,O,C=>by
  simp only [List.getElem?_cons_zero,Option.some.injEq] at O
  subst O
  rw [List.flatten_cons,Nat.zero_mul,Nat.zero_add,List.getElem?_append_left (by rw [h c List.mem_cons_self];exact C)]
 | c::r,i+1,q,cs,h,O,C=>by
  simp only [List.getElem?_cons_succ] at O
  have hc:=h c List.mem_cons_self
  rw [List.flatten_cons,List.getElem?_append_right (by rw [hc,Nat.add_mul];omega),hc,show (i+1)*k+q - k=i*k+q by rw [Nat.add_mul];omega]
  exact Zyn r i q cs (fun d hd=>h d (List.mem_cons_of_mem _ hd)) O C
theorem Css.all {α:Type} {k:Nat} {L:Value->α->Prop} {s:List (List Value)} {xs:List α} (h:Css k L s xs):∀ c ∈ s,c.length=k:=by
 intro c hc
 obtain ⟨i,O⟩:=List.getElem?_of_mem hc
 have hl:=(List.getElem?_eq_some_iff.1 O).1
 obtain ⟨cs,h1,h2,_⟩:=h.2 i _ (List.getElem?_eq_getElem (by rw [<- h.1];exact hl))
 rw [O] at h1
 injection h1 with h1
 subst h1
 exact h2
theorem Zab.mono {B B':Nat} (hB:B<=B') {w:World} {ad:Option Addr} {ks:List ByteArray} (h:Zab B w ad ks):Zab B' w ad ks:=h.imp id fun ⟨b,o,e,hl,hc⟩=>⟨b,o,e,by omega,hc⟩
theorem Jd.mono {B B':Nat} (hB:B<=B') {w:World} {v:Value} {ps:List (ByteArray × Zi)} (h:Jd B w v ps):Jd B' w v ps:=by
 obtain ⟨Y,pc,e,h1,h2,h3⟩:=h
 refine ⟨Y,pc,e,h1,h2,h3.imp id fun ⟨bl,off,e,hl,hc⟩=>⟨bl,off,e,by omega,fun i q C=>?_⟩⟩
 obtain ⟨c0,hs,v0,v1,v2,v3,v4,v5,m9,hv⟩:=hc i q C
 exact ⟨c0,hs,v0,v1,v2,v3,v4,v5,m9,hv.mono hB⟩
theorem Ja.mono {B B':Nat} (hB:B<=B') {w:World} {v:Value} {n:Zo} (h:Ja B w v n):Ja B' w v n:=by
 obtain ⟨la,lc,Y,pc,e,hs,hk,hp⟩:=h
 exact ⟨la,lc,Y,pc,e,hs,hk.mono hB,hp.mono hB⟩
theorem Ji.mono {B B':Nat} (hB:B<=B') {w:World} {v:Value} {n:Jg} (h:Ji B w v n):Ji B' w v n:=by
 obtain ⟨Y,pc,e,hp⟩:=h
 exact ⟨Y,pc,e,hp.mono hB⟩
theorem Zgm {w:World} {base e k n g cap:Nat} {s:List (List Value)} (h:w.ownsRow base e k (.slice (some ⟨g,0,none⟩) n cap) n s.flatten) (hk:∀ c ∈ s,c.length=k) {i:Nat} {cs:List Value} (O:s[i]?=some cs) {q:Nat} {v:Value} (C:cs[q]?=some v):w.cell? ⟨g,i*k+q,none⟩=some v:=by
 have q6:=(List.getElem?_eq_some_iff.1 C).1
 have m6:=hk cs (List.mem_of_getElem? O)
 have:=h.cells (g:=g) rfl (i*k+q) v (by rw [Zyn s i q cs hk O (by omega)];exact C)
 have a4:(⟨g,0,none⟩:Addr).add (i*k+q)=⟨g,i*k+q,none⟩:=by unfold Addr.add;split<;>simp_all
 rwa [a4] at this
theorem Zyo {B base:Nat} {w w':World} {v:Value} {s:List (List Value)} {E:List Zo} (h:w'.ownsRow base 47 3 v E.length s.flatten) (hc:Css 3 (Ja B w) s E) (hb:Below B w w') (hB:B<=w'.heap.size):Jj w'.heap.size w' v E:=by
 have h':=h
 obtain ⟨g1,⟨g2,g3⟩ | ⟨g,cap,cur,g2,g3,g4,g5,g6,g7⟩⟩:=h
 ·have:E=[]:=List.eq_nil_of_length_eq_zero g3
  subst this
  exact ⟨none,0,g2,by simp,by omega,.inl rfl⟩
 ·subst g2
  refine ⟨_,cap,rfl,g5,by simp only [maxLen] at g6;omega,.inr ⟨g,0,rfl,(Array.getElem?_eq_some_iff.1 g4).1,fun i n O=>?_⟩⟩
  obtain ⟨cs,k1,k2,k3⟩:=hc.2 i n O
  obtain ⟨la,lc,Y,pc,e,hs,hk,hp⟩:=k3
  have e2:cs=[.int .i64 n.id,.slice la n.labels.length lc,.slice Y n.props.length pc]:=by
   injection e with e
   simpa using congrArg Array.toList e
  subst e2
  rw [Nat.zero_add]
  have U:=fun q v C=>Zgm h' hc.all k1 (q:=q) (v:=v) C
  exact ⟨la,lc,_,⟨U 0 _ rfl,U 1 _ rfl,U 2 _ rfl⟩,hs,(hk.below hb).mono hB,(Jd.below hb hp).mono hB⟩
theorem Jbi {B base:Nat} {w w':World} {v:Value} {s:List (List Value)} {E:List Jg} (h:w'.ownsRow base 49 5 v E.length s.flatten) (hc:Css 5 (Ji B w) s E) (hb:Below B w w') (hB:B<=w'.heap.size) (ht:∀ r ∈ E,r.type.size<=maxLen):Jt w'.heap.size w' v E:=by
 have h':=h
 obtain ⟨g1,⟨g2,g3⟩ | ⟨g,cap,cur,g2,g3,g4,g5,g6,g7⟩⟩:=h
 ·have:E=[]:=List.eq_nil_of_length_eq_zero g3
  subst this
  exact ⟨none,0,g2,by simp,by omega,.inl rfl⟩
 ·subst g2
  refine ⟨_,cap,rfl,g5,by simp only [maxLen] at g6;omega,.inr ⟨g,0,rfl,(Array.getElem?_eq_some_iff.1 g4).1,fun i n O=>?_⟩⟩
  obtain ⟨cs,k1,k2,k3⟩:=hc.2 i n O
  obtain ⟨Y,pc,e,hp⟩:=k3
  have e2:cs=[.int .i64 n.id,.int .i64 n.fr,.int .i64 n.tt,.string n.type,.slice Y n.props.length pc]:=by
   injection e with e
   simpa using congrArg Array.toList e
  subst e2
  rw [Nat.zero_add]
  have U:=fun q v C=>Zgm h' hc.all k1 (q:=q) (v:=v) C
  exact ⟨_,⟨U 0 _ rfl,U 1 _ rfl,U 2 _ rfl,U 3 _ rfl,U 4 _ rfl⟩,ht n (List.mem_of_getElem? O),(Jd.below hb hp).mono hB⟩
structure Zfb (B:Nat) (w:World) (N R:List (Int × Value)) (E:List Zo) (S:List Jg):Prop where
 nl:N.length<=2000000
 rl:R.length<=2000000
 no:E.map Zo.id=Zff (N.map Prod.fst)
 ro:S.map Jg.id=Zff (R.map Prod.fst)
 nu:Zhn N
 ru:Zhn R
 ne:∀ n ∈ E,∃ v,(n.id,v) ∈ N/\Ja B w v n
 re:∀ r ∈ S,∃ v,(r.id,v) ∈ R/\Ji B w v r
 ty:∀ r ∈ S,r.type.size<=maxLen
theorem Zfb.below {B:Nat} {w w':World} {N R:List (Int × Value)} {E:List Zo} {S:List Jg} (h:Zfb B w N R E S) (hb:Below B w w'):Zfb B w' N R E S :=
 ⟨h.nl,h.rl,h.no,h.ro,h.nu,h.ru,fun n hn=>by obtain ⟨v,h1,h2⟩:=h.ne n hn;exact ⟨v,h1,h2.below hb⟩,fun n hn=>by obtain ⟨v,h1,h2⟩:=h.re n hn;exact ⟨v,h1,h2.below hb⟩,h.ty⟩
theorem Zjn (l:List Int):(Zff l).length=l.length:=by unfold Zff;exact List.length_mergeSort _
theorem Zfb.nlen {B:Nat} {w:World} {N R:List (Int × Value)} {E:List Zo} {S:List Jg} (h:Zfb B w N R E S):E.length=N.length:=by
 have:=congrArg List.length h.no
 simpa [Zjn] using this
theorem Zfb.rlen {B:Nat} {w:World} {N R:List (Int × Value)} {E:List Zo} {S:List Jg} (h:Zfb B w N R E S):S.length=R.length:=by
 have:=congrArg List.length h.ro
 simpa [Zjn] using this
structure TlJ (w Q:World) (X:Nat) (nv rv:Value) (nn nr:Int) (wr:World):Prop where
 box:Rec wr X #[nv,rv,.int .i64 nn,.int .i64 nr] 25
 keep:Below w.heap.size w wr
 old:∀ i,i<Q.heap.size->i≠X->wr.heap[i]?=Q.heap[i]?
 sz:Q.heap.size<=wr.heap.size
def Jgl (w:World) (g:Zt) (e:Ending) (w':World):Prop:=∃ v,e=.returned v/\Zr w'.heap.size w' v g/\Below w.heap.size w w'
set_option maxRecDepth 100000 in
set_option maxHeartbeats 16000000 in
theorem Zsg {w:World} {p:GP} {nn nr:Int} {N R:List (Int × Value)} (h:PS w p nn nr N R) (B:Nat) (hB:B<=w.heap.size) (E:List Zo) (S:List Jg) (ht:Zfb B w N R E S) :
  Calls Tryz.prog 52 #[.pointer (some ⟨p.g,0,none⟩)] w (Jgl w ⟨E,S,nn,nr⟩):=by
 have HG:=Zb h
 have HT:=Zb ht
 have o0:Hid (∀ q ∈ N,I64 q.1):=by obtain ⟨_,_,_,_,h3,_⟩:=h.n;exact h3
 have n7:Hid (∀ q ∈ R,I64 q.1):=by obtain ⟨_,_,_,_,h3,_⟩:=h.r;exact h3
 have e1:=ht.nlen
 have e7:=ht.rlen
 have n4:=ht.nl
 have n5:=ht.rl
 obtain ⟨n,hn⟩:∃ n,E.length=n:=⟨_,rfl⟩
 obtain ⟨m,hm⟩:∃ m,S.length=m:=⟨_,rfl⟩
 rw [hn] at e1
 rw [hm] at e7
 have HN:=Zb hn
 have HM:=Zb hm
 have n2:=Zb e1
 have o7:=Zb e7
 have p6:n<=2000000:=by omega
 have s6:m<=2000000:=by omega
 clear h ht hn hm e1 e7
 go_enter Tryz.func52,Tryz.ntmps52
 go_upto_region 1 with fail
 generalize e0:World.alloc _ _=W1
 have h8:Hid (Below w.heap.size w W1):=by rw [<- e0];exact (Below.refl _ _).alloc (Nat.le_refl _) _
 have d4:Hid (Rec W1 w.heap.size #[.slice none 0 0,.slice none 0 0,.int .i64 0,.int .i64 0] 25):=by rw [<- e0];exact Zl _ _ _
 have a8:=Zb (HG.out.below h8.out)
 clear e0
 show (Code.region 1 Zsv true).wp _ _ _ _
 refine Zuw p nn nr W1.heap.size _ _ _ rfl ⟨rfl⟩ ?_ ?_
 ·intro W hW
  exact ⟨(hW.cell (p:=⟨p.g,2,none⟩) a8.out.lt).trans a8.out.c2,(hW.cell (p:=⟨p.g,3,none⟩) a8.out.lt).trans a8.out.c3,hW.size⟩
 rintro c W2 hS j8 l5 ⟨X,e3,hX,g8⟩
 obtain ⟨W3,d6,c7⟩:=Jdc c.eval X W2 _ _ _ _ nn nr g8 e3 l5
 refine ⟨W3,d6,?_⟩
 clear d6
 rw [Zba hS [8,9,10,11,12,13,14,15,16,3] (by kernel_rfl)]
 obtain ⟨y8,q8⟩:∃ y,c.eval (.tmp 8)=y:=⟨_,rfl⟩
 obtain ⟨y9,q9⟩:∃ y,c.eval (.tmp 9)=y:=⟨_,rfl⟩
 obtain ⟨s1,h9⟩:∃ y,c.eval (.tmp 10)=y:=⟨_,rfl⟩
 obtain ⟨t4,g9⟩:∃ y,c.eval (.tmp 11)=y:=⟨_,rfl⟩
 obtain ⟨r4,k5⟩:∃ y,c.eval (.tmp 12)=y:=⟨_,rfl⟩
 obtain ⟨r9,m1⟩:∃ y,c.eval (.tmp 13)=y:=⟨_,rfl⟩
 obtain ⟨r8,j7⟩:∃ y,c.eval (.tmp 14)=y:=⟨_,rfl⟩
 obtain ⟨t1,i6⟩:∃ y,c.eval (.tmp 15)=y:=⟨_,rfl⟩
 obtain ⟨t6,m5⟩:∃ y,c.eval (.tmp 16)=y:=⟨_,rfl⟩
 obtain ⟨y3,q3⟩:∃ y,c.eval (.tmp 3)=y:=⟨_,rfl⟩
 simp only [List.foldl_cons,List.foldl_nil,q8,q9,h9,g9,k5,m1,j7,i6,m5,q3]
 rw [e3] at q3
 subst q3
 clear q8 q9 h9 g9 k5 m1 j7 i6 m5
 simp only [List.setIfInBounds_toArray,List.set_cons_succ,List.set_cons_zero]
 clear e3 l5 hS
 have o6:w.heap.size<W1.heap.size:=d4.out.lt
 have d3:Hid (Below W1.heap.size W1 W3):=j8.trans (c7.below.mono hX)
 have d0:=Zb c7.r
 have d1:=Zb (a8.out.below d3.out)
 have e6:=Zb (d4.out.below d3.out d4.out.lt)
 clear c7 g8 j8 a8 d4
 have c0:=d1.out.c0
 have i1:=Zb (Zne d1.out.n n4)
 go_wp2_with fail
 refine i1.out.mono ?_
 rintro e Q ⟨v4,rfl,a6,c8⟩
 rw [<- n2.out] at a6
 obtain ⟨va,vc,hv⟩:=Jn a6
 subst hv
 have o1:=Zb a6
 have f5:n<=vc/\vc<=9223372036854775807:=by
  rcases a6.2 with ⟨h1,h0⟩ | ⟨D,gc,cur,h1,_,_,r1,r2,_⟩
  ·injection h1 with _ _ h3;omega
  ·injection h1 with _ _ h3;subst h3;exact ⟨r1,by unfold maxLen at r2;omega⟩
 obtain ⟨o9,o8⟩:=f5
 have P:=Zb (d1.out.below c8)
 have i8:=Zb (d0.out.below c8 d0.out.lt)
 have k7:=Zb (e6.out.below c8 e6.out.lt)
 have f9:X<Q.heap.size:=i8.out.lt
 have l2:Hid (Below w.heap.size w Q):=h8.out.trans ((d3.out.mono (by omega)).trans (c8.mono (by have:=d3.out.size;omega)))
 have p0:Hid (∀ i,i<w.heap.size->i≠X):=fun i O=>by omega
 have m7:Hid (∀ q,(Value.slice va n vc).ownBlock=some q->q≠X/\q<Q.heap.size):=fun q C=>⟨fun e=>by have:=(a6.lt q C).1;have:=d0.out.lt;omega,(a6.lt q C).2⟩
 clear a6 c8 c0 i1 d1 d0 e6
 have r6:w.heap.size<X:=by omega
 clear hX o6
 go_wp2_with fail
 go_loopw [23] (fun i wr=>∃ (j:Nat) (SV:Value) (s:List (List Value)),j<=n/\i=.int .i64 j/\TlJ w Q X SV (.slice none 0 0) nn nr wr/\wr.ownsRow Q.heap.size 47 3 SV j s.flatten/\Css 3 (Ja B w) s (E.take j)) (fun i _=>n - (intOf i).toNat)
 case atStart=>exact ⟨0,.slice none 0 0,[],Nat.zero_le _,rfl,⟨i8.out,l2.out,fun _ _ _=>rfl,Nat.le_refl _⟩,World.ownsRow_nil _ _ _ _,Zh1⟩
 case round =>
  obtain ⟨j,SV,s,hj,rfl,a9,t,a2⟩:=hrel
  have f:=Zb a9
  have T:=Zb t
  have a5:=Zb a2
  clear a9 t a2
  by_cases hlt:j<n
  ·have b9:(j:Int)<n:=by omega
   obtain ⟨x,hx⟩:∃ q,E[j]?=some q:=⟨_,List.getElem?_eq_getElem (by have:=HN.out;omega)⟩
   have HX:=Zb hx
   obtain ⟨xv,F,H⟩:=HT.out.ne x (List.mem_of_getElem? hx)
   have b7:=Zb H
   obtain ⟨la,lc,Y,pc,rfl,o3,n6,d9⟩:=H
   clear o3 n6 d9
   have c6:Hid (∀ W,MI W p.n N->(Instr.lookup 68 (.map (some p.n)) (.int .i64 x.id) false).run Tryz.prog W=.ok (.agg #[.int .i64 x.id,.slice la x.labels.length lc,.slice Y x.props.length pc]) W):=fun W hW =>
    (Zk7 (z:=.agg #[.int .i64 0,.slice none 0 0,.slice none 0 0]) Tryz.underlying68' hW x.id _ (o0.out _ F) F (fun q C e=>HT.out.nu q C _ F e)).2
   have b5:∃ D,va=some ⟨D,0,none⟩/\Q.cell? ⟨D,j,none⟩=some (.int .i64 x.id)/\D≠X/\D<Q.heap.size:=by
    have h':=o1.out
    rcases h'.2 with ⟨h1,h0⟩ | ⟨D,gc,cur,h1,_⟩
    ·omega
    ·injection h1 with h1 _ h3
     subst h1
     refine ⟨D,rfl,?_,m7.out D rfl⟩
     have:=h'.cells (g:=D) rfl j (.int .i64 x.id) (by rw [<- HT.out.no,List.map_map,List.getElem?_map,hx];rfl)
     have a4:(⟨D,0,none⟩:Addr).add j=⟨D,j,none⟩:=by unfold Addr.add;split<;>simp_all
     rwa [a4] at this
   obtain ⟨D,rfl,c4,f6,e5⟩:=b5
   have b4:wr.cell? ⟨D,j,none⟩=some (.int .i64 x.id):=(World.cell?_of_block (a:=⟨D,j,none⟩) (f.out.old D e5 f6)).trans c4
   clear hx F c4
   obtain ⟨xi,xl,xp⟩:=x
   simp only at b4 c6 b7
   go_upto_region 5 with fail
   clear b4
   have b8:Hid (∀ W,wr.grownBy W SV.ownBlock->(∀ i,i<Q.heap.size->W.heap[i]?=wr.heap[i]?)/\(∀ q,SV.ownBlock=some q->q<W.heap.size)):=fun W hg =>
    ⟨fun i O=>hg.block i (by have:=f.out.sz;omega) fun e=>by have:=(T.out.lt i e.symm).1;omega,fun q C=>by have h1:=(T.out.lt q C).2;have h2:=hg.size;omega⟩
   have e4:Hid (MI wr p.n N):=P.out.n.block (f.out.old _ P.out.n.lt (by have:=HG.out.n.lt;omega))
   have b6:Hid (wr.heap[p.g]?=Q.heap[p.g]?):=f.out.old _ P.out.lt (by have:=HG.out.lt;omega)
   show (Code.region 5 Zj4 true).wp _ _ _ _
   refine Zys SV.ownBlock wr p xi X Q.heap.size SV j s.flatten xi la xl.length lc Y xp.length pc _ _ rfl ⟨rfl,rfl,rfl⟩ ?_ ?_ ?_
   ·intro W hW
    obtain ⟨k1,k3⟩:=b8.out W hW
    exact ⟨(World.cell?_of_block (a:=⟨X,0,none⟩) (k1 _ f9)).trans (f.out.box.cell 0 rfl),Jn T.out,(World.cell?_of_block (a:=⟨p.g,0,none⟩) ((k1 _ P.out.lt).trans b6.out)).trans P.out.c0,c6.out W (e4.out.block (k1 _ P.out.n.lt)),k3⟩
   ·intro W hW
    exact ⟨Zkh T.out fun q C=>hW.block q (T.out.lt q C).2,by omega,by have:=hW.size;have:=f.out.sz;omega,rfl,hW.size⟩
   rintro c W5 hS I ⟨t,K,M,k9⟩ o4
   rw [k9] at t
   obtain ⟨k1,k3⟩:=b8.out W5 I
   have G:=f.out.box.keep (k1 _ f9)
   have x0:=G.cell 0 rfl
   have z0:=G.z 0
   obtain ⟨sa,sc,a0⟩:=Jn T.out
   rw [a0] at x0
   refine ⟨W5.setCell ⟨X,0,none⟩ (.slice K (j+1) M),?_,?_⟩
   ·generalize c.eval=ρ at *
    clear hS t I k1 k3 G a0
    go_simp
   rw [Zba hS [27,28,29,30,31,32,33,34,35,36,37] (by kernel_rfl)]
   obtain ⟨r5,l9⟩:∃ y,c.eval (.tmp 27)=y:=⟨_,rfl⟩
   obtain ⟨q5,j1⟩:∃ y,c.eval (.tmp 28)=y:=⟨_,rfl⟩
   obtain ⟨p7,i3⟩:∃ y,c.eval (.tmp 29)=y:=⟨_,rfl⟩
   obtain ⟨s8,i2⟩:∃ y,c.eval (.tmp 30)=y:=⟨_,rfl⟩
   obtain ⟨p8,l0⟩:∃ y,c.eval (.tmp 31)=y:=⟨_,rfl⟩
   obtain ⟨r0,h4⟩:∃ y,c.eval (.tmp 32)=y:=⟨_,rfl⟩
   obtain ⟨t5,m0⟩:∃ y,c.eval (.tmp 33)=y:=⟨_,rfl⟩
   obtain ⟨p4,j5⟩:∃ y,c.eval (.tmp 34)=y:=⟨_,rfl⟩
   obtain ⟨r3,j0⟩:∃ y,c.eval (.tmp 35)=y:=⟨_,rfl⟩
   obtain ⟨s0,l1⟩:∃ y,c.eval (.tmp 36)=y:=⟨_,rfl⟩
   obtain ⟨s5,h7⟩:∃ y,c.eval (.tmp 37)=y:=⟨_,rfl⟩
   simp only [List.foldl_cons,List.foldl_nil,l9,j1,i3,i2,l0,h4,m0,j5,j0,l1,h7]
   clear l9 j1 i3 i2 l0 h4 m0 j5 j0 l1 h7
   simp only [List.setIfInBounds_toArray,List.set_cons_succ,List.set_cons_zero]
   clear hS k9 o4 x0 z0
   have f3:Hid (TlJ w Q X (.slice K (j+1) M) (.slice none 0 0) nn nr (W5.setCell ⟨X,0,none⟩ (.slice K (j+1) M))):=by
    refine ⟨?_,?_,?_,?_⟩
    ·simpa using G.set 0 (.slice K (j+1) M)
    ·exact (f.out.keep.trans (Zqp I (fun q C=>by have:=(T.out.lt q C).1;have:=l2.out.size;omega) f.out.keep.size)).setCell (p:=⟨X,0,none⟩) (by show w.heap.size<=X;omega) _
    ·exact fun i h1 h2=>(Below.heap_setCell _ _ _ _ h2).trans ((k1 i h1).trans (f.out.old i h1 h2))
    ·have h1:=I.size
     have h2:=f.out.sz
     have h3:(W5.setCell ⟨X,0,none⟩ (.slice K (j+1) M)).heap.size=W5.heap.size:=by simp
     omega
   have f1:Hid ((W5.setCell ⟨X,0,none⟩ (.slice K (j+1) M)).ownsRow Q.heap.size 47 3 (.slice K (j+1) M) (j+1) (s++([[.int .i64 xi,.slice la xl.length lc,.slice Y xp.length pc]]:List (List Value))).flatten):=by
    show World.ownsRow _ _ _ _ _ _ _
    rw [List.flatten_append]
    exact Jf (by simpa using t) fun g hg _=>Below.heap_setCell _ _ _ _ (by show g≠X;omega)
   have e9:Hid (Css 3 (Ja B w) (s++([[.int .i64 xi,.slice la xl.length lc,.slice Y xp.length pc]]:List (List Value))) (E.take (j+1))):=a5.out.step HX.out rfl b7.out
   generalize W5.setCell ⟨X,0,none⟩ (.slice K (j+1) M)=W6 at *
   clear t G I k1 k3 a0
   go_wp2_with fail
   go_roundw
   case rel=>exact ⟨j+1,_,_,by omega,by go_num,f3.out,f1.out,e9.out⟩
   case measure=>simp [intOf];omega
  ·have b9:¬ (j:Int)<n:=by omega
   have h5:j=n:=by omega
   have n9:Hid (Css 3 (Ja B w) s E):=by
    have:=a5.out
    rwa [List.take_of_length_le (by have:=HN.out;omega)] at this
   have k0:Hid (wr.ownsRow Q.heap.size 47 3 SV n s.flatten):=by rw [<- h5];exact T.out
   have i7:=P.out.lt
   have f2:p.g≠X:=by have:=HG.out.lt;omega
   have m4:p.r≠X:=by have:=HG.out.r.lt;omega
   have c1:wr.cell? ⟨p.g,1,none⟩=some (.map (some p.r)):=(World.cell?_of_block (a:=⟨p.g,1,none⟩) (f.out.old _ i7 f2)).trans P.out.c1
   have e8:=Zb (P.out.r.block (f.out.old _ P.out.r.lt m4))
   have f0:=Zb (k7.out.keep (f.out.old _ k7.out.lt (by omega)))
   have b6:Hid (wr.heap[p.g]?=Q.heap[p.g]?):=f.out.old _ i7 f2
   clear a5 T h5
   have m3:=Zb (Znf e8.out n5)
   go_wp2_with fail
   refine m3.out.mono ?_
   rintro e w6 ⟨v6,rfl,a7,a1⟩
   rw [<- o7.out] at a7
   obtain ⟨ta,tc,hv⟩:=Jn a7
   subst hv
   have f1:=Zb a7
   have f4:m<=tc/\tc<=9223372036854775807:=by
    rcases a7.2 with ⟨h1,h0⟩ | ⟨D,gc,cur,h1,_,_,r1,r2,_⟩
    ·injection h1 with _ _ h3;omega
    ·injection h1 with _ _ h3;subst h3;exact ⟨r1,by unfold maxLen at r2;omega⟩
   obtain ⟨p1,p2⟩:=f4
   have n8:=Zb (f.out.box.below a1 f.out.box.lt)
   have k6:=Zb (Jf k0.out fun g _ hg=>a1.block g hg)
   have j9:=Zb (f0.out.below a1 f0.out.lt)
   have c5:=Zb (e8.out.below a1 (Nat.le_refl _))
   have p9:X<wr.heap.size:=f.out.box.lt
   have n1:p.g<wr.heap.size:=by have:=f.out.sz;omega
   have m2:Hid (w6.cell? ⟨p.g,1,none⟩=some (.map (some p.r))):=(a1.cell (p:=⟨p.g,1,none⟩) n1).trans c1
   have l6:Hid (Below w.heap.size w w6):=f.out.keep.trans (a1.mono f.out.keep.size)
   have s7:Q.heap.size<=wr.heap.size:=f.out.sz
   have t3:wr.heap.size<=w6.heap.size:=a1.size
   have h6:Hid (∀ q,(Value.slice ta m tc).ownBlock=some q->q≠X/\q<w6.heap.size):=fun q C=>⟨fun e=>by have:=(a7.lt q C).1;omega,(a7.lt q C).2⟩
   clear a7 a1 m3 c1 f0 k0 e8 b6
   go_wp2_with fail
   go_loopw [45] (fun i wr=>∃ (j:Nat) (RV:Value) (a3:List (List Value)),j<=m/\i=.int .i64 j/\TlJ w w6 X SV RV nn nr wr/\wr.ownsRow w6.heap.size 49 5 RV j a3.flatten/\Css 5 (Ji B w) a3 (S.take j)) (fun i _=>m - (intOf i).toNat)
   case atStart=>exact ⟨0,.slice none 0 0,[],Nat.zero_le _,rfl,⟨n8.out,l6.out,fun _ _ _=>rfl,Nat.le_refl _⟩,World.ownsRow_nil _ _ _ _,Zh1⟩
   case round =>
    clear f
    obtain ⟨j,RV,a3,hj,rfl,a9,t,a2⟩:=hrel
    have f:=Zb a9
    have T:=Zb t
    have a5:=Zb a2
    clear a9 t a2
    by_cases hlt:j<m
    ·have b9:(j:Int)<m:=by omega
     obtain ⟨x,hx⟩:∃ q,S[j]?=some q:=⟨_,List.getElem?_eq_getElem (by have:=HM.out;omega)⟩
     have HX:=Zb hx
     obtain ⟨xv,F,H⟩:=HT.out.re x (List.mem_of_getElem? hx)
     have b7:=Zb H
     obtain ⟨Y,pc,rfl,d9⟩:=H
     clear d9
     have c6:Hid (∀ W,MI W p.r R->(Instr.lookup 69 (.map (some p.r)) (.int .i64 x.id) false).run Tryz.prog W=.ok (.agg #[.int .i64 x.id,.int .i64 x.fr,.int .i64 x.tt,.string x.type,.slice Y x.props.length pc]) W):=fun W hW =>
      (Zk7 (z:=.agg #[.int .i64 0,.int .i64 0,.int .i64 0,.string ⟨#[]⟩,.slice none 0 0]) Tryz.underlying69' hW x.id _ (n7.out _ F) F (fun q C e=>HT.out.ru q C _ F e)).2
     have b5:∃ D,ta=some ⟨D,0,none⟩/\w6.cell? ⟨D,j,none⟩=some (.int .i64 x.id)/\D≠X/\D<w6.heap.size:=by
      have h':=f1.out
      rcases h'.2 with ⟨h1,h0⟩ | ⟨D,gc,cur,h1,_⟩
      ·omega
      ·injection h1 with h1 _ h3
       subst h1
       refine ⟨D,rfl,?_,h6.out D rfl⟩
       have:=h'.cells (g:=D) rfl j (.int .i64 x.id) (by rw [<- HT.out.ro,List.map_map,List.getElem?_map,hx];rfl)
       have a4:(⟨D,0,none⟩:Addr).add j=⟨D,j,none⟩:=by unfold Addr.add;split<;>simp_all
       rwa [a4] at this
     obtain ⟨D,rfl,c4,f6,e5⟩:=b5
     have b4:wr.cell? ⟨D,j,none⟩=some (.int .i64 x.id):=(World.cell?_of_block (a:=⟨D,j,none⟩) (f.out.old D e5 f6)).trans c4
     clear hx F c4
     obtain ⟨xi,fr,tt,ty,xp⟩:=x
     simp only at b4 c6 b7
     go_upto_region 10 with fail
     clear b4
     have b8:Hid (∀ W,wr.grownBy W RV.ownBlock->(∀ i,i<w6.heap.size->W.heap[i]?=wr.heap[i]?)/\(∀ q,RV.ownBlock=some q->q<W.heap.size)):=fun W hg =>
      ⟨fun i O=>hg.block i (by have:=f.out.sz;omega) fun e=>by have:=(T.out.lt i e.symm).1;omega,fun q C=>by have h1:=(T.out.lt q C).2;have h2:=hg.size;omega⟩
     have e4:Hid (MI wr p.r R):=c5.out.block (f.out.old _ c5.out.lt m4)
     have b6:Hid (wr.heap[p.g]?=w6.heap[p.g]?):=f.out.old _ (by omega) f2
     show (Code.region 10 Zdi true).wp _ _ _ _
     refine Zt6 RV.ownBlock wr p xi X w6.heap.size RV j a3.flatten xi fr tt ty Y xp.length pc _ _ rfl ⟨rfl,rfl,rfl⟩ ?_ ?_ ?_
     ·intro W hW
      obtain ⟨k1,k3⟩:=b8.out W hW
      exact ⟨(World.cell?_of_block (a:=⟨X,1,none⟩) (k1 X (by omega))).trans (f.out.box.cell 1 rfl),Jn T.out,(World.cell?_of_block (a:=⟨p.g,1,none⟩) ((k1 p.g (by omega)).trans b6.out)).trans m2.out,c6.out W (e4.out.block (k1 _ c5.out.lt)),k3⟩
     ·intro W hW
      exact ⟨Zkh T.out fun q C=>hW.block q (T.out.lt q C).2,by omega,by have:=hW.size;have:=f.out.sz;omega,rfl,hW.size⟩
     rintro c W5 hS I ⟨t,K,M,j2⟩ n3
     rw [j2] at t
     obtain ⟨k1,k3⟩:=b8.out W5 I
     have G:=f.out.box.keep (k1 X (by omega))
     have x0:=G.cell 1 rfl
     have z0:=G.z 1
     obtain ⟨sa,sc,a0⟩:=Jn T.out
     rw [a0] at x0
     refine ⟨W5.setCell ⟨X,1,none⟩ (.slice K (j+1) M),?_,?_⟩
     ·generalize c.eval=ρ at *
      clear hS t I k1 k3 G a0
      go_simp
     rw [Zba hS [49,50,51,52,53,54,55,56,57,58,59] (by kernel_rfl)]
     obtain ⟨t0,j6⟩:∃ y,c.eval (.tmp 49)=y:=⟨_,rfl⟩
     obtain ⟨s2,i5⟩:∃ y,c.eval (.tmp 50)=y:=⟨_,rfl⟩
     obtain ⟨q7,j4⟩:∃ y,c.eval (.tmp 51)=y:=⟨_,rfl⟩
     obtain ⟨p5,i4⟩:∃ y,c.eval (.tmp 52)=y:=⟨_,rfl⟩
     obtain ⟨q4,f8⟩:∃ y,c.eval (.tmp 53)=y:=⟨_,rfl⟩
     obtain ⟨s9,l3⟩:∃ y,c.eval (.tmp 54)=y:=⟨_,rfl⟩
     obtain ⟨s3,l8⟩:∃ y,c.eval (.tmp 55)=y:=⟨_,rfl⟩
     obtain ⟨r7,g0⟩:∃ y,c.eval (.tmp 56)=y:=⟨_,rfl⟩
     obtain ⟨s4,f7⟩:∃ y,c.eval (.tmp 57)=y:=⟨_,rfl⟩
     obtain ⟨t2,l7⟩:∃ y,c.eval (.tmp 58)=y:=⟨_,rfl⟩
     obtain ⟨p3,j3⟩:∃ y,c.eval (.tmp 59)=y:=⟨_,rfl⟩
     simp only [List.foldl_cons,List.foldl_nil,j6,i5,j4,i4,f8,l3,l8,g0,f7,l7,j3]
     clear j6 i5 j4 i4 f8 l3 l8 g0 f7 l7 j3
     simp only [List.setIfInBounds_toArray,List.set_cons_succ,List.set_cons_zero]
     clear hS j2 n3 x0 z0
     have f3:Hid (TlJ w w6 X SV (.slice K (j+1) M) nn nr (W5.setCell ⟨X,1,none⟩ (.slice K (j+1) M))):=by
      refine ⟨?_,?_,?_,?_⟩
      ·simpa using G.set 1 (.slice K (j+1) M)
      ·exact (f.out.keep.trans (Zqp I (fun q C=>by have:=(T.out.lt q C).1;have:=l6.out.size;omega) f.out.keep.size)).setCell (p:=⟨X,1,none⟩) (by show w.heap.size<=X;omega) _
      ·exact fun i h1 h2=>(Below.heap_setCell _ _ _ _ h2).trans ((k1 i h1).trans (f.out.old i h1 h2))
      ·have h1:=I.size
       have h2:=f.out.sz
       have h3:(W5.setCell ⟨X,1,none⟩ (.slice K (j+1) M)).heap.size=W5.heap.size:=by simp
       omega
     have o5:Hid ((W5.setCell ⟨X,1,none⟩ (.slice K (j+1) M)).ownsRow w6.heap.size 49 5 (.slice K (j+1) M) (j+1) (a3++([[.int .i64 xi,.int .i64 fr,.int .i64 tt,.string ty,.slice Y xp.length pc]]:List (List Value))).flatten):=by
      show World.ownsRow _ _ _ _ _ _ _
      rw [List.flatten_append]
      exact Jf (by simpa using t) fun g hg _=>Below.heap_setCell _ _ _ _ (by show g≠X;omega)
     have e9:Hid (Css 5 (Ji B w) (a3++([[.int .i64 xi,.int .i64 fr,.int .i64 tt,.string ty,.slice Y xp.length pc]]:List (List Value))) (S.take (j+1))):=a5.out.step HX.out rfl b7.out
     generalize W5.setCell ⟨X,1,none⟩ (.slice K (j+1) M)=W6 at *
     clear t G I k1 k3 a0
     go_wp2_with fail
     go_roundw
     case rel=>exact ⟨j+1,_,_,by omega,by go_num,f3.out,o5.out,e9.out⟩
     case measure=>simp [intOf];omega
    ·have b9:¬ (j:Int)<m:=by omega
     have l4:j=m:=by omega
     have o2:Hid (Css 5 (Ji B w) a3 S):=by
      have:=a5.out
      rwa [List.take_of_length_le (by have:=HM.out;omega)] at this
     have i9:Hid (wr.ownsRow w6.heap.size 49 5 RV m a3.flatten):=by rw [<- l4];exact T.out
     have d8:Hid (wr.ownsRow Q.heap.size 47 3 SV n s.flatten):=Jf k6.out fun g hg hl=>f.out.old g hl (by omega)
     have V:=Zb (j9.out.keep (f.out.old _ j9.out.lt (by omega)))
     obtain ⟨sa,sc,a0⟩:=Jn d8.out
     obtain ⟨K,M,m8⟩:=Jn i9.out
     subst a0 m8
     clear a5 T l4
     have x0:=f.out.box.cell 0 rfl
     have x1:=f.out.box.cell 1 rfl
     have x2:=f.out.box.cell 2 rfl
     have x3:=f.out.box.cell 3 rfl
     have b0:=V.out.cell 0 rfl
     have b1:=V.out.cell 1 rfl
     have b2:=V.out.cell 2 rfl
     have b3:=V.out.cell 3 rfl
     have y0:=V.out.z 0
     have y1:=V.out.z 1
     have y2:=V.out.z 2
     have y3:=V.out.z 3
     go_wp2_with fail
     generalize c9:World.setCell _ _ _=W9
     have d2:Hid (Rec W9 w.heap.size #[.slice sa n sc,.slice K m M,.int .i64 nn,.int .i64 nr] 25):=by rw [<- c9];exact (((V.out.set 0 _).set 1 _).set 2 _).set 3 _
     have d5:Hid (Below w.heap.size w W9):=by rw [<- c9];exact (((f.out.keep.setCell (Nat.le_refl _) _).setCell (Nat.le_refl _) _).setCell (Nat.le_refl _) _).setCell (Nat.le_refl _) _
     have i0:Hid (∀ g,g≠w.heap.size->W9.heap[g]?=wr.heap[g]?):=fun g hg=>by
      rw [<- c9]
      exact (Below.heap_setCell _ _ _ _ hg).trans ((Below.heap_setCell _ _ _ _ hg).trans ((Below.heap_setCell _ _ _ _ hg).trans (Below.heap_setCell _ _ _ _ hg)))
     clear c9
     have q0:=d2.out.cell 0 rfl
     have q1:=d2.out.cell 1 rfl
     have q2:=d2.out.cell 2 rfl
     have q3:=d2.out.cell 3 rfl
     have k8:B<=W9.heap.size:=by have:=d5.out.size;omega
     have n0:Hid (Zr W9.heap.size W9 (.agg #[.slice sa n sc,.slice K m M,.int .i64 nn,.int .i64 nr]) ⟨E,S,nn,nr⟩):=by
      refine ⟨sa,sc,K,M,by simp only [HN.out,HM.out],?_,?_⟩
      ·simp only [HN.out]
       refine Zyo (base:=Q.heap.size) ?_ n9.out (d5.out.mono hB) k8
       rw [HN.out]
       exact Jf d8.out fun g hg _=>i0.out g (by omega)
      ·simp only [HM.out]
       refine Jbi (base:=w6.heap.size) ?_ o2.out (d5.out.mono hB) k8 HT.out.ty
       rw [HM.out]
       exact Jf i9.out fun g hg _=>i0.out g (by omega)
     refine bodyPost_ret (v:=.agg #[.slice sa n sc,.slice K m M,.int .i64 nn,.int .i64 nr]) ?_ rfl ⟨_,rfl,n0.out,d5.out⟩
     simp [results,Tryz.results52,go_sem,q0,q1,q2,q3]
