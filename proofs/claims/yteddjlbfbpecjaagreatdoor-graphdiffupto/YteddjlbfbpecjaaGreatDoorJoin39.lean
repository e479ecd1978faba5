import Derived.Test.YteddjlbfbpecjaaGreatDoorJoin38
namespace Go.Proofs.YteddjlbfbpecjaaGreatDoor
set_option linter.all false
section
open Go.RowKit Go.Shelf
attribute [local go_sem] Oper.semAt_some
theorem Zf8 {α:Type} {key:α->Int} {a b:List α} {j:Nat} {x:α} (h:a[j]?=some x):Jr key (a.take (j+1)) b=Jr key (a.take j) b++if (b.any fun y=>key y==key x)=true then [] else [key x]:=by
 unfold Jr
 rw [List.take_add_one,h,List.filter_append,List.map_append]
 congr 1
 cases hh:(b.any fun y=>key y==key x)<;>simp [hh]
theorem Zer {α:Type} {key:α->Int} {same:α->α->Bool} {a b:List α} {j:Nat} {y:α} (h:b[j]?=some y):Zbu key same a (b.take (j+1))=Zbu key same a (b.take j)++if (a.any fun x=>key x==key y&&same x y)=true then [] else [y]:=by
 unfold Zbu
 rw [List.take_add_one,h,List.filter_append]
 congr 1
 cases hh:(a.any fun x=>key x==key y&&same x y)<;>simp [hh]
theorem Zv8 {α:Type} {key:α->Int} {same:α->α->Bool} {a:List α} (ha:(a.map key).Pairwise (·<·)) {x y:α} (hx:x ∈ a) (he:key x=key y):(a.any fun z=>key z==key y&&same z y)=same x y:=by
 cases hs:same x y with
 | true=>exact List.any_eq_true.2 ⟨x,hx,by simp [he,hs]⟩
 | false =>
  rw [List.any_eq_false]
  intro z hz h
  simp only [Bool.and_eq_true,beq_iff_eq] at h
  rw [Zgg ha hz hx (h.1.trans he.symm),hs] at h
  simp at h
theorem Zra {α:Type} {key:α->Int} {same:α->α->Bool} {a:List α} {y:α} (h:(a.any fun z=>key z==key y)=false):(a.any fun z=>key z==key y&&same z y)=false:=by
 rw [List.any_eq_false] at h |-
 intro z hz hh
 rw [Bool.and_eq_true] at hh
 exact h z hz hh.1
theorem Zkk {α:Type} (key:α->Int) (a b:List α) (j:Nat) (f:Int->Zs) (pre:List Zs):(pre++(Jr key (a.take j) b).map f).length<=pre.length+a.length:=by
 have h1:=Za3 key (a.take j) b
 rw [List.length_take] at h1
 rw [List.length_append,List.length_map];omega
theorem Znn {α:Type} (key:α->Int) (same:α->α->Bool) (a b:List α) (j:Nat) (f:α->Zs) (pre:List Zs):(pre++(Zbu key same a (b.take j)).map f).length<=pre.length+b.length:=by
 have h1:=Zbr key same a (b.take j)
 rw [List.length_take] at h1
 rw [List.length_append,List.length_map];omega
set_option maxRecDepth 100000 in
set_option maxHeartbeats 32000000 in
theorem Zv9 (a b:Zt) (v u:Value) (w:World) (hg:Zr w.heap.size w v a) (ho:Zr w.heap.size w u b) (ha:GF 60 a) (hb:GF 60 b) (k8:(a.nodes.map Zo.id).Pairwise (·<·)) (l2:(a.rels.map Jg.id).Pairwise (·<·)) :
  Calls Tryz.prog 23 #[v,u] w fun e w'=>∃ v',e=.returned v'/\Zdw w.heap.size w' v' (Zc4 a b)/\Below w.heap.size w w':=by
 have l3:=Zb ho.types
 have k6:=Zb (And.intro k8 l2)
 have e6:=Zb (And.intro (And.intro ha.nl ha.rl) (And.intro hb.nl hb.rl))
 have h3:=Zb (fun W (hb:Below w.heap.size w W) id=>Zkj b id w.heap.size u W hb.size (ho.below hb))
 have i2:=Zb (fun W (hb:Below w.heap.size w W) id=>Zix b id w.heap.size u W hb.size (ho.below hb))
 have h9:=Zb (fun W (hb:Below w.heap.size w W) id=>Zix a id w.heap.size v W hb.size (hg.below hb))
 have g3:=Zb (fun W (hb:Below w.heap.size w W) id=>Zkj a id w.heap.size v W hb.size (hg.below hb))
 obtain ⟨na,nc,ra,rc,rfl,k0,l1⟩:=hg
 obtain ⟨e7,d9,e8,c6,rfl,k1,k2⟩:=ho
 have e4:=Zb (And.intro (And.intro k0 l1) (And.intro k1 k2))
 clear k0 l1 k1 k2 ha hb k8 l2
 generalize k3:a.nodes.length=nl at h9 g3 e4 e6 |-
 generalize j5:a.rels.length=rl at h9 g3 e4 e6 |-
 generalize j4:a.nn=nn at h9 g3 |-
 generalize j7:a.nr=nr at h9 g3 |-
 generalize i9:b.nodes.length=nl2 at h3 i2 e4 e6 |-
 generalize i6:b.rels.length=rl2 at h3 i2 e4 e6 |-
 generalize i7:b.nn=nn2 at h3 i2 |-
 generalize i8:b.nr=nr2 at h3 i2 |-
 have f0:=Zb (And.intro (And.intro j4 j7) (And.intro i7 i8))
 have b4:=Zb k3
 have a9:=Zb j5
 have V:=Zb i9
 have X:=Zb i6
 clear k3 j5 j4 j7 i9 i6 i7 i8
 go_enter Tryz.func23,Tryz.ntmps23
 go_upto_region 1 with fail
 generalize t:World.alloc _ _=W1
 have B:Hid (Below w.heap.size w W1):=by rw [<- t];exact ((Below.refl _ _).alloc (Nat.le_refl _) _).alloc (by simp) _
 have h5:=(Zl w #[.slice na nl nc,.slice ra rl rc,.int .i64 nn,.int .i64 nr] 25).alloc (.cells #[.slice e7 nl2 d9,.slice e8 rl2 c6,.int .i64 nn2,.int .i64 nr2] 25)
 have g0:=Zl (w.alloc (.cells #[.slice na nl nc,.slice ra rl rc,.int .i64 nn,.int .i64 nr] 25)) #[.slice e7 nl2 d9,.slice e8 rl2 c6,.int .i64 nn2,.int .i64 nr2] 25
 rw [t] at h5 g0
 rw [World.size_alloc] at g0
 obtain ⟨A,hA⟩:∃ A,w.heap.size=A:=⟨_,rfl⟩
 rw [hA] at h5 g0
 rw [show (some ({ block:=w.heap.size,off:=0 }:Addr))=some ⟨A,0,none⟩ by rw [hA],show (some ({ block:=w.heap.size+1,off:=0 }:Addr))=some ⟨A+1,0,none⟩ by rw [hA]]
 have HX:Hid (∀ W,Below W1.heap.size W1 W->(W.cell? ⟨A,0,none⟩=some (.slice na nl nc)/\W.cell? ⟨A,1,none⟩=some (.slice ra rl rc)/\W.cell? ⟨A,2,none⟩=some (.int .i64 nn)/\W.cell? ⟨A,3,none⟩=some (.int .i64 nr))/\(W.cell? ⟨A+1,0,none⟩=some (.slice e7 nl2 d9)/\W.cell? ⟨A+1,1,none⟩=some (.slice e8 rl2 c6)/\W.cell? ⟨A+1,2,none⟩=some (.int .i64 nn2)/\W.cell? ⟨A+1,3,none⟩=some (.int .i64 nr2))):=fun W h=>by
  have h1:=h5.below h h5.lt
  have h2:=g0.below h g0.lt
  exact ⟨⟨h1.cell 0 rfl,h1.cell 1 rfl,h1.cell 2 rfl,h1.cell 3 rfl⟩,⟨h2.cell 0 rfl,h2.cell 1 rfl,h2.cell 2 rfl,h2.cell 3 rfl⟩⟩
 clear t h5 g0 hA
 go_wp2_with fail
 go_loopw [5,6] (fun o i wr=>∃ j:Nat,j<=rl/\i=.int .i64 j/\Below W1.heap.size W1 wr/\Zdw W1.heap.size wr o (([]:List Zs)++(Jr Jg.id (a.rels.take j) b.rels).map Jy)) (fun _ i _=>rl - (intOf i).toNat)
 case atStart=>exact ⟨0,Nat.zero_le _,rfl,Below.refl _ _,Zri _ _⟩
 case round =>
  obtain ⟨j,hj,rfl,S,G⟩:=hrel
  have d:=Zb S
  have l:=Zb G
  obtain ⟨oa,oc,rfl⟩:=G.slice
  obtain ⟨ol,U⟩:∃ n,(([]:List Zs)++(Jr Jg.id (a.rels.take j) b.rels).map Jy).length=n:=⟨_,rfl⟩
  have f5:ol<=400:=by
   have h1:=Zkk Jg.id a.rels b.rels j Jy (([]:List Zs))
   rw [U] at h1
   have h2:=e6.out
   have q1:=Za3 Jg.id a.rels b.rels
   have q2:=Za3 Zo.id a.nodes b.nodes
   have q3:=Zbr Zo.id Zu a.nodes b.nodes
   have q4:=Zbr Jg.id Je a.rels b.rels
   rw [a9.out] at q1
   rw [b4.out] at q2
   rw [V.out] at q3
   rw [X.out] at q4
   simp only [List.length_nil,List.length_append,List.length_map,a9.out,b4.out,V.out,X.out] at h1
   omega
  rw [U] at l |-
  have b8:=Zb U
  have N:w.heap.size<=wr.heap.size:=Nat.le_trans B.out.size S.size
  obtain ⟨⟨a0,a1,a2,a3⟩,⟨b0,b1,b2,b3⟩⟩:=HX.out wr S
  clear S G U
  by_cases hlt:j<rl
  ·have e3:(j:Int)<rl:=by omega
   obtain ⟨x,hx⟩:∃ x,a.rels[j]?=some x:=⟨_,List.getElem?_eq_getElem (by have:=a9.out;omega)⟩
   have c5:=Zb hx
   obtain ⟨ea,ec,he,f4,e5,Y⟩:=e4.out.1.2
   obtain ⟨rfl,rfl⟩:ra=ea/\rc=ec:=by
    injection he with e1 _ e2;exact ⟨e1,e2⟩
   rw [a9.out] at f4
   obtain ⟨R,off,rfl,f8,a7⟩:=Y.resolve_left (by intro e;rw [e] at hx;simp at hx)
   replace a7:=a7 j x hx
   obtain ⟨pv,⟨c0,c1,c2,c3,c4⟩,hs,hp⟩:=a7
   obtain ⟨pa,pc,rfl⟩:=Zau hp
   have g4:Hid (Ji w.heap.size w (.agg #[.int .i64 x.id,.int .i64 x.fr,.int .i64 x.tt,.string x.type,.slice pa x.props.length pc]) x):=⟨pa,pc,rfl,hp⟩
   have b9:Hid (∀ W,Below w.heap.size w W->W.cell? ⟨R,off+j*5,none⟩=some (.int .i64 x.id)/\W.cell? ⟨R,off+j*5+1,none⟩=some (.int .i64 x.fr)/\W.cell? ⟨R,off+j*5+2,none⟩=some (.int .i64 x.tt)/\W.cell? ⟨R,off+j*5+3,none⟩=some (.string x.type)/\W.cell? ⟨R,off+j*5+4,none⟩=some (.slice pa x.props.length pc)):=fun W M=>by
    have kk:∀ o,W.cell? ⟨R,o,none⟩=w.cell? ⟨R,o,none⟩:=fun o=>M.cell (p:=⟨R,o,none⟩) f8
    exact ⟨(kk _).trans c0,(kk _).trans c1,(kk _).trans c2,(kk _).trans c3,(kk _).trans c4⟩
   clear he Y hs hp c0 c1 c2 c3 c4
   obtain ⟨fr,a6⟩:∃ r,Zei x.id b.rels 0=r:=⟨_,rfl⟩
   have b6:=Zb (fun W (hb:Below w.heap.size w W)=>h3.out W hb x.id)
   rw [a6] at b6
   have h0:Hid (decide (fr<0)=!(b.rels.any fun n=>n.id==x.id)):=by rw [<- a6];exact Zis x.id b.rels 0
   clear a6 hx
   by_cases hr:fr<0
   ·have T:Hid ((b.rels.any fun n=>n.id==x.id)=false):=by
     show _=_
     have:=h0.out;rw [decide_eq_true hr] at this;simpa using this.symm
    have e0:=decide_eq_true hr
    go_upto_region 5 with fail
    show (Code.region 5 Jd8 true).wp _ _ _ _
    refine Zj5 A (A+1) R off rl rc j x.id fr (.slice e7 nl2 d9) (.slice e8 rl2 c6) (.int .i64 nn2) (.int .i64 nr2) true _ _ _ rfl ⟨rfl,rfl,rfl⟩ ?_ ?_
    ·intro W M
     have t:=Za d.out M
     have s:=Za B.out t
     obtain ⟨⟨p0,p1,p2,p3⟩,⟨q0,q1,q2,q3⟩⟩:=HX.out W t
     exact ⟨q0,q1,q2,q3,p1,hlt,by omega,(b9.out W s).1,b6.out W s,e0⟩
    intro c C hS D h6
    rw [Zj hS [19,20,21,22,23,24,25,26,27] (by kernel_rfl)]
    simp only [List.foldl_cons,List.foldl_nil,List.setIfInBounds_toArray,List.set_cons_succ,List.set_cons_zero,show Zbd c 27=_ from h6]
    clear h6 hS
    have k:Hid (Below wr.heap.size wr C):=D
    clear D
    have E:=Za B.out (Za d.out k.out)
    obtain ⟨⟨p0,p1,p2,p3⟩,⟨q0,q1,q2,q3⟩⟩:=HX.out C (Za d.out k.out)
    obtain ⟨c0,c1,c2,c3,c4⟩:=b9.out C E
    clear E
    have K:Below C.heap.size C (C.alloc (.cells #[.int .i64 3,.int .i64 x.id,.int .i64 0,.int .i64 0,.slice none 0 0,.slice none 0 0,.int .i64 0,.int .i64 0,.int .i64 0,.string ⟨#[]⟩,.slice none 0 0] 51)):=(Below.refl _ _).alloc (Nat.le_refl _) _
    have g:=Za k.out K
    have P:=d.out.size
    have O:=g.size
    have a4:=Zcv (C.alloc (.cells #[.int .i64 3,.int .i64 x.id,.int .i64 0,.int .i64 0,.slice none 0 0,.slice none 0 0,.int .i64 0,.int .i64 0,.int .i64 0,.string ⟨#[]⟩,.slice none 0 0] 51)) (Value.slice oa ol oc).ownBlock 3 x.id 0
    obtain ⟨g9,c9,w9,r9,o9,Q⟩:=(l.out.below g).app' (ty:=36) (c9:=1) a4 (Zl C #[.int .i64 3,.int .i64 x.id,.int .i64 0,.int .i64 0,.slice none 0 0,.slice none 0 0,.int .i64 0,.int .i64 0,.int .i64 0,.string ⟨#[]⟩,.slice none 0 0] 51) b8.out (by omega) (by omega)
    have a8:=Zb o9
    have b5:Hid (Below W1.heap.size W1 w9):=(Za d.out g).trans Q
    clear o9 Q K g P O a4
    go_wp2_with (at_builtin;refine Zp rfl _ _ 36 rfl rfl rfl r9 ?_)
    go_roundw
    case rel=>exact ⟨j+1,by omega,by go_num,b5.out,by rw [Zf8 c5.out,T.out,if_neg (by simp),List.map_append,<- List.append_assoc];exact a8.out⟩
    case measure=>simp [intOf];omega
   ·have T:Hid ((b.rels.any fun n=>n.id==x.id)=true):=by
     show _=_
     have:=h0.out;rw [decide_eq_false hr] at this;simpa using this.symm
    have e0:=decide_eq_false hr
    go_upto_region 5 with fail
    show (Code.region 5 Jd8 true).wp _ _ _ _
    refine Zj5 A (A+1) R off rl rc j x.id fr (.slice e7 nl2 d9) (.slice e8 rl2 c6) (.int .i64 nn2) (.int .i64 nr2) false _ _ _ rfl ⟨rfl,rfl,rfl⟩ ?_ ?_
    ·intro W M
     have t:=Za d.out M
     have s:=Za B.out t
     obtain ⟨⟨p0,p1,p2,p3⟩,⟨q0,q1,q2,q3⟩⟩:=HX.out W t
     exact ⟨q0,q1,q2,q3,p1,hlt,by omega,(b9.out W s).1,b6.out W s,e0⟩
    intro c C hS D h6
    rw [Zj hS [19,20,21,22,23,24,25,26,27] (by kernel_rfl)]
    simp only [List.foldl_cons,List.foldl_nil,List.setIfInBounds_toArray,List.set_cons_succ,List.set_cons_zero,show Zbd c 27=_ from h6]
    clear h6 hS
    have k:Hid (Below wr.heap.size wr C):=D
    clear D
    go_wp2_with fail
    go_roundw
    case rel=>exact ⟨j+1,by omega,by go_num,Za d.out k.out,by rw [Zf8 c5.out,T.out,if_pos rfl,List.append_nil] ;exact l.out.below k.out⟩
    case measure=>simp [intOf];omega
  ·have e3:¬ (j:Int)<rl:=by omega
   obtain rfl:rl=j:=by omega
   have a5:Hid (Zdw W1.heap.size wr (.slice oa ol oc) ([]++(Jr Jg.id a.rels b.rels).map Jy)):=by
    have:=l.out
    rwa [<- a9.out,List.take_length] at this
   obtain ⟨l7,M⟩:∃ W,wr=W:=⟨_,rfl⟩
   rw [M] at d a5 a0 a1 a2 a3 b0 b1 b2 b3 |-
   have k4:=Zb d.out
   have j6:=Zb a5.out
   clear M d a5 l b8 hlt f5 N
   go_wp2_with fail
   go_loopw [5,7] (fun o i wr=>∃ j:Nat,j<=nl/\i=.int .i64 j/\Below W1.heap.size W1 wr/\Zdw W1.heap.size wr o ((Jr Jg.id a.rels b.rels).map Jy++(Jr Zo.id (a.nodes.take j) b.nodes).map Zak)) (fun _ i _=>nl - (intOf i).toNat)
   case atStart=>exact ⟨0,Nat.zero_le _,rfl,k4.out,by rw [List.take_zero,Zc1,List.map_nil,List.append_nil];exact j6.out⟩
   case round =>
    obtain ⟨j,hj,rfl,S,G⟩:=hrel
    have d:=Zb S
    have l:=Zb G
    obtain ⟨oa,oc,rfl⟩:=G.slice
    obtain ⟨ol,U⟩:∃ n,((Jr Jg.id a.rels b.rels).map Jy++(Jr Zo.id (a.nodes.take j) b.nodes).map Zak).length=n:=⟨_,rfl⟩
    have f5:ol<=400:=by
     have h1:=Zkk Zo.id a.nodes b.nodes j Zak ((Jr Jg.id a.rels b.rels).map Jy)
     rw [U] at h1
     have h2:=e6.out
     have q1:=Za3 Jg.id a.rels b.rels
     have q2:=Za3 Zo.id a.nodes b.nodes
     have q3:=Zbr Zo.id Zu a.nodes b.nodes
     have q4:=Zbr Jg.id Je a.rels b.rels
     rw [a9.out] at q1
     rw [b4.out] at q2
     rw [V.out] at q3
     rw [X.out] at q4
     simp only [List.length_nil,List.length_append,List.length_map,a9.out,b4.out,V.out,X.out] at h1
     omega
    rw [U] at l |-
    have b8:=Zb U
    have N:w.heap.size<=wr.heap.size:=Nat.le_trans B.out.size S.size
    obtain ⟨⟨a0,a1,a2,a3⟩,⟨b0,b1,b2,b3⟩⟩:=HX.out wr S
    clear S G U
    by_cases hlt:j<nl
    ·have e3:(j:Int)<nl:=by omega
     obtain ⟨x,hx⟩:∃ x,a.nodes[j]?=some x:=⟨_,List.getElem?_eq_getElem (by have:=b4.out;omega)⟩
     have c5:=Zb hx
     obtain ⟨ea,ec,he,f4,e5,Y⟩:=e4.out.1.1
     obtain ⟨rfl,rfl⟩:na=ea/\nc=ec:=by
      injection he with e1 _ e2;exact ⟨e1,e2⟩
     rw [b4.out] at f4
     obtain ⟨R,off,rfl,f8,a7⟩:=Y.resolve_left (by intro e;rw [e] at hx;simp at hx)
     replace a7:=a7 j x hx
     obtain ⟨la,lc,pv,⟨c0,c1,c2⟩,hs,hk,hp⟩:=a7
     obtain ⟨pa,pc,rfl⟩:=Zau hp
     have g4:Hid (Ja w.heap.size w (.agg #[.int .i64 x.id,.slice la x.labels.length lc,.slice pa x.props.length pc]) x):=⟨la,lc,pa,pc,rfl,hs,hk,hp⟩
     have b9:Hid (∀ W,Below w.heap.size w W->W.cell? ⟨R,off+j*3,none⟩=some (.int .i64 x.id)/\W.cell? ⟨R,off+j*3+1,none⟩=some (.slice la x.labels.length lc)/\W.cell? ⟨R,off+j*3+2,none⟩=some (.slice pa x.props.length pc)):=fun W M=>by
      have kk:∀ o,W.cell? ⟨R,o,none⟩=w.cell? ⟨R,o,none⟩:=fun o=>M.cell (p:=⟨R,o,none⟩) f8
      exact ⟨(kk _).trans c0,(kk _).trans c1,(kk _).trans c2⟩
     clear he Y hs hp c0 c1 c2
     obtain ⟨fr,a6⟩:∃ r,Zcc x.id b.nodes 0=r:=⟨_,rfl⟩
     have b6:=Zb (fun W (hb:Below w.heap.size w W)=>i2.out W hb x.id)
     rw [a6] at b6
     have h0:Hid (decide (fr<0)=!(b.nodes.any fun n=>n.id==x.id)):=by rw [<- a6];exact Zgc x.id b.nodes 0
     clear a6 hx
     by_cases hr:fr<0
     ·have T:Hid ((b.nodes.any fun n=>n.id==x.id)=false):=by
       show _=_
       have:=h0.out;rw [decide_eq_true hr] at this;simpa using this.symm
      have e0:=decide_eq_true hr
      go_upto_region 10 with fail
      show (Code.region 10 Jed true).wp _ _ _ _
      refine Zj7 A (A+1) R off nl nc j x.id fr (.slice e7 nl2 d9) (.slice e8 rl2 c6) (.int .i64 nn2) (.int .i64 nr2) true _ _ _ rfl ⟨rfl,rfl,rfl⟩ ?_ ?_
      ·intro W M
       have t:=Za d.out M
       have s:=Za B.out t
       obtain ⟨⟨p0,p1,p2,p3⟩,⟨q0,q1,q2,q3⟩⟩:=HX.out W t
       exact ⟨q0,q1,q2,q3,p0,hlt,by omega,(b9.out W s).1,b6.out W s,e0⟩
      intro c C hS D g5
      rw [Zj hS [45,46,47,48,49,50,51,52,53] (by kernel_rfl)]
      simp only [List.foldl_cons,List.foldl_nil,List.setIfInBounds_toArray,List.set_cons_succ,List.set_cons_zero,show Zbd c 53=_ from g5]
      clear g5 hS
      have k:Hid (Below wr.heap.size wr C):=D
      clear D
      have E:=Za B.out (Za d.out k.out)
      obtain ⟨⟨p0,p1,p2,p3⟩,⟨q0,q1,q2,q3⟩⟩:=HX.out C (Za d.out k.out)
      obtain ⟨c0,c1,c2⟩:=b9.out C E
      clear E
      have K:Below C.heap.size C (C.alloc (.cells #[.int .i64 2,.int .i64 x.id,.int .i64 0,.int .i64 0,.slice none 0 0,.slice none 0 0,.int .i64 0,.int .i64 0,.int .i64 0,.string ⟨#[]⟩,.slice none 0 0] 51)):=(Below.refl _ _).alloc (Nat.le_refl _) _
      have g:=Za k.out K
      have P:=d.out.size
      have O:=g.size
      have a4:=Zcv (C.alloc (.cells #[.int .i64 2,.int .i64 x.id,.int .i64 0,.int .i64 0,.slice none 0 0,.slice none 0 0,.int .i64 0,.int .i64 0,.int .i64 0,.string ⟨#[]⟩,.slice none 0 0] 51)) (Value.slice oa ol oc).ownBlock 2 x.id 0
      obtain ⟨g9,c9,w9,r9,o9,Q⟩:=(l.out.below g).app' (ty:=36) (c9:=1) a4 (Zl C #[.int .i64 2,.int .i64 x.id,.int .i64 0,.int .i64 0,.slice none 0 0,.slice none 0 0,.int .i64 0,.int .i64 0,.int .i64 0,.string ⟨#[]⟩,.slice none 0 0] 51) b8.out (by omega) (by omega)
      have a8:=Zb o9
      have b5:Hid (Below W1.heap.size W1 w9):=(Za d.out g).trans Q
      clear o9 Q K g P O a4
      go_wp2_with (at_builtin;refine Zp rfl _ _ 36 rfl rfl rfl r9 ?_)
      go_roundw
      case rel=>exact ⟨j+1,by omega,by go_num,b5.out,by rw [Zf8 c5.out,T.out,if_neg (by simp),List.map_append,<- List.append_assoc];exact a8.out⟩
      case measure=>simp [intOf];omega
     ·have T:Hid ((b.nodes.any fun n=>n.id==x.id)=true):=by
       show _=_
       have:=h0.out;rw [decide_eq_false hr] at this;simpa using this.symm
      have e0:=decide_eq_false hr
      go_upto_region 10 with fail
      show (Code.region 10 Jed true).wp _ _ _ _
      refine Zj7 A (A+1) R off nl nc j x.id fr (.slice e7 nl2 d9) (.slice e8 rl2 c6) (.int .i64 nn2) (.int .i64 nr2) false _ _ _ rfl ⟨rfl,rfl,rfl⟩ ?_ ?_
      ·intro W M
       have t:=Za d.out M
       have s:=Za B.out t
       obtain ⟨⟨p0,p1,p2,p3⟩,⟨q0,q1,q2,q3⟩⟩:=HX.out W t
       exact ⟨q0,q1,q2,q3,p0,hlt,by omega,(b9.out W s).1,b6.out W s,e0⟩
      intro c C hS D g5
      rw [Zj hS [45,46,47,48,49,50,51,52,53] (by kernel_rfl)]
      simp only [List.foldl_cons,List.foldl_nil,List.setIfInBounds_toArray,List.set_cons_succ,List.set_cons_zero,show Zbd c 53=_ from g5]
      clear g5 hS
      have k:Hid (Below wr.heap.size wr C):=D
      clear D
      go_wp2_with fail
      go_roundw
      case rel=>exact ⟨j+1,by omega,by go_num,Za d.out k.out,by rw [Zf8 c5.out,T.out,if_pos rfl,List.append_nil] ;exact l.out.below k.out⟩
      case measure=>simp [intOf];omega
    ·have e3:¬ (j:Int)<nl:=by omega
     obtain rfl:nl=j:=by omega
     have a5:Hid (Zdw W1.heap.size wr (.slice oa ol oc) ((Jr Jg.id a.rels b.rels).map Jy++(Jr Zo.id a.nodes b.nodes).map Zak)):=by
      have:=l.out
      rwa [<- b4.out,List.take_length] at this
     obtain ⟨l8,M⟩:∃ W,wr=W:=⟨_,rfl⟩
     rw [M] at d a5 a0 a1 a2 a3 b0 b1 b2 b3 |-
     have j9:=Zb d.out
     have l0:=Zb a5.out
     clear M d a5 l b8 hlt f5 N
     go_wp2_with fail
     go_loopw [5,8] (fun o i wr=>∃ j:Nat,j<=nl2/\i=.int .i64 j/\Below W1.heap.size W1 wr/\Zdw W1.heap.size wr o (((Jr Jg.id a.rels b.rels).map Jy++(Jr Zo.id a.nodes b.nodes).map Zak)++(Zbu Zo.id Zu a.nodes (b.nodes.take j)).map Zbt)) (fun _ i _=>nl2 - (intOf i).toNat)
     case atStart=>exact ⟨0,Nat.zero_le _,rfl,j9.out,by rw [List.take_zero,Zdc,List.map_nil,List.append_nil];exact l0.out⟩
     case round =>
      obtain ⟨j,hj,rfl,S,G⟩:=hrel
      have d:=Zb S
      have l:=Zb G
      obtain ⟨oa,oc,rfl⟩:=G.slice
      obtain ⟨ol,U⟩:∃ n,(((Jr Jg.id a.rels b.rels).map Jy++(Jr Zo.id a.nodes b.nodes).map Zak)++(Zbu Zo.id Zu a.nodes (b.nodes.take j)).map Zbt).length=n:=⟨_,rfl⟩
      have f5:ol<=400:=by
       have h1:=Znn Zo.id Zu a.nodes b.nodes j Zbt (((Jr Jg.id a.rels b.rels).map Jy++(Jr Zo.id a.nodes b.nodes).map Zak))
       rw [U] at h1
       have h2:=e6.out
       have q1:=Za3 Jg.id a.rels b.rels
       have q2:=Za3 Zo.id a.nodes b.nodes
       have q3:=Zbr Zo.id Zu a.nodes b.nodes
       have q4:=Zbr Jg.id Je a.rels b.rels
       rw [a9.out] at q1
       rw [b4.out] at q2
       rw [V.out] at q3
       rw [X.out] at q4
       simp only [List.length_nil,List.length_append,List.length_map,a9.out,b4.out,V.out,X.out] at h1
       omega
      rw [U] at l |-
      have b8:=Zb U
      have N:w.heap.size<=wr.heap.size:=Nat.le_trans B.out.size S.size
      obtain ⟨⟨a0,a1,a2,a3⟩,⟨b0,b1,b2,b3⟩⟩:=HX.out wr S
      clear S G U
      by_cases hlt:j<nl2
      ·have e3:(j:Int)<nl2:=by omega
       obtain ⟨y,hy⟩:∃ x,b.nodes[j]?=some x:=⟨_,List.getElem?_eq_getElem (by have:=V.out;omega)⟩
       have c5:=Zb hy
       obtain ⟨ea,ec,he,h7,j8,Y⟩:=e4.out.2.1
       obtain ⟨rfl,rfl⟩:e7=ea/\d9=ec:=by
        injection he with e1 _ e2;exact ⟨e1,e2⟩
       rw [V.out] at h7
       obtain ⟨L,I,rfl,g6,d5⟩:=Y.resolve_left (by intro e;rw [e] at hy;simp at hy)
       replace d5:=d5 j y hy
       obtain ⟨c8,d8,l5,⟨d0,d1,d2⟩,i5,l4,f3⟩:=d5
       obtain ⟨F,H,rfl⟩:=Zau f3
       have f7:Hid (Ja w.heap.size w (.agg #[.int .i64 y.id,.slice c8 y.labels.length d8,.slice F y.props.length H]) y):=⟨c8,d8,F,H,rfl,i5,l4,f3⟩
       have c7:Hid (∀ W,Below w.heap.size w W->W.cell? ⟨L,I+j*3,none⟩=some (.int .i64 y.id)/\W.cell? ⟨L,I+j*3+1,none⟩=some (.slice c8 y.labels.length d8)/\W.cell? ⟨L,I+j*3+2,none⟩=some (.slice F y.props.length H)):=fun W M=>by
        have kk:∀ o,W.cell? ⟨L,o,none⟩=w.cell? ⟨L,o,none⟩:=fun o=>M.cell (p:=⟨L,o,none⟩) g6
        exact ⟨(kk _).trans d0,(kk _).trans d1,(kk _).trans d2⟩
       clear he Y i5 f3 d0 d1 d2
       obtain ⟨fr,a6⟩:∃ r,Zcc y.id a.nodes 0=r:=⟨_,rfl⟩
       have b6:=Zb (fun W (hb:Below w.heap.size w W)=>h9.out W hb y.id)
       rw [a6] at b6
       have f2:=Zb a6
       clear a6 hy
       go_upto_region 15 with fail
       show (Code.region 15 Jhv true).wp _ _ _ _
       refine Zsq A (A+1) L I nl2 d9 j y.id fr (.slice na nl nc) (.slice ra rl rc) (.int .i64 nn) (.int .i64 nr) _ _ _ rfl ⟨rfl,rfl,rfl⟩ ?_ ?_
       ·intro W M
        have t:=Za d.out M
        have s:=Za B.out t
        obtain ⟨⟨p0,p1,p2,p3⟩,⟨q0,q1,q2,q3⟩⟩:=HX.out W t
        exact ⟨p0,p1,p2,p3,q0,hlt,by omega,(c7.out W s).1,b6.out W s⟩
       intro c W2 hS D e9
       rw [Zj hS [71,72,73,74,75,76,77,78,9] (by kernel_rfl)]
       simp only [List.foldl_cons,List.foldl_nil,List.setIfInBounds_toArray,List.set_cons_succ,List.set_cons_zero,show Zbd c 9=_ from e9]
       clear e9 hS
       have k:Hid (Below wr.heap.size wr W2):=D
       clear D
       replace l:=Zb (l.out.below k.out)
       replace N:=Nat.le_trans N k.out.size
       replace d:=Zb (Za d.out k.out)
       clear k a0 a1 a2 a3 b0 b1 b2 b3
       obtain ⟨wr,g7⟩:∃ W,W2=W:=⟨_,rfl⟩
       rw [g7] at l N d |-
       clear g7
       by_cases hr:fr<0
       ·have T:Hid ((a.nodes.any fun z=>z.id==y.id&&Zu z y)=false):=by
         have h1:=Zgc y.id a.nodes 0
         rw [f2.out,decide_eq_true hr] at h1
         exact Zra (key:=Zo.id) (by simpa using h1.symm)
        have e0:(fr<0)=True:=by simp [hr]
        go_upto_region 16 with fail
        go_quiet (fail)
        generalize i3:World.drewN _ _=C
        have k:Hid (Below wr.heap.size wr C):=by rw [<- i3];exact below_drewN _ _ _
        clear i3 e0
        have E:=Za B.out (Za d.out k.out)
        obtain ⟨⟨p0,p1,p2,p3⟩,⟨q0,q1,q2,q3⟩⟩:=HX.out C (Za d.out k.out)
        obtain ⟨d0,d1,d2⟩:=c7.out C E
        clear E
        have K:Below C.heap.size C (C.alloc (.cells #[.int .i64 0,.int .i64 0,.int .i64 0,.int .i64 y.id,.slice c8 y.labels.length d8,.slice F y.props.length H,.int .i64 0,.int .i64 0,.int .i64 0,.string ⟨#[]⟩,.slice none 0 0] 51)):=(Below.refl _ _).alloc (Nat.le_refl _) _
        have g:=Za k.out K
        have P:=d.out.size
        have O:=g.size
        have a4:Zfm (C.alloc (.cells #[.int .i64 0,.int .i64 0,.int .i64 0,.int .i64 y.id,.slice c8 y.labels.length d8,.slice F y.props.length H,.int .i64 0,.int .i64 0,.int .i64 0,.string ⟨#[]⟩,.slice none 0 0] 51)) (Value.slice oa ol oc).ownBlock _ (Zbt y):=Zi2 fun w' hw=>by
         have d7:=(l.out.below g).grown (by omega) hw
         exact (f7.out.below (Za (Za B.out d.out) g |>.trans (d7.mono B.out.size))).mono (by have:=d7.size;omega)
        obtain ⟨g9,c9,w9,r9,o9,Q⟩:=(l.out.below g).app' (ty:=36) (c9:=1) a4 (Zl C #[.int .i64 0,.int .i64 0,.int .i64 0,.int .i64 y.id,.slice c8 y.labels.length d8,.slice F y.props.length H,.int .i64 0,.int .i64 0,.int .i64 0,.string ⟨#[]⟩,.slice none 0 0] 51) b8.out (by omega) (by omega)
        have a8:=Zb o9
        have b5:Hid (Below W1.heap.size W1 w9):=(Za d.out g).trans Q
        clear o9 Q K g P O a4
        go_wp2_with (at_builtin;refine Zp rfl _ _ 36 rfl rfl rfl r9 ?_)
        go_roundw
        case rel=>exact ⟨j+1,by omega,by go_num,b5.out,by rw [Zer c5.out,T.out,if_neg (by simp),List.map_append,<- List.append_assoc];exact a8.out⟩
        case measure=>simp [intOf];omega
       ·obtain ⟨m,x,h8,b7,g2⟩:=Znl y.id a.nodes 0 (by rw [f2.out];omega)
        rw [f2.out,Nat.zero_add] at h8
        subst h8
        have g8:m<nl:=by have:=(List.getElem?_eq_some_iff.1 b7).1;have:=b4.out;omega
        have T:Hid ((a.nodes.any fun z=>z.id==y.id&&Zu z y)=Zu x y):=Zv8 (key:=Zo.id) k6.out.1 (List.mem_of_getElem? b7) g2
        clear g2 hr
        obtain ⟨ea,ec,he,f4,e5,Y⟩:=e4.out.1.1
        obtain ⟨rfl,rfl⟩:na=ea/\nc=ec:=by
         injection he with e1 _ e2;exact ⟨e1,e2⟩
        rw [b4.out] at f4
        obtain ⟨R,off,rfl,f8,a7⟩:=Y.resolve_left (by intro e;rw [e] at b7;simp at b7)
        replace a7:=a7 m x b7
        obtain ⟨la,lc,pv,⟨c0,c1,c2⟩,hs,hk,hp⟩:=a7
        obtain ⟨pa,pc,rfl⟩:=Zau hp
        have g4:Hid (Ja w.heap.size w (.agg #[.int .i64 x.id,.slice la x.labels.length lc,.slice pa x.props.length pc]) x):=⟨la,lc,pa,pc,rfl,hs,hk,hp⟩
        have b9:Hid (∀ W,Below w.heap.size w W->W.cell? ⟨R,off+m*3,none⟩=some (.int .i64 x.id)/\W.cell? ⟨R,off+m*3+1,none⟩=some (.slice la x.labels.length lc)/\W.cell? ⟨R,off+m*3+2,none⟩=some (.slice pa x.props.length pc)):=fun W M=>by
         have kk:∀ o,W.cell? ⟨R,o,none⟩=w.cell? ⟨R,o,none⟩:=fun o=>M.cell (p:=⟨R,o,none⟩) f8
         exact ⟨(kk _).trans c0,(kk _).trans c1,(kk _).trans c2⟩
        clear he Y hs hp c0 c1 c2
        clear b7
        have f1:=Zb (fun W (hb:Below w.heap.size w W)=>Zd9 x y w.heap.size _ _ W hb.size (g4.out.below hb) (f7.out.below hb))
        obtain ⟨sb,g1⟩:∃ q,Zu x y=q:=⟨_,rfl⟩
        rw [g1] at f1 T
        clear g1
        have e5:decide ((m:Int)<0)=false:=decide_eq_false (by omega)
        cases sb with
        | true =>
         go_upto_region 16 with fail
         show (Code.region 16 Jeg true).wp _ _ _ _
         refine Zj8 A (A+1) R off nl nc L I nl2 d9 j m (.int .i64 x.id) (.slice la x.labels.length lc) (.slice pa x.props.length pc) (.int .i64 y.id) (.slice c8 y.labels.length d8) (.slice F y.props.length H) true _ _ _ rfl ⟨rfl,rfl,rfl,rfl⟩ ?_ ?_
         ·intro W M
          have t:=Za d.out M
          have s:=Za B.out t
          obtain ⟨⟨p0,p1,p2,p3⟩,⟨q0,q1,q2,q3⟩⟩:=HX.out W t
          obtain ⟨c0,c1,c2⟩:=b9.out W s
          obtain ⟨d0,d1,d2⟩:=c7.out W s
          exact ⟨e5,p0,g8,by omega,c0,c1,c2,q0,hlt,by omega,d0,d1,d2,f1.out W s⟩
         intro c C hS D f6
         simp only [Bool.not_true,Bool.not_false] at f6
         rw [Zj hS [79,80,81,82,83,84,85,86,87,88,89,90,91,92,93,94] (by kernel_rfl)]
         simp only [List.foldl_cons,List.foldl_nil,List.setIfInBounds_toArray,List.set_cons_succ,List.set_cons_zero,show Zbd c 94=_ from f6]
         clear f6 hS
         have k:Hid (Below wr.heap.size wr C):=D
         clear D
         go_wp2_with fail
         go_roundw
         case rel=>exact ⟨j+1,by omega,by go_num,Za d.out k.out,by rw [Zer c5.out,T.out,if_pos rfl,List.append_nil];exact l.out.below k.out⟩
         case measure=>simp [intOf];omega
        | false =>
         go_upto_region 16 with fail
         show (Code.region 16 Jeg true).wp _ _ _ _
         refine Zj8 A (A+1) R off nl nc L I nl2 d9 j m (.int .i64 x.id) (.slice la x.labels.length lc) (.slice pa x.props.length pc) (.int .i64 y.id) (.slice c8 y.labels.length d8) (.slice F y.props.length H) false _ _ _ rfl ⟨rfl,rfl,rfl,rfl⟩ ?_ ?_
         ·intro W M
          have t:=Za d.out M
          have s:=Za B.out t
          obtain ⟨⟨p0,p1,p2,p3⟩,⟨q0,q1,q2,q3⟩⟩:=HX.out W t
          obtain ⟨c0,c1,c2⟩:=b9.out W s
          obtain ⟨d0,d1,d2⟩:=c7.out W s
          exact ⟨e5,p0,g8,by omega,c0,c1,c2,q0,hlt,by omega,d0,d1,d2,f1.out W s⟩
         intro c C hS D f6
         simp only [Bool.not_true,Bool.not_false] at f6
         rw [Zj hS [79,80,81,82,83,84,85,86,87,88,89,90,91,92,93,94] (by kernel_rfl)]
         simp only [List.foldl_cons,List.foldl_nil,List.setIfInBounds_toArray,List.set_cons_succ,List.set_cons_zero,show Zbd c 94=_ from f6]
         clear f6 hS
         have k:Hid (Below wr.heap.size wr C):=D
         clear D
         have E:=Za B.out (Za d.out k.out)
         obtain ⟨⟨p0,p1,p2,p3⟩,⟨q0,q1,q2,q3⟩⟩:=HX.out C (Za d.out k.out)
         obtain ⟨d0,d1,d2⟩:=c7.out C E
         clear E
         have K:Below C.heap.size C (C.alloc (.cells #[.int .i64 0,.int .i64 0,.int .i64 0,.int .i64 y.id,.slice c8 y.labels.length d8,.slice F y.props.length H,.int .i64 0,.int .i64 0,.int .i64 0,.string ⟨#[]⟩,.slice none 0 0] 51)):=(Below.refl _ _).alloc (Nat.le_refl _) _
         have g:=Za k.out K
         have P:=d.out.size
         have O:=g.size
         have a4:Zfm (C.alloc (.cells #[.int .i64 0,.int .i64 0,.int .i64 0,.int .i64 y.id,.slice c8 y.labels.length d8,.slice F y.props.length H,.int .i64 0,.int .i64 0,.int .i64 0,.string ⟨#[]⟩,.slice none 0 0] 51)) (Value.slice oa ol oc).ownBlock _ (Zbt y):=Zi2 fun w' hw=>by
          have d7:=(l.out.below g).grown (by omega) hw
          exact (f7.out.below (Za (Za B.out d.out) g |>.trans (d7.mono B.out.size))).mono (by have:=d7.size;omega)
         obtain ⟨g9,c9,w9,r9,o9,Q⟩:=(l.out.below g).app' (ty:=36) (c9:=1) a4 (Zl C #[.int .i64 0,.int .i64 0,.int .i64 0,.int .i64 y.id,.slice c8 y.labels.length d8,.slice F y.props.length H,.int .i64 0,.int .i64 0,.int .i64 0,.string ⟨#[]⟩,.slice none 0 0] 51) b8.out (by omega) (by omega)
         have a8:=Zb o9
         have b5:Hid (Below W1.heap.size W1 w9):=(Za d.out g).trans Q
         clear o9 Q K g P O a4
         go_wp2_with (at_builtin;refine Zp rfl _ _ 36 rfl rfl rfl r9 ?_)
         go_roundw
         case rel=>exact ⟨j+1,by omega,by go_num,b5.out,by rw [Zer c5.out,T.out,if_neg (by simp),List.map_append,<- List.append_assoc];exact a8.out⟩
         case measure=>simp [intOf];omega
      ·have e3:¬ (j:Int)<nl2:=by omega
       obtain rfl:nl2=j:=by omega
       have a5:Hid (Zdw W1.heap.size wr (.slice oa ol oc) (((Jr Jg.id a.rels b.rels).map Jy++(Jr Zo.id a.nodes b.nodes).map Zak)++(Zbu Zo.id Zu a.nodes b.nodes).map Zbt)):=by
        have:=l.out
        rwa [<- V.out,List.take_length] at this
       obtain ⟨l6,M⟩:∃ W,wr=W:=⟨_,rfl⟩
       rw [M] at d a5 a0 a1 a2 a3 b0 b1 b2 b3 |-
       have k7:=Zb d.out
       have k5:=Zb a5.out
       clear M d a5 l b8 hlt f5 N
       go_wp2_with fail
       go_loopw [5,10] (fun o i wr=>∃ j:Nat,j<=rl2/\i=.int .i64 j/\Below W1.heap.size W1 wr/\Zdw W1.heap.size wr o ((((Jr Jg.id a.rels b.rels).map Jy++(Jr Zo.id a.nodes b.nodes).map Zak)++(Zbu Zo.id Zu a.nodes b.nodes).map Zbt)++(Zbu Jg.id Je a.rels (b.rels.take j)).map Zc3)) (fun _ i _=>rl2 - (intOf i).toNat)
       case atStart=>exact ⟨0,Nat.zero_le _,rfl,k7.out,by rw [List.take_zero,Zdc,List.map_nil,List.append_nil];exact k5.out⟩
       case round =>
        obtain ⟨j,hj,rfl,S,G⟩:=hrel
        have d:=Zb S
        have l:=Zb G
        obtain ⟨oa,oc,rfl⟩:=G.slice
        obtain ⟨ol,U⟩:∃ n,((((Jr Jg.id a.rels b.rels).map Jy++(Jr Zo.id a.nodes b.nodes).map Zak)++(Zbu Zo.id Zu a.nodes b.nodes).map Zbt)++(Zbu Jg.id Je a.rels (b.rels.take j)).map Zc3).length=n:=⟨_,rfl⟩
        have f5:ol<=400:=by
         have h1:=Znn Jg.id Je a.rels b.rels j Zc3 ((((Jr Jg.id a.rels b.rels).map Jy++(Jr Zo.id a.nodes b.nodes).map Zak)++(Zbu Zo.id Zu a.nodes b.nodes).map Zbt))
         rw [U] at h1
         have h2:=e6.out
         have q1:=Za3 Jg.id a.rels b.rels
         have q2:=Za3 Zo.id a.nodes b.nodes
         have q3:=Zbr Zo.id Zu a.nodes b.nodes
         have q4:=Zbr Jg.id Je a.rels b.rels
         rw [a9.out] at q1
         rw [b4.out] at q2
         rw [V.out] at q3
         rw [X.out] at q4
         simp only [List.length_nil,List.length_append,List.length_map,a9.out,b4.out,V.out,X.out] at h1
         omega
        rw [U] at l |-
        have b8:=Zb U
        have N:w.heap.size<=wr.heap.size:=Nat.le_trans B.out.size S.size
        obtain ⟨⟨a0,a1,a2,a3⟩,⟨b0,b1,b2,b3⟩⟩:=HX.out wr S
        clear S G U
        by_cases hlt:j<rl2
        ·have e3:(j:Int)<rl2:=by omega
         obtain ⟨y,hy⟩:∃ x,b.rels[j]?=some x:=⟨_,List.getElem?_eq_getElem (by have:=X.out;omega)⟩
         have c5:=Zb hy
         have k9:=Zb (l3.out y (List.mem_of_getElem? hy))
         obtain ⟨ea,ec,he,h7,j8,Y⟩:=e4.out.2.2
         obtain ⟨rfl,rfl⟩:e8=ea/\c6=ec:=by
          injection he with e1 _ e2;exact ⟨e1,e2⟩
         rw [X.out] at h7
         obtain ⟨L,I,rfl,g6,d5⟩:=Y.resolve_left (by intro e;rw [e] at hy;simp at hy)
         replace d5:=d5 j y hy
         obtain ⟨l5,⟨d0,d1,d2,d3,d4⟩,i5,f3⟩:=d5
         obtain ⟨F,H,rfl⟩:=Zau f3
         have f7:Hid (Ji w.heap.size w (.agg #[.int .i64 y.id,.int .i64 y.fr,.int .i64 y.tt,.string y.type,.slice F y.props.length H]) y):=⟨F,H,rfl,f3⟩
         have c7:Hid (∀ W,Below w.heap.size w W->W.cell? ⟨L,I+j*5,none⟩=some (.int .i64 y.id)/\W.cell? ⟨L,I+j*5+1,none⟩=some (.int .i64 y.fr)/\W.cell? ⟨L,I+j*5+2,none⟩=some (.int .i64 y.tt)/\W.cell? ⟨L,I+j*5+3,none⟩=some (.string y.type)/\W.cell? ⟨L,I+j*5+4,none⟩=some (.slice F y.props.length H)):=fun W M=>by
          have kk:∀ o,W.cell? ⟨L,o,none⟩=w.cell? ⟨L,o,none⟩:=fun o=>M.cell (p:=⟨L,o,none⟩) g6
          exact ⟨(kk _).trans d0,(kk _).trans d1,(kk _).trans d2,(kk _).trans d3,(kk _).trans d4⟩
         clear he Y i5 f3 d0 d1 d2 d3 d4
         obtain ⟨fr,a6⟩:∃ r,Zei y.id a.rels 0=r:=⟨_,rfl⟩
         have b6:=Zb (fun W (hb:Below w.heap.size w W)=>g3.out W hb y.id)
         rw [a6] at b6
         have f2:=Zb a6
         clear a6 hy
         go_upto_region 21 with fail
         show (Code.region 21 Jhu true).wp _ _ _ _
         refine Zsp A (A+1) L I rl2 c6 j y.id fr (.slice na nl nc) (.slice ra rl rc) (.int .i64 nn) (.int .i64 nr) _ _ _ rfl ⟨rfl,rfl,rfl⟩ ?_ ?_
         ·intro W M
          have t:=Za d.out M
          have s:=Za B.out t
          obtain ⟨⟨p0,p1,p2,p3⟩,⟨q0,q1,q2,q3⟩⟩:=HX.out W t
          exact ⟨p0,p1,p2,p3,q1,hlt,by omega,(c7.out W s).1,b6.out W s⟩
         intro c W2 hS D j3
         rw [Zj hS [111,112,113,114,115,116,117,118,11] (by kernel_rfl)]
         simp only [List.foldl_cons,List.foldl_nil,List.setIfInBounds_toArray,List.set_cons_succ,List.set_cons_zero,show Zbd c 11=_ from j3]
         clear j3 hS
         have k:Hid (Below wr.heap.size wr W2):=D
         clear D
         replace l:=Zb (l.out.below k.out)
         replace N:=Nat.le_trans N k.out.size
         replace d:=Zb (Za d.out k.out)
         clear k a0 a1 a2 a3 b0 b1 b2 b3
         obtain ⟨wr,g7⟩:∃ W,W2=W:=⟨_,rfl⟩
         rw [g7] at l N d |-
         clear g7
         by_cases hr:fr<0
         ·have T:Hid ((a.rels.any fun z=>z.id==y.id&&Je z y)=false):=by
           have h1:=Zis y.id a.rels 0
           rw [f2.out,decide_eq_true hr] at h1
           exact Zra (key:=Jg.id) (by simpa using h1.symm)
          have e0:(fr<0)=True:=by simp [hr]
          go_upto_region 22 with fail
          go_quiet (fail)
          generalize i3:World.drewN _ _=C
          have k:Hid (Below wr.heap.size wr C):=by rw [<- i3];exact below_drewN _ _ _
          clear i3 e0
          have E:=Za B.out (Za d.out k.out)
          obtain ⟨⟨p0,p1,p2,p3⟩,⟨q0,q1,q2,q3⟩⟩:=HX.out C (Za d.out k.out)
          obtain ⟨d0,d1,d2,d3,d4⟩:=c7.out C E
          clear E
          have K:Below C.heap.size C (C.alloc (.cells #[.int .i64 1,.int .i64 0,.int .i64 0,.int .i64 0,.slice none 0 0,.slice none 0 0,.int .i64 y.id,.int .i64 y.fr,.int .i64 y.tt,.string y.type,.slice F y.props.length H] 51)):=(Below.refl _ _).alloc (Nat.le_refl _) _
          have g:=Za k.out K
          have P:=d.out.size
          have O:=g.size
          have a4:Zfm (C.alloc (.cells #[.int .i64 1,.int .i64 0,.int .i64 0,.int .i64 0,.slice none 0 0,.slice none 0 0,.int .i64 y.id,.int .i64 y.fr,.int .i64 y.tt,.string y.type,.slice F y.props.length H] 51)) (Value.slice oa ol oc).ownBlock _ (Zc3 y):=Zl0 k9.out fun w' hw=>by
           have d7:=(l.out.below g).grown (by omega) hw
           exact (f7.out.below (Za (Za B.out d.out) g |>.trans (d7.mono B.out.size))).mono (by have:=d7.size;omega)
          obtain ⟨g9,c9,w9,r9,o9,Q⟩:=(l.out.below g).app' (ty:=36) (c9:=1) a4 (Zl C #[.int .i64 1,.int .i64 0,.int .i64 0,.int .i64 0,.slice none 0 0,.slice none 0 0,.int .i64 y.id,.int .i64 y.fr,.int .i64 y.tt,.string y.type,.slice F y.props.length H] 51) b8.out (by omega) (by omega)
          have a8:=Zb o9
          have b5:Hid (Below W1.heap.size W1 w9):=(Za d.out g).trans Q
          clear o9 Q K g P O a4
          go_wp2_with (at_builtin;refine Zp rfl _ _ 36 rfl rfl rfl r9 ?_)
          go_roundw
          case rel=>exact ⟨j+1,by omega,by go_num,b5.out,by rw [Zer c5.out,T.out,if_neg (by simp),List.map_append,<- List.append_assoc];exact a8.out⟩
          case measure=>simp [intOf];omega
         ·obtain ⟨m,x,h8,b7,g2⟩:=Znm y.id a.rels 0 (by rw [f2.out];omega)
          rw [f2.out,Nat.zero_add] at h8
          subst h8
          have g8:m<rl:=by have:=(List.getElem?_eq_some_iff.1 b7).1;have:=a9.out;omega
          have T:Hid ((a.rels.any fun z=>z.id==y.id&&Je z y)=Je x y):=Zv8 (key:=Jg.id) k6.out.2 (List.mem_of_getElem? b7) g2
          clear g2 hr
          obtain ⟨ea,ec,he,f4,e5,Y⟩:=e4.out.1.2
          obtain ⟨rfl,rfl⟩:ra=ea/\rc=ec:=by
           injection he with e1 _ e2;exact ⟨e1,e2⟩
          rw [a9.out] at f4
          obtain ⟨R,off,rfl,f8,a7⟩:=Y.resolve_left (by intro e;rw [e] at b7;simp at b7)
          replace a7:=a7 m x b7
          obtain ⟨pv,⟨c0,c1,c2,c3,c4⟩,hs,hp⟩:=a7
          obtain ⟨pa,pc,rfl⟩:=Zau hp
          have g4:Hid (Ji w.heap.size w (.agg #[.int .i64 x.id,.int .i64 x.fr,.int .i64 x.tt,.string x.type,.slice pa x.props.length pc]) x):=⟨pa,pc,rfl,hp⟩
          have b9:Hid (∀ W,Below w.heap.size w W->W.cell? ⟨R,off+m*5,none⟩=some (.int .i64 x.id)/\W.cell? ⟨R,off+m*5+1,none⟩=some (.int .i64 x.fr)/\W.cell? ⟨R,off+m*5+2,none⟩=some (.int .i64 x.tt)/\W.cell? ⟨R,off+m*5+3,none⟩=some (.string x.type)/\W.cell? ⟨R,off+m*5+4,none⟩=some (.slice pa x.props.length pc)):=fun W M=>by
           have kk:∀ o,W.cell? ⟨R,o,none⟩=w.cell? ⟨R,o,none⟩:=fun o=>M.cell (p:=⟨R,o,none⟩) f8
           exact ⟨(kk _).trans c0,(kk _).trans c1,(kk _).trans c2,(kk _).trans c3,(kk _).trans c4⟩
          clear he Y hs hp c0 c1 c2 c3 c4
          clear b7
          have f1:=Zb (fun W (hb:Below w.heap.size w W)=>Zfd x y w.heap.size _ _ W hb.size (g4.out.below hb) (f7.out.below hb))
          obtain ⟨sb,g1⟩:∃ q,Je x y=q:=⟨_,rfl⟩
          rw [g1] at f1 T
          clear g1
          have e5:decide ((m:Int)<0)=false:=decide_eq_false (by omega)
          cases sb with
          | true =>
           go_upto_region 22 with fail
           show (Code.region 22 Jeb true).wp _ _ _ _
           refine Zj6 A (A+1) R off rl rc L I rl2 c6 j m (.int .i64 x.id) (.int .i64 x.fr) (.int .i64 x.tt) (.string x.type) (.slice pa x.props.length pc) (.int .i64 y.id) (.int .i64 y.fr) (.int .i64 y.tt) (.string y.type) (.slice F y.props.length H) true _ _ _ rfl ⟨rfl,rfl,rfl,rfl⟩ ?_ ?_
           ·intro W M
            have t:=Za d.out M
            have s:=Za B.out t
            obtain ⟨⟨p0,p1,p2,p3⟩,⟨q0,q1,q2,q3⟩⟩:=HX.out W t
            obtain ⟨c0,c1,c2,c3,c4⟩:=b9.out W s
            obtain ⟨d0,d1,d2,d3,d4⟩:=c7.out W s
            exact ⟨e5,p1,g8,by omega,c0,c1,c2,c3,c4,q1,hlt,by omega,d0,d1,d2,d3,d4,f1.out W s⟩
           intro c C hS D d6
           simp only [Bool.not_true,Bool.not_false] at d6
           rw [Zj hS [119,120,121,122,123,124,125,126,127,128,129,130,131,132,133,134] (by kernel_rfl)]
           simp only [List.foldl_cons,List.foldl_nil,List.setIfInBounds_toArray,List.set_cons_succ,List.set_cons_zero,show Zbd c 134=_ from d6]
           clear d6 hS
           have k:Hid (Below wr.heap.size wr C):=D
           clear D
           go_wp2_with fail
           go_roundw
           case rel=>exact ⟨j+1,by omega,by go_num,Za d.out k.out,by rw [Zer c5.out,T.out,if_pos rfl,List.append_nil];exact l.out.below k.out⟩
           case measure=>simp [intOf];omega
          | false =>
           go_upto_region 22 with fail
           show (Code.region 22 Jeb true).wp _ _ _ _
           refine Zj6 A (A+1) R off rl rc L I rl2 c6 j m (.int .i64 x.id) (.int .i64 x.fr) (.int .i64 x.tt) (.string x.type) (.slice pa x.props.length pc) (.int .i64 y.id) (.int .i64 y.fr) (.int .i64 y.tt) (.string y.type) (.slice F y.props.length H) false _ _ _ rfl ⟨rfl,rfl,rfl,rfl⟩ ?_ ?_
           ·intro W M
            have t:=Za d.out M
            have s:=Za B.out t
            obtain ⟨⟨p0,p1,p2,p3⟩,⟨q0,q1,q2,q3⟩⟩:=HX.out W t
            obtain ⟨c0,c1,c2,c3,c4⟩:=b9.out W s
            obtain ⟨d0,d1,d2,d3,d4⟩:=c7.out W s
            exact ⟨e5,p1,g8,by omega,c0,c1,c2,c3,c4,q1,hlt,by omega,d0,d1,d2,d3,d4,f1.out W s⟩
           intro c C hS D d6
           simp only [Bool.not_true,Bool.not_false] at d6
           rw [Zj hS [119,120,121,122,123,124,125,126,127,128,129,130,131,132,133,134] (by kernel_rfl)]
           simp only [List.foldl_cons,List.foldl_nil,List.setIfInBounds_toArray,List.set_cons_succ,List.set_cons_zero,show Zbd c 134=_ from d6]
           clear d6 hS
           have k:Hid (Below wr.heap.size wr C):=D
           clear D
           have E:=Za B.out (Za d.out k.out)
           obtain ⟨⟨p0,p1,p2,p3⟩,⟨q0,q1,q2,q3⟩⟩:=HX.out C (Za d.out k.out)
           obtain ⟨d0,d1,d2,d3,d4⟩:=c7.out C E
           clear E
           have K:Below C.heap.size C (C.alloc (.cells #[.int .i64 1,.int .i64 0,.int .i64 0,.int .i64 0,.slice none 0 0,.slice none 0 0,.int .i64 y.id,.int .i64 y.fr,.int .i64 y.tt,.string y.type,.slice F y.props.length H] 51)):=(Below.refl _ _).alloc (Nat.le_refl _) _
           have g:=Za k.out K
           have P:=d.out.size
           have O:=g.size
           have a4:Zfm (C.alloc (.cells #[.int .i64 1,.int .i64 0,.int .i64 0,.int .i64 0,.slice none 0 0,.slice none 0 0,.int .i64 y.id,.int .i64 y.fr,.int .i64 y.tt,.string y.type,.slice F y.props.length H] 51)) (Value.slice oa ol oc).ownBlock _ (Zc3 y):=Zl0 k9.out fun w' hw=>by
            have d7:=(l.out.below g).grown (by omega) hw
            exact (f7.out.below (Za (Za B.out d.out) g |>.trans (d7.mono B.out.size))).mono (by have:=d7.size;omega)
           obtain ⟨g9,c9,w9,r9,o9,Q⟩:=(l.out.below g).app' (ty:=36) (c9:=1) a4 (Zl C #[.int .i64 1,.int .i64 0,.int .i64 0,.int .i64 0,.slice none 0 0,.slice none 0 0,.int .i64 y.id,.int .i64 y.fr,.int .i64 y.tt,.string y.type,.slice F y.props.length H] 51) b8.out (by omega) (by omega)
           have a8:=Zb o9
           have b5:Hid (Below W1.heap.size W1 w9):=(Za d.out g).trans Q
           clear o9 Q K g P O a4
           go_wp2_with (at_builtin;refine Zp rfl _ _ 36 rfl rfl rfl r9 ?_)
           go_roundw
           case rel=>exact ⟨j+1,by omega,by go_num,b5.out,by rw [Zer c5.out,T.out,if_neg (by simp),List.map_append,<- List.append_assoc];exact a8.out⟩
           case measure=>simp [intOf];omega
        ·have e3:¬ (j:Int)<rl2:=by omega
         obtain rfl:rl2=j:=by omega
         have a5:Hid (Zdw W1.heap.size wr (.slice oa ol oc) ((((Jr Jg.id a.rels b.rels).map Jy++(Jr Zo.id a.nodes b.nodes).map Zak)++(Zbu Zo.id Zu a.nodes b.nodes).map Zbt)++(Zbu Jg.id Je a.rels b.rels).map Zc3)):=by
          have:=l.out
          rwa [<- X.out,List.take_length] at this
         obtain ⟨i0,M⟩:∃ W,wr=W:=⟨_,rfl⟩
         rw [M] at d a5 a0 a1 a2 a3 b0 b1 b2 b3 |-
         have h4:=Zb d.out
         have f9:=Zb a5.out
         clear M d a5 l b8 hlt f5 N
         have k:Hid (Below w.heap.size w i0):=Za B.out h4.out
         have j2:Hid (∀ {W:World} {v:Value} {cs:List Zs},Zdw W1.heap.size W v cs->Zdw w.heap.size W v cs):=fun ⟨des,h1,h2⟩=>⟨des,Zeq h1 B.out.size,h2⟩
         generalize i4:((((Jr Jg.id a.rels b.rels).map Jy++(Jr Zo.id a.nodes b.nodes).map Zak)++(Zbu Zo.id Zu a.nodes b.nodes).map Zbt)++(Zbu Jg.id Je a.rels b.rels).map Zc3)=L4 at f9
         have j1:Hid (nn=nn2->nr=nr2->Zc4 a b=L4):=fun e1 e2=>by
          show _=_
          rw [<- i4]
          unfold Zc4
          rw [f0.out.1.1,f0.out.1.2,f0.out.2.1,f0.out.2.2,e1,e2,if_neg (by simp)]
          simp only [List.append_assoc,List.append_nil]
         have i1:Hid (¬ (nn=nn2/\nr=nr2)->Zc4 a b=L4++[Zun nn2 nr2]):=fun e1=>by
          show _=_
          rw [<- i4]
          unfold Zc4
          rw [f0.out.1.1,f0.out.1.2,f0.out.2.1,f0.out.2.2,if_pos (by simp;omega)]
          simp only [List.append_assoc]
         have j0:L4.length=ol/\ol<=400:=by
          obtain ⟨_,_,e⟩:=f9.out.slice
          injection e with _ e2 _
          refine ⟨e2.symm,?_⟩
          rw [e2,<- i4]
          have h2:=e6.out
          have q1:=Za3 Jg.id a.rels b.rels
          have q2:=Za3 Zo.id a.nodes b.nodes
          have q3:=Zbr Zo.id Zu a.nodes b.nodes
          have q4:=Zbr Jg.id Je a.rels b.rels
          rw [a9.out] at q1
          rw [b4.out] at q2
          rw [V.out] at q3
          rw [X.out] at q4
          simp only [List.length_append,List.length_map]
          omega
         have K:Below i0.heap.size i0 (i0.alloc (.cells #[.int .i64 4,.int .i64 nn2,.int .i64 nr2,.int .i64 0,.slice none 0 0,.slice none 0 0,.int .i64 0,.int .i64 0,.int .i64 0,.string ⟨#[]⟩,.slice none 0 0] 51)):=(Below.refl _ _).alloc (Nat.le_refl _) _
         have P:=h4.out.size
         have O:=K.size
         obtain ⟨g9,c9,w9,r9,o9,Q⟩:=(f9.out.below K).app' (ty:=36) (c9:=1) (Zcv _ _ 4 nn2 nr2) (Zl i0 #[.int .i64 4,.int .i64 nn2,.int .i64 nr2,.int .i64 0,.slice none 0 0,.slice none 0 0,.int .i64 0,.int .i64 0,.int .i64 0,.string ⟨#[]⟩,.slice none 0 0] 51) j0.1 (by omega) (by omega)
         have a8:=Zb o9
         have b5:Hid (Below w.heap.size w w9):=Za B.out ((Za h4.out K).trans Q)
         clear o9 Q K P O j0 i4
         by_cases h1:nn=nn2
         ·have z1:(nn != nn2)=false:=by simp [h1]
          by_cases h2:nr=nr2
          ·have z2:(nr != nr2)=false:=by simp [h2]
           have HS:=Zb (j1.out h1 h2)
           clear h1 h2 r9
           go_wp2_with fail
           go_ret
           exact ⟨_,rfl,by rw [HS.out];exact j2.out f9.out,k.out⟩
          ·have z2:(nr != nr2)=true:=by simp [h2]
           have HS:=Zb (i1.out fun h=>h2 h.2)
           clear h1 h2
           go_wp2_with (at_builtin;refine Zp rfl _ _ 36 rfl rfl rfl r9 ?_)
           go_ret
           exact ⟨_,rfl,by rw [HS.out];exact j2.out a8.out,b5.out⟩
         ·have z1:(nn != nn2)=true:=by simp [h1]
          have HS:=Zb (i1.out fun h=>h1 h.1)
          clear h1
          go_wp2_with (at_builtin;refine Zp rfl _ _ 36 rfl rfl rfl r9 ?_)
          go_ret
          exact ⟨_,rfl,by rw [HS.out];exact j2.out a8.out,b5.out⟩
end
section
open Go.RowKit Go.Shelf
attribute [local go_sem] Oper.semAt_some
theorem Zap.mono {B B':Nat} (hB:B<=B') {w:World} {a:Option Addr} {cs:List Zs} (h:Zap B w a cs):Zap B' w a cs:=fun i c hi=>by
 obtain ⟨bl,off,la,lc,pa,pc,qa,qc,e,hl,h1,h2,h3,h4⟩:=h i c hi
 exact ⟨bl,off,la,lc,pa,pc,qa,qc,e,Nat.lt_of_lt_of_le hl hB,h1,h2.mono hB,h3.mono hB,h4⟩
theorem Zog  : Zdh 1048576 Zhk:=⟨Zf1 (by decide) (by decide),by simp [Zhk],fun x hx=>by simp [Zhk] at hx,by simp [Zhk],fun q hq=>by simp [Zhk] at hq⟩
theorem Zoh  : Zfa 1048576 Zjv:=⟨⟨Zf1 (by decide) (by decide),Zf1 (by decide) (by decide),Zf1 (by decide) (by decide)⟩,Nat.zero_le _,by simp [Zjv],fun q hq=>by simp [Zjv] at hq⟩
theorem Zmh {next:Int}:∀ (l:Int) (ks:List Int),Zax next l ks=true->0<=l->∀ k ∈ ks,0<=k/\k<next
 | _,[],_,_,k,hk=>by cases hk
 | l,x::r,h,hl,k,hk=>by
  rw [Zax,Bool.and_eq_true,Bool.and_eq_true] at h
  have h1:¬ x<l:=by simpa using h.1
  have h2:¬ next<=x:=by simpa using h.2.1
  rcases List.mem_cons.1 hk with rfl | hk
  ·omega
  ·exact Zmh (x+1) r h.2.2 (by omega) k hk
theorem Zr4 {a b:Zt} (ha:GF 60 a) (f:GF 60 b) (hc:Jo a=true):(∀ c ∈ Zc4 a b,CF c)/\(Zc4 a b).length<=1000:=by
 have b5:=hc
 unfold Jo at b5
 simp only [Bool.and_eq_true] at b5
 have i1:=Zmh 0 _ b5.2.1.1 (by omega)
 have i2:=Zmh 0 _ b5.2.1.2 (by omega)
 have l1:=Za3 Jg.id a.rels b.rels
 have l2:=Za3 Zo.id a.nodes b.nodes
 have l3:=Zbr Zo.id Zu a.nodes b.nodes
 have l4:=Zbr Jg.id Je a.rels b.rels
 have m1:=ha.nl
 have m2:=ha.rl
 have m3:=f.nl
 have m4:=f.rl
 have hz:∀ k i o:Int,(-9223372036854775808<=i/\i<=9223372036854775807)->(-9223372036854775808<=o/\o<=9223372036854775807)->CF ⟨k,i,o,Zhk,Zjv⟩:=fun k i o h1 h2=>⟨h1,h2,Zog,Zoh⟩
 constructor
 ·intro c hc
  unfold Zc4 at hc
  simp only [List.mem_append,List.mem_map] at hc
  rcases hc with ⟨i,hi,rfl⟩ | ⟨i,hi,rfl⟩ | ⟨n,hn,rfl⟩ | ⟨n,hn,rfl⟩ | hc
  ·unfold Jr at hi
   obtain ⟨x,hx,rfl⟩:=List.mem_map.1 hi
   have:=i2 _ (List.mem_map_of_mem (List.mem_filter.1 hx).1)
   have:=ha.nr
   exact hz 3 _ 0 (by omega) (by omega)
  ·unfold Jr at hi
   obtain ⟨x,hx,rfl⟩:=List.mem_map.1 hi
   have:=i1 _ (List.mem_map_of_mem (List.mem_filter.1 hx).1)
   have:=ha.nn
   exact hz 2 _ 0 (by omega) (by omega)
  ·exact ⟨by simp [Zbt],by simp [Zbt],f.n n (Zlx hn),Zoh⟩
  ·exact ⟨by simp [Zc3],by simp [Zc3],Zog,f.r n (Zlx hn)⟩
  ·split at hc
   ·obtain rfl:c=_:=by simpa using hc
    exact hz 4 _ _ f.nn f.nr
   ·simp at hc
 ·unfold Zc4
  simp only [List.length_append,List.length_map]
  split
  ·simp only [List.length_cons,List.length_nil];omega
  ·simp only [List.length_nil];omega
theorem Zts {a b:Zt} (h1:Jo a=true) (h2:Jo b=true):Zd7 a (Zc4 a b)=(b,0):=by
 unfold Zd7
 rw [Zuo a b (Za6 h1).1 (Za6 h1).2 (Za6 h2).1 (Za6 h2).2,if_pos ⟨h1,Zss a b,h2⟩]
set_option maxRecDepth 100000 in
set_option maxHeartbeats 16000000 in
theorem Ja2 (g o:Zt) (v u:Value) (w:World) (hE:Env w) (hg:Zr w.heap.size w v g) (ho:Zr w.heap.size w u o) (hN:∀ n ∈ g.nodes,Zdh 1048576 n) (hR:∀ r ∈ g.rels,Zfa 1048576 r) (hl:g.nodes.length<=1048576/\g.rels.length<=1048576) (hn:-9223372036854775808<=g.nn/\g.nn<=9223372036854775807) (hr:-9223372036854775808<=g.nr/\g.nr<=9223372036854775807) (oN:∀ n ∈ o.nodes,Zdh 1048576 n) (oR:∀ r ∈ o.rels,Zfa 1048576 r) (ol:o.nodes.length<=1048576/\o.rels.length<=1048576) (on:-9223372036854775808<=o.nn/\o.nn<=9223372036854775807) (c3:-9223372036854775808<=o.nr/\o.nr<=9223372036854775807) :
  Calls Tryz.prog 4 #[v,u] w fun e w'=>e=.returned (.bool true)/\Below w.heap.size w w':=by
 have fg:=Zx2 g hl.1 hl.2 hN hR hn hr
 have fo:=Zx2 o ol.1 ol.2 oN oR on c3
 have HG:=Zb (fun W (f:Below w.heap.size w W)=>(hg.below f).mono f.size)
 have HO:=Zb (fun W (f:Below w.heap.size w W)=>(ho.below f).mono f.size)
 have HE:=Zb (fun W (f:Below w.heap.size w W)=>hE.below f hE.room)
 have N:=Zb (fun W (f:Below w.heap.size w W)=>Zq5 g W.heap.size v W (Nat.le_refl _) (HG.out W f) fg.bulk)
 have M:=Zb (fun W (f:Below w.heap.size w W)=>Zq5 o W.heap.size u W (Nat.le_refl _) (HO.out W f) fo.bulk)
 have HK:=Zb (fun W (f:Below w.heap.size w W)=>Zy0 W (HE.out W f))
 have d6:Hid (∀ x:Zt,(x=g\/x=o)->Zs6 x=false->GF 60 x):=fun x hx h=>by
  unfold Zs6 at h
  simp only [Bool.or_eq_false_iff,decide_eq_false_iff_not] at h
  rcases hx with rfl | rfl
  ·exact ⟨hN,hR,by omega,by omega,hn,hr⟩
  ·exact ⟨oN,oR,by omega,by omega,on,c3⟩
 have HD:=Zb (fun W (f:Below w.heap.size w W) (h1:GF 60 g) (h2:GF 60 o)=>Zzy g o v u W (HE.out W f) (HG.out W f) (HO.out W f) h1 h2)
 have G:=Zb (fun W (f:Below w.heap.size w W) (h1:GF 60 g) (h2:GF 60 o) (h3:Jo g=true)=>Zv9 g o v u W (HG.out W f) (HO.out W f) h1 h2 (Za6 h3).1 (Za6 h3).2)
 have a5:=Zb (fun W (f:Below w.heap.size w W) (h1:GF 60 g) (h2:GF 60 o) (h3:Jo g=true) a cap hc f9 c2=>Zwk g (Zc4 g o) v a cap W (HE.out W f) (HG.out W f) hc f9 c2 h1 (Zr4 h1 h2 h3).1 (Zr4 h1 h2 h3).2)
 have j:=Zb (fun W (f:Below w.heap.size w W)=>Zjb g W.heap.size v W (Nat.le_refl _) (HG.out W f) fg.sized)
 have m:=Zb (fun W (f:Below w.heap.size w W)=>Zjb o W.heap.size u W (Nat.le_refl _) (HO.out W f) fo.sized)
 have R:=Zb (fun W (f:Below w.heap.size w W) x (hx:Zr W.heap.size W x o)=>Zxx o o W.heap.size x u W (Nat.le_refl _) hx (HO.out W f))
 rw [<- Zsy] at j m
 rw [Zjy] at R
 obtain ⟨k1,L⟩:∃ b,Jo g=b:=⟨_,rfl⟩
 obtain ⟨k2,P⟩:∃ b,Jo o=b:=⟨_,rfl⟩
 have g3:=Zb L
 have j2:=Zb P
 rw [L] at j HD
 rw [P] at m HD
 have d3:Hid (k1=true->k2=true->Zd7 g (Zc4 g o)=(o,0)):=fun e1 e2=>Zts (L.trans e1) (P.trans e2)
 obtain ⟨v1,d8⟩:∃ b,Zs6 g=b:=⟨_,rfl⟩
 obtain ⟨v2,c9⟩:∃ b,Zs6 o=b:=⟨_,rfl⟩
 rw [d8] at N
 rw [c9] at M
 have e4:=Zb (And.intro d8 c9)
 obtain ⟨na,nc,ra,rc,rfl,i0,j1⟩:=hg
 obtain ⟨c4,d7,c7,c5,rfl,i3,i5⟩:=ho
 clear i0 j1 i3 i5 L P d8 c9 fg fo hE hN hR hl hn hr oN oR ol on c3
 generalize i6:g.nodes.length=nl at N HG HD G a5 j |-
 generalize g9:g.rels.length=rl at N HG HD G a5 j |-
 generalize g7:g.nn=nn at N HG HD G a5 j |-
 generalize h9:g.nr=nr at N HG HD G a5 j |-
 generalize g4:o.nodes.length=nl2 at M HO HD G m R |-
 generalize f0:o.rels.length=rl2 at M HO HD G m R |-
 generalize f6:o.nn=nn2 at M HO HD G m R |-
 generalize f8:o.nr=nr2 at M HO HD G m R |-
 clear i6 g9 g7 h9 g4 f0 f6 f8
 go_enter Tryz.func4,Tryz.ntmps4
 go_upto_region 1 with fail
 generalize d1:World.alloc _ _=W1
 have d:Hid (Below w.heap.size w W1):=by rw [<- d1];exact ((Below.refl _ _).alloc (Nat.le_refl _) _).alloc (by simp) _
 have a8:=(Zl w #[.slice na nl nc,.slice ra rl rc,.int .i64 nn,.int .i64 nr] 25).alloc (.cells #[.slice c4 nl2 d7,.slice c7 rl2 c5,.int .i64 nn2,.int .i64 nr2] 25)
 have S:=Zl (w.alloc (.cells #[.slice na nl nc,.slice ra rl rc,.int .i64 nn,.int .i64 nr] 25)) #[.slice c4 nl2 d7,.slice c7 rl2 c5,.int .i64 nn2,.int .i64 nr2] 25
 rw [d1] at a8 S
 rw [World.size_alloc] at S
 obtain ⟨A,hA⟩:∃ A,w.heap.size=A:=⟨_,rfl⟩
 rw [hA] at a8 S
 rw [show (some ({ block:=w.heap.size,off:=0 }:Addr))=some ⟨A,0,none⟩ by rw [hA],show (some ({ block:=w.heap.size+1,off:=0 }:Addr))=some ⟨A+1,0,none⟩ by rw [hA]]
 have HX:Hid (∀ W,Below W1.heap.size W1 W->(W.cell? ⟨A,0,none⟩=some (.slice na nl nc)/\W.cell? ⟨A,1,none⟩=some (.slice ra rl rc)/\W.cell? ⟨A,2,none⟩=some (.int .i64 nn)/\W.cell? ⟨A,3,none⟩=some (.int .i64 nr))/\(W.cell? ⟨A+1,0,none⟩=some (.slice c4 nl2 d7)/\W.cell? ⟨A+1,1,none⟩=some (.slice c7 rl2 c5)/\W.cell? ⟨A+1,2,none⟩=some (.int .i64 nn2)/\W.cell? ⟨A+1,3,none⟩=some (.int .i64 nr2))):=fun W h=>by
  have h1:=a8.below h a8.lt
  have h2:=S.below h S.lt
  exact ⟨⟨h1.cell 0 rfl,h1.cell 1 rfl,h1.cell 2 rfl,h1.cell 3 rfl⟩,⟨h2.cell 0 rfl,h2.cell 1 rfl,h2.cell 2 rfl,h2.cell 3 rfl⟩⟩
 clear d1 a8 S hA
 obtain ⟨⟨D,a1,a2,a3⟩,⟨b0,E,C,F⟩⟩:=HX.out W1 (Below.refl _ _)
 go_wp2_with fail
 refine (N.out W1 d.out).mono ?_
 rintro e w2 ⟨rfl,e7⟩
 have V:=Zb e7
 clear e7 N
 clear D a1 a2 a3 b0 E C F
 cases v1 with
 | true =>
  go_wp2_with fail
  refine (HK.out w2 (Za d.out V.out)).mono ?_
  rintro e k1 ⟨rfl,L⟩
  have g5:=Zb (Za (Za d.out V.out) L)
  clear L
  go_wp2_with fail
  go_ret
  exact ⟨rfl,g5.out⟩
 | false =>
  obtain ⟨⟨D,a1,a2,a3⟩,⟨b0,E,C,F⟩⟩:=HX.out w2 V.out
  go_wp2_with fail
  refine (M.out w2 (Za d.out V.out)).mono ?_
  rintro e w3 ⟨rfl,f1⟩
  have a7:=Zb (Za V.out f1)
  clear f1 M V
  clear D a1 a2 a3 b0 E C F
  cases v2 with
  | true =>
   go_wp2_with fail
   refine (HK.out w3 (Za d.out a7.out)).mono ?_
   rintro e k2 ⟨rfl,P⟩
   have e0:=Zb (Za (Za d.out a7.out) P)
   clear P
   go_wp2_with fail
   go_ret
   exact ⟨rfl,e0.out⟩
  | false =>
   have HA:=Zb (d6.out g (.inl rfl) e4.out.1)
   have c6:=Zb (d6.out o (.inr rfl) e4.out.2)
   obtain ⟨⟨D,a1,a2,a3⟩,⟨b0,E,C,F⟩⟩:=HX.out w3 a7.out
   go_wp2_with fail
   refine (HD.out w3 (Za d.out a7.out) HA.out c6.out).mono ?_
   rintro e w4 ⟨v4,er,rfl,b6,g1⟩
   have K:=Zb (Za a7.out b6)
   have X:=Zb g1
   clear g1 HD d6
   clear D a1 a2 a3 b0 E C F
   cases k1 with
   | false =>
    obtain ⟨e1,e2⟩:=X.out.2 rfl
    subst e1 e2
    clear X b6
    obtain ⟨⟨D,a1,a2,a3⟩,⟨b0,E,C,F⟩⟩:=HX.out w4 K.out
    go_wp2_with fail
    refine (j.out w4 (Za d.out K.out)).mono ?_
    rintro e w5 ⟨rfl,t⟩
    have y:=Zb (Za K.out t)
    clear t
    clear D a1 a2 a3 b0 E C F
    go_wp2_with fail
    refine (HK.out w5 (Za d.out y.out)).mono ?_
    rintro e k3 ⟨rfl,g0⟩
    have e5:=Zb (Za (Za d.out y.out) g0)
    clear g0
    go_wp2_with fail
    go_ret
    exact ⟨rfl,e5.out⟩
   | true =>
    obtain ⟨⟨D,a1,a2,a3⟩,⟨b0,E,C,F⟩⟩:=HX.out w4 K.out
    cases k2 with
    | false =>
     obtain ⟨e1,e2⟩:=X.out.2 rfl
     subst e1 e2
     clear X b6
     go_wp2_with fail
     refine (j.out w4 (Za d.out K.out)).mono ?_
     rintro e w5 ⟨rfl,t⟩
     have y:=Zb (Za K.out t)
     clear t
     clear D a1 a2 a3 b0 E C F
     obtain ⟨⟨D,a1,a2,a3⟩,⟨b0,E,C,F⟩⟩:=HX.out w5 y.out
     go_wp2_with fail
     refine (m.out w5 (Za d.out y.out)).mono ?_
     rintro e w6 ⟨rfl,Q⟩
     have U:=Zb (Za y.out Q)
     clear Q
     clear D a1 a2 a3 b0 E C F
     go_wp2_with fail
     refine (HK.out w6 (Za d.out U.out)).mono ?_
     rintro e k4 ⟨rfl,f4⟩
     have g6:=Zb (Za (Za d.out U.out) f4)
     clear f4
     go_wp2_with fail
     go_ret
     exact ⟨rfl,g6.out⟩
    | true =>
     obtain ⟨e1,H⟩:=X.out.1 rfl
     subst e1
     obtain ⟨la,lc,e2,a6,b8,e3⟩:=H.lie
     subst e2
     have p:=Zb e3
     obtain ⟨n,hn⟩:∃ n,(Zc4 g o).length=n:=⟨_,rfl⟩
     rw [hn] at a6 |-
     have HN:=Zb hn
     replace d3:=Zb (d3.out rfl rfl)
     clear X b6 H e3 hn
     go_wp2_with fail
     refine (j.out w4 (Za d.out K.out)).mono ?_
     rintro e w5 ⟨rfl,t⟩
     have y:=Zb (Za K.out t)
     replace p:=Zb (p.out.below t |>.mono t.size)
     clear t
     clear D a1 a2 a3 b0 E C F
     obtain ⟨⟨D,a1,a2,a3⟩,⟨b0,E,C,F⟩⟩:=HX.out w5 y.out
     go_wp2_with fail
     refine (m.out w5 (Za d.out y.out)).mono ?_
     rintro e w6 ⟨rfl,Q⟩
     have U:=Zb (Za y.out Q)
     replace p:=Zb (p.out.below Q |>.mono Q.size)
     clear Q
     clear D a1 a2 a3 b0 E C F
     obtain ⟨⟨D,a1,a2,a3⟩,⟨b0,E,C,F⟩⟩:=HX.out w6 U.out
     have c8:=Zb (a5.out w6 (Za d.out U.out) HA.out c6.out g3.out la lc p.out (by rw [HN.out];exact a6) b8)
     rw [HN.out,d3.out] at c8
     go_wp2_with fail
     refine c8.out.mono ?_
     rintro e w7 ⟨v7,h7,rfl,⟨f7,d2⟩,b4⟩
     have d2:h7=0:=d2
     subst d2
     have g8:=Zb (Za U.out b4)
     replace p:=Zb (p.out.below b4 |>.mono b4.size)
     have s:Hid (Zr w7.heap.size w7 v7 o):=f7
     obtain ⟨h6,i7,h0,h8,i8,_,_⟩:=s.out
     subst i8
     clear b4 f7 c8
     clear D a1 a2 a3 b0 E C F
     generalize d9:o.nodes.length=cl7 at s |-
     generalize f2:o.rels.length=dl7 at s |-
     generalize f3:o.nn=cn7 at s |-
     generalize e6:o.nr=cr7 at s |-
     clear d9 f2 f3 e6
     go_upto_region 7 with fail
     generalize d5:World.alloc _ _=W8
     have T:Below w7.heap.size w7 W8:=by rw [<- d5];exact (Below.refl _ _).alloc (Nat.le_refl _) _
     have a9:=Zl w7 #[.slice h6 cl7 i7,.slice h0 dl7 h8,.int .i64 cn7,.int .i64 cr7] 25
     rw [d5] at a9
     obtain ⟨Y,hY⟩:∃ Y,w7.heap.size=Y:=⟨_,rfl⟩
     rw [hY] at a9 |-
     have z:=Zb a9
     have d0:=Zb (Za g8.out T)
     replace p:=Zb (p.out.below T |>.mono T.size)
     replace s:=Zb ((s.out.below T).mono T.size)
     clear d5 T a9 hY
     obtain ⟨⟨D,a1,a2,a3⟩,⟨b0,E,C,F⟩⟩:=HX.out W8 d0.out
     go_wp2_with fail
     refine (G.out W8 (Za d.out d0.out) HA.out c6.out g3.out).mono ?_
     rintro e w9 ⟨v9,rfl,H,O⟩
     obtain ⟨i9,h5,e2,c0,g2,c1⟩:=H.lie
     subst e2
     have j0:=Zb (Za d0.out O)
     replace p:=Zb (p.out.below O |>.mono O.size)
     replace s:=Zb ((s.out.below O).mono O.size)
     replace z:=Zb (z.out.below O z.out.lt)
     have d4:=Zb (Zu4 (Zc4 g o) la i9 lc h5 w9.heap.size w9 (Nat.le_refl _) p.out c1 (by rw [HN.out];exact a6) b8 c0 g2)
     rw [HN.out] at d4 c0 |-
     clear O H c1
     clear D a1 a2 a3 b0 E C F
     go_wp2_with fail
     refine d4.out.mono ?_
     rintro e f5 ⟨rfl,I⟩
     have a4:=Zb (Za j0.out I)
     replace s:=Zb ((s.out.below I).mono I.size)
     replace z:=Zb (z.out.below I z.out.lt)
     clear I d4
     obtain ⟨⟨D,a1,a2,a3⟩,⟨b0,E,C,F⟩⟩:=HX.out f5 a4.out
     have m0:=z.out.cell 0 rfl
     have m1:=z.out.cell 1 rfl
     have m2:=z.out.cell 2 rfl
     have m3:=z.out.cell 3 rfl
     go_wp2_with fail
     refine (R.out f5 (Za d.out a4.out) _ s.out).mono ?_
     rintro e i4 ⟨rfl,b7⟩
     have b9:=Zb (Za a4.out b7)
     clear b7 m0 m1 m2 m3
     clear D a1 a2 a3 b0 E C F
     go_wp2_with fail
     refine (HK.out i4 (Za d.out b9.out)).mono ?_
     rintro e k5 ⟨rfl,e8⟩
     have e9:=Zb (Za (Za d.out b9.out) e8)
     clear e8
     go_wp2_with fail
     go_ret
     exact ⟨rfl,e9.out⟩
end
