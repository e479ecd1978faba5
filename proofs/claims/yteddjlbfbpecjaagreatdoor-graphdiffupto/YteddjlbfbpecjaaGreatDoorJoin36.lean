import Derived.Test.YteddjlbfbpecjaaGreatDoorOpenu
namespace Go.Proofs.YteddjlbfbpecjaaGreatDoor
set_option maxHeartbeats 4000000
set_option maxRecDepth 100000
set_option linter.all false
section
open Go.RowKit Go.Shelf
attribute [local go_sem] Oper.semAt_some
def Jcy  : Zt:=⟨[],[],0,0⟩
theorem Zwi (B:Nat) (w:World):Zr B w (.agg #[.slice none 0 0,.slice none 0 0,.int .i64 0,.int .i64 0]) Jcy:=⟨none,0,none,0,rfl,⟨none,0,rfl,Nat.le_refl _,by omega,.inl rfl⟩,⟨none,0,rfl,Nat.le_refl _,by omega,.inl rfl⟩⟩
def Zd7 (g:Zt) (cs:List Zs):Zt × Int :=
 if Jo g=true/\cs.any Zbv=false/\Jo (cs.foldl doC g)=true then (cs.foldl doC g,0) else (Jcy,2)
structure GF (m:Nat) (g:Zt):Prop where
 n:∀ x ∈ g.nodes,Zdh 1048576 x
 r:∀ x ∈ g.rels,Zfa 1048576 x
 nl:g.nodes.length<=m
 rl:g.rels.length<=m
 nn:-9223372036854775808<=g.nn/\g.nn<=9223372036854775807
 nr:-9223372036854775808<=g.nr/\g.nr<=9223372036854775807
structure CF (c:Zs):Prop where
 i:-9223372036854775808<=c.id/\c.id<=9223372036854775807
 o:-9223372036854775808<=c.other/\c.other<=9223372036854775807
 n:Zdh 1048576 c.node
 r:Zfa 1048576 c.rel
theorem Zly {α:Type} (key:α->Int) (n:α):∀ l:List α,(Zid key n l).length<=l.length+1
 | []=>by simp [Zid]
 | x::r=>by
  have:=Zly key n r
  rw [Zid]
  split
  ·simp only [List.length_cons];omega
  ·split<;>simp
theorem GF.step {m:Nat} {g:Zt} {c:Zs} (h:GF m g) (hc:CF c):GF (m+1) (doC g c):=by
 have h1:=h.nl
 have h2:=h.rl
 have h3:=Zly Zo.id c.node g.nodes
 have h4:=Zly Jg.id c.rel g.rels
 have h5:(Zfc Zo.id c.id g.nodes).length<=g.nodes.length:=List.length_filter_le _ _
 have h6:(Zfc Jg.id c.id g.rels).length<=g.rels.length:=List.length_filter_le _ _
 unfold doC
 split
 ·exact ⟨fun x X=>(Zlg X).elim (fun e=>by rw [e];exact hc.n) (h.n x),h.r,by dsimp only;omega,by dsimp only;omega,h.nn,h.nr⟩
 ·split
  ·exact ⟨h.n,fun x X=>(Zlg X).elim (fun e=>by rw [e];exact hc.r) (h.r x),by dsimp only;omega,by dsimp only;omega,h.nn,h.nr⟩
  ·split
   ·exact ⟨fun x X=>h.n x (List.mem_filter.1 X).1,h.r,by dsimp only;omega,by dsimp only;omega,h.nn,h.nr⟩
   ·split
    ·exact ⟨h.n,fun x X=>h.r x (List.mem_filter.1 X).1,by dsimp only;omega,by dsimp only;omega,h.nn,h.nr⟩
    ·split
     ·exact ⟨h.n,h.r,by dsimp only;omega,by dsimp only;omega,hc.i,hc.o⟩
     ·exact ⟨h.n,h.r,by omega,by omega,h.nn,h.nr⟩
theorem GF.steps  : ∀ (cs:List Zs) {m:Nat} {g:Zt},GF m g->(∀ c ∈ cs,CF c)->GF (m+cs.length) (cs.foldl doC g)
 | [],m,g,h,_=>h
 | c::r,m,g,h,hc=>by
  have:=GF.steps r (h.step (hc c List.mem_cons_self)) fun d hd=>hc d (List.mem_cons_of_mem _ hd)
  rw [List.length_cons,show m+(r.length+1)=m+1+r.length by omega]
  exact this
theorem GF.fit {m:Nat} {g:Zt} (h:GF m g) (hm:m<=1048576):Fit g:=Zx2 g (Nat.le_trans h.nl hm) (Nat.le_trans h.rl hm) h.n h.r h.nn h.nr
theorem Zwj {cs:List Zs} {j:Nat} {c:Zs} (g:Zt) (h:cs[j]?=some c):(cs.take (j+1)).foldl doC g=doC ((cs.take j).foldl doC g) c:=by
 rw [List.take_add_one,h];simp [List.foldl_append]
theorem Zaz.ps {B:Nat} {p:GP} {g:Zt} {N R:List (Int × Value)} {w:World} (h:Zaz B p g N R w):PS w p g.nn g.nr N R:=⟨h.box.lt,h.box.cell 0 rfl,h.box.cell 1 rfl,h.box.cell 2 rfl,h.box.cell 3 rfl,h.n,h.r⟩
theorem Zaz.below {B:Nat} {p:GP} {g:Zt} {N R:List (Int × Value)} {w w':World} (h:Zaz B p g N R w) (u:Below w.heap.size w w') (hB:B<=w.heap.size):Zaz B p g N R w' :=
 ⟨h.ok,h.box.below u h.box.lt,h.n.below u (Nat.le_refl _),h.r.below u (Nat.le_refl _),h.mn.turn fun v x q=>q.below (u.mono hB),h.mr.turn fun v x q=>q.below (u.mono hB)⟩
set_option maxRecDepth 100000 in
set_option maxHeartbeats 16000000 in
theorem Zwk (g:Zt) (cs:List Zs) (v:Value) (a:Option Addr) (cap:Nat) (w:World) (hE:Env w) (hg:Zr w.heap.size w v g) (hc:Zap w.heap.size w a cs) (j8:cs.length<=cap) (d8:cap<=9223372036854775807) (hf:GF 60 g) (b4:∀ c ∈ cs,CF c) (o7:cs.length<=1000) :
  Calls Tryz.prog 21 #[v,.slice a cs.length cap] w fun e w'=>∃ v' er,e=.returned (.tuple #[v',.int .i64 er])/\(Zr w'.heap.size w' v' (Zd7 g cs).1/\er=(Zd7 g cs).2)/\Below w.heap.size w w':=by
 have fg:=hf.fit (by omega)
 have fh:=(hf.steps cs b4).fit (by omega)
 have HG:=Zb (fun W (u:Below w.heap.size w W)=>(hg.below u))
 have HE:=Zb (fun W (u:Below w.heap.size w W)=>hE.below u hE.room)
 have HC:=Zb (fun W (u:Below w.heap.size w W)=>Zdl g w.heap.size v W u.size (HE.out W u) (HG.out W u) fg.mild fg.nn fg.nr fg.ends)
 have HN:=Zb (fun W (u:Below w.heap.size w W)=>Zmv cs a cap w.heap.size W u.size j8 d8 (hc.below u))
 have m9:=Zb (fun W (u:Below w.heap.size w W)=>hc.below u)
 have F:=Zb fh
 have b9:=Zb (hf.steps cs b4)
 have n8:=Zb b4
 have a6:Hid (∀ W,Below w.heap.size w W->Jo g=true->Calls Tryz.prog 39 #[v] W fun e w'=>e=.returned (.agg #[.map (some (W.heap.size+2)),.map (some (W.heap.size+2+1)),.int .i64 g.nn,.int .i64 g.nr])/\Below W.heap.size W w'/\Jcd w.heap.size w' (W.heap.size+2) (W.heap.size+2+1) g.nodes g.rels):=fun W u hk=>by
  unfold Jo at hk
  simp only [Bool.and_eq_true] at hk
  have k1:=(Zd2 hk.2.1.1).imp (S:=(·≠·)) fun h=>by omega
  have k2:=(Zd2 hk.2.1.2).imp (S:=(·≠·)) fun h=>by omega
  exact Zjq g w.heap.size v W u.size (HG.out W u) k1 k2 (fun n hn=>(hf.n n hn).1) fun r hr=>(hf.r r hr).1.1
 have k6:Hid (Jo g=true->(g.nodes.map Zo.id).Pairwise (·<·)/\(g.rels.map Jg.id).Pairwise (·<·)):=fun hk=>by
  unfold Jo at hk
  simp only [Bool.and_eq_true] at hk
  exact ⟨Zd2 hk.2.1.1,Zd2 hk.2.1.2⟩
 obtain ⟨ok,b8⟩:∃ b,Jo g=b:=⟨_,rfl⟩
 obtain ⟨nk,b5⟩:∃ b,cs.any Zbv=b:=⟨_,rfl⟩
 rw [b8] at HC
 rw [b5] at HN
 have b7:=Zb b8
 have i6:=Zb b5
 have C:Hid ((ok=false\/nk=true\/Jo (cs.foldl doC g)=false)->∀ (B:Nat) (W:World),Zr B W (.agg #[.slice none 0 0,.slice none 0 0,.int .i64 0,.int .i64 0]) (Zd7 g cs).1/\(2:Int)=(Zd7 g cs).2):=fun hh B W=>by
  have:Zd7 g cs=(Jcy,2):=by
   unfold Zd7
   rw [if_neg]
   rintro ⟨h1,h2,h3⟩
   rw [b8] at h1
   rw [b5] at h2
   rcases hh with e | e | e
   ·rw [e] at h1;cases h1
   ·rw [e] at h2;cases h2
   ·rw [e] at h3;cases h3
  rw [this]
  exact ⟨Zwi _ _,rfl⟩
 obtain ⟨na,nc,ra,rc,rfl,f3,g4⟩:=hg
 clear f3 g4 b8 b5 fg fh hc b4 hE hf
 generalize n1:g.nodes.length=nl at HC HG a6 |-
 generalize l3:g.rels.length=rl at HC HG a6 |-
 generalize g5:g.nn=nn at HC HG a6 |-
 generalize i3:g.nr=nr at HC HG a6 |-
 have n4:=Zb g5
 have m6:=Zb i3
 clear n1 l3 g5 i3
 go_enter Tryz.func21,Tryz.ntmps21
 go_upto_region 1 with fail
 generalize f7:World.alloc _ _=W1
 have E:Hid (Below w.heap.size w W1):=by rw [<- f7];exact ((Below.refl _ _).alloc (Nat.le_refl _) _).alloc (by simp) _
 have O:=(Zl w #[.slice na nl nc,.slice ra rl rc,.int .i64 nn,.int .i64 nr] 25).alloc (.cells #[.slice none 0 0,.slice none 0 0,.int .i64 0,.int .i64 0] 25)
 have b3:=Zl (w.alloc (.cells #[.slice na nl nc,.slice ra rl rc,.int .i64 nn,.int .i64 nr] 25)) #[.slice none 0 0,.slice none 0 0,.int .i64 0,.int .i64 0] 25
 rw [f7] at O b3
 rw [World.size_alloc] at b3
 have k0:=Zb O
 have a4:=Zb b3
 have a0:=O.cell 0 rfl
 have a1:=O.cell 1 rfl
 have a2:=O.cell 2 rfl
 have a3:=O.cell 3 rfl
 clear f7 O b3
 go_wp2_with fail
 refine (HC.out W1 E.out).mono ?_
 rintro e w2 ⟨rfl,h9⟩
 have b0:=Zb h9
 clear h9 a0 a1 a2 a3 HC
 cases ok with
 | false =>
  replace C:=Zb (C.out (.inl rfl))
  have k:=Zb (a4.out.below b0.out a4.out.lt)
  have g2:=Zb (Za E.out b0.out)
  have y0:=k.out.cell 0 rfl
  have y1:=k.out.cell 1 rfl
  have y2:=k.out.cell 2 rfl
  have y3:=k.out.cell 3 rfl
  have s0:=k.out.z 0
  have s1:=k.out.z 1
  have s2:=k.out.z 2
  have s3:=k.out.z 3
  go_wp2_with fail
  generalize t:World.setCell _ _ _=Wz
  have f:Hid (Rec Wz (w.heap.size+1) #[.slice none 0 0,.slice none 0 0,.int .i64 0,.int .i64 0] 25):=by rw [<- t];exact (((k.out.set 0 _).set 1 _).set 2 _).set 3 _
  have K:Hid (Below w.heap.size w Wz):=by rw [<- t];exact (((g2.out.setCell (p:=⟨w.heap.size+1,_,none⟩) (Nat.le_succ _) _).setCell (p:=⟨w.heap.size+1,_,none⟩) (Nat.le_succ _) _).setCell (p:=⟨w.heap.size+1,_,none⟩) (Nat.le_succ _) _).setCell (p:=⟨w.heap.size+1,_,none⟩) (Nat.le_succ _) _
  clear t y0 y1 y2 y3 s0 s1 s2 s3
  have q0:=f.out.cell 0 rfl
  have q1:=f.out.cell 1 rfl
  have q2:=f.out.cell 2 rfl
  have q3:=f.out.cell 3 rfl
  refine bodyPost_ret (v:=.tuple #[.agg #[.slice none 0 0,.slice none 0 0,.int .i64 0,.int .i64 0],.int .i64 2]) ?_ rfl ⟨_,_,rfl,C.out _ _,K.out⟩
  simp [results,Tryz.results21,go_sem,q0,q1,q2,q3]
 | true =>
  go_wp2_with fail
  refine (HN.out w2 (Za E.out b0.out)).mono ?_
  rintro e w3 ⟨rfl,i2⟩
  have L:=Zb (Za b0.out i2)
  clear i2 HN b0
  cases nk with
  | true =>
   replace C:=Zb (C.out (.inr (.inl rfl)))
   have k:=Zb (a4.out.below L.out a4.out.lt)
   have g2:=Zb (Za E.out L.out)
   have y0:=k.out.cell 0 rfl
   have y1:=k.out.cell 1 rfl
   have y2:=k.out.cell 2 rfl
   have y3:=k.out.cell 3 rfl
   have s0:=k.out.z 0
   have s1:=k.out.z 1
   have s2:=k.out.z 2
   have s3:=k.out.z 3
   go_wp2_with fail
   generalize t:World.setCell _ _ _=Wz
   have f:Hid (Rec Wz (w.heap.size+1) #[.slice none 0 0,.slice none 0 0,.int .i64 0,.int .i64 0] 25):=by rw [<- t];exact (((k.out.set 0 _).set 1 _).set 2 _).set 3 _
   have K:Hid (Below w.heap.size w Wz):=by rw [<- t];exact (((g2.out.setCell (p:=⟨w.heap.size+1,_,none⟩) (Nat.le_succ _) _).setCell (p:=⟨w.heap.size+1,_,none⟩) (Nat.le_succ _) _).setCell (p:=⟨w.heap.size+1,_,none⟩) (Nat.le_succ _) _).setCell (p:=⟨w.heap.size+1,_,none⟩) (Nat.le_succ _) _
   clear t y0 y1 y2 y3 s0 s1 s2 s3
   have q0:=f.out.cell 0 rfl
   have q1:=f.out.cell 1 rfl
   have q2:=f.out.cell 2 rfl
   have q3:=f.out.cell 3 rfl
   refine bodyPost_ret (v:=.tuple #[.agg #[.slice none 0 0,.slice none 0 0,.int .i64 0,.int .i64 0],.int .i64 2]) ?_ rfl ⟨_,_,rfl,C.out _ _,K.out⟩
   simp [results,Tryz.results21,go_sem,q0,q1,q2,q3]
  | false =>
   have b1:=k0.out.below L.out k0.out.lt
   have a0:=b1.cell 0 rfl
   have a1:=b1.cell 1 rfl
   have a2:=b1.cell 2 rfl
   have a3:=b1.cell 3 rfl
   clear b1
   go_wp2_with fail
   refine (a6.out w3 (Za E.out L.out) b7.out).mono ?_
   rintro e w4 ⟨rfl,k8,N0,R0,k7,f9,g8,k5⟩
   have i9:=Zb (Za L.out k8)
   have f2:=Zb (And.intro (And.intro k7 f9) (And.intro g8 k5))
   have o2:W1.heap.size<=w3.heap.size:=L.out.size
   have b2:w.heap.size<=W1.heap.size:=E.out.size
   have o5:w3.heap.size+3<w4.heap.size:=f9.lt
   clear a0 a1 a2 a3 k7 f9 g8 k5 k8
   obtain ⟨Q,n7⟩:∃ x,w3.heap.size+2=x:=⟨_,rfl⟩
   rw [n7] at f2 |-
   go_upto_region 4 with fail
   generalize d9:World.alloc _ _=W5
   have V:Below w4.heap.size w4 W5:=by rw [<- d9];exact (Below.refl _ _).alloc (Nat.le_refl _) _
   have d7:=Zl w4 #[.map (some Q),.map (some (Q+1)),.int .i64 nn,.int .i64 nr] 71
   rw [d9] at d7
   have j0:=Zb (Za i9.out V)
   have f1:Hid (Zaz W1.heap.size ⟨w4.heap.size,Q,Q+1,0,0⟩ g N0 R0 W5):=by
    obtain ⟨⟨h1,h2⟩,h3,h4⟩:=f2.out
    refine ⟨⟨?_,?_,?_,?_,?_,?_⟩,?_,h1.below V (Nat.le_refl _),h2.below V (Nat.le_refl _),?_,?_⟩
    ·show w4.heap.size≠Q;omega
    ·show w4.heap.size≠Q+1;omega
    ·show Q≠Q+1;omega
    ·show _<=w4.heap.size;omega
    ·show _<=Q;omega
    ·show _<=Q+1;omega
    ·rw [n4.out,m6.out];exact d7
    ·exact (Zsb h3 (k6.out b7.out).1).turn fun v x q=>(q.below (V.mono (by omega))).mono b2
    ·exact (Zsb h4 (k6.out b7.out).2).turn fun v x q=>(q.below (V.mono (by omega))).mono b2
   obtain ⟨Y,hY⟩:∃ Y,w4.heap.size=Y:=⟨_,rfl⟩
   rw [hY] at f1 |-
   clear d9 V d7 f2 a6 L i9 hY
   go_wp2_with fail
   go_loopw [23] (fun i wr=>∃ (j:Nat) (N R:List (Int × Value)),j<=cs.length/\i=.int .i64 j/\Below W1.heap.size W1 wr/\Zaz W1.heap.size ⟨Y,Q,Q+1,0,0⟩ ((cs.take j).foldl doC g) N R wr) (fun i _=>cs.length - (intOf i).toNat)
   case atStart=>exact ⟨0,N0,R0,Nat.zero_le _,rfl,j0.out,f1.out⟩
   case round =>
    obtain ⟨j,N,R,hj,rfl,j3,j2⟩:=hrel
    have G:=Zb j3
    have H:=Zb j2
    clear j3 j2 f1 j0
    by_cases hlt:j<cs.length
    ·obtain ⟨c,X⟩:∃ q,cs[j]?=some q:=⟨_,List.getElem?_eq_getElem hlt⟩
     have HX:=Zb X
     obtain ⟨bl,off,la,lc,pa,pc,qa,qc,rfl,hl,⟨c0,c1,c2,c3,c4,c5,c6,c7,c8,c9,c10⟩,h1,h2,h3⟩:=m9.out wr (Za E.out G.out) j c X
     have o0:=Zb h1
     have l0:=Zb h2
     have n0:=Zb h3
     have h8:=n8.out c (List.mem_of_getElem? X)
     have b6:=Zb h8
     have l9:Hid (0<=c.kind/\c.kind<=4):=by
      have h4:=List.any_eq_false.1 i6.out c (List.mem_of_getElem? X)
      unfold Zbv at h4
      simp only [Bool.or_eq_true,decide_eq_true_eq,not_or] at h4
      show _/\_
      omega
     clear X h1 h2 h3 h8
     go_upto_region 7 with fail
     generalize f0:World.alloc _ _=W6
     have a5:Below wr.heap.size wr W6:=by rw [<- f0];exact (Below.refl _ _).alloc (Nat.le_refl _) _
     have A:=Zl wr #[.int .i64 c.kind,.int .i64 c.id,.int .i64 c.other,.int .i64 c.node.id,.slice la c.node.labels.length lc,.slice pa c.node.props.length pc,.int .i64 c.rel.id,.int .i64 c.rel.fr,.int .i64 c.rel.tt,.string c.rel.type,.slice qa c.rel.props.length qc] 51
     rw [f0] at A
     have m4:W1.heap.size<=wr.heap.size:=G.out.size
     have k3:=Zb (Zs1 c l9.out _ _ W1.heap.size (.agg #[.int .i64 c.kind,.int .i64 c.id,.int .i64 c.other,.int .i64 c.node.id,.slice la c.node.labels.length lc,.slice pa c.node.props.length pc,.int .i64 c.rel.id,.int .i64 c.rel.fr,.int .i64 c.rel.tt,.string c.rel.type,.slice qa c.rel.props.length qc]) W6 N R (H.out.below a5 m4) (by have:=a5.size;omega) ⟨la,lc,pa,pc,qa,qc,rfl,(o0.out.below (a5.mono (by omega))).mono b2,(l0.out.below (a5.mono (by omega))).mono b2,n0.out⟩ ⟨Zf1 b6.out.i.1 b6.out.i.2,b6.out.n.1,b6.out.r.1.1⟩)
     have n2:=Zb (Za G.out a5)
     have e0:=A.cell 0 rfl
     have e1:=A.cell 1 rfl
     have e2:=A.cell 2 rfl
     have e3:=A.cell 3 rfl
     have e4:=A.cell 4 rfl
     have e5:=A.cell 5 rfl
     have e6:=A.cell 6 rfl
     have e7:=A.cell 7 rfl
     have e8:=A.cell 8 rfl
     have e9:=A.cell 9 rfl
     have n3:=A.cell 10 rfl
     clear f0 A a5 c0 c1 c2 c3 c4 c5 c6 c7 c8 c9 c10
     go_wp2_with fail
     refine k3.out.mono ?_
     rintro e w7 ⟨rfl,j7,N',R',i0⟩
     have l1:=Zb (n2.out.trans j7)
     have l5:Hid (Zaz W1.heap.size ⟨Y,Q,Q+1,0,0⟩ ((cs.take (j+1)).foldl doC g) N' R' w7):=by rw [Zwj g HX.out];exact i0
     clear j7 i0 k3 e0 e1 e2 e3 e4 e5 e6 e7 e8 e9 n3
     go_wp2_with fail
     go_roundw
     case rel=>exact ⟨j+1,N',R',by omega,by go_num,l1.out,l5.out⟩
     case measure=>simp [intOf];omega
    ·obtain rfl:j=cs.length:=by omega
     rw [List.take_length] at H
     generalize hh:cs.foldl doC g=h at H F b9 C
     have l2:=H.out.mn.len
     have l7:=H.out.mr.len
     have l8:=b9.out.nl
     have l4:=b9.out.rl
     have k4:=Zb (fun W (u:Below wr.heap.size wr W)=>Zqq ((H.out.below u G.out.size).ps) (by omega))
     have o6:¬ ((N.length:Int)+(R.length:Int)>65536):=by omega
     have g9:Hid (∀ r ∈ h.rels,r.type.size<=maxLen):=fun r hr=>by have:=(b9.out.r r hr).2.1;unfold maxLen;omega
     have i7:=Zb (fun W (u:Below wr.heap.size wr W)=>Zsg ((H.out.below u G.out.size).ps) W1.heap.size (by have:=u.size;have:=G.out.size;omega) h.nodes h.rels (Zyi (H.out.below u G.out.size).mn (H.out.below u G.out.size).mr (by omega) (by omega) g9.out))
     have n6:=Zb hh
     clear l2 l7 l8 l4 hh
     go_wp2_with fail
     refine (k4.out wr (Below.refl _ _)).mono ?_
     rintro e w8 ⟨rfl,h7⟩
     have f8:=Zb h7
     clear h7 k4
     go_wp2_with fail
     refine (i7.out w8 f8.out).mono ?_
     rintro e w9 ⟨v9,rfl,d0,j5⟩
     have k9:=Zb (Za f8.out j5)
     have U:Hid (Zr w9.heap.size w9 v9 h):=d0
     replace d0:Zr w9.heap.size w9 v9 h:=d0
     obtain ⟨n5,l6,n9,m8,rfl,_,_⟩:=d0
     clear j5 i7
     generalize j9:h.nodes.length=cl9 at U |-
     generalize g6:h.rels.length=dl9 at U |-
     generalize i5:h.nn=cn9 at U |-
     generalize j1:h.nr=cr9 at U |-
     clear j9 g6 i5 j1
     go_upto_region 12 with fail
     generalize a7:World.alloc _ _=W10
     have P:Below w9.heap.size w9 W10:=by rw [<- a7];exact (Below.refl _ _).alloc (Nat.le_refl _) _
     have a9:=Zl w9 #[.slice n5 cl9 l6,.slice n9 dl9 m8,.int .i64 cn9,.int .i64 cr9] 25
     rw [a7] at a9
     have D:=Zb a9
     have d1:=Zb (Za G.out (Za k9.out P))
     have d4:=Zb ((U.out.below P).mono P.size)
     obtain ⟨M,hM⟩:∃ M,w9.heap.size=M:=⟨_,rfl⟩
     rw [hM] at D |-
     clear a7 P a9 U k9 f8 hM
     have d6:=Zb (Zdl h W10.heap.size _ W10 (Nat.le_refl _) (HE.out W10 (Za E.out d1.out)) d4.out F.out.mild F.out.nn F.out.nr F.out.ends)
     obtain ⟨kh,f5⟩:∃ b,Jo h=b:=⟨_,rfl⟩
     rw [f5] at d6 C
     have o1:=Zb f5
     have m0:=D.out.cell 0 rfl
     have m1:=D.out.cell 1 rfl
     have m2:=D.out.cell 2 rfl
     have m3:=D.out.cell 3 rfl
     clear f5
     go_wp2_with fail
     refine d6.out.mono ?_
     rintro e f4 ⟨rfl,I⟩
     have d3:=Zb (Za d1.out I)
     have T:=Zb (D.out.below I D.out.lt)
     have i1:=Zb ((d4.out.below I).mono I.size)
     have s:=Zb (a4.out.below d3.out a4.out.lt)
     have d2:=Zb (Za E.out d3.out)
     clear I m0 m1 m2 m3 d6
     cases kh with
     | false =>
      replace C:=Zb (C.out (.inr (.inr rfl)))
      have y0:=s.out.cell 0 rfl
      have y1:=s.out.cell 1 rfl
      have y2:=s.out.cell 2 rfl
      have y3:=s.out.cell 3 rfl
      have s0:=s.out.z 0
      have s1:=s.out.z 1
      have s2:=s.out.z 2
      have s3:=s.out.z 3
      go_wp2_with fail
      generalize t:World.setCell _ _ _=Wz
      have f:Hid (Rec Wz (w.heap.size+1) #[.slice none 0 0,.slice none 0 0,.int .i64 0,.int .i64 0] 25):=by rw [<- t];exact (((s.out.set 0 _).set 1 _).set 2 _).set 3 _
      have K:Hid (Below w.heap.size w Wz):=by rw [<- t];exact (((d2.out.setCell (p:=⟨w.heap.size+1,_,none⟩) (Nat.le_succ _) _).setCell (p:=⟨w.heap.size+1,_,none⟩) (Nat.le_succ _) _).setCell (p:=⟨w.heap.size+1,_,none⟩) (Nat.le_succ _) _).setCell (p:=⟨w.heap.size+1,_,none⟩) (Nat.le_succ _) _
      clear t y0 y1 y2 y3 s0 s1 s2 s3
      have q0:=f.out.cell 0 rfl
      have q1:=f.out.cell 1 rfl
      have q2:=f.out.cell 2 rfl
      have q3:=f.out.cell 3 rfl
      refine bodyPost_ret (v:=.tuple #[.agg #[.slice none 0 0,.slice none 0 0,.int .i64 0,.int .i64 0],.int .i64 2]) ?_ rfl ⟨_,_,rfl,C.out _ _,K.out⟩
      simp [results,Tryz.results21,go_sem,q0,q1,q2,q3]
     | true =>
      have g7:Hid (Zd7 g cs=(h,0)):=by
       show Zd7 g cs=(h,0)
       unfold Zd7
       rw [n6.out,if_pos ⟨b7.out,i6.out,o1.out⟩]
      have j6:=Zb (Zib h _ f4.heap.size f4 (Nat.le_refl _) i1.out F.out.mild.nodes F.out.mild.rels F.out.ofN F.out.ofR)
      have m0:=T.out.cell 0 rfl
      have m1:=T.out.cell 1 rfl
      have m2:=T.out.cell 2 rfl
      have m3:=T.out.cell 3 rfl
      go_wp2_with fail
      refine j6.out.mono ?_
      rintro e j4 ⟨o4,rfl,d5,a8⟩
      have h0:=Zb (Za d2.out a8)
      have y:=Zb (s.out.below a8 s.out.lt)
      have i4:=Zb d5
      have o3:w.heap.size+1<f4.heap.size:=s.out.lt
      obtain ⟨nv,rv,rfl,f3,g4⟩:=d5
      obtain ⟨f6,g1,rfl,_⟩:=f3
      obtain ⟨g0,g3,rfl,_⟩:=g4
      clear a8 m0 m1 m2 m3 j6
      have y0:=y.out.cell 0 rfl
      have y1:=y.out.cell 1 rfl
      have y2:=y.out.cell 2 rfl
      have y3:=y.out.cell 3 rfl
      have s0:=y.out.z 0
      have s1:=y.out.z 1
      have s2:=y.out.z 2
      have s3:=y.out.z 3
      go_wp2_with fail
      generalize t:World.setCell _ _ _=Wz
      have f:Hid (Rec Wz (w.heap.size+1) #[.slice f6 h.nodes.length g1,.slice g0 h.rels.length g3,.int .i64 h.nn,.int .i64 h.nr] 25):=by rw [<- t];exact (((y.out.set 0 _).set 1 _).set 2 _).set 3 _
      have K:Hid (Below w.heap.size w Wz):=by rw [<- t];exact (((h0.out.setCell (p:=⟨w.heap.size+1,_,none⟩) (Nat.le_succ _) _).setCell (p:=⟨w.heap.size+1,_,none⟩) (Nat.le_succ _) _).setCell (p:=⟨w.heap.size+1,_,none⟩) (Nat.le_succ _) _).setCell (p:=⟨w.heap.size+1,_,none⟩) (Nat.le_succ _) _
      have m7:Wz.heap.size=j4.heap.size:=by rw [<- t];simp
      have i8:Hid (∀ b,w.heap.size+1≠b->Wz.heap[b]?=j4.heap[b]?):=fun b u=>by
       rw [<- t]
       repeat rw [Below.heap_setCell _ _ _ _ (Ne.symm u)]
      have m5:Hid (Zr Wz.heap.size Wz (.agg #[.slice f6 h.nodes.length g1,.slice g0 h.rels.length g3,.int .i64 h.nn,.int .i64 h.nr]) h):=by
       have:=(Zc6.keep (w':=Wz) (fun b o h1 h2=>⟨World.cell?_of_block (i8.out b (by omega)),by unfold World.frozen?;rw [i8.out b (by omega)]⟩) i4.out).lie g9.out
       rwa [m7]
      clear t y0 y1 y2 y3 s0 s1 s2 s3
      have q0:=f.out.cell 0 rfl
      have q1:=f.out.cell 1 rfl
      have q2:=f.out.cell 2 rfl
      have q3:=f.out.cell 3 rfl
      refine bodyPost_ret (v:=.tuple #[.agg #[.slice f6 h.nodes.length g1,.slice g0 h.rels.length g3,.int .i64 h.nn,.int .i64 h.nr],.int .i64 0]) ?_ rfl ⟨_,_,rfl,⟨by rw [g7.out];exact m5.out,by rw [g7.out]⟩,K.out⟩
      simp [results,Tryz.results21,go_sem,q0,q1,q2,q3]
end
section
open Go.RowKit Go.Shelf
theorem Zr6 {α:Type} {key:α->Int}:∀ (xs ys:List α),(xs.map key).Pairwise (·<·)->(ys.map key).Pairwise (·<·)->(∀ z,z ∈ xs↔z ∈ ys)->xs=ys
 | [],[],_,_,_=>rfl
 | [],y::r,_,_,h=>by simpa using (h y).2 List.mem_cons_self
 | x::r,[],_,_,h=>by simpa using (h x).1 List.mem_cons_self
 | x::r,y::s,j,d,h=>by
  rw [List.map_cons,List.pairwise_cons] at j d
  have h1:∀ z ∈ r,key x<key z:=fun z c=>j.1 _ (List.mem_map_of_mem c)
  have h2:∀ z ∈ s,key y<key z:=fun z c=>d.1 _ (List.mem_map_of_mem c)
  have e:x=y:=by
   rcases List.mem_cons.1 ((h x).1 List.mem_cons_self) with e | e
   ·exact e
   ·rcases List.mem_cons.1 ((h y).2 List.mem_cons_self) with K | K
    ·exact K.symm
    ·have:=h1 _ K
     have:=h2 _ e
     omega
  subst e
  rw [Zr6 r s j.2 d.2 fun z=>?_]
  constructor
  ·intro c
   rcases List.mem_cons.1 ((h z).1 (List.mem_cons_of_mem _ c)) with rfl | h3
   ·have:=h1 _ c;omega
   ·exact h3
  ·intro c
   rcases List.mem_cons.1 ((h z).2 (List.mem_cons_of_mem _ c)) with rfl | h3
   ·have:=h2 _ c;omega
   ·exact h3
theorem Zgg {α:Type} {key:α->Int}:∀ {xs:List α},(xs.map key).Pairwise (·<·)->∀ {x y:α},x ∈ xs->y ∈ xs->key x=key y->x=y
 | [],_,_,_,j,_,_=>by cases j
 | a::r,h,x,y,j,d,e=>by
  rw [List.map_cons,List.pairwise_cons] at h
  have h1:∀ z ∈ r,key a<key z:=fun z c=>h.1 _ (List.mem_map_of_mem c)
  rcases List.mem_cons.1 j with rfl | C
  ·rcases List.mem_cons.1 d with rfl | A
   ·rfl
   ·have:=h1 _ A;omega
  ·rcases List.mem_cons.1 d with rfl | A
   ·have:=h1 _ C;omega
   ·exact Zgg h.2 C A e
theorem Zjj {α:Type} {key:α->Int} (p:α->Bool) {xs:List α} (h:(xs.map key).Pairwise (·<·)):((xs.filter p).map key).Pairwise (·<·) :=
 List.Pairwise.sublist (List.Sublist.map key List.filter_sublist) h
theorem Zol {α:Type} {key:α->Int}:∀ (w:List Int) (xs:List α) (x:α),x ∈ w.foldl (fun l i=>Zfc key i l) xs↔x ∈ xs/\key x ∉ w
 | [],xs,x=>by simp
 | i::r,xs,x=>by
  rw [List.foldl_cons,Zol r]
  unfold Zfc
  rw [List.mem_filter]
  simp only [bne_iff_ne,ne_eq,List.mem_cons,not_or]
  exact and_assoc
theorem Zg4 {α:Type} {key:α->Int}:∀ (w:List Int) (xs:List α),(xs.map key).Pairwise (·<·)->((w.foldl (fun l i=>Zfc key i l) xs).map key).Pairwise (·<·)
 | [],_,h=>h
 | i::r,xs,h=>Zg4 r _ (Zjj _ h)
theorem Zom {α:Type} {key:α->Int}:∀ (ps xs:List α),(xs.map key).Pairwise (·<·)->((ps.foldl (fun l n=>Zid key n l) xs).map key).Pairwise (·<·)
 | [],_,h=>h
 | i::r,xs,h=>Zom r _ (Zgk h)
theorem Zr7 {α:Type} {key:α->Int}:∀ (ps xs:List α) (x:α),(xs.map key).Pairwise (·<·)->(ps.map key).Pairwise (·<·)->(x ∈ ps.foldl (fun l n=>Zid key n l) xs↔x ∈ ps\/(x ∈ xs/\key x ∉ ps.map key))
 | [],xs,x,_,_=>by simp
 | p::r,xs,x,h,hp=>by
  rw [List.map_cons,List.pairwise_cons] at hp
  rw [List.foldl_cons,Zr7 r _ x (Zgk h) hp.2,Zd5 h]
  have H:key p ∉ r.map key:=fun E=>by have:=hp.1 _ E;omega
  constructor
  ·rintro (h1 | ⟨rfl | ⟨h2,h3⟩,D⟩)
   ·exact .inl (List.mem_cons_of_mem _ h1)
   ·exact .inl List.mem_cons_self
   ·exact .inr ⟨h2,by rw [List.map_cons,List.mem_cons,not_or];exact ⟨h3,D⟩⟩
  ·rintro (h1 | ⟨h2,h3⟩)
   ·rcases List.mem_cons.1 h1 with rfl | h1
    ·exact .inr ⟨.inl rfl,H⟩
    ·exact .inl h1
   ·rw [List.map_cons,List.mem_cons,not_or] at h3
    exact .inr ⟨.inr ⟨h2,h3.1⟩,h3.2⟩
def Jr {α:Type} (key:α->Int) (a b:List α):List Int:=(a.filter fun x=>!(b.any fun y=>key y==key x)).map key
def Zbu {α:Type} (key:α->Int) (same:α->α->Bool) (a b:List α):List α:=b.filter fun y=>!(a.any fun x=>key x==key y&&same x y)
theorem Zon {α:Type} {key:α->Int} {same:α->α->Bool} (a b:List α) (L:∀ x ∈ a,∀ y,same x y=true->x=y) (Q:∀ x ∈ a,same x x=true) (o:(a.map key).Pairwise (·<·)) (v:(b.map key).Pairwise (·<·)) :
  (Zbu key same a b).foldl (fun l n=>Zid key n l) ((Jr key a b).foldl (fun l i=>Zfc key i l) a)=b:=by
 refine Zr6 _ _ (Zom _ _ (Zg4 _ _ o)) v fun z=>?_
 rw [Zr7 (Zbu key same a b) _ z (Zg4 _ _ o) (Zjj _ v),Zol]
 have G:∀ y,y ∈ Zbu key same a b↔y ∈ b/\y ∉ a:=fun y=>by
  unfold Zbu
  rw [List.mem_filter]
  refine and_congr_right fun d=>?_
  simp only [Bool.not_eq_true',List.any_eq_false,Bool.and_eq_true,beq_iff_eq,not_and]
  constructor
  ·intro h E
   exact h y E rfl (Q y E)
  ·intro h x j _ e
   exact h (L x j y e▸j)
 have M:∀ i,i ∈ Jr key a b↔(∃ x ∈ a,key x=i)/\∀ y ∈ b,key y≠i:=fun i=>by
  unfold Jr
  rw [List.mem_map]
  constructor
  ·rintro ⟨x,j,rfl⟩
   rw [List.mem_filter] at j
   refine ⟨⟨x,j.1,rfl⟩,fun y d e=>?_⟩
   have:=j.2
   simp only [Bool.not_eq_true',List.any_eq_false,beq_iff_eq] at this
   exact this y d e
  ·rintro ⟨⟨x,j,rfl⟩,h2⟩
   refine ⟨x,List.mem_filter.2 ⟨j,?_⟩,rfl⟩
   simp only [Bool.not_eq_true',List.any_eq_false,beq_iff_eq]
   exact h2
 constructor
 ·rintro (h | ⟨⟨h1,h2⟩,h3⟩)
  ·exact ((G z).1 h).1
  ·rw [M] at h2
   have:∃ y ∈ b,key y=key z:=by
    refine Classical.byContradiction fun B=>h2 ⟨⟨z,h1,rfl⟩,fun y d e=>B ⟨y,d,e⟩⟩
   obtain ⟨y,d,e⟩:=this
   by_cases hya:y ∈ a
   ·rw [Zgg o h1 hya e.symm];exact d
   ·exact absurd (List.mem_map.2 ⟨y,(G y).2 ⟨d,hya⟩,e⟩) h3
 ·intro h
  by_cases c:z ∈ a
  ·refine .inr ⟨⟨c,fun B=>((M _).1 B).2 z h rfl⟩,fun B=>?_⟩
   obtain ⟨y,d,e⟩:=List.mem_map.1 B
   have h1:=(G y).1 d
   exact h1.2 (Zgg v h h1.1 e.symm▸c)
  ·exact .inl ((G z).2 ⟨h,c⟩)
theorem Zc1 {α:Type} {key:α->Int} (b:List α):Jr key [] b=[]:=rfl
theorem Zdc {α:Type} {key:α->Int} {same:α->α->Bool} (a:List α):Zbu key same a []=[]:=rfl
theorem Zk2 {α:Type} {key:α->Int} (x:α) (a:List α):Jr key (x::a) []=key x::Jr key a []:=by simp [Jr]
theorem Zk3 {α:Type} {key:α->Int} {same:α->α->Bool} (y:α) (b:List α):Zbu key same [] (y::b)=y::Zbu key same [] b:=by simp [Zbu]
theorem Zr8 {α:Type} {key:α->Int} {x y:α} {a b:List α} (v:((y::b).map key).Pairwise (·<·)) (h:key x<key y):Jr key (x::a) (y::b)=key x::Jr key a (y::b):=by
 rw [List.map_cons,List.pairwise_cons] at v
 have h2:∀ z ∈ b,key y<key z:=fun z c=>v.1 _ (List.mem_map_of_mem c)
 unfold Jr
 rw [List.filter_cons_of_pos,List.map_cons]
 simp only [Bool.not_eq_true',List.any_eq_false,beq_iff_eq,List.mem_cons]
 rintro z (rfl | c) e
 ·omega
 ·have:=h2 z c;omega
theorem Zyc {α:Type} {key:α->Int} {same:α->α->Bool} {x y:α} {a b:List α} (v:((y::b).map key).Pairwise (·<·)) (h:key x<key y):Zbu key same (x::a) (y::b)=Zbu key same a (y::b):=by
 rw [List.map_cons,List.pairwise_cons] at v
 have h2:∀ z ∈ b,key y<key z:=fun z c=>v.1 _ (List.mem_map_of_mem c)
 unfold Zbu
 refine List.filter_congr fun z c=>?_
 rw [List.any_cons]
 have:(key x==key z)=false:=by
  rcases List.mem_cons.1 c with rfl | c
  ·simp;omega
  ·have:=h2 z c;simp;omega
 simp [this]
theorem Zr9 {α:Type} {key:α->Int} {x y:α} {a b:List α} (o:((x::a).map key).Pairwise (·<·)) (h:key y<key x):Jr key (x::a) (y::b)=Jr key (x::a) b:=by
 rw [List.map_cons,List.pairwise_cons] at o
 have h2:∀ z ∈ a,key x<key z:=fun z c=>o.1 _ (List.mem_map_of_mem c)
 unfold Jr
 congr 1
 refine List.filter_congr fun z c=>?_
 rw [List.any_cons]
 have:(key y==key z)=false:=by
  rcases List.mem_cons.1 c with rfl | c
  ·simp;omega
  ·have:=h2 z c;simp;omega
 simp [this]
theorem Zyd {α:Type} {key:α->Int} {same:α->α->Bool} {x y:α} {a b:List α} (o:((x::a).map key).Pairwise (·<·)) (h:key y<key x):Zbu key same (x::a) (y::b)=y::Zbu key same (x::a) b:=by
 rw [List.map_cons,List.pairwise_cons] at o
 have h2:∀ z ∈ a,key x<key z:=fun z c=>o.1 _ (List.mem_map_of_mem c)
 unfold Zbu
 rw [List.filter_cons_of_pos]
 simp only [Bool.not_eq_true',List.any_eq_false,Bool.and_eq_true,beq_iff_eq,List.mem_cons,not_and]
 rintro z (rfl | c) e
 ·omega
 ·have:=h2 z c;omega
theorem Zhz {α:Type} {key:α->Int} {x y:α} {a b:List α} (o:((x::a).map key).Pairwise (·<·)) (h:key x=key y):Jr key (x::a) (y::b)=Jr key a b:=by
 rw [List.map_cons,List.pairwise_cons] at o
 have h2:∀ z ∈ a,key x<key z:=fun z c=>o.1 _ (List.mem_map_of_mem c)
 unfold Jr
 rw [List.filter_cons_of_neg (by simp [h])]
 congr 1
 refine List.filter_congr fun z c=>?_
 rw [List.any_cons]
 have:(key y==key z)=false:=by have:=h2 z c;simp;omega
 simp [this]
theorem Zmj {α:Type} {key:α->Int} {same:α->α->Bool} {x y:α} {a b:List α} (o:((x::a).map key).Pairwise (·<·)) (v:((y::b).map key).Pairwise (·<·)) (h:key x=key y):Zbu key same (x::a) (y::b)=if same x y=true then Zbu key same a b else y::Zbu key same a b:=by
 rw [List.map_cons,List.pairwise_cons] at o v
 have h1:∀ z ∈ a,key x<key z:=fun z c=>o.1 _ (List.mem_map_of_mem c)
 have h2:∀ z ∈ b,key y<key z:=fun z c=>v.1 _ (List.mem_map_of_mem c)
 have e:(b.filter fun z=>!((x::a).any fun u=>key u==key z&&same u z))=b.filter fun z=>!(a.any fun u=>key u==key z&&same u z):=by
  refine List.filter_congr fun z c=>?_
  rw [List.any_cons]
  have:(key x==key z)=false:=by have:=h2 z c;simp;omega
  simp [this]
 have f:(a.any fun u=>key u==key y&&same u y)=false:=by
  simp only [List.any_eq_false,Bool.and_eq_true,beq_iff_eq,not_and]
  intro u R e
  have:=h1 u R;omega
 unfold Zbu
 rw [List.filter_cons,e,List.any_cons,f]
 cases L:same x y<;>simp [h]
theorem Zh0 {x y:ByteArray} (h:(x.toList==y.toList)=true):x=y:=by
 rw [beq_iff_eq,ByteArray.toList_eq,ByteArray.toList_eq] at h
 exact Zdp h
theorem Zjk  : ∀ {a b:List ByteArray},a.length=b.length->Za9 a b=true->a=b
 | [],[],_,_=>rfl
 | [],_::_,h,_=>by simp at h
 | _::_,[],h,_=>by simp at h
 | x::r,y::s,hl,h=>by
  rw [Za9,Bool.and_eq_true] at h
  rw [Zh0 h.1,Zjk (by simpa using hl) h.2]
theorem Zdt {a b:Int} (h:(!(a != b))=true):a=b:=by simpa using h
theorem Zoo  : ∀ {a b:List Zi},(∀ t ∈ a,∀ u,Zb3 t u=true->t=u)->a.length=b.length->alikeL a b=true->a=b
 | [],[],_,_,_=>rfl
 | [],_::_,_,h,_=>by simp at h
 | _::_,[],_,h,_=>by simp at h
 | x::r,y::s,hh,hl,h=>by
  rw [alikeL,Bool.and_eq_true] at h
  rw [hh x List.mem_cons_self y h.1,Zoo (fun t S=>hh t (List.mem_cons_of_mem _ S)) (by simpa using hl) h.2]
theorem Zye  : ∀ (t:Zi) (u:Zi),Zb3 t u=true->t=u:=by
 refine Zi.ind ?_
 intro k x n s ks ts I u h
 obtain ⟨V,X,Y,W,O,T⟩:=u
 rw [Zb3] at h
 simp only [Bool.and_eq_true] at h
 obtain ⟨h1,h2,h3,D,F,N,P,U⟩:=h
 have F:=Zdt F
 have N:=Zdt N
 rw [Zdt h1,eq_of_beq h2,Zdt h3,Zh0 D,Zjk (by omega) P,Zoo I (by omega) U]
theorem Zgh  : ∀ {a b:List (ByteArray × Zi)},a.length=b.length->Zaa a b=true->a=b
 | [],[],_,_=>rfl
 | [],_::_,h,_=>by simp at h
 | _::_,[],h,_=>by simp at h
 | x::r,y::s,hl,h=>by
  rw [Zaa,Bool.and_eq_true,Bool.and_eq_true] at h
  rw [show x=y from Prod.ext (Zh0 h.1) (Zye _ _ h.2.1),Zgh (by simpa using hl) h.2.2]
theorem Zop {a b:List ByteArray} (h:Zac a b=true):a=b:=by
 unfold Zac at h
 rw [Bool.and_eq_true] at h
 have:=Zdt h.1
 exact Zjk (by omega) h.2
theorem Zhe {a b:List (ByteArray × Zi)} (h:Zad a b=true):a=b:=by
 unfold Zad at h
 rw [Bool.and_eq_true] at h
 have:=Zdt h.1
 exact Zgh (by omega) h.2
theorem Zp1 {a b:Zo} (h:Zu a b=true):a=b:=by
 unfold Zu at h
 simp only [Bool.and_eq_true] at h
 obtain ⟨x,l,p⟩:=a
 obtain ⟨y,m,q⟩:=b
 have h1:x=y:=eq_of_beq h.1
 have h2:l=m:=Zop h.2.1
 have h3:p=q:=Zhe h.2.2
 rw [h1,h2,h3]
theorem Ztx {a b:Jg} (h:Je a b=true):a=b:=by
 unfold Je at h
 simp only [Bool.and_eq_true] at h
 obtain ⟨x,f,t,s,p⟩:=a
 obtain ⟨y,g,u,z,q⟩:=b
 have h1:x=y:=eq_of_beq h.1
 have h2:f=g:=eq_of_beq h.2.1
 have h3:t=u:=eq_of_beq h.2.2.1
 have D:s=z:=Zh0 h.2.2.2.1
 have F:p=q:=Zhe h.2.2.2.2
 rw [h1,h2,h3,D,F]
theorem Zgi (a:Zo):Zu a a=true:=by
 unfold Zu;rw [Ze6,Zcg];simp
theorem Zhf (a:Jg):Je a a=true:=by
 unfold Je;rw [Zcg];simp
theorem Zk4 {α:Type} {key:α->Int} {s t:α->α->Bool} (a b:List α) (h:∀ x ∈ a,∀ y,s x y=t x y):Zbu key s a b=Zbu key t a b:=by
 unfold Zbu
 refine List.filter_congr fun y _=>?_
 congr 1
 induction a with
 | nil=>rfl
 | cons x r I=>rw [List.any_cons,List.any_cons,h x List.mem_cons_self y,I fun z c=>h z (List.mem_cons_of_mem _ c)]
end
section
open Go.RowKit Go.Shelf
def Zhk  : Zo:=⟨0,[],[]⟩
def Zjv  : Jg:=⟨0,0,0,⟨#[]⟩,[]⟩
def Jy (i:Int):Zs:=⟨3,i,0,Zhk,Zjv⟩
def Zak (i:Int):Zs:=⟨2,i,0,Zhk,Zjv⟩
def Zbt (n:Zo):Zs:=⟨0,0,0,n,Zjv⟩
def Zc3 (r:Jg):Zs:=⟨1,0,0,Zhk,r⟩
def Zun (i j:Int):Zs:=⟨4,i,j,Zhk,Zjv⟩
def Zc4 (a b:Zt):List Zs :=
 (Jr Jg.id a.rels b.rels).map Jy++((Jr Zo.id a.nodes b.nodes).map Zak++((Zbu Zo.id Zu a.nodes b.nodes).map Zbt++((Zbu Jg.id Je a.rels b.rels).map Zc3++if a.nn != b.nn||a.nr != b.nr then [Zun b.nn b.nr] else [])))
theorem Zka  : ∀ (l:List Int) (g:Zt),(l.map Jy).foldl doC g=⟨g.nodes,l.foldl (fun l i=>Zfc Jg.id i l) g.rels,g.nn,g.nr⟩
 | [],g=>rfl
 | i::r,g=>by rw [List.map_cons,List.foldl_cons,Zka r];rfl
theorem Zkb  : ∀ (l:List Int) (g:Zt),(l.map Zak).foldl doC g=⟨l.foldl (fun l i=>Zfc Zo.id i l) g.nodes,g.rels,g.nn,g.nr⟩
 | [],g=>rfl
 | i::r,g=>by rw [List.map_cons,List.foldl_cons,Zkb r];rfl
theorem Zm7  : ∀ (l:List Zo) (g:Zt),(l.map Zbt).foldl doC g=⟨l.foldl (fun l n=>Zid Zo.id n l) g.nodes,g.rels,g.nn,g.nr⟩
 | [],g=>rfl
 | i::r,g=>by rw [List.map_cons,List.foldl_cons,Zm7 r];rfl
theorem Zm8  : ∀ (l:List Jg) (g:Zt),(l.map Zc3).foldl doC g=⟨g.nodes,l.foldl (fun l n=>Zid Jg.id n l) g.rels,g.nn,g.nr⟩
 | [],g=>rfl
 | i::r,g=>by rw [List.map_cons,List.foldl_cons,Zm8 r];rfl
theorem Zuo (a b:Zt) (h1:(a.nodes.map Zo.id).Pairwise (·<·)) (h2:(a.rels.map Jg.id).Pairwise (·<·)) (h3:(b.nodes.map Zo.id).Pairwise (·<·)) (f:(b.rels.map Jg.id).Pairwise (·<·)):(Zc4 a b).foldl doC a=b:=by
 unfold Zc4
 rw [List.foldl_append,Zka,List.foldl_append,Zkb,List.foldl_append,Zm7,List.foldl_append,Zm8]
 dsimp only
 rw [Zon a.nodes b.nodes (fun x _ y h=>Zp1 h) (fun x _=>Zgi x) h1 h3,Zon a.rels b.rels (fun x _ y h=>Ztx h) (fun x _=>Zhf x) h2 f]
 obtain ⟨n,r,x,y⟩:=b
 dsimp only
 by_cases e:a.nn=x
 ·by_cases e':a.nr=y
  ·rw [if_neg (by simp [e,e'])];simp [e,e']
  ·rw [if_pos (by simp [e'])];rfl
 ·rw [if_pos (by simp [e])];rfl
theorem Zss (a b:Zt):(Zc4 a b).any Zbv=false:=by
 rw [List.any_eq_false]
 intro c d
 unfold Zc4 at d
 simp only [List.mem_append,List.mem_map] at d
 rcases d with ⟨i,_,rfl⟩ | ⟨i,_,rfl⟩ | ⟨i,_,rfl⟩ | ⟨i,_,rfl⟩ | d
 ·simp [Zbv,Jy]
 ·simp [Zbv,Zak]
 ·simp [Zbv,Zbt]
 ·simp [Zbv,Zc3]
 ·split at d
  ·obtain rfl:c=_:=by simpa using d
   simp [Zbv,Zun]
  ·simp at d
end
section
open Go.RowKit Go.Shelf Go.WideShapes
theorem Zch {d ty x:Nat} {f:FuncId} {xs:Array Operand} {I:Array TypeId} {g:Option (Nat × Bool)} {v:Value} {c:Act} {w:World} {args:Array Value} (N:∀ (args:Array Value) (w:World),(callFunc f args).run Tryz.prog w=.ok (.enter f args) w) (M:c.eval (.tmp x)=.func (.func f) #[] #[]) (L:Calls Tryz.prog f args w fun e w'=>e=.returned v/\Below w.heap.size w w') (K:xs.map c.eval=args) :
  Jd5 Tryz.prog ⟨d,.call { callee:=.value (.tmp x),args:=xs,argTypes:=I },ty,g⟩ v c w:=by
 subst K
 refine .inr ⟨f,_,fun pos F=>?_,L⟩
 dsimp only [Sig.oper]
 unfold execOp
 simp [resolve,invoke,M,Deferred.ofValue,N]
noncomputable def Je9  : Array Oper:=Zy Tryz.f55 5
def Jio  : List Sig:=[⟨38,.move (.tmp 1),22,none⟩,⟨39,.call { callee:=.builtin .len,args:=#[.tmp 38],argTypes:=#[22] },3,none⟩,⟨40,.binOp .eql 3 (.tmp 39) (.const (.int .i64 0)) 3,4,none⟩,⟨41,.move (.tmp 40),4,none⟩,⟨42,.move (.tmp 0),22,some (3,false)⟩,⟨43,.call { callee:=.builtin .len,args:=#[.tmp 42],argTypes:=#[22] },3,some (3,false)⟩,⟨44,.binOp .gtr 3 (.tmp 43) (.const (.int .i64 0)) 3,4,some (3,false)⟩,⟨45,.move (.tmp 44),4,some (3,false)⟩,⟨46,.move (.tmp 2),106,some (7,true)⟩,⟨47,.move (.tmp 0),22,some (7,true)⟩,⟨48,.indexAddr 22 (.tmp 47) (.const (.int .i64 0)),0,some (7,true)⟩,⟨49,.load 47 (.tmp 48),47,some (7,true)⟩,⟨50,.call { callee:=.value (.tmp 46),args:=#[.tmp 49],argTypes:=#[47] },2,some (7,true)⟩,⟨51,.move (.tmp 2),106,some (7,true)⟩,⟨52,.move (.tmp 1),22,some (7,true)⟩,⟨53,.indexAddr 22 (.tmp 52) (.const (.int .i64 0)),0,some (7,true)⟩,⟨54,.load 47 (.tmp 53),47,some (7,true)⟩,⟨55,.call { callee:=.value (.tmp 51),args:=#[.tmp 54],argTypes:=#[47] },2,some (7,true)⟩,⟨56,.binOp .lss 2 (.tmp 50) (.tmp 55) 2,4,some (7,true)⟩,⟨57,.pick (.tmp 45) (.tmp 56) (.const (.bool false)),4,some (3,false)⟩,⟨58,.pick (.tmp 41) (.const (.bool true)) (.tmp 57),4,none⟩,⟨37,.assign (.tmp 58),4,none⟩]
theorem Jip  : Jh Je9=Jio.map some:=by kernel_rfl
def Jkh  : List (List Nat):=[[],[0],[1],[2],[3],[3,4],[3,5],[3,6],[7],[7],[7,9],[7,10],[7,8,11],[7],[7],[7,14],[7,15],[7,13,16],[7,12,17],[3,7,18],[3,19],[20]]
structure Zwq (j off l q i h m r:Nat) (x y:Int) (v1 v2 o p:Value) (b:Bool) (c:Act):Prop where
 t0:c.eval (.tmp 0)=.slice (some ⟨j,off,none⟩) l q
 t1:c.eval (.tmp 1)=.slice (some ⟨i,h,none⟩) m r
 t2:c.eval (.tmp 2)=.func (.func 56) #[] #[]
def Jfa (j off l q i h m r:Nat) (x y:Int) (v1 v2 o p:Value) (b:Bool):List Value:=[.slice (some ⟨i,h,none⟩) m r,.int .i64 (m:Int),.bool false,.bool false,.slice (some ⟨j,off,none⟩) l q,.int .i64 (l:Int),.bool true,.bool true,.func (.func 56) #[] #[],.slice (some ⟨j,off,none⟩) l q,.pointer (some ⟨j,off,none⟩),.agg #[.int .i64 x,v1,v2],.int .i64 x,.func (.func 56) #[] #[],.slice (some ⟨i,h,none⟩) m r,.pointer (some ⟨i,h,none⟩),.agg #[.int .i64 y,o,p],.int .i64 y,.bool b,.bool b,.bool b,.bool b]
structure Znv (j off l q i h m r:Nat) (x y:Int) (v1 v2 o p:Value) (b:Bool) (w:World):Prop where
 a1:((m:Int)==0)=false
 a2:decide ((0:Int)<(l:Int))=true
 lt:0<l
 le:l<=9223372036854775807
 c0:w.cell? ⟨j,off,none⟩=some (.int .i64 x)
 c1:w.cell? ⟨j,off+1,none⟩=some (v1)
 c2:w.cell? ⟨j,off+2,none⟩=some (v2)
 k1:Calls Tryz.prog 56 #[.agg #[.int .i64 x,v1,v2]] w fun e w'=>e=.returned (.int .i64 x)/\Below w.heap.size w w'
 lt2:0<m
 le2:m<=9223372036854775807
 d0:w.cell? ⟨i,h,none⟩=some (.int .i64 y)
 d1:w.cell? ⟨i,h+1,none⟩=some (o)
 d2:w.cell? ⟨i,h+2,none⟩=some (p)
 k2:Calls Tryz.prog 56 #[.agg #[.int .i64 y,o,p]] w fun e w'=>e=.returned (.int .i64 y)/\Below w.heap.size w w'
 a3:decide (x<y)=b
theorem Zkn (j off l q i h m r:Nat) (x y:Int) (v1 v2 o p:Value) (b:Bool) (Q:Exit->Act->World->Prop) (base:Act) (t:World) (z:base.tmps.size=96) (s:Zwq j off l q i h m r x y v1 v2 o p b base)
  (C:∀ w,Below t.heap.size t w->Znv j off l q i h m r x y v1 v2 o p b w) (E:∀ c w,Zaf Je9 base c->Below t.heap.size t w->c.eval (.tmp 37)=.bool b->Q .normal c w):(Code.region 5 Je9 true).wp Tryz.prog Q base t:=by
 refine Zn (B:=Zwq j off l q i h m r x y v1 v2 o p b) (T:=Znv j off l q i h m r x y v1 v2 o p b) (n:=22) (k:=21) Jio Jkh (Jfa j off l q i h m r x y v1 v2 o p b) Jip rfl (by kernel_rfl) (by kernel_rfl) (by kernel_rfl) (by rw [z];kernel_rfl) (fun c D=>⟨(Zc D (by kernel_rfl)).trans s.t0,(Zc D (by kernel_rfl)).trans s.t1,(Zc D (by kernel_rfl)).trans s.t2⟩) C ?_ (by decide) rfl rfl E
 clear z s C E
 iterate 22 (refine Zd ?_ (by
  intro c w s C hEq
  obtain ⟨t0,t1,t2⟩:=s
  obtain ⟨a1,a2,lt,le,c0,c1,c2,k1,lt2,le2,d0,d1,d2,k2,a3⟩:=C
  have H:=evc c
  have G:=evf c
  dsimp only [Jkh,Jio,Jfa,nth,Zbm,Za2,Jc] at hEq |-
  first
  | exact ⟨by simp only [hEq],.inr ⟨by first | exact .inl rfl | exact .inr rfl,rfl⟩⟩
  | ((try refine ⟨by simp only [hEq],.inl ⟨rfl,?_⟩⟩);first | (refine Zch Tryz.call56 (by simp only [hEq]) k1 ?_;simp only [List.map_toArray,List.map_cons,List.map_nil,hEq];done) | (refine Zch Tryz.call56 (by simp only [hEq]) k2 ?_;simp only [List.map_toArray,List.map_cons,List.map_nil,hEq];done) | (refine .inl fun pos F=>?_;(clear k1 k2;dsimp only [Sig.oper];generalize c.eval=ρ at *;go_simp;done)) | (refine .inl fun pos F=>?_;clear k1 k2;dsimp only [Sig.oper];generalize c.eval=ρ at *;go_simp;simp only [decide_eq_true_eq,decide_eq_false_iff_not] at *;omega))))
 exact Zf
noncomputable def Jfb  : Array Oper:=Zy Tryz.f55 8
def Jiq  : List Sig:=[⟨70,.move (.tmp 0),22,none⟩,⟨71,.call { callee:=.builtin .len,args:=#[.tmp 70],argTypes:=#[22] },3,none⟩,⟨72,.binOp .eql 3 (.tmp 71) (.const (.int .i64 0)) 3,4,none⟩,⟨73,.move (.tmp 72),4,none⟩,⟨74,.move (.tmp 2),106,some (3,false)⟩,⟨75,.move (.tmp 1),22,some (3,false)⟩,⟨76,.indexAddr 22 (.tmp 75) (.const (.int .i64 0)),0,some (3,false)⟩,⟨77,.load 47 (.tmp 76),47,some (3,false)⟩,⟨78,.call { callee:=.value (.tmp 74),args:=#[.tmp 77],argTypes:=#[47] },2,some (3,false)⟩,⟨79,.move (.tmp 2),106,some (3,false)⟩,⟨80,.move (.tmp 0),22,some (3,false)⟩,⟨81,.indexAddr 22 (.tmp 80) (.const (.int .i64 0)),0,some (3,false)⟩,⟨82,.load 47 (.tmp 81),47,some (3,false)⟩,⟨83,.call { callee:=.value (.tmp 79),args:=#[.tmp 82],argTypes:=#[47] },2,some (3,false)⟩,⟨84,.binOp .lss 2 (.tmp 78) (.tmp 83) 2,4,some (3,false)⟩,⟨85,.pick (.tmp 73) (.const (.bool true)) (.tmp 84),4,none⟩,⟨69,.assign (.tmp 85),4,none⟩]
theorem Jir  : Jh Jfb=Jiq.map some:=by kernel_rfl
def Jki  : List (List Nat):=[[],[0],[1],[2],[3],[3],[3,5],[3,6],[3,4,7],[3],[3],[3,10],[3,11],[3,9,12],[3,8,13],[3,14],[15]]
structure Zwr (j off l q i h m r:Nat) (x y:Int) (v1 v2 o p:Value) (b:Bool) (c:Act):Prop where
 t0:c.eval (.tmp 0)=.slice (some ⟨j,off,none⟩) l q
 t1:c.eval (.tmp 1)=.slice (some ⟨i,h,none⟩) m r
 t2:c.eval (.tmp 2)=.func (.func 56) #[] #[]
def Jfc (j off l q i h m r:Nat) (x y:Int) (v1 v2 o p:Value) (b:Bool):List Value:=[.slice (some ⟨j,off,none⟩) l q,.int .i64 (l:Int),.bool false,.bool false,.func (.func 56) #[] #[],.slice (some ⟨i,h,none⟩) m r,.pointer (some ⟨i,h,none⟩),.agg #[.int .i64 y,o,p],.int .i64 y,.func (.func 56) #[] #[],.slice (some ⟨j,off,none⟩) l q,.pointer (some ⟨j,off,none⟩),.agg #[.int .i64 x,v1,v2],.int .i64 x,.bool b,.bool b,.bool b]
structure Znw (j off l q i h m r:Nat) (x y:Int) (v1 v2 o p:Value) (b:Bool) (w:World):Prop where
 a1:((l:Int)==0)=false
 lt2:0<m
 le2:m<=9223372036854775807
 d0:w.cell? ⟨i,h,none⟩=some (.int .i64 y)
 d1:w.cell? ⟨i,h+1,none⟩=some (o)
 d2:w.cell? ⟨i,h+2,none⟩=some (p)
 k2:Calls Tryz.prog 56 #[.agg #[.int .i64 y,o,p]] w fun e w'=>e=.returned (.int .i64 y)/\Below w.heap.size w w'
 lt:0<l
 le:l<=9223372036854775807
 c0:w.cell? ⟨j,off,none⟩=some (.int .i64 x)
 c1:w.cell? ⟨j,off+1,none⟩=some (v1)
 c2:w.cell? ⟨j,off+2,none⟩=some (v2)
 k1:Calls Tryz.prog 56 #[.agg #[.int .i64 x,v1,v2]] w fun e w'=>e=.returned (.int .i64 x)/\Below w.heap.size w w'
 a3:decide (y<x)=b
theorem Zko (j off l q i h m r:Nat) (x y:Int) (v1 v2 o p:Value) (b:Bool) (Q:Exit->Act->World->Prop) (base:Act) (t:World) (z:base.tmps.size=96) (s:Zwr j off l q i h m r x y v1 v2 o p b base)
  (C:∀ w,Below t.heap.size t w->Znw j off l q i h m r x y v1 v2 o p b w) (E:∀ c w,Zaf Jfb base c->Below t.heap.size t w->c.eval (.tmp 69)=.bool b->Q .normal c w):(Code.region 8 Jfb true).wp Tryz.prog Q base t:=by
 refine Zn (B:=Zwr j off l q i h m r x y v1 v2 o p b) (T:=Znw j off l q i h m r x y v1 v2 o p b) (n:=17) (k:=16) Jiq Jki (Jfc j off l q i h m r x y v1 v2 o p b) Jir rfl (by kernel_rfl) (by kernel_rfl) (by kernel_rfl) (by rw [z];kernel_rfl) (fun c D=>⟨(Zc D (by kernel_rfl)).trans s.t0,(Zc D (by kernel_rfl)).trans s.t1,(Zc D (by kernel_rfl)).trans s.t2⟩) C ?_ (by decide) rfl rfl E
 clear z s C E
 iterate 17 (refine Zd ?_ (by
  intro c w s C hEq
  obtain ⟨t0,t1,t2⟩:=s
  obtain ⟨a1,lt2,le2,d0,d1,d2,k2,lt,le,c0,c1,c2,k1,a3⟩:=C
  have H:=evc c
  have G:=evf c
  dsimp only [Jki,Jiq,Jfc,nth,Zbm,Za2,Jc] at hEq |-
  first
  | exact ⟨by simp only [hEq],.inr ⟨by first | exact .inl rfl | exact .inr rfl,rfl⟩⟩
  | ((try refine ⟨by simp only [hEq],.inl ⟨rfl,?_⟩⟩);first | (refine Zch Tryz.call56 (by simp only [hEq]) k2 ?_;simp only [List.map_toArray,List.map_cons,List.map_nil,hEq];done) | (refine Zch Tryz.call56 (by simp only [hEq]) k1 ?_;simp only [List.map_toArray,List.map_cons,List.map_nil,hEq];done) | (refine .inl fun pos F=>?_;(clear k2 k1;dsimp only [Sig.oper];generalize c.eval=ρ at *;go_simp;done)) | (refine .inl fun pos F=>?_;clear k2 k1;dsimp only [Sig.oper];generalize c.eval=ρ at *;go_simp;simp only [decide_eq_true_eq,decide_eq_false_iff_not] at *;omega))))
 exact Zf
noncomputable def Jfd  : Array Oper:=Zy Tryz.f55 2
def Jis  : List Sig:=[⟨18,.move (.tmp 3),95,none⟩,⟨19,.move (.tmp 0),22,none⟩,⟨20,.indexAddr 22 (.tmp 19) (.const (.int .i64 0)),0,none⟩,⟨21,.load 47 (.tmp 20),47,none⟩,⟨22,.move (.tmp 1),22,none⟩,⟨23,.indexAddr 22 (.tmp 22) (.const (.int .i64 0)),0,none⟩,⟨24,.load 47 (.tmp 23),47,none⟩,⟨25,.call { callee:=.value (.tmp 18),args:=#[.tmp 21,.tmp 24],argTypes:=#[47,47] },4,none⟩,⟨26,.unOp .not 4 (.tmp 25),4,none⟩]
theorem Jit  : Jh Jfd=Jis.map some:=by kernel_rfl
def Jkj  : List (List Nat):=[[],[],[1],[2],[],[4],[5],[0,3,6],[7]]
structure Zws (j off l q i h m r:Nat) (x y:Int) (v1 v2 o p:Value) (b:Bool) (c:Act):Prop where
 t0:c.eval (.tmp 0)=.slice (some ⟨j,off,none⟩) l q
 t1:c.eval (.tmp 1)=.slice (some ⟨i,h,none⟩) m r
 t3:c.eval (.tmp 3)=.func (.func 48) #[] #[]
def Jfe (j off l q i h m r:Nat) (x y:Int) (v1 v2 o p:Value) (b:Bool):List Value:=[.func (.func 48) #[] #[],.slice (some ⟨j,off,none⟩) l q,.pointer (some ⟨j,off,none⟩),.agg #[.int .i64 x,v1,v2],.slice (some ⟨i,h,none⟩) m r,.pointer (some ⟨i,h,none⟩),.agg #[.int .i64 y,o,p],.bool b,.bool (!b)]
structure Znx (j off l q i h m r:Nat) (x y:Int) (v1 v2 o p:Value) (b:Bool) (w:World):Prop where
 lt:0<l
 le:l<=9223372036854775807
 c0:w.cell? ⟨j,off,none⟩=some (.int .i64 x)
 c1:w.cell? ⟨j,off+1,none⟩=some (v1)
 c2:w.cell? ⟨j,off+2,none⟩=some (v2)
 lt2:0<m
 le2:m<=9223372036854775807
 d0:w.cell? ⟨i,h,none⟩=some (.int .i64 y)
 d1:w.cell? ⟨i,h+1,none⟩=some (o)
 d2:w.cell? ⟨i,h+2,none⟩=some (p)
 k3:Calls Tryz.prog 48 #[.agg #[.int .i64 x,v1,v2],.agg #[.int .i64 y,o,p]] w fun e w'=>e=.returned (.bool b)/\Below w.heap.size w w'
theorem Zkp (j off l q i h m r:Nat) (x y:Int) (v1 v2 o p:Value) (b:Bool) (Q:Exit->Act->World->Prop) (base:Act) (t:World) (z:base.tmps.size=96) (s:Zws j off l q i h m r x y v1 v2 o p b base)
  (C:∀ w,Below t.heap.size t w->Znx j off l q i h m r x y v1 v2 o p b w) (E:∀ c w,Zaf Jfd base c->Below t.heap.size t w->c.eval (.tmp 26)=.bool (!b)->Q .normal c w):(Code.region 2 Jfd true).wp Tryz.prog Q base t:=by
 refine Zn (B:=Zws j off l q i h m r x y v1 v2 o p b) (T:=Znx j off l q i h m r x y v1 v2 o p b) (n:=9) (k:=8) Jis Jkj (Jfe j off l q i h m r x y v1 v2 o p b) Jit rfl (by kernel_rfl) (by kernel_rfl) (by kernel_rfl) (by rw [z];kernel_rfl) (fun c D=>⟨(Zc D (by kernel_rfl)).trans s.t0,(Zc D (by kernel_rfl)).trans s.t1,(Zc D (by kernel_rfl)).trans s.t3⟩) C ?_ (by decide) rfl rfl E
 clear z s C E
 iterate 9 (refine Zd ?_ (by
  intro c w s C hEq
  obtain ⟨t0,t1,t3⟩:=s
  obtain ⟨lt,le,c0,c1,c2,lt2,le2,d0,d1,d2,k3⟩:=C
  have H:=evc c
  have G:=evf c
  dsimp only [Jkj,Jis,Jfe,nth,Zbm,Za2,Jc] at hEq |-
  first
  | exact ⟨by simp only [hEq],.inr ⟨by first | exact .inl rfl | exact .inr rfl,rfl⟩⟩
  | ((try refine ⟨by simp only [hEq],.inl ⟨rfl,?_⟩⟩);first | (refine Zch Tryz.call48 (by simp only [hEq]) k3 ?_;simp only [List.map_toArray,List.map_cons,List.map_nil,hEq];done) | (refine .inl fun pos F=>?_;(clear k3;dsimp only [Sig.oper];generalize c.eval=ρ at *;go_simp;done)))))
 exact Zf
noncomputable def Jff  : Array Oper:=Zy Tryz.f53 5
def Jiu  : List Sig:=[⟨38,.move (.tmp 1),23,none⟩,⟨39,.call { callee:=.builtin .len,args:=#[.tmp 38],argTypes:=#[23] },3,none⟩,⟨40,.binOp .eql 3 (.tmp 39) (.const (.int .i64 0)) 3,4,none⟩,⟨41,.move (.tmp 40),4,none⟩,⟨42,.move (.tmp 0),23,some (3,false)⟩,⟨43,.call { callee:=.builtin .len,args:=#[.tmp 42],argTypes:=#[23] },3,some (3,false)⟩,⟨44,.binOp .gtr 3 (.tmp 43) (.const (.int .i64 0)) 3,4,some (3,false)⟩,⟨45,.move (.tmp 44),4,some (3,false)⟩,⟨46,.move (.tmp 2),103,some (7,true)⟩,⟨47,.move (.tmp 0),23,some (7,true)⟩,⟨48,.indexAddr 23 (.tmp 47) (.const (.int .i64 0)),0,some (7,true)⟩,⟨49,.load 49 (.tmp 48),49,some (7,true)⟩,⟨50,.call { callee:=.value (.tmp 46),args:=#[.tmp 49],argTypes:=#[49] },2,some (7,true)⟩,⟨51,.move (.tmp 2),103,some (7,true)⟩,⟨52,.move (.tmp 1),23,some (7,true)⟩,⟨53,.indexAddr 23 (.tmp 52) (.const (.int .i64 0)),0,some (7,true)⟩,⟨54,.load 49 (.tmp 53),49,some (7,true)⟩,⟨55,.call { callee:=.value (.tmp 51),args:=#[.tmp 54],argTypes:=#[49] },2,some (7,true)⟩,⟨56,.binOp .lss 2 (.tmp 50) (.tmp 55) 2,4,some (7,true)⟩,⟨57,.pick (.tmp 45) (.tmp 56) (.const (.bool false)),4,some (3,false)⟩,⟨58,.pick (.tmp 41) (.const (.bool true)) (.tmp 57),4,none⟩,⟨37,.assign (.tmp 58),4,none⟩]
theorem Jiv  : Jh Jff=Jiu.map some:=by kernel_rfl
def Jkk  : List (List Nat):=[[],[0],[1],[2],[3],[3,4],[3,5],[3,6],[7],[7],[7,9],[7,10],[7,8,11],[7],[7],[7,14],[7,15],[7,13,16],[7,12,17],[3,7,18],[3,19],[20]]
structure Zwt (j off l q i h m r:Nat) (x y:Int) (v1 v2 v3 v4 o p A u:Value) (b:Bool) (c:Act):Prop where
 t0:c.eval (.tmp 0)=.slice (some ⟨j,off,none⟩) l q
 t1:c.eval (.tmp 1)=.slice (some ⟨i,h,none⟩) m r
 t2:c.eval (.tmp 2)=.func (.func 54) #[] #[]
def Jfg (j off l q i h m r:Nat) (x y:Int) (v1 v2 v3 v4 o p A u:Value) (b:Bool):List Value:=[.slice (some ⟨i,h,none⟩) m r,.int .i64 (m:Int),.bool false,.bool false,.slice (some ⟨j,off,none⟩) l q,.int .i64 (l:Int),.bool true,.bool true,.func (.func 54) #[] #[],.slice (some ⟨j,off,none⟩) l q,.pointer (some ⟨j,off,none⟩),.agg #[.int .i64 x,v1,v2,v3,v4],.int .i64 x,.func (.func 54) #[] #[],.slice (some ⟨i,h,none⟩) m r,.pointer (some ⟨i,h,none⟩),.agg #[.int .i64 y,o,p,A,u],.int .i64 y,.bool b,.bool b,.bool b,.bool b]
structure Zny (j off l q i h m r:Nat) (x y:Int) (v1 v2 v3 v4 o p A u:Value) (b:Bool) (w:World):Prop where
 a1:((m:Int)==0)=false
 a2:decide ((0:Int)<(l:Int))=true
 lt:0<l
 le:l<=9223372036854775807
 c0:w.cell? ⟨j,off,none⟩=some (.int .i64 x)
 c1:w.cell? ⟨j,off+1,none⟩=some (v1)
 c2:w.cell? ⟨j,off+2,none⟩=some (v2)
 c3:w.cell? ⟨j,off+3,none⟩=some (v3)
 c4:w.cell? ⟨j,off+4,none⟩=some (v4)
 k1:Calls Tryz.prog 54 #[.agg #[.int .i64 x,v1,v2,v3,v4]] w fun e w'=>e=.returned (.int .i64 x)/\Below w.heap.size w w'
 lt2:0<m
 le2:m<=9223372036854775807
 d0:w.cell? ⟨i,h,none⟩=some (.int .i64 y)
 d1:w.cell? ⟨i,h+1,none⟩=some (o)
 d2:w.cell? ⟨i,h+2,none⟩=some (p)
 d3:w.cell? ⟨i,h+3,none⟩=some (A)
 d4:w.cell? ⟨i,h+4,none⟩=some (u)
 k2:Calls Tryz.prog 54 #[.agg #[.int .i64 y,o,p,A,u]] w fun e w'=>e=.returned (.int .i64 y)/\Below w.heap.size w w'
 a3:decide (x<y)=b
theorem Zkq (j off l q i h m r:Nat) (x y:Int) (v1 v2 v3 v4 o p A u:Value) (b:Bool) (Q:Exit->Act->World->Prop) (base:Act) (t:World) (z:base.tmps.size=96) (s:Zwt j off l q i h m r x y v1 v2 v3 v4 o p A u b base)
  (C:∀ w,Below t.heap.size t w->Zny j off l q i h m r x y v1 v2 v3 v4 o p A u b w) (E:∀ c w,Zaf Jff base c->Below t.heap.size t w->c.eval (.tmp 37)=.bool b->Q .normal c w):(Code.region 5 Jff true).wp Tryz.prog Q base t:=by
 refine Zn (B:=Zwt j off l q i h m r x y v1 v2 v3 v4 o p A u b) (T:=Zny j off l q i h m r x y v1 v2 v3 v4 o p A u b) (n:=22) (k:=21) Jiu Jkk (Jfg j off l q i h m r x y v1 v2 v3 v4 o p A u b) Jiv rfl (by kernel_rfl) (by kernel_rfl) (by kernel_rfl) (by rw [z];kernel_rfl) (fun c D=>⟨(Zc D (by kernel_rfl)).trans s.t0,(Zc D (by kernel_rfl)).trans s.t1,(Zc D (by kernel_rfl)).trans s.t2⟩) C ?_ (by decide) rfl rfl E
 clear z s C E
 iterate 22 (refine Zd ?_ (by
  intro c w s C hEq
  obtain ⟨t0,t1,t2⟩:=s
  obtain ⟨a1,a2,lt,le,c0,c1,c2,c3,c4,k1,lt2,le2,d0,d1,d2,d3,d4,k2,a3⟩:=C
  have H:=evc c
  have G:=evf c
  dsimp only [Jkk,Jiu,Jfg,nth,Zbm,Za2,Jc] at hEq |-
  first
  | exact ⟨by simp only [hEq],.inr ⟨by first | exact .inl rfl | exact .inr rfl,rfl⟩⟩
  | ((try refine ⟨by simp only [hEq],.inl ⟨rfl,?_⟩⟩);first | (refine Zch Tryz.call54 (by simp only [hEq]) k1 ?_;simp only [List.map_toArray,List.map_cons,List.map_nil,hEq];done) | (refine Zch Tryz.call54 (by simp only [hEq]) k2 ?_;simp only [List.map_toArray,List.map_cons,List.map_nil,hEq];done) | (refine .inl fun pos F=>?_;(clear k1 k2;dsimp only [Sig.oper];generalize c.eval=ρ at *;go_simp;done)) | (refine .inl fun pos F=>?_;clear k1 k2;dsimp only [Sig.oper];generalize c.eval=ρ at *;go_simp;simp only [decide_eq_true_eq,decide_eq_false_iff_not] at *;omega))))
 exact Zf
noncomputable def Jfh  : Array Oper:=Zy Tryz.f53 8
def Jiw  : List Sig:=[⟨70,.move (.tmp 0),23,none⟩,⟨71,.call { callee:=.builtin .len,args:=#[.tmp 70],argTypes:=#[23] },3,none⟩,⟨72,.binOp .eql 3 (.tmp 71) (.const (.int .i64 0)) 3,4,none⟩,⟨73,.move (.tmp 72),4,none⟩,⟨74,.move (.tmp 2),103,some (3,false)⟩,⟨75,.move (.tmp 1),23,some (3,false)⟩,⟨76,.indexAddr 23 (.tmp 75) (.const (.int .i64 0)),0,some (3,false)⟩,⟨77,.load 49 (.tmp 76),49,some (3,false)⟩,⟨78,.call { callee:=.value (.tmp 74),args:=#[.tmp 77],argTypes:=#[49] },2,some (3,false)⟩,⟨79,.move (.tmp 2),103,some (3,false)⟩,⟨80,.move (.tmp 0),23,some (3,false)⟩,⟨81,.indexAddr 23 (.tmp 80) (.const (.int .i64 0)),0,some (3,false)⟩,⟨82,.load 49 (.tmp 81),49,some (3,false)⟩,⟨83,.call { callee:=.value (.tmp 79),args:=#[.tmp 82],argTypes:=#[49] },2,some (3,false)⟩,⟨84,.binOp .lss 2 (.tmp 78) (.tmp 83) 2,4,some (3,false)⟩,⟨85,.pick (.tmp 73) (.const (.bool true)) (.tmp 84),4,none⟩,⟨69,.assign (.tmp 85),4,none⟩]
theorem Jix  : Jh Jfh=Jiw.map some:=by kernel_rfl
def Jkl  : List (List Nat):=[[],[0],[1],[2],[3],[3],[3,5],[3,6],[3,4,7],[3],[3],[3,10],[3,11],[3,9,12],[3,8,13],[3,14],[15]]
structure Zwu (j off l q i h m r:Nat) (x y:Int) (v1 v2 v3 v4 o p A u:Value) (b:Bool) (c:Act):Prop where
 t0:c.eval (.tmp 0)=.slice (some ⟨j,off,none⟩) l q
 t1:c.eval (.tmp 1)=.slice (some ⟨i,h,none⟩) m r
 t2:c.eval (.tmp 2)=.func (.func 54) #[] #[]
def Jfi (j off l q i h m r:Nat) (x y:Int) (v1 v2 v3 v4 o p A u:Value) (b:Bool):List Value:=[.slice (some ⟨j,off,none⟩) l q,.int .i64 (l:Int),.bool false,.bool false,.func (.func 54) #[] #[],.slice (some ⟨i,h,none⟩) m r,.pointer (some ⟨i,h,none⟩),.agg #[.int .i64 y,o,p,A,u],.int .i64 y,.func (.func 54) #[] #[],.slice (some ⟨j,off,none⟩) l q,.pointer (some ⟨j,off,none⟩),.agg #[.int .i64 x,v1,v2,v3,v4],.int .i64 x,.bool b,.bool b,.bool b]
structure Znz (j off l q i h m r:Nat) (x y:Int) (v1 v2 v3 v4 o p A u:Value) (b:Bool) (w:World):Prop where
 a1:((l:Int)==0)=false
 lt2:0<m
 le2:m<=9223372036854775807
 d0:w.cell? ⟨i,h,none⟩=some (.int .i64 y)
 d1:w.cell? ⟨i,h+1,none⟩=some (o)
 d2:w.cell? ⟨i,h+2,none⟩=some (p)
 d3:w.cell? ⟨i,h+3,none⟩=some (A)
 d4:w.cell? ⟨i,h+4,none⟩=some (u)
 k2:Calls Tryz.prog 54 #[.agg #[.int .i64 y,o,p,A,u]] w fun e w'=>e=.returned (.int .i64 y)/\Below w.heap.size w w'
 lt:0<l
 le:l<=9223372036854775807
 c0:w.cell? ⟨j,off,none⟩=some (.int .i64 x)
 c1:w.cell? ⟨j,off+1,none⟩=some (v1)
 c2:w.cell? ⟨j,off+2,none⟩=some (v2)
 c3:w.cell? ⟨j,off+3,none⟩=some (v3)
 c4:w.cell? ⟨j,off+4,none⟩=some (v4)
 k1:Calls Tryz.prog 54 #[.agg #[.int .i64 x,v1,v2,v3,v4]] w fun e w'=>e=.returned (.int .i64 x)/\Below w.heap.size w w'
 a3:decide (y<x)=b
theorem Zkr (j off l q i h m r:Nat) (x y:Int) (v1 v2 v3 v4 o p A u:Value) (b:Bool) (Q:Exit->Act->World->Prop) (base:Act) (t:World) (z:base.tmps.size=96) (s:Zwu j off l q i h m r x y v1 v2 v3 v4 o p A u b base)
  (C:∀ w,Below t.heap.size t w->Znz j off l q i h m r x y v1 v2 v3 v4 o p A u b w) (E:∀ c w,Zaf Jfh base c->Below t.heap.size t w->c.eval (.tmp 69)=.bool b->Q .normal c w):(Code.region 8 Jfh true).wp Tryz.prog Q base t:=by
 refine Zn (B:=Zwu j off l q i h m r x y v1 v2 v3 v4 o p A u b) (T:=Znz j off l q i h m r x y v1 v2 v3 v4 o p A u b) (n:=17) (k:=16) Jiw Jkl (Jfi j off l q i h m r x y v1 v2 v3 v4 o p A u b) Jix rfl (by kernel_rfl) (by kernel_rfl) (by kernel_rfl) (by rw [z];kernel_rfl) (fun c D=>⟨(Zc D (by kernel_rfl)).trans s.t0,(Zc D (by kernel_rfl)).trans s.t1,(Zc D (by kernel_rfl)).trans s.t2⟩) C ?_ (by decide) rfl rfl E
 clear z s C E
 iterate 17 (refine Zd ?_ (by
  intro c w s C hEq
  obtain ⟨t0,t1,t2⟩:=s
  obtain ⟨a1,lt2,le2,d0,d1,d2,d3,d4,k2,lt,le,c0,c1,c2,c3,c4,k1,a3⟩:=C
  have H:=evc c
  have G:=evf c
  dsimp only [Jkl,Jiw,Jfi,nth,Zbm,Za2,Jc] at hEq |-
  first
  | exact ⟨by simp only [hEq],.inr ⟨by first | exact .inl rfl | exact .inr rfl,rfl⟩⟩
  | ((try refine ⟨by simp only [hEq],.inl ⟨rfl,?_⟩⟩);first | (refine Zch Tryz.call54 (by simp only [hEq]) k2 ?_;simp only [List.map_toArray,List.map_cons,List.map_nil,hEq];done) | (refine Zch Tryz.call54 (by simp only [hEq]) k1 ?_;simp only [List.map_toArray,List.map_cons,List.map_nil,hEq];done) | (refine .inl fun pos F=>?_;(clear k2 k1;dsimp only [Sig.oper];generalize c.eval=ρ at *;go_simp;done)) | (refine .inl fun pos F=>?_;clear k2 k1;dsimp only [Sig.oper];generalize c.eval=ρ at *;go_simp;simp only [decide_eq_true_eq,decide_eq_false_iff_not] at *;omega))))
 exact Zf
noncomputable def Jfj  : Array Oper:=Zy Tryz.f53 2
def Jiy  : List Sig:=[⟨18,.move (.tmp 3),96,none⟩,⟨19,.move (.tmp 0),23,none⟩,⟨20,.indexAddr 23 (.tmp 19) (.const (.int .i64 0)),0,none⟩,⟨21,.load 49 (.tmp 20),49,none⟩,⟨22,.move (.tmp 1),23,none⟩,⟨23,.indexAddr 23 (.tmp 22) (.const (.int .i64 0)),0,none⟩,⟨24,.load 49 (.tmp 23),49,none⟩,⟨25,.call { callee:=.value (.tmp 18),args:=#[.tmp 21,.tmp 24],argTypes:=#[49,49] },4,none⟩,⟨26,.unOp .not 4 (.tmp 25),4,none⟩]
theorem Jiz  : Jh Jfj=Jiy.map some:=by kernel_rfl
def Jkm  : List (List Nat):=[[],[],[1],[2],[],[4],[5],[0,3,6],[7]]
structure Zwv (j off l q i h m r:Nat) (x y:Int) (v1 v2 v3 v4 o p A u:Value) (b:Bool) (c:Act):Prop where
 t0:c.eval (.tmp 0)=.slice (some ⟨j,off,none⟩) l q
 t1:c.eval (.tmp 1)=.slice (some ⟨i,h,none⟩) m r
 t3:c.eval (.tmp 3)=.func (.func 50) #[] #[]
def Jfk (j off l q i h m r:Nat) (x y:Int) (v1 v2 v3 v4 o p A u:Value) (b:Bool):List Value:=[.func (.func 50) #[] #[],.slice (some ⟨j,off,none⟩) l q,.pointer (some ⟨j,off,none⟩),.agg #[.int .i64 x,v1,v2,v3,v4],.slice (some ⟨i,h,none⟩) m r,.pointer (some ⟨i,h,none⟩),.agg #[.int .i64 y,o,p,A,u],.bool b,.bool (!b)]
structure Zn0 (j off l q i h m r:Nat) (x y:Int) (v1 v2 v3 v4 o p A u:Value) (b:Bool) (w:World):Prop where
 lt:0<l
 le:l<=9223372036854775807
 c0:w.cell? ⟨j,off,none⟩=some (.int .i64 x)
 c1:w.cell? ⟨j,off+1,none⟩=some (v1)
 c2:w.cell? ⟨j,off+2,none⟩=some (v2)
 c3:w.cell? ⟨j,off+3,none⟩=some (v3)
 c4:w.cell? ⟨j,off+4,none⟩=some (v4)
 lt2:0<m
 le2:m<=9223372036854775807
 d0:w.cell? ⟨i,h,none⟩=some (.int .i64 y)
 d1:w.cell? ⟨i,h+1,none⟩=some (o)
 d2:w.cell? ⟨i,h+2,none⟩=some (p)
 d3:w.cell? ⟨i,h+3,none⟩=some (A)
 d4:w.cell? ⟨i,h+4,none⟩=some (u)
 k3:Calls Tryz.prog 50 #[.agg #[.int .i64 x,v1,v2,v3,v4],.agg #[.int .i64 y,o,p,A,u]] w fun e w'=>e=.returned (.bool b)/\Below w.heap.size w w'
theorem Zks (j off l q i h m r:Nat) (x y:Int) (v1 v2 v3 v4 o p A u:Value) (b:Bool) (Q:Exit->Act->World->Prop) (base:Act) (t:World) (z:base.tmps.size=96) (s:Zwv j off l q i h m r x y v1 v2 v3 v4 o p A u b base)
  (C:∀ w,Below t.heap.size t w->Zn0 j off l q i h m r x y v1 v2 v3 v4 o p A u b w) (E:∀ c w,Zaf Jfj base c->Below t.heap.size t w->c.eval (.tmp 26)=.bool (!b)->Q .normal c w):(Code.region 2 Jfj true).wp Tryz.prog Q base t:=by
 refine Zn (B:=Zwv j off l q i h m r x y v1 v2 v3 v4 o p A u b) (T:=Zn0 j off l q i h m r x y v1 v2 v3 v4 o p A u b) (n:=9) (k:=8) Jiy Jkm (Jfk j off l q i h m r x y v1 v2 v3 v4 o p A u b) Jiz rfl (by kernel_rfl) (by kernel_rfl) (by kernel_rfl) (by rw [z];kernel_rfl) (fun c D=>⟨(Zc D (by kernel_rfl)).trans s.t0,(Zc D (by kernel_rfl)).trans s.t1,(Zc D (by kernel_rfl)).trans s.t3⟩) C ?_ (by decide) rfl rfl E
 clear z s C E
 iterate 9 (refine Zd ?_ (by
  intro c w s C hEq
  obtain ⟨t0,t1,t3⟩:=s
  obtain ⟨lt,le,c0,c1,c2,c3,c4,lt2,le2,d0,d1,d2,d3,d4,k3⟩:=C
  have H:=evc c
  have G:=evf c
  dsimp only [Jkm,Jiy,Jfk,nth,Zbm,Za2,Jc] at hEq |-
  first
  | exact ⟨by simp only [hEq],.inr ⟨by first | exact .inl rfl | exact .inr rfl,rfl⟩⟩
  | ((try refine ⟨by simp only [hEq],.inl ⟨rfl,?_⟩⟩);first | (refine Zch Tryz.call50 (by simp only [hEq]) k3 ?_;simp only [List.map_toArray,List.map_cons,List.map_nil,hEq];done) | (refine .inl fun pos F=>?_;(clear k3;dsimp only [Sig.oper];generalize c.eval=ρ at *;go_simp;done)))))
 exact Zf
end
