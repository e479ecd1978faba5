import Derived.Test.YteddjlbfbpecjaaGreatDoorJoin27
namespace Go.Proofs.YteddjlbfbpecjaaGreatDoor
set_option linter.all false
section
open Go.RowKit Go.Shelf
attribute [local go_sem] Oper.semAt_some
theorem Zf1 {k:Int} (h1:-9223372036854775808<=k) (h2:k<=9223372036854775807):I64 k:=by
 have a:IntKind.i64.min=-9223372036854775808:=by kernel_rfl
 have b:IntKind.i64.max=9223372036854775807:=by kernel_rfl
 unfold I64 Lit.wf
 simp [a,b]
 omega
theorem Zif {next:Int}:∀ {ks:List Int} {l:Int},Zax next l ks=true->(∀ x ∈ ks,l<=x/\x<next)/\ks.Pairwise (·≠·)
 | [],l,h=>⟨fun x hx=>by simp at hx,List.Pairwise.nil⟩
 | y::r,l,h=>by
  rw [Zax] at h
  simp only [Bool.and_eq_true,Bool.not_eq_true',decide_eq_false_iff_not] at h
  obtain ⟨h1,h2,h3⟩:=h
  obtain ⟨h4,h5⟩:=Zif h3
  refine ⟨fun x hx=>?_,List.pairwise_cons.2 ⟨fun x hx=>by have:=h4 x hx;omega,h5⟩⟩
  rcases List.mem_cons.1 hx with rfl | hx
  ·omega
  ·have:=h4 x hx;omega
def Jo (g:Zt):Bool:=decide ((g.nodes.length:Int)+(g.rels.length:Int)<=65536)&&((Zax g.nn 0 (g.nodes.map Zo.id)&&Zax g.nr 0 (g.rels.map Jg.id))&&(Zbc g.nodes&&((Js g.nodes&&Jq g.rels)&&(Zcr g.rels&&Ze4 (Zfw g.nodes) g.rels))))
set_option maxRecDepth 100000 in
set_option maxHeartbeats 4000000 in
theorem Zdl (g:Zt) (B:Nat) (v:Value) (w:World) (hB:B<=w.heap.size) (hE:Env w) (N:Zr B w v g) (hz:Jd2 g) (c1:-9223372036854775808<=g.nn/\g.nn<=9223372036854775807) (b9:-9223372036854775808<=g.nr/\g.nr<=9223372036854775807) (b6:∀ r ∈ g.rels,I64 r.fr/\I64 r.tt):Calls Tryz.prog 11 #[v] w fun e w'=>e=.returned (.int .i64 (if Jo g=true then 0 else 2))/\Below w.heap.size w w':=by
 have L:=Zb hE
 obtain ⟨res,z⟩:∃ r,Jo g=r:=⟨_,rfl⟩
 rw [z]
 obtain ⟨code,D⟩:∃ c:Int,(if res=true then 0 else 2)=c:=⟨_,rfl⟩
 rw [D]
 have C:=Zb D
 clear D
 unfold Jo at z
 have c2:=N
 obtain ⟨na,nc,S,X,rfl,_,_⟩:=c2
 have Y:Hid (∀ W,Below w.heap.size w W->Calls Tryz.prog 93 #[.agg #[.slice na g.nodes.length nc,.slice S g.rels.length X,.int .i64 g.nn,.int .i64 g.nr]] W fun e w'=>e=.returned (.bool (decide ((g.nodes.length:Int)+(g.rels.length:Int)<=65536)))/\Below W.heap.size W w'):=fun W s=>Jcl g B _ W (by have:=s.size;omega) (L.out.below s L.out.room) (N.below (s.mono hB)) hz
 have a5:Hid (∀ W,Below w.heap.size w W->Calls Tryz.prog 94 #[.agg #[.slice na g.nodes.length nc,.slice S g.rels.length X,.int .i64 g.nn,.int .i64 g.nr]] W fun e w'=>e=.returned (.bool ((Zax g.nn 0 (g.nodes.map Zo.id)&&Zax g.nr 0 (g.rels.map Jg.id))))/\Below W.heap.size W w'):=fun W s=>Zqa g B _ W (by have:=s.size;omega) (N.below (s.mono hB)) c1 b9
 have R:Hid (∀ W,Below w.heap.size w W->Calls Tryz.prog 95 #[.agg #[.slice na g.nodes.length nc,.slice S g.rels.length X,.int .i64 g.nn,.int .i64 g.nr]] W fun e w'=>e=.returned (.bool (Zbc g.nodes))/\Below W.heap.size W w'):=fun W s=>Zs0 g B _ W (by have:=s.size;omega) (L.out.below s L.out.room) (N.below (s.mono hB)) hz
 have a4:Hid (∀ W,Below w.heap.size w W->Calls Tryz.prog 96 #[.agg #[.slice na g.nodes.length nc,.slice S g.rels.length X,.int .i64 g.nn,.int .i64 g.nr]] W fun e w'=>e=.returned (.bool ((Js g.nodes&&Jq g.rels)))/\Below W.heap.size W w'):=fun W s=>Zu8 g B _ W (by have:=s.size;omega) (L.out.below s L.out.room) (N.below (s.mono hB)) hz
 have P:Hid (∀ W,Below w.heap.size w W->Calls Tryz.prog 97 #[.agg #[.slice na g.nodes.length nc,.slice S g.rels.length X,.int .i64 g.nn,.int .i64 g.nr]] W fun e w'=>e=.returned (.bool (Zcr g.rels))/\Below W.heap.size W w'):=fun W s=>Zu7 g B _ W (by have:=s.size;omega) (L.out.below s L.out.room) (N.below (s.mono hB)) hz
 have O:Hid ((Zax g.nn 0 (g.nodes.map Zo.id)&&Zax g.nr 0 (g.rels.map Jg.id))=true->∀ W,Below w.heap.size w W->Calls Tryz.prog 98 #[.agg #[.slice na g.nodes.length nc,.slice S g.rels.length X,.int .i64 g.nn,.int .i64 g.nr]] W fun e w'=>e=.returned (.bool (Ze4 (Zfw g.nodes) g.rels))/\Below W.heap.size W w'):=fun hk W s=>by
  have b7:=Zif (Bool.and_eq_true_iff.1 hk).1
  exact Zzg g B _ W (by have:=s.size;omega) (N.below (s.mono hB)) b7.2 (fun n hn=>by
   have:=b7.1 n.id (List.mem_map_of_mem hn)
   exact Zf1 (by omega) (by omega)) b6
 obtain ⟨b0,a6⟩:∃ b,decide ((g.nodes.length:Int)+(g.rels.length:Int)<=65536)=b:=⟨_,rfl⟩
 obtain ⟨b1,K⟩:∃ b,(Zax g.nn 0 (g.nodes.map Zo.id)&&Zax g.nr 0 (g.rels.map Jg.id))=b:=⟨_,rfl⟩
 obtain ⟨b2,E⟩:∃ b,Zbc g.nodes=b:=⟨_,rfl⟩
 obtain ⟨b3,d⟩:∃ b,(Js g.nodes&&Jq g.rels)=b:=⟨_,rfl⟩
 obtain ⟨b4,V⟩:∃ b,Zcr g.rels=b:=⟨_,rfl⟩
 obtain ⟨b5,T⟩:∃ b,Ze4 (Zfw g.nodes) g.rels=b:=⟨_,rfl⟩
 rw [a6] at Y
 rw [K] at a5
 rw [E] at R
 rw [d] at a4
 rw [V] at P
 rw [K,T] at O
 rw [a6,K,E,d,V,T] at z
 have HR:=Zb z
 clear a6 K E d V T z N hz c1 b9 b6
 obtain ⟨ns,rs,nn,nr⟩:=g
 simp only at Y a5 R a4 P O |-
 generalize ns.length=n at *
 generalize rs.length=m at *
 go_enter Tryz.func11,Tryz.ntmps11
 go_upto_region 1 with fail
 generalize U:World.alloc _ _=W1
 have a8:=Zl w #[.slice na n nc,.slice S m X,.int .i64 nn,.int .i64 nr] 25
 rw [U] at a8
 have c4:Hid (Below w.heap.size w W1):=by rw [<- U];exact (Below.refl _ _).alloc (Nat.le_refl _) _
 have b8:=Zb a8
 clear U a8
 go_wp2_with fail
 refine (Zu9 _).mono ?_
 rintro e w2 ⟨rfl,E,a7⟩
 have M:=Zb E
 have Q:=Zb a7
 obtain ⟨p,hp⟩:∃ p,W1.heap.size=p:=⟨_,rfl⟩
 have c5:p<w2.heap.size:=by
  rw [<- hp]
  exact Zaq (a7 0 _ rfl)
 rw [hp] at Q |-
 clear E a7 hp
 go_wp2_with fail
 go_loopw [7] (fun x wr=>∃ q:Nat,q<=6/\x=.int .i64 q/\Below w2.heap.size w2 wr/\(([b0,b1,b2,b3,b4,b5].drop q).all id)=res/\(2<=q->b1=true)) (fun x _=>6 - (intOf x).toNat)
 case atStart=>exact ⟨0,by omega,rfl,Below.refl _ _,by rw [<- HR.out];simp,fun h=>by omega⟩
 case round =>
  obtain ⟨q,hq,rfl,s,c0,a9⟩:=hrel
  have G:=Zb s
  have j:=Zb c0
  have I:=Zb a9
  have o:=Zb (Za c4.out (Za M.out s))
  have A:=b8.out.below (Za M.out s) b8.out.lt
  have a0:=A.cell 0 rfl
  have a1:=A.cell 1 rfl
  have a2:=A.cell 2 rfl
  have a3:=A.cell 3 rfl
  clear s c0 a9 A
  have c3:q=0\/q=1\/q=2\/q=3\/q=4\/q=5\/q=6:=by omega
  rcases c3 with rfl | rfl | rfl | rfl | rfl | rfl | rfl
  ·have H:=Zag G.out (Nat.le_refl _) (Q.out 0 _ rfl)
   have i:=Zb (Y.out wr o.out)
   go_wp2_with fail
   refine i.out.mono ?_
   rintro e w3 ⟨rfl,d⟩
   have t:=Zb (Za G.out d)
   have f:=Zb (Za o.out d)
   clear d a0 a1 a2 a3 H i
   cases b0 with
   | false =>
    have F:Hid (code=2):=by
     show _=_
     have e:res=false:=by rw [<- j.out];rfl
     rw [<- C.out,e];rfl
    go_wp2_with fail
    go_ret
    exact ⟨by rw [F.out];rfl,f.out⟩
   | true =>
    have u:=Zb j.out
    go_wp2_with fail
    go_roundw
    case rel=>exact ⟨1,by omega,rfl,t.out,u.out,fun h=>by omega⟩
    case measure=>simp [intOf]
  ·have H:=Zag G.out (Nat.le_refl _) (Q.out 1 _ rfl)
   have i:=Zb (a5.out wr o.out)
   go_wp2_with fail
   refine i.out.mono ?_
   rintro e w3 ⟨rfl,d⟩
   have t:=Zb (Za G.out d)
   have f:=Zb (Za o.out d)
   clear d a0 a1 a2 a3 H i
   cases b1 with
   | false =>
    have F:Hid (code=2):=by
     show _=_
     have e:res=false:=by rw [<- j.out];rfl
     rw [<- C.out,e];rfl
    go_wp2_with fail
    go_ret
    exact ⟨by rw [F.out];rfl,f.out⟩
   | true =>
    have u:=Zb j.out
    go_wp2_with fail
    go_roundw
    case rel=>exact ⟨2,by omega,rfl,t.out,u.out,fun h=>trivial⟩
    case measure=>simp [intOf]
  ·have H:=Zag G.out (Nat.le_refl _) (Q.out 2 _ rfl)
   have i:=Zb (R.out wr o.out)
   go_wp2_with fail
   refine i.out.mono ?_
   rintro e w3 ⟨rfl,d⟩
   have t:=Zb (Za G.out d)
   have f:=Zb (Za o.out d)
   clear d a0 a1 a2 a3 H i
   cases b2 with
   | false =>
    have F:Hid (code=2):=by
     show _=_
     have e:res=false:=by rw [<- j.out];rfl
     rw [<- C.out,e];rfl
    go_wp2_with fail
    go_ret
    exact ⟨by rw [F.out];rfl,f.out⟩
   | true =>
    have u:=Zb j.out
    go_wp2_with fail
    go_roundw
    case rel=>exact ⟨3,by omega,rfl,t.out,u.out,fun h=>I.out (by omega)⟩
    case measure=>simp [intOf]
  ·have H:=Zag G.out (Nat.le_refl _) (Q.out 3 _ rfl)
   have i:=Zb (a4.out wr o.out)
   go_wp2_with fail
   refine i.out.mono ?_
   rintro e w3 ⟨rfl,d⟩
   have t:=Zb (Za G.out d)
   have f:=Zb (Za o.out d)
   clear d a0 a1 a2 a3 H i
   cases b3 with
   | false =>
    have F:Hid (code=2):=by
     show _=_
     have e:res=false:=by rw [<- j.out];rfl
     rw [<- C.out,e];rfl
    go_wp2_with fail
    go_ret
    exact ⟨by rw [F.out];rfl,f.out⟩
   | true =>
    have u:=Zb j.out
    go_wp2_with fail
    go_roundw
    case rel=>exact ⟨4,by omega,rfl,t.out,u.out,fun h=>I.out (by omega)⟩
    case measure=>simp [intOf]
  ·have H:=Zag G.out (Nat.le_refl _) (Q.out 4 _ rfl)
   have i:=Zb (P.out wr o.out)
   go_wp2_with fail
   refine i.out.mono ?_
   rintro e w3 ⟨rfl,d⟩
   have t:=Zb (Za G.out d)
   have f:=Zb (Za o.out d)
   clear d a0 a1 a2 a3 H i
   cases b4 with
   | false =>
    have F:Hid (code=2):=by
     show _=_
     have e:res=false:=by rw [<- j.out];rfl
     rw [<- C.out,e];rfl
    go_wp2_with fail
    go_ret
    exact ⟨by rw [F.out];rfl,f.out⟩
   | true =>
    have u:=Zb j.out
    go_wp2_with fail
    go_roundw
    case rel=>exact ⟨5,by omega,rfl,t.out,u.out,fun h=>I.out (by omega)⟩
    case measure=>simp [intOf]
  ·have H:=Zag G.out (Nat.le_refl _) (Q.out 5 _ rfl)
   have i:=Zb (O.out (I.out (by omega)) wr o.out)
   go_wp2_with fail
   refine i.out.mono ?_
   rintro e w3 ⟨rfl,d⟩
   have t:=Zb (Za G.out d)
   have f:=Zb (Za o.out d)
   clear d a0 a1 a2 a3 H i
   cases b5 with
   | false =>
    have F:Hid (code=2):=by
     show _=_
     have e:res=false:=by rw [<- j.out];rfl
     rw [<- C.out,e];rfl
    go_wp2_with fail
    go_ret
    exact ⟨by rw [F.out];rfl,f.out⟩
   | true =>
    have u:=Zb j.out
    go_wp2_with fail
    go_roundw
    case rel=>exact ⟨6,by omega,rfl,t.out,u.out,fun h=>I.out (by omega)⟩
    case measure=>simp [intOf]
  ·have F:Hid (code=0):=by
    show _=_
    have e:res=true:=by rw [<- j.out];rfl
    rw [<- C.out,e];rfl
   go_wp2_with fail
   go_ret
   exact ⟨by rw [F.out];rfl,o.out⟩
end
section
open Go.RowKit Go.Shelf
attribute [local go_sem] Oper.semAt_some
def Ji3 (w:World) (g:Zt) (e:Ending) (w':World):Prop:=∃ v,e=.returned v/\Zc6 w.heap.size w'.heap.size w' v g/\Below w.heap.size w w'
theorem Zc6.keep {M B:Nat} {w w':World} {v:Value} {g:Zt} (hk:Zb9 M B w w') (h:Zc6 M B w v g):Zc6 M B w' v g:=by
 obtain ⟨nv,rv,e,h1,h2⟩:=h
 exact ⟨nv,rv,e,h1.keep hk,h2.keep hk⟩
theorem Zc6.mono {M Y B B':Nat} {w:World} {v:Value} {g:Zt} (hl:Y<=M) (hB:B<=B') (h:Zc6 M B w v g):Zc6 Y B' w v g:=by
 obtain ⟨nv,rv,e,h1,h2⟩:=h
 exact ⟨nv,rv,e,h1.mono hl hB,h2.mono hl hB⟩
set_option maxRecDepth 100000 in
set_option maxHeartbeats 8000000 in
theorem Jap {w:World} {p:GP} {nn nr:Int} {N R F T:List (Int × Value)} (h:GS w p nn nr N R F T) (B:Nat) (hB:B<=w.heap.size) (f:List Zo) (j:List Jg) (O:Zfb B w N R f j)
  (hn:∀ x ∈ f,x.labels.length<=2000000/\x.props.length<=2000000/\∀ q ∈ x.props,q.2.total<=2000000) (hu:∀ x ∈ j,x.props.length<=2000000/\∀ q ∈ x.props,q.2.total<=2000000) :
  Calls Tryz.prog 19 #[p.val] w (Ji3 w ⟨f,j,nn,nr⟩):=by
 have a8:Hid (∀ W,Below w.heap.size w W->Calls Tryz.prog 18 #[.pointer (some ⟨p.g,0,none⟩)] W fun e w'=>e=.returned (.bool true)/\w'=W):=fun W t=>Zcw (h.below t)
 have a4:=Zb (fun W (t:Below w.heap.size w W)=>Zsg (h.below t).ps B (Nat.le_trans hB t.size) f j (O.below (t.mono hB)))
 have h1:f.length<=2000000:=by rw [O.nlen];exact O.nl
 have h2:j.length<=2000000:=by rw [O.rlen];exact O.rl
 have b4:=Zb (fun v W (t:Zr W.heap.size W v ⟨f,j,nn,nr⟩)=>Zib ⟨f,j,nn,nr⟩ v W.heap.size W (Nat.le_refl _) t h1 h2 hn hu)
 clear h O hn hu h1 h2
 unfold GP.val
 go_enter Tryz.func19,Tryz.ntmps19
 go_upto_region 1 with fail
 generalize C:World.alloc _ _=W1
 have H:Hid (Below w.heap.size w W1):=by rw [<- C];exact (Below.refl _ _).alloc (Nat.le_refl _) _
 have X:Hid (Rec W1 w.heap.size #[.slice none 0 0,.slice none 0 0,.int .i64 0,.int .i64 0] 25):=by rw [<- C];exact Zl _ _ _
 clear C
 go_wp2_with fail
 refine (a8.out W1 H.out).mono ?_
 rintro e w2 ⟨rfl,S⟩
 rw [S]
 clear S
 go_wp2_with fail
 refine (a4.out W1 H.out).mono ?_
 rintro e w3 ⟨v3,rfl,a0,u⟩
 have a1:=Zb (Za H.out u)
 have K:=Zb (X.out.below u X.out.lt)
 have V:=Zb (b4.out v3 w3 a0)
 obtain ⟨na,nc,ra,rc,rfl,s,m⟩:=a0
 clear u s m
 go_wp2_with fail
 refine V.out.mono ?_
 rintro e w4 ⟨v4,rfl,U,E⟩
 have a6:=Zb (Za a1.out E)
 have c:=Zb (K.out.below E K.out.lt)
 have a2:=Zb U
 have a7:w.heap.size<w3.heap.size:=K.out.lt
 obtain ⟨nv,rv,rfl,s,m⟩:=U
 obtain ⟨I,G,rfl,_⟩:=s
 obtain ⟨D,n,rfl,_⟩:=m
 clear E V
 have b0:=c.out.cell 0 rfl
 have b1:=c.out.cell 1 rfl
 have b2:=c.out.cell 2 rfl
 have b3:=c.out.cell 3 rfl
 have y0:=c.out.z 0
 have y1:=c.out.z 1
 have y2:=c.out.z 2
 have y3:=c.out.z 3
 go_wp2_with fail
 generalize d:World.setCell _ _ _=W9
 have k:Hid (Rec W9 w.heap.size #[.slice I f.length G,.slice D j.length n,.int .i64 nn,.int .i64 nr] 25):=by rw [<- d];exact (((c.out.set 0 _).set 1 _).set 2 _).set 3 _
 have a5:Hid (Below w.heap.size w W9):=by rw [<- d];exact (((a6.out.setCell (Nat.le_refl _) _).setCell (Nat.le_refl _) _).setCell (Nat.le_refl _) _).setCell (Nat.le_refl _) _
 have a3:W9.heap.size=w4.heap.size:=by rw [<- d];simp
 have Q:Hid (∀ b,w.heap.size≠b->W9.heap[b]?=w4.heap[b]?):=fun b hb=>by
  rw [<- d]
  repeat rw [Below.heap_setCell _ _ _ _ (Ne.symm hb)]
 have a9:Hid (Zc6 w.heap.size W9.heap.size W9 (.agg #[.slice I f.length G,.slice D j.length n,.int .i64 nn,.int .i64 nr]) ⟨f,j,nn,nr⟩):=by
  rw [a3]
  refine Zc6.mono (Nat.le_of_lt a7) (Nat.le_refl _) (Zc6.keep ?_ a2.out)
  intro b o h1 h2
  exact ⟨World.cell?_of_block (Q.out b (by omega)),by unfold World.frozen?;rw [Q.out b (by omega)]⟩
 clear d
 have q0:=k.out.cell 0 rfl
 have q1:=k.out.cell 1 rfl
 have q2:=k.out.cell 2 rfl
 have q3:=k.out.cell 3 rfl
 refine bodyPost_ret (v:=.agg #[.slice I f.length G,.slice D j.length n,.int .i64 nn,.int .i64 nr]) ?_ rfl ⟨_,rfl,a9.out,a5.out⟩
 simp [results,Tryz.results19,go_sem,q0,q1,q2,q3]
theorem Zd2 {next:Int}:∀ {ks:List Int} {l:Int},Zax next l ks=true->ks.Pairwise (·<·)
 | [],l,h=>List.Pairwise.nil
 | y::r,l,h=>by
  rw [Zax] at h
  simp only [Bool.and_eq_true,Bool.not_eq_true',decide_eq_false_iff_not] at h
  obtain ⟨h1,h2,h3⟩:=h
  have h4:=(Zif h3).1
  exact List.pairwise_cons.2 ⟨fun x P=>by have:=h4 x P;omega,Zd2 h3⟩
theorem Zrl {α:Type} {key:α->Int} {L:World->Value->α->Prop} {w:World} {N:List (Int × Value)} {xs:List α} (h:Zo3 key L w N xs):N.map Prod.fst=xs.map key:=by
 apply List.ext_getElem?
 intro i
 rw [List.getElem?_map,List.getElem?_map]
 by_cases hi:i<xs.length
 ·obtain ⟨x,P⟩:∃ q,xs[i]?=some q:=⟨_,List.getElem?_eq_getElem hi⟩
  obtain ⟨v,h1,_⟩:=h.2 i x P
  rw [P,h1];rfl
 ·rw [List.getElem?_eq_none (by rw [h.1];omega),List.getElem?_eq_none (by omega)];rfl
theorem Jaq {α:Type} {key:α->Int} {L:World->Value->α->Prop} {w:World} {N:List (Int × Value)} {xs:List α} (h:Zo3 key L w N xs):∀ x ∈ xs,∃ v,(key x,v) ∈ N/\L w v x:=by
 intro x P
 obtain ⟨i,hi⟩:=List.getElem?_of_mem P
 obtain ⟨v,h1,h2⟩:=h.2 i x hi
 exact ⟨v,List.mem_of_getElem? h1,h2⟩
end
section
open Go.RowKit Go.Shelf Go.Maps
theorem Jb7 {t e:TypeId} (U:Tryz.prog.underlying t=some (.map 2 e)) {w:World} {b:Nat} {es:List (Int × Value)} (h:MI w b es) (H:(es.map Prod.fst).Nodup) (k:Int) (v:Value) (m:I64 k) :
  ∃ w' z,(Instr.mapUpdate t (.map (some b)) (.int .i64 k) v).run Tryz.prog w=.ok () w'/\MI w' b z/\(z.map Prod.fst).Nodup/\(∀ q,q ∈ z↔q=(k,v)\/q ∈ es/\q.1≠k)/\(∀ i,i≠b->w'.heap[i]?=w.heap[i]?)/\Below b w w':=by
 by_cases hin:∃ p ∈ es,p.1=k
 ·obtain ⟨⟨W,v0⟩,D,E⟩:=hin
  simp only at E
  subst E
  obtain ⟨j,s⟩:=List.getElem?_of_mem D
  have C:∀ i p,es[i]?=some p->p.1=W->i=j:=fun i p f o=>by
   obtain ⟨a,u⟩:=p
   simp only at o
   subst o
   exact Zmi H f s
  obtain ⟨w',r1,r2,_,r4,Y⟩:=Jce U h j W v0 v m s C
  have X:=(List.getElem?_eq_some_iff.1 s).1
  have T:(es.set j (W,v)).map Prod.fst=es.map Prod.fst:=by
   rw [List.map_set]
   apply List.ext_getElem?
   intro i
   rw [List.getElem?_set]
   split
   ·rename_i e
    subst e
    rw [List.getElem?_map,s]
    simp [X]
   ·rfl
  refine ⟨w',_,r1,r2,by rw [T];exact H,fun q=>⟨fun g=>?_,fun g=>?_⟩,r4,Y⟩
  ·obtain ⟨i,f⟩:=List.getElem?_of_mem g
   rw [List.getElem?_set] at f
   split at f
   ·exact .inl (by simpa using f.symm)
   ·rename_i e
    exact .inr ⟨List.mem_of_getElem? f,fun o=>e (C i q f o).symm⟩
  ·rcases g with rfl | ⟨h1,h2⟩
   ·exact List.mem_of_getElem? (i:=j) (by rw [List.getElem?_set];simp [X])
   ·obtain ⟨i,f⟩:=List.getElem?_of_mem h1
    refine List.mem_of_getElem? (i:=i) ?_
    rw [List.getElem?_set]
    split
    ·rename_i e
     subst e
     rw [s] at f
     exact absurd (by rw [<- Option.some.inj f]) h2
    ·exact f
 ·have F:∀ p ∈ es,p.1≠k:=fun p D e=>hin ⟨p,D,e⟩
  obtain ⟨w',r1,r2,_,r4,Y⟩:=Zhj U h k v m F
  refine ⟨w',_,r1,r2,?_,fun q=>⟨fun g=>?_,fun g=>?_⟩,r4,Y⟩
  ·rw [List.map_append]
   refine List.nodup_append.2 ⟨H,by simp,fun a S b M=>?_⟩
   obtain ⟨p,D,rfl⟩:=List.mem_map.1 S
   simp only [List.map_cons,List.map_nil,List.mem_cons,List.not_mem_nil,or_false] at M
   rw [M]
   exact F p D
  ·rcases List.mem_append.1 g with h1 | h1
   ·exact .inr ⟨h1,F q h1⟩
   ·exact .inl (by simpa using h1)
  ·rcases g with rfl | ⟨h1,_⟩
   ·exact List.mem_append_right _ (by simp)
   ·exact List.mem_append_left _ h1
theorem Jb8 {t e ty:TypeId} (U:Tryz.prog.underlying t=some (.map 2 e)) {w:World} {b:Nat} {es:List (Int × Value)} (h:MI w b es) (H:(es.map Prod.fst).Nodup) (k:Int) (m:I64 k) :
  ∃ w' z,(Builtin.delete_ #[t,2] ty #[.map (some b),.int .i64 k]).run Tryz.prog w=.ok (.tuple #[]) w'/\MI w' b z/\(z.map Prod.fst).Nodup/\(∀ q,q ∈ z↔q ∈ es/\q.1≠k)/\(∀ i,i≠b->w'.heap[i]?=w.heap[i]?)/\Below b w w':=by
 by_cases hin:∃ p ∈ es,p.1=k
 ·obtain ⟨⟨W,v0⟩,D,E⟩:=hin
  simp only at E
  subst E
  obtain ⟨j,s⟩:=List.getElem?_of_mem D
  have C:∀ i p,es[i]?=some p->p.1=W->i=j:=fun i p f o=>by
   obtain ⟨a,u⟩:=p
   simp only at o
   subst o
   exact Zmi H f s
  obtain ⟨w',r1,r2,_,r4,Y⟩:=Zsk (ty:=ty) U h j W v0 m s C
  refine ⟨w',_,r1,r2,?_,fun q=>⟨fun g=>?_,fun g=>?_⟩,r4,Y⟩
  ·rw [Zgr]
   exact H.sublist (List.eraseIdx_sublist _ _)
  ·refine ⟨List.mem_of_mem_eraseIdx g,fun o=>?_⟩
   obtain ⟨i,f,a0⟩:=List.mem_eraseIdx_iff_getElem?.1 g
   exact f (C i q a0 o)
  ·obtain ⟨i,f⟩:=List.getElem?_of_mem g.1
   refine List.mem_eraseIdx_iff_getElem?.2 ⟨i,fun e=>?_,f⟩
   subst e
   rw [s] at f
   exact g.2 (by rw [<- Option.some.inj f])
 ·have F:∀ p ∈ es,p.1≠k:=fun p D e=>hin ⟨p,D,e⟩
  refine ⟨w,es,?_,h,H,fun q=>⟨fun g=>⟨g,F q g⟩,fun g=>g.1⟩,fun i _=>rfl,Below.refl _ _⟩
  obtain ⟨ar,G,h1,h2,h3,hS⟩:=h
  have K:=int_keyed (P:=Tryz.prog) Tryz.underlying2
  have Q:=keyOf_int_mk (P:=Tryz.prog) Tryz.underlying2 m
  rcases K.find w Q ar.toList (Zfv h2 h3) with ⟨f1,f2⟩ | ⟨i,e0,f1,f2,f3⟩
  ·have a1:b<w.heap.size:=(Array.getElem?_eq_some_iff.1 h1).1
   have he:w.heap.setIfInBounds b (.map ar G)=w.heap:=by
    apply Array.ext_getElem?
    intro i
    by_cases hib:i=b
    ·subst hib;rw [h1];simp [a1]
    ·rw [Array.getElem?_setIfInBounds_ne (Ne.symm hib)]
   have hs:=MapKept.run_setObj_map (P:=Tryz.prog) (.map ar G) h1
   rw [he] at hs
   simp [Builtin.delete_,run_underlying U,MapKept.run_getObj_map h1,K.check w _ Q,f1,hs,Result.andThen]
  ·exfalso
   obtain ⟨p,D,e1,_⟩:=Zsj h2 (List.mem_of_getElem? f2)
   rw [f3] at e1
   have e2:k=p.1:=by injection e1
   exact F p D e2.symm
structure Zdu {α:Type} (key:α->Int) (L:Value->α->Prop) (N:List (Int × Value)) (xs:List α):Prop where
 nd:(N.map Prod.fst).Nodup
 rise:(xs.map key).Pairwise (·<·)
 mem:∀ k,k ∈ N.map Prod.fst↔k ∈ xs.map key
 lie:∀ x ∈ xs,∃ v,(key x,v) ∈ N/\L v x
theorem Zd5 {α:Type} {key:α->Int} {n:α}:∀ {xs:List α},(xs.map key).Pairwise (·<·)->∀ x,x ∈ Zid key n xs↔x=n\/x ∈ xs/\key x≠key n
 | [],_,x=>by simp [Zid]
 | a::r,h,x=>by
  rw [List.map_cons,List.pairwise_cons] at h
  have A:∀ y ∈ r,key a<key y:=fun y d=>h.1 _ (List.mem_map_of_mem d)
  rw [Zid]
  split
  ·rename_i h1
   rw [List.mem_cons,Zd5 h.2 x,List.mem_cons]
   constructor
   ·rintro (rfl | rfl | ⟨h2,h3⟩)
    ·exact .inr ⟨.inl rfl,by omega⟩
    ·exact .inl rfl
    ·exact .inr ⟨.inr h2,h3⟩
   ·rintro (rfl | ⟨rfl | h2,h3⟩)
    ·exact .inr (.inl rfl)
    ·exact .inl rfl
    ·exact .inr (.inr ⟨h2,h3⟩)
  ·split
   ·rename_i h1 h2
    rw [List.mem_cons,List.mem_cons]
    constructor
    ·rintro (rfl | h3)
     ·exact .inl rfl
     ·exact .inr ⟨.inr h3,by have:=A x h3;omega⟩
    ·rintro (rfl | ⟨rfl | h3,h4⟩)
     ·exact .inl rfl
     ·exact absurd h2 h4
     ·exact .inr h3
   ·rename_i h1 h2
    rw [List.mem_cons,List.mem_cons]
    constructor
    ·rintro (rfl | rfl | h3)
     ·exact .inl rfl
     ·exact .inr ⟨.inl rfl,h2⟩
     ·exact .inr ⟨.inr h3,by have:=A x h3;omega⟩
    ·rintro (rfl | ⟨h3,_⟩)
     ·exact .inl rfl
     ·exact .inr h3
theorem Zgk {α:Type} {key:α->Int} {n:α}:∀ {xs:List α},(xs.map key).Pairwise (·<·)->((Zid key n xs).map key).Pairwise (·<·)
 | [],_=>by simp [Zid]
 | a::r,h=>by
  have h0:=h
  rw [List.map_cons,List.pairwise_cons] at h
  have A:∀ y ∈ r,key a<key y:=fun y d=>h.1 _ (List.mem_map_of_mem d)
  rw [Zid]
  split
  ·rename_i h1
   rw [List.map_cons,List.pairwise_cons]
   refine ⟨fun k m=>?_,Zgk h.2⟩
   obtain ⟨y,d,rfl⟩:=List.mem_map.1 m
   rcases (Zd5 h.2 y).1 d with rfl | ⟨h2,_⟩
   ·exact h1
   ·exact A y h2
  ·split
   ·rename_i h1 h2
    rw [List.map_cons,List.pairwise_cons]
    refine ⟨fun k m=>?_,h.2⟩
    obtain ⟨y,d,rfl⟩:=List.mem_map.1 m
    have:=A y d;omega
   ·rename_i h1 h2
    rw [List.map_cons,List.pairwise_cons]
    refine ⟨fun k m=>?_,h0⟩
    obtain ⟨y,d,rfl⟩:=List.mem_map.1 m
    rcases List.mem_cons.1 d with rfl | d
    ·omega
    ·have:=A y d;omega
theorem Zdu.put {α:Type} {key:α->Int} {L:Value->α->Prop} {N V:List (Int × Value)} {xs:List α} (h:Zdu key L N xs) (x:α) (v:Value) (hv:L v x) (H:(V.map Prod.fst).Nodup) (O:∀ q,q ∈ V↔q=(key x,v)\/q ∈ N/\q.1≠key x):Zdu key L V (Zid key x xs):=by
 refine ⟨H,Zgk h.rise,fun k=>⟨fun m=>?_,fun m=>?_⟩,fun y d=>?_⟩
 ·obtain ⟨q,g,rfl⟩:=List.mem_map.1 m
  rcases (O q).1 g with rfl | ⟨h1,h2⟩
  ·exact List.mem_map.2 ⟨x,(Zd5 h.rise x).2 (.inl rfl),rfl⟩
  ·obtain ⟨y,d,e⟩:=List.mem_map.1 ((h.mem q.1).1 (List.mem_map_of_mem h1))
   exact List.mem_map.2 ⟨y,(Zd5 h.rise y).2 (.inr ⟨d,by rw [e];exact h2⟩),e⟩
 ·obtain ⟨y,d,rfl⟩:=List.mem_map.1 m
  rcases (Zd5 h.rise y).1 d with rfl | ⟨h1,h2⟩
  ·exact List.mem_map.2 ⟨_,(O _).2 (.inl rfl),rfl⟩
  ·obtain ⟨u,C,_⟩:=h.lie y h1
   exact List.mem_map.2 ⟨_,(O _).2 (.inr ⟨C,h2⟩),rfl⟩
 ·rcases (Zd5 h.rise y).1 d with rfl | ⟨h1,h2⟩
  ·exact ⟨v,(O _).2 (.inl rfl),hv⟩
  ·obtain ⟨u,C,hl⟩:=h.lie y h1
   exact ⟨u,(O _).2 (.inr ⟨C,h2⟩),hl⟩
theorem Zdu.out {α:Type} {key:α->Int} {L:Value->α->Prop} {N V:List (Int × Value)} {xs:List α} (h:Zdu key L N xs) (k:Int) (H:(V.map Prod.fst).Nodup) (O:∀ q,q ∈ V↔q ∈ N/\q.1≠k):Zdu key L V (Zfc key k xs):=by
 have I:∀ y,y ∈ Zfc key k xs↔y ∈ xs/\key y≠k:=fun y=>by unfold Zfc;rw [List.mem_filter];simp
 refine ⟨H,?_,fun j=>⟨fun s=>?_,fun s=>?_⟩,fun y d=>?_⟩
 ·exact h.rise.sublist (List.Sublist.map _ List.filter_sublist)
 ·obtain ⟨q,g,rfl⟩:=List.mem_map.1 s
  obtain ⟨h1,h2⟩:=(O q).1 g
  obtain ⟨y,d,e⟩:=List.mem_map.1 ((h.mem q.1).1 (List.mem_map_of_mem h1))
  exact List.mem_map.2 ⟨y,(I y).2 ⟨d,by rw [e];exact h2⟩,e⟩
 ·obtain ⟨y,d,rfl⟩:=List.mem_map.1 s
  obtain ⟨h1,h2⟩:=(I y).1 d
  obtain ⟨u,C,_⟩:=h.lie y h1
  exact List.mem_map.2 ⟨_,(O _).2 ⟨C,h2⟩,rfl⟩
 ·obtain ⟨h1,h2⟩:=(I y).1 d
  obtain ⟨u,C,hl⟩:=h.lie y h1
  exact ⟨u,(O _).2 ⟨C,h2⟩,hl⟩
theorem Zdu.turn {α:Type} {key:α->Int} {L L':Value->α->Prop} {N:List (Int × Value)} {xs:List α} (h:Zdu key L N xs) (hL:∀ v x,L v x->L' v x):Zdu key L' N xs:=⟨h.nd,h.rise,h.mem,fun x hx=>by obtain ⟨v,h1,h2⟩:=h.lie x hx;exact ⟨v,h1,hL v x h2⟩⟩
theorem Zsb {α:Type} {key:α->Int} {L:World->Value->α->Prop} {w:World} {N:List (Int × Value)} {xs:List α} (h:Zo3 key L w N xs) (A:(xs.map key).Pairwise (·<·)):Zdu key (L w) N xs :=
 ⟨by rw [Zrl h];exact A.imp fun h=>by omega,A,fun k=>by rw [Zrl h],Jaq h⟩
theorem Zsc  : ∀ (a b:List Int),a.Pairwise (·<·)->b.Pairwise (·<·)->(∀ k,k ∈ a↔k ∈ b)->a=b
 | [],[],_,_,_=>rfl
 | [],y::t,_,_,h=>by have:=(h y).2 List.mem_cons_self;simp at this
 | x::r,[],_,_,h=>by have:=(h x).1 List.mem_cons_self;simp at this
 | x::r,y::t,S,M,h=>by
  rw [List.pairwise_cons] at S M
  have e:x=y:=by
   rcases List.mem_cons.1 ((h x).1 List.mem_cons_self) with e | h1
   ·exact e
   ·rcases List.mem_cons.1 ((h y).2 List.mem_cons_self) with e | h2
    ·exact e.symm
    ·have:=M.1 x h1
     have:=S.1 y h2
     omega
  subst e
  rw [Zsc r t S.2 M.2 fun k=>⟨fun m=>?_,fun m=>?_⟩]
  ·rcases List.mem_cons.1 ((h k).1 (List.mem_cons_of_mem _ m)) with e | h1
   ·have:=S.1 k m;omega
   ·exact h1
  ·rcases List.mem_cons.1 ((h k).2 (List.mem_cons_of_mem _ m)) with e | h1
   ·have:=M.1 k m;omega
   ·exact h1
theorem Zp3 {l:List Int} (h:l.Nodup):(Zff l).Pairwise (·<·):=by
 have h1:(Zff l).Pairwise (fun a b=>decide (a<=b)=true):=List.pairwise_mergeSort (fun a b c h1 h2=>by simp at *;omega) (fun a b=>by simp;omega) l
 have h2:(Zff l).Nodup:=(List.mergeSort_perm l _).nodup_iff.2 h
 exact (h1.and h2).imp fun h=>by have:=h.1;have:=h.2;simp at *;omega
theorem Zdu.order {α:Type} {key:α->Int} {L:Value->α->Prop} {N:List (Int × Value)} {xs:List α} (h:Zdu key L N xs):xs.map key=Zff (N.map Prod.fst) :=
 Zsc _ _ h.rise (Zp3 h.nd) fun k=>by rw [<- h.mem k];unfold Zff;rw [List.mem_mergeSort]
theorem Zdu.len {α:Type} {key:α->Int} {L:Value->α->Prop} {N:List (Int × Value)} {xs:List α} (h:Zdu key L N xs):N.length=xs.length:=by
 have:=congrArg List.length h.order
 rw [Zjn] at this
 simpa using this.symm
theorem Zdu.uniq {α:Type} {key:α->Int} {L:Value->α->Prop} {N:List (Int × Value)} {xs:List α} (h:Zdu key L N xs):Zhn N:=by
 intro a S b M e
 obtain ⟨i,f⟩:=List.getElem?_of_mem S
 obtain ⟨j,s⟩:=List.getElem?_of_mem M
 obtain ⟨k,u⟩:=a
 obtain ⟨W,u'⟩:=b
 simp only at e
 subst e
 have:=Zmi h.nd f s
 subst this
 rw [f] at s
 injection s with s
 injection s
theorem Zyi {B:Nat} {w:World} {N R:List (Int × Value)} {ns:List Zo} {rs:List Jg} (F:Zdu Zo.id (Ja B w) N ns) (A:Zdu Jg.id (Ji B w) R rs) (h1:ns.length<=2000000) (h2:rs.length<=2000000) (U:∀ r ∈ rs,r.type.size<=maxLen):Zfb B w N R ns rs :=
 ⟨by rw [F.len];exact h1,by rw [A.len];exact h2,F.order,A.order,F.uniq,A.uniq,F.lie,A.lie,U⟩
end
