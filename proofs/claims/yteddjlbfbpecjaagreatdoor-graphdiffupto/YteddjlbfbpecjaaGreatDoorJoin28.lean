import Derived.Test.YteddjlbfbpecjaaGreatDoorJoin27
namespace Go.Proofs.YteddjlbfbpecjaaGreatDoor
set_option linter.all false
section
open Go.RowKit Go.Shelf
attribute [local go_sem] Oper.semAt_some
theorem Zf1 {k:Int} (h1:-9223372036854775808<=k) (h2:k<=9223372036854775807):I64 k:=by
 have a:IntKind.i64.min=-9223372036854775808:=by kernel_rfl
 have b:IntKind.i64.max=9223372036854775807:=by kernel_rfl
 unfold I64 Lit.wf
 simp [a,b]
 omega
theorem Zif {next:Int}:∀ {ks:List Int} {l:Int},Zax next l ks=true->(∀ x ∈ ks,l<=x/\x<next)/\ks.Pairwise (·≠·)
 | [],l,h=>⟨fun x V=>by simp at V,List.Pairwise.nil⟩
 | y::r,l,h=>by
  rw [Zax] at h
  simp only [Bool.and_eq_true,Bool.not_eq_true',decide_eq_false_iff_not] at h
  obtain ⟨h1,h2,h3⟩:=h
  obtain ⟨h4,h5⟩:=Zif h3
  refine ⟨fun x V=>?_,List.pairwise_cons.2 ⟨fun x V=>by have:=h4 x V;omega,h5⟩⟩
  rcases List.mem_cons.1 V with rfl | V
  ·omega
  ·have:=h4 x V;omega
def Jo (g:Zt):Bool:=decide ((g.nodes.length:Int)+(g.rels.length:Int)<=65536)&&((Zax g.nn 0 (g.nodes.map Zo.id)&&Zax g.nr 0 (g.rels.map Jg.id))&&(Zbc g.nodes&&((Js g.nodes&&Jq g.rels)&&(Zcr g.rels&&Ze4 (Zfw g.nodes) g.rels))))
set_option maxRecDepth 100000 in
set_option maxHeartbeats 4000000 in
theorem Zdl (g:Zt) (B:Nat) (v:Value) (w:World) (hB:B<=w.heap.size) (hE:Env w) (L:Zr B w v g) (hz:Jd2 g) (b8:-9223372036854775808<=g.nn/\g.nn<=9223372036854775807) (c1:-9223372036854775808<=g.nr/\g.nr<=9223372036854775807) (b6:∀ r ∈ g.rels,I64 r.fr/\I64 r.tt):Calls Tryz.prog 11 #[v] w fun e w'=>e=.returned (.int .i64 (if Jo g=true then 0 else 2))/\Below w.heap.size w w':=by
 have M:=Zb hE
 obtain ⟨res,z⟩:∃ r,Jo g=r:=⟨_,rfl⟩
 rw [z]
 obtain ⟨code,C⟩:∃ c:Int,(if res=true then 0 else 2)=c:=⟨_,rfl⟩
 rw [C]
 have D:=Zb C
 clear C
 unfold Jo at z
 have c3:=L
 obtain ⟨na,T,P,rc,rfl,_,_⟩:=c3
 have R:Hid (∀ W,Below w.heap.size w W->Calls Tryz.prog 93 #[.agg #[.slice na g.nodes.length T,.slice P g.rels.length rc,.int .i64 g.nn,.int .i64 g.nr]] W fun e w'=>e=.returned (.bool (decide ((g.nodes.length:Int)+(g.rels.length:Int)<=65536)))/\Below W.heap.size W w'):=fun W s=>Jcl g B _ W (by have:=s.size;omega) (M.out.below s M.out.room) (L.below (s.mono hB)) hz
 have a4:Hid (∀ W,Below w.heap.size w W->Calls Tryz.prog 94 #[.agg #[.slice na g.nodes.length T,.slice P g.rels.length rc,.int .i64 g.nn,.int .i64 g.nr]] W fun e w'=>e=.returned (.bool ((Zax g.nn 0 (g.nodes.map Zo.id)&&Zax g.nr 0 (g.rels.map Jg.id))))/\Below W.heap.size W w'):=fun W s=>Zqa g B _ W (by have:=s.size;omega) (L.below (s.mono hB)) b8 c1
 have a6:Hid (∀ W,Below w.heap.size w W->Calls Tryz.prog 95 #[.agg #[.slice na g.nodes.length T,.slice P g.rels.length rc,.int .i64 g.nn,.int .i64 g.nr]] W fun e w'=>e=.returned (.bool (Zbc g.nodes))/\Below W.heap.size W w'):=fun W s=>Zs0 g B _ W (by have:=s.size;omega) (M.out.below s M.out.room) (L.below (s.mono hB)) hz
 have a8:Hid (∀ W,Below w.heap.size w W->Calls Tryz.prog 96 #[.agg #[.slice na g.nodes.length T,.slice P g.rels.length rc,.int .i64 g.nn,.int .i64 g.nr]] W fun e w'=>e=.returned (.bool ((Js g.nodes&&Jq g.rels)))/\Below W.heap.size W w'):=fun W s=>Zu8 g B _ W (by have:=s.size;omega) (M.out.below s M.out.room) (L.below (s.mono hB)) hz
 have X:Hid (∀ W,Below w.heap.size w W->Calls Tryz.prog 97 #[.agg #[.slice na g.nodes.length T,.slice P g.rels.length rc,.int .i64 g.nn,.int .i64 g.nr]] W fun e w'=>e=.returned (.bool (Zcr g.rels))/\Below W.heap.size W w'):=fun W s=>Zu7 g B _ W (by have:=s.size;omega) (M.out.below s M.out.room) (L.below (s.mono hB)) hz
 have Q:Hid ((Zax g.nn 0 (g.nodes.map Zo.id)&&Zax g.nr 0 (g.rels.map Jg.id))=true->∀ W,Below w.heap.size w W->Calls Tryz.prog 98 #[.agg #[.slice na g.nodes.length T,.slice P g.rels.length rc,.int .i64 g.nn,.int .i64 g.nr]] W fun e w'=>e=.returned (.bool (Ze4 (Zfw g.nodes) g.rels))/\Below W.heap.size W w'):=fun hk W s=>by
  have b7:=Zif (Bool.and_eq_true_iff.1 hk).1
  exact Zzg g B _ W (by have:=s.size;omega) (L.below (s.mono hB)) b7.2 (fun n hn=>by
   have:=b7.1 n.id (List.mem_map_of_mem hn)
   exact Zf1 (by omega) (by omega)) b6
 obtain ⟨b0,a7⟩:∃ b,decide ((g.nodes.length:Int)+(g.rels.length:Int)<=65536)=b:=⟨_,rfl⟩
 obtain ⟨b1,K⟩:∃ b,(Zax g.nn 0 (g.nodes.map Zo.id)&&Zax g.nr 0 (g.rels.map Jg.id))=b:=⟨_,rfl⟩
 obtain ⟨b2,F⟩:∃ b,Zbc g.nodes=b:=⟨_,rfl⟩
 obtain ⟨b3,d⟩:∃ b,(Js g.nodes&&Jq g.rels)=b:=⟨_,rfl⟩
 obtain ⟨b4,a5⟩:∃ b,Zcr g.rels=b:=⟨_,rfl⟩
 obtain ⟨b5,U⟩:∃ b,Ze4 (Zfw g.nodes) g.rels=b:=⟨_,rfl⟩
 rw [a7] at R
 rw [K] at a4
 rw [F] at a6
 rw [d] at a8
 rw [a5] at X
 rw [K,U] at Q
 rw [a7,K,F,d,a5,U] at z
 have HR:=Zb z
 clear a7 K F d a5 U z L hz b8 c1 b6
 obtain ⟨ns,rs,nn,nr⟩:=g
 simp only at R a4 a6 a8 X Q |-
 generalize ns.length=n at *
 generalize rs.length=m at *
 go_enter Tryz.func11,Tryz.ntmps11
 go_upto_region 1 with fail
 generalize a9:World.alloc _ _=W1
 have O:=Zl w #[.slice na n T,.slice P m rc,.int .i64 nn,.int .i64 nr] 25
 rw [a9] at O
 have c4:Hid (Below w.heap.size w W1):=by rw [<- a9];exact (Below.refl _ _).alloc (Nat.le_refl _) _
 have b9:=Zb O
 clear a9 O
 go_wp2_with fail
 refine (Zu9 _).mono ?_
 rintro e w2 ⟨rfl,F,Y⟩
 have N:=Zb F
 have S:=Zb Y
 obtain ⟨p,hp⟩:∃ p,W1.heap.size=p:=⟨_,rfl⟩
 have c6:p<w2.heap.size:=by
  rw [<- hp]
  exact Zaq (Y 0 _ rfl)
 rw [hp] at S |-
 clear F Y hp
 go_wp2_with fail
 go_loopw [7] (fun x wr=>∃ q:Nat,q<=6/\x=.int .i64 q/\Below w2.heap.size w2 wr/\(([b0,b1,b2,b3,b4,b5].drop q).all id)=res/\(2<=q->b1=true)) (fun x _=>6 - (intOf x).toNat)
 case atStart=>exact ⟨0,by omega,rfl,Below.refl _ _,by rw [<- HR.out];simp,fun h=>by omega⟩
 case round =>
  obtain ⟨q,hq,rfl,s,c0,c2⟩:=hrel
  have G:=Zb s
  have o:=Zb c0
  have H:=Zb c2
  have j:=Zb (Za c4.out (Za N.out s))
  have A:=b9.out.below (Za N.out s) b9.out.lt
  have a0:=A.cell 0 rfl
  have a1:=A.cell 1 rfl
  have a2:=A.cell 2 rfl
  have a3:=A.cell 3 rfl
  clear s c0 c2 A
  have c5:q=0\/q=1\/q=2\/q=3\/q=4\/q=5\/q=6:=by omega
  rcases c5 with rfl | rfl | rfl | rfl | rfl | rfl | rfl
  ·have I:=Zag G.out (Nat.le_refl _) (S.out 0 _ rfl)
   have i:=Zb (R.out wr j.out)
   go_wp2_with fail
   refine i.out.mono ?_
   rintro e w3 ⟨rfl,d⟩
   have u:=Zb (Za G.out d)
   have f:=Zb (Za j.out d)
   clear d a0 a1 a2 a3 I i
   cases b0 with
   | false =>
    have E:Hid (code=2):=by
     show _=_
     have e:res=false:=by rw [<- o.out];rfl
     rw [<- D.out,e];rfl
    go_wp2_with fail
    go_ret
    exact ⟨by rw [E.out];rfl,f.out⟩
   | true =>
    have t:=Zb o.out
    go_wp2_with fail
    go_roundw
    case rel=>exact ⟨1,by omega,rfl,u.out,t.out,fun h=>by omega⟩
    case measure=>simp [intOf]
  ·have I:=Zag G.out (Nat.le_refl _) (S.out 1 _ rfl)
   have i:=Zb (a4.out wr j.out)
   go_wp2_with fail
   refine i.out.mono ?_
   rintro e w3 ⟨rfl,d⟩
   have u:=Zb (Za G.out d)
   have f:=Zb (Za j.out d)
   clear d a0 a1 a2 a3 I i
   cases b1 with
   | false =>
    have E:Hid (code=2):=by
     show _=_
     have e:res=false:=by rw [<- o.out];rfl
     rw [<- D.out,e];rfl
    go_wp2_with fail
    go_ret
    exact ⟨by rw [E.out];rfl,f.out⟩
   | true =>
    have t:=Zb o.out
    go_wp2_with fail
    go_roundw
    case rel=>exact ⟨2,by omega,rfl,u.out,t.out,fun h=>trivial⟩
    case measure=>simp [intOf]
  ·have I:=Zag G.out (Nat.le_refl _) (S.out 2 _ rfl)
   have i:=Zb (a6.out wr j.out)
   go_wp2_with fail
   refine i.out.mono ?_
   rintro e w3 ⟨rfl,d⟩
   have u:=Zb (Za G.out d)
   have f:=Zb (Za j.out d)
   clear d a0 a1 a2 a3 I i
   cases b2 with
   | false =>
    have E:Hid (code=2):=by
     show _=_
     have e:res=false:=by rw [<- o.out];rfl
     rw [<- D.out,e];rfl
    go_wp2_with fail
    go_ret
    exact ⟨by rw [E.out];rfl,f.out⟩
   | true =>
    have t:=Zb o.out
    go_wp2_with fail
    go_roundw
    case rel=>exact ⟨3,by omega,rfl,u.out,t.out,fun h=>H.out (by omega)⟩
    case measure=>simp [intOf]
  ·have I:=Zag G.out (Nat.le_refl _) (S.out 3 _ rfl)
   have i:=Zb (a8.out wr j.out)
   go_wp2_with fail
   refine i.out.mono ?_
   rintro e w3 ⟨rfl,d⟩
   have u:=Zb (Za G.out d)
   have f:=Zb (Za j.out d)
   clear d a0 a1 a2 a3 I i
   cases b3 with
   | false =>
    have E:Hid (code=2):=by
     show _=_
     have e:res=false:=by rw [<- o.out];rfl
     rw [<- D.out,e];rfl
    go_wp2_with fail
    go_ret
    exact ⟨by rw [E.out];rfl,f.out⟩
   | true =>
    have t:=Zb o.out
    go_wp2_with fail
    go_roundw
    case rel=>exact ⟨4,by omega,rfl,u.out,t.out,fun h=>H.out (by omega)⟩
    case measure=>simp [intOf]
  ·have I:=Zag G.out (Nat.le_refl _) (S.out 4 _ rfl)
   have i:=Zb (X.out wr j.out)
   go_wp2_with fail
   refine i.out.mono ?_
   rintro e w3 ⟨rfl,d⟩
   have u:=Zb (Za G.out d)
   have f:=Zb (Za j.out d)
   clear d a0 a1 a2 a3 I i
   cases b4 with
   | false =>
    have E:Hid (code=2):=by
     show _=_
     have e:res=false:=by rw [<- o.out];rfl
     rw [<- D.out,e];rfl
    go_wp2_with fail
    go_ret
    exact ⟨by rw [E.out];rfl,f.out⟩
   | true =>
    have t:=Zb o.out
    go_wp2_with fail
    go_roundw
    case rel=>exact ⟨5,by omega,rfl,u.out,t.out,fun h=>H.out (by omega)⟩
    case measure=>simp [intOf]
  ·have I:=Zag G.out (Nat.le_refl _) (S.out 5 _ rfl)
   have i:=Zb (Q.out (H.out (by omega)) wr j.out)
   go_wp2_with fail
   refine i.out.mono ?_
   rintro e w3 ⟨rfl,d⟩
   have u:=Zb (Za G.out d)
   have f:=Zb (Za j.out d)
   clear d a0 a1 a2 a3 I i
   cases b5 with
   | false =>
    have E:Hid (code=2):=by
     show _=_
     have e:res=false:=by rw [<- o.out];rfl
     rw [<- D.out,e];rfl
    go_wp2_with fail
    go_ret
    exact ⟨by rw [E.out];rfl,f.out⟩
   | true =>
    have t:=Zb o.out
    go_wp2_with fail
    go_roundw
    case rel=>exact ⟨6,by omega,rfl,u.out,t.out,fun h=>H.out (by omega)⟩
    case measure=>simp [intOf]
  ·have E:Hid (code=0):=by
    show _=_
    have e:res=true:=by rw [<- o.out];rfl
    rw [<- D.out,e];rfl
   go_wp2_with fail
   go_ret
   exact ⟨by rw [E.out];rfl,j.out⟩
end
section
open Go.RowKit Go.Shelf
attribute [local go_sem] Oper.semAt_some
def Ji3 (w:World) (g:Zt) (e:Ending) (w':World):Prop:=∃ v,e=.returned v/\Zc6 w.heap.size w'.heap.size w' v g/\Below w.heap.size w w'
theorem Zc6.keep {O B:Nat} {w w':World} {v:Value} {g:Zt} (hk:Zb9 O B w w') (h:Zc6 O B w v g):Zc6 O B w' v g:=by
 obtain ⟨nv,rv,e,h1,h2⟩:=h
 exact ⟨nv,rv,e,h1.keep hk,h2.keep hk⟩
theorem Zc6.mono {O Y B B':Nat} {w:World} {v:Value} {g:Zt} (hl:Y<=O) (S:B<=B') (h:Zc6 O B w v g):Zc6 Y B' w v g:=by
 obtain ⟨nv,rv,e,h1,h2⟩:=h
 exact ⟨nv,rv,e,h1.mono hl S,h2.mono hl S⟩
set_option maxRecDepth 100000 in
set_option maxHeartbeats 8000000 in
theorem Jap {w:World} {p:GP} {nn nr:Int} {N R F T:List (Int × Value)} (h:GS w p nn nr N R F T) (B:Nat) (S:B<=w.heap.size) (j:List Zo) (d:List Jg) (P:Zfb B w N R j d)
  (hn:∀ x ∈ j,x.labels.length<=2000000/\x.props.length<=2000000/\∀ q ∈ x.props,q.2.total<=2000000) (hu:∀ x ∈ d,x.props.length<=2000000/\∀ q ∈ x.props,q.2.total<=2000000) :
  Calls Tryz.prog 19 #[p.val] w (Ji3 w ⟨j,d,nn,nr⟩):=by
 have a5:Hid (∀ W,Below w.heap.size w W->Calls Tryz.prog 18 #[.pointer (some ⟨p.g,0,none⟩)] W fun e w'=>e=.returned (.bool true)/\w'=W):=fun W n=>Zcw (h.below n)
 have a4:=Zb (fun W (n:Below w.heap.size w W)=>Zsg (h.below n).ps B (Nat.le_trans S n.size) j d (P.below (n.mono S)))
 have h1:j.length<=2000000:=by rw [P.nlen];exact P.nl
 have h2:d.length<=2000000:=by rw [P.rlen];exact P.rl
 have a6:=Zb (fun v W (n:Zr W.heap.size W v ⟨j,d,nn,nr⟩)=>Zib ⟨j,d,nn,nr⟩ v W.heap.size W (Nat.le_refl _) n h1 h2 hn hu)
 clear h P hn hu h1 h2
 unfold GP.val
 go_enter Tryz.func19,Tryz.ntmps19
 go_upto_region 1 with fail
 generalize K:World.alloc _ _=W1
 have s:Hid (Below w.heap.size w W1):=by rw [<- K];exact (Below.refl _ _).alloc (Nat.le_refl _) _
 have a0:Hid (Rec W1 w.heap.size #[.slice none 0 0,.slice none 0 0,.int .i64 0,.int .i64 0] 25):=by rw [<- K];exact Zl _ _ _
 clear K
 go_wp2_with fail
 refine (a5.out W1 s.out).mono ?_
 rintro e w2 ⟨rfl,U⟩
 rw [U]
 clear U
 go_wp2_with fail
 refine (a4.out W1 s.out).mono ?_
 rintro e w3 ⟨v3,rfl,V,u⟩
 have a9:=Zb (Za s.out u)
 have D:=Zb (a0.out.below u a0.out.lt)
 have a1:=Zb (a6.out v3 w3 V)
 obtain ⟨na,nc,ra,rc,rfl,E,H⟩:=V
 clear u E H
 go_wp2_with fail
 refine a1.out.mono ?_
 rintro e w4 ⟨v4,rfl,X,C⟩
 have b4:=Zb (Za a9.out C)
 have c:=Zb (D.out.below C D.out.lt)
 have a2:=Zb X
 have a7:w.heap.size<w3.heap.size:=D.out.lt
 obtain ⟨nv,rv,rfl,E,H⟩:=X
 obtain ⟨G,t,rfl,_⟩:=E
 obtain ⟨m,I,rfl,_⟩:=H
 clear C a1
 have b0:=c.out.cell 0 rfl
 have b1:=c.out.cell 1 rfl
 have b2:=c.out.cell 2 rfl
 have b3:=c.out.cell 3 rfl
 have y0:=c.out.z 0
 have y1:=c.out.z 1
 have y2:=c.out.z 2
 have y3:=c.out.z 3
 go_wp2_with fail
 generalize f:World.setCell _ _ _=W9
 have k:Hid (Rec W9 w.heap.size #[.slice G j.length t,.slice m d.length I,.int .i64 nn,.int .i64 nr] 25):=by rw [<- f];exact (((c.out.set 0 _).set 1 _).set 2 _).set 3 _
 have a8:Hid (Below w.heap.size w W9):=by rw [<- f];exact (((b4.out.setCell (Nat.le_refl _) _).setCell (Nat.le_refl _) _).setCell (Nat.le_refl _) _).setCell (Nat.le_refl _) _
 have a3:W9.heap.size=w4.heap.size:=by rw [<- f];simp
 have Q:Hid (∀ b,w.heap.size≠b->W9.heap[b]?=w4.heap[b]?):=fun b hb=>by
  rw [<- f]
  repeat rw [Below.heap_setCell _ _ _ _ (Ne.symm hb)]
 have b5:Hid (Zc6 w.heap.size W9.heap.size W9 (.agg #[.slice G j.length t,.slice m d.length I,.int .i64 nn,.int .i64 nr]) ⟨j,d,nn,nr⟩):=by
  rw [a3]
  refine Zc6.mono (Nat.le_of_lt a7) (Nat.le_refl _) (Zc6.keep ?_ a2.out)
  intro b o h1 h2
  exact ⟨World.cell?_of_block (Q.out b (by omega)),by unfold World.frozen?;rw [Q.out b (by omega)]⟩
 clear f
 have q0:=k.out.cell 0 rfl
 have q1:=k.out.cell 1 rfl
 have q2:=k.out.cell 2 rfl
 have q3:=k.out.cell 3 rfl
 refine bodyPost_ret (v:=.agg #[.slice G j.length t,.slice m d.length I,.int .i64 nn,.int .i64 nr]) ?_ rfl ⟨_,rfl,b5.out,a8.out⟩
 simp [results,Tryz.results19,go_sem,q0,q1,q2,q3]
theorem Zd2 {next:Int}:∀ {ks:List Int} {l:Int},Zax next l ks=true->ks.Pairwise (·<·)
 | [],l,h=>List.Pairwise.nil
 | y::r,l,h=>by
  rw [Zax] at h
  simp only [Bool.and_eq_true,Bool.not_eq_true',decide_eq_false_iff_not] at h
  obtain ⟨h1,h2,h3⟩:=h
  have h4:=(Zif h3).1
  exact List.pairwise_cons.2 ⟨fun x M=>by have:=h4 x M;omega,Zd2 h3⟩
theorem Zrl {α:Type} {key:α->Int} {L:World->Value->α->Prop} {w:World} {N:List (Int × Value)} {xs:List α} (h:Zo3 key L w N xs):N.map Prod.fst=xs.map key:=by
 apply List.ext_getElem?
 intro i
 rw [List.getElem?_map,List.getElem?_map]
 by_cases hi:i<xs.length
 ·obtain ⟨x,M⟩:∃ q,xs[i]?=some q:=⟨_,List.getElem?_eq_getElem hi⟩
  obtain ⟨v,h1,_⟩:=h.2 i x M
  rw [M,h1];rfl
 ·rw [List.getElem?_eq_none (by rw [h.1];omega),List.getElem?_eq_none (by omega)];rfl
theorem Jaq {α:Type} {key:α->Int} {L:World->Value->α->Prop} {w:World} {N:List (Int × Value)} {xs:List α} (h:Zo3 key L w N xs):∀ x ∈ xs,∃ v,(key x,v) ∈ N/\L w v x:=by
 intro x M
 obtain ⟨i,hi⟩:=List.getElem?_of_mem M
 obtain ⟨v,h1,h2⟩:=h.2 i x hi
 exact ⟨v,List.mem_of_getElem? h1,h2⟩
end
section
open Go.RowKit Go.Shelf Go.Maps
theorem Jb7 {t e:TypeId} (W:Tryz.prog.underlying t=some (.map 2 e)) {w:World} {b:Nat} {es:List (Int × Value)} (h:MI w b es) (F:(es.map Prod.fst).Nodup) (k:Int) (v:Value) (m:I64 k) :
  ∃ w' z,(Instr.mapUpdate t (.map (some b)) (.int .i64 k) v).run Tryz.prog w=.ok () w'/\MI w' b z/\(z.map Prod.fst).Nodup/\(∀ q,q ∈ z↔q=(k,v)\/q ∈ es/\q.1≠k)/\(∀ i,i≠b->w'.heap[i]?=w.heap[i]?)/\Below b w w':=by
 by_cases hin:∃ p ∈ es,p.1=k
 ·obtain ⟨⟨V,v0⟩,H,E⟩:=hin
  simp only at E
  subst E
  obtain ⟨j,s⟩:=List.getElem?_of_mem H
  have C:∀ i p,es[i]?=some p->p.1=V->i=j:=fun i p f o=>by
   obtain ⟨a,u⟩:=p
   simp only at o
   subst o
   exact Zmi F f s
  obtain ⟨w',r1,r2,_,X,r5⟩:=Jce W h j V v0 v m s C
  have Y:=(List.getElem?_eq_some_iff.1 s).1
  have U:(es.set j (V,v)).map Prod.fst=es.map Prod.fst:=by
   rw [List.map_set]
   apply List.ext_getElem?
   intro i
   rw [List.getElem?_set]
   split
   ·rename_i e
    subst e
    rw [List.getElem?_map,s]
    simp [Y]
   ·rfl
  refine ⟨w',_,r1,r2,by rw [U];exact F,fun q=>⟨fun g=>?_,fun g=>?_⟩,X,r5⟩
  ·obtain ⟨i,f⟩:=List.getElem?_of_mem g
   rw [List.getElem?_set] at f
   split at f
   ·exact .inl (by simpa using f.symm)
   ·rename_i e
    exact .inr ⟨List.mem_of_getElem? f,fun o=>e (C i q f o).symm⟩
  ·rcases g with rfl | ⟨h1,h2⟩
   ·exact List.mem_of_getElem? (i:=j) (by rw [List.getElem?_set];simp [Y])
   ·obtain ⟨i,f⟩:=List.getElem?_of_mem h1
    refine List.mem_of_getElem? (i:=i) ?_
    rw [List.getElem?_set]
    split
    ·rename_i e
     subst e
     rw [s] at f
     exact absurd (by rw [<- Option.some.inj f]) h2
    ·exact f
 ·have I:∀ p ∈ es,p.1≠k:=fun p H e=>hin ⟨p,H,e⟩
  obtain ⟨w',r1,r2,_,X,r5⟩:=Zhj W h k v m I
  refine ⟨w',_,r1,r2,?_,fun q=>⟨fun g=>?_,fun g=>?_⟩,X,r5⟩
  ·rw [List.map_append]
   refine List.nodup_append.2 ⟨F,by simp,fun a Q b M=>?_⟩
   obtain ⟨p,H,rfl⟩:=List.mem_map.1 Q
   simp only [List.map_cons,List.map_nil,List.mem_cons,List.not_mem_nil,or_false] at M
   rw [M]
   exact I p H
  ·rcases List.mem_append.1 g with h1 | h1
   ·exact .inr ⟨h1,I q h1⟩
   ·exact .inl (by simpa using h1)
  ·rcases g with rfl | ⟨h1,_⟩
   ·exact List.mem_append_right _ (by simp)
   ·exact List.mem_append_left _ h1
theorem Jb8 {t e ty:TypeId} (W:Tryz.prog.underlying t=some (.map 2 e)) {w:World} {b:Nat} {es:List (Int × Value)} (h:MI w b es) (F:(es.map Prod.fst).Nodup) (k:Int) (m:I64 k) :
  ∃ w' z,(Builtin.delete_ #[t,2] ty #[.map (some b),.int .i64 k]).run Tryz.prog w=.ok (.tuple #[]) w'/\MI w' b z/\(z.map Prod.fst).Nodup/\(∀ q,q ∈ z↔q ∈ es/\q.1≠k)/\(∀ i,i≠b->w'.heap[i]?=w.heap[i]?)/\Below b w w':=by
 by_cases hin:∃ p ∈ es,p.1=k
 ·obtain ⟨⟨V,v0⟩,H,E⟩:=hin
  simp only at E
  subst E
  obtain ⟨j,s⟩:=List.getElem?_of_mem H
  have C:∀ i p,es[i]?=some p->p.1=V->i=j:=fun i p f o=>by
   obtain ⟨a,u⟩:=p
   simp only at o
   subst o
   exact Zmi F f s
  obtain ⟨w',r1,r2,_,X,r5⟩:=Zsk (ty:=ty) W h j V v0 m s C
  refine ⟨w',_,r1,r2,?_,fun q=>⟨fun g=>?_,fun g=>?_⟩,X,r5⟩
  ·rw [Zgr]
   exact F.sublist (List.eraseIdx_sublist _ _)
  ·refine ⟨List.mem_of_mem_eraseIdx g,fun o=>?_⟩
   obtain ⟨i,f,a0⟩:=List.mem_eraseIdx_iff_getElem?.1 g
   exact f (C i q a0 o)
  ·obtain ⟨i,f⟩:=List.getElem?_of_mem g.1
   refine List.mem_eraseIdx_iff_getElem?.2 ⟨i,fun e=>?_,f⟩
   subst e
   rw [s] at f
   exact g.2 (by rw [<- Option.some.inj f])
 ·have I:∀ p ∈ es,p.1≠k:=fun p H e=>hin ⟨p,H,e⟩
  refine ⟨w,es,?_,h,F,fun q=>⟨fun g=>⟨g,I q g⟩,fun g=>g.1⟩,fun i _=>rfl,Below.refl _ _⟩
  obtain ⟨ar,D,h1,h2,h3,hS⟩:=h
  have K:=int_keyed (P:=Tryz.prog) Tryz.underlying2
  have S:=keyOf_int_mk (P:=Tryz.prog) Tryz.underlying2 m
  rcases K.find w S ar.toList (Zfv h2 h3) with ⟨f1,f2⟩ | ⟨i,e0,f1,f2,f3⟩
  ·have a1:b<w.heap.size:=(Array.getElem?_eq_some_iff.1 h1).1
   have he:w.heap.setIfInBounds b (.map ar D)=w.heap:=by
    apply Array.ext_getElem?
    intro i
    by_cases hib:i=b
    ·subst hib;rw [h1];simp [a1]
    ·rw [Array.getElem?_setIfInBounds_ne (Ne.symm hib)]
   have hs:=MapKept.run_setObj_map (P:=Tryz.prog) (.map ar D) h1
   rw [he] at hs
   simp [Builtin.delete_,run_underlying W,MapKept.run_getObj_map h1,K.check w _ S,f1,hs,Result.andThen]
  ·exfalso
   obtain ⟨p,H,e1,_⟩:=Zsj h2 (List.mem_of_getElem? f2)
   rw [f3] at e1
   have e2:k=p.1:=by injection e1
   exact I p H e2.symm
structure Zdu {α:Type} (key:α->Int) (L:Value->α->Prop) (N:List (Int × Value)) (xs:List α):Prop where
 nd:(N.map Prod.fst).Nodup
 rise:(xs.map key).Pairwise (·<·)
 mem:∀ k,k ∈ N.map Prod.fst↔k ∈ xs.map key
 lie:∀ x ∈ xs,∃ v,(key x,v) ∈ N/\L v x
theorem Zd5 {α:Type} {key:α->Int} {n:α}:∀ {xs:List α},(xs.map key).Pairwise (·<·)->∀ x,x ∈ Zid key n xs↔x=n\/x ∈ xs/\key x≠key n
 | [],_,x=>by simp [Zid]
 | a::r,h,x=>by
  rw [List.map_cons,List.pairwise_cons] at h
  have A:∀ y ∈ r,key a<key y:=fun y d=>h.1 _ (List.mem_map_of_mem d)
  rw [Zid]
  split
  ·rename_i h1
   rw [List.mem_cons,Zd5 h.2 x,List.mem_cons]
   constructor
   ·rintro (rfl | rfl | ⟨h2,h3⟩)
    ·exact .inr ⟨.inl rfl,by omega⟩
    ·exact .inl rfl
    ·exact .inr ⟨.inr h2,h3⟩
   ·rintro (rfl | ⟨rfl | h2,h3⟩)
    ·exact .inr (.inl rfl)
    ·exact .inl rfl
    ·exact .inr (.inr ⟨h2,h3⟩)
  ·split
   ·rename_i h1 h2
    rw [List.mem_cons,List.mem_cons]
    constructor
    ·rintro (rfl | h3)
     ·exact .inl rfl
     ·exact .inr ⟨.inr h3,by have:=A x h3;omega⟩
    ·rintro (rfl | ⟨rfl | h3,h4⟩)
     ·exact .inl rfl
     ·exact absurd h2 h4
     ·exact .inr h3
   ·rename_i h1 h2
    rw [List.mem_cons,List.mem_cons]
    constructor
    ·rintro (rfl | rfl | h3)
     ·exact .inl rfl
     ·exact .inr ⟨.inl rfl,h2⟩
     ·exact .inr ⟨.inr h3,by have:=A x h3;omega⟩
    ·rintro (rfl | ⟨h3,_⟩)
     ·exact .inl rfl
     ·exact .inr h3
theorem Zgk {α:Type} {key:α->Int} {n:α}:∀ {xs:List α},(xs.map key).Pairwise (·<·)->((Zid key n xs).map key).Pairwise (·<·)
 | [],_=>by simp [Zid]
 | a::r,h=>by
  have h0:=h
  rw [List.map_cons,List.pairwise_cons] at h
  have A:∀ y ∈ r,key a<key y:=fun y d=>h.1 _ (List.mem_map_of_mem d)
  rw [Zid]
  split
  ·rename_i h1
   rw [List.map_cons,List.pairwise_cons]
   refine ⟨fun k m=>?_,Zgk h.2⟩
   obtain ⟨y,d,rfl⟩:=List.mem_map.1 m
   rcases (Zd5 h.2 y).1 d with rfl | ⟨h2,_⟩
   ·exact h1
   ·exact A y h2
  ·split
   ·rename_i h1 h2
    rw [List.map_cons,List.pairwise_cons]
    refine ⟨fun k m=>?_,h.2⟩
    obtain ⟨y,d,rfl⟩:=List.mem_map.1 m
    have:=A y d;omega
   ·rename_i h1 h2
    rw [List.map_cons,List.pairwise_cons]
    refine ⟨fun k m=>?_,h0⟩
    obtain ⟨y,d,rfl⟩:=List.mem_map.1 m
    rcases List.mem_cons.1 d with rfl | d
    ·omega
    ·have:=A y d;omega
theorem Zdu.put {α:Type} {key:α->Int} {L:Value->α->Prop} {N T:List (Int × Value)} {xs:List α} (h:Zdu key L N xs) (x:α) (v:Value) (hv:L v x) (F:(T.map Prod.fst).Nodup) (O:∀ q,q ∈ T↔q=(key x,v)\/q ∈ N/\q.1≠key x):Zdu key L T (Zid key x xs):=by
 refine ⟨F,Zgk h.rise,fun k=>⟨fun m=>?_,fun m=>?_⟩,fun y d=>?_⟩
 ·obtain ⟨q,g,rfl⟩:=List.mem_map.1 m
  rcases (O q).1 g with rfl | ⟨h1,h2⟩
  ·exact List.mem_map.2 ⟨x,(Zd5 h.rise x).2 (.inl rfl),rfl⟩
  ·obtain ⟨y,d,e⟩:=List.mem_map.1 ((h.mem q.1).1 (List.mem_map_of_mem h1))
   exact List.mem_map.2 ⟨y,(Zd5 h.rise y).2 (.inr ⟨d,by rw [e];exact h2⟩),e⟩
 ·obtain ⟨y,d,rfl⟩:=List.mem_map.1 m
  rcases (Zd5 h.rise y).1 d with rfl | ⟨h1,h2⟩
  ·exact List.mem_map.2 ⟨_,(O _).2 (.inl rfl),rfl⟩
  ·obtain ⟨u,C,_⟩:=h.lie y h1
   exact List.mem_map.2 ⟨_,(O _).2 (.inr ⟨C,h2⟩),rfl⟩
 ·rcases (Zd5 h.rise y).1 d with rfl | ⟨h1,h2⟩
  ·exact ⟨v,(O _).2 (.inl rfl),hv⟩
  ·obtain ⟨u,C,hl⟩:=h.lie y h1
   exact ⟨u,(O _).2 (.inr ⟨C,h2⟩),hl⟩
theorem Zdu.out {α:Type} {key:α->Int} {L:Value->α->Prop} {N T:List (Int × Value)} {xs:List α} (h:Zdu key L N xs) (k:Int) (F:(T.map Prod.fst).Nodup) (O:∀ q,q ∈ T↔q ∈ N/\q.1≠k):Zdu key L T (Zfc key k xs):=by
 have G:∀ y,y ∈ Zfc key k xs↔y ∈ xs/\key y≠k:=fun y=>by unfold Zfc;rw [List.mem_filter];simp
 refine ⟨F,?_,fun j=>⟨fun s=>?_,fun s=>?_⟩,fun y d=>?_⟩
 ·exact h.rise.sublist (List.Sublist.map _ List.filter_sublist)
 ·obtain ⟨q,g,rfl⟩:=List.mem_map.1 s
  obtain ⟨h1,h2⟩:=(O q).1 g
  obtain ⟨y,d,e⟩:=List.mem_map.1 ((h.mem q.1).1 (List.mem_map_of_mem h1))
  exact List.mem_map.2 ⟨y,(G y).2 ⟨d,by rw [e];exact h2⟩,e⟩
 ·obtain ⟨y,d,rfl⟩:=List.mem_map.1 s
  obtain ⟨h1,h2⟩:=(G y).1 d
  obtain ⟨u,C,_⟩:=h.lie y h1
  exact List.mem_map.2 ⟨_,(O _).2 ⟨C,h2⟩,rfl⟩
 ·obtain ⟨h1,h2⟩:=(G y).1 d
  obtain ⟨u,C,hl⟩:=h.lie y h1
  exact ⟨u,(O _).2 ⟨C,h2⟩,hl⟩
theorem Zdu.turn {α:Type} {key:α->Int} {L L':Value->α->Prop} {N:List (Int × Value)} {xs:List α} (h:Zdu key L N xs) (hL:∀ v x,L v x->L' v x):Zdu key L' N xs:=⟨h.nd,h.rise,h.mem,fun x hx=>by obtain ⟨v,h1,h2⟩:=h.lie x hx;exact ⟨v,h1,hL v x h2⟩⟩
theorem Zsb {α:Type} {key:α->Int} {L:World->Value->α->Prop} {w:World} {N:List (Int × Value)} {xs:List α} (h:Zo3 key L w N xs) (A:(xs.map key).Pairwise (·<·)):Zdu key (L w) N xs :=
 ⟨by rw [Zrl h];exact A.imp fun h=>by omega,A,fun k=>by rw [Zrl h],Jaq h⟩
theorem Zsc  : ∀ (a b:List Int),a.Pairwise (·<·)->b.Pairwise (·<·)->(∀ k,k ∈ a↔k ∈ b)->a=b
 | [],[],_,_,_=>rfl
 | [],y::t,_,_,h=>by have:=(h y).2 List.mem_cons_self;simp at this
 | x::r,[],_,_,h=>by have:=(h x).1 List.mem_cons_self;simp at this
 | x::r,y::t,Q,M,h=>by
  rw [List.pairwise_cons] at Q M
  have e:x=y:=by
   rcases List.mem_cons.1 ((h x).1 List.mem_cons_self) with e | h1
   ·exact e
   ·rcases List.mem_cons.1 ((h y).2 List.mem_cons_self) with e | h2
    ·exact e.symm
    ·have:=M.1 x h1
     have:=Q.1 y h2
     omega
  subst e
  rw [Zsc r t Q.2 M.2 fun k=>⟨fun m=>?_,fun m=>?_⟩]
  ·rcases List.mem_cons.1 ((h k).1 (List.mem_cons_of_mem _ m)) with e | h1
   ·have:=Q.1 k m;omega
   ·exact h1
  ·rcases List.mem_cons.1 ((h k).2 (List.mem_cons_of_mem _ m)) with e | h1
   ·have:=M.1 k m;omega
   ·exact h1
theorem Zp3 {l:List Int} (h:l.Nodup):(Zff l).Pairwise (·<·):=by
 have h1:(Zff l).Pairwise (fun a b=>decide (a<=b)=true):=List.pairwise_mergeSort (fun a b c h1 h2=>by simp at *;omega) (fun a b=>by simp;omega) l
 have h2:(Zff l).Nodup:=(List.mergeSort_perm l _).nodup_iff.2 h
 exact (h1.and h2).imp fun h=>by have:=h.1;have:=h.2;simp at *;omega
theorem Zdu.order {α:Type} {key:α->Int} {L:Value->α->Prop} {N:List (Int × Value)} {xs:List α} (h:Zdu key L N xs):xs.map key=Zff (N.map Prod.fst) :=
 Zsc _ _ h.rise (Zp3 h.nd) fun k=>by rw [<- h.mem k];unfold Zff;rw [List.mem_mergeSort]
theorem Zdu.len {α:Type} {key:α->Int} {L:Value->α->Prop} {N:List (Int × Value)} {xs:List α} (h:Zdu key L N xs):N.length=xs.length:=by
 have:=congrArg List.length h.order
 rw [Zjn] at this
 simpa using this.symm
theorem Zdu.uniq {α:Type} {key:α->Int} {L:Value->α->Prop} {N:List (Int × Value)} {xs:List α} (h:Zdu key L N xs):Zhn N:=by
 intro a Q b M e
 obtain ⟨i,f⟩:=List.getElem?_of_mem Q
 obtain ⟨j,s⟩:=List.getElem?_of_mem M
 obtain ⟨k,u⟩:=a
 obtain ⟨V,u'⟩:=b
 simp only at e
 subst e
 have:=Zmi h.nd f s
 subst this
 rw [f] at s
 injection s with s
 injection s
theorem Zyi {B:Nat} {w:World} {N R:List (Int × Value)} {ns:List Zo} {rs:List Jg} (I:Zdu Zo.id (Ja B w) N ns) (A:Zdu Jg.id (Ji B w) R rs) (h1:ns.length<=2000000) (h2:rs.length<=2000000) (W:∀ r ∈ rs,r.type.size<=maxLen):Zfb B w N R ns rs :=
 ⟨by rw [I.len];exact h1,by rw [A.len];exact h2,I.order,A.order,I.uniq,A.uniq,I.lie,A.lie,W⟩
end
