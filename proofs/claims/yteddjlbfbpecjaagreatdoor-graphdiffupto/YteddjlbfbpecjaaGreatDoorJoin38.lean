import Derived.Test.YteddjlbfbpecjaaGreatDoorJoin37
namespace Go.Proofs.YteddjlbfbpecjaaGreatDoor
set_option maxHeartbeats 4000000
set_option maxRecDepth 100000
set_option linter.all false
section
open Go.RowKit Go.Shelf
attribute [local go_sem] Oper.semAt_some
theorem Zdw.app' {ty base c9 X n:Nat} {w:World} {v:Value} {cs:List Zs} {ds:List Value} {c:Zs} (h:Zdw base w v cs) (hs:Zfm w v.ownBlock ds c) (hr:Rec w X ds.toArray 51) (he:cs.length=n) (hn:n+1<=1000000) (z:base<=w.heap.size) :
  ∃ g cap w',(Builtin.append_ #[36,36] ty #[v,.slice (some ⟨X,0,none⟩) 1 c9]).run Tryz.prog w=.ok (.slice (some ⟨g,0,none⟩) (n+1) cap) w'/\Zdw base w' (.slice (some ⟨g,0,none⟩) (n+1) cap) (cs++[c])/\Below base w w':=by
 subst he
 exact h.app hs hr hn z
theorem Zwf {base n:Nat} {v:Value} {w:World} {G:List Int} {j:Nat} {x:Int} (h:w.ownsRow base 2 1 v n (G.map (.int .i64 ·))) (B:G[j]?=some x):∃ g cap,v=.slice (some ⟨g,0,none⟩) n cap/\g<w.heap.size/\n<=cap/\cap<=9223372036854775807/\w.cell? ⟨g,j,none⟩=some (.int .i64 x):=by
 have h':=h
 have hl:=(List.getElem?_eq_some_iff.1 B).1
 obtain ⟨h0,⟨_,h2⟩ | ⟨g,cap,cur,rfl,_,hg,hc,hm,_⟩⟩:=h
 ·rw [List.length_map] at h0;omega
 ·refine ⟨g,cap,rfl,(Array.getElem?_eq_some_iff.1 hg).1,hc,by simp only [maxLen] at hm;omega,?_⟩
  have:=h'.cells (g:=g) rfl j (.int .i64 x) (by rw [List.getElem?_map,B];rfl)
  have l8:(⟨g,0,none⟩:Addr).add j=⟨g,j,none⟩:=by unfold Addr.add;split<;>simp_all
  rwa [l8] at this
theorem Za3 {α:Type} (key:α->Int) (a b:List α):(Jr key a b).length<=a.length:=by
 unfold Jr;rw [List.length_map];exact List.length_filter_le _ _
theorem Zbr {α:Type} (key:α->Int) (same:α->α->Bool) (a b:List α):(Zbu key same a b).length<=b.length:=List.length_filter_le _ _
theorem Zlx {α:Type} {key:α->Int} {same:α->α->Bool} {a b:List α} {x:α} (h:x ∈ Zbu key same a b):x ∈ b:=(List.mem_filter.1 h).1
theorem Zhu {α:Type} (f:α->Zs) {l:List α} {j:Nat} {x:α} (h:l[j]?=some x) (pre:List Zs):pre++(l.take (j+1)).map f=(pre++(l.take j).map f)++[f x]:=by
 rw [List.take_add_one,h,List.map_append,List.append_assoc];rfl
theorem Zhv {α:Type} (f:α->Zs) (pre:List Zs) (l:List α) (j:Nat):(pre++(l.take j).map f).length<=pre.length+l.length:=by
 rw [List.length_append,List.length_map,List.length_take];omega
def Je7 (ok:Bool) (cs:List Zs) (base:Nat) (w:World) (v:Value) (er:Int):Prop:=(ok=true->er=0/\Zdw base w v cs)/\(ok=false->er=2/\v=.slice none 0 0)
set_option maxRecDepth 100000 in
set_option maxHeartbeats 32000000 in
theorem Zzy (a b:Zt) (v u:Value) (w:World) (hE:Env w) (hg:Zr w.heap.size w v a) (ho:Zr w.heap.size w u b) (ha:GF 60 a) (z:GF 60 b) :
  Calls Tryz.prog 20 #[v,u] w fun e w'=>∃ v' er,e=.returned (.tuple #[v',.int .i64 er])/\Below w.heap.size w w'/\Je7 (Jo a&&Jo b) (Zc4 a b) w.heap.size w' v' er:=by
 have fa:=ha.fit (by omega)
 have fb:=z.fit (by omega)
 have HE:=Zb (fun W (z:Below w.heap.size w W)=>hE.below z hE.room)
 have HG:=Zb (fun W (z:Below w.heap.size w W)=>(hg.below z))
 have HO:=Zb (fun W (z:Below w.heap.size w W)=>(ho.below z))
 have b5:=Zb (fun W (z:Below w.heap.size w W)=>Zdl a w.heap.size v W z.size (HE.out W z) (HG.out W z) fa.mild fa.nn fa.nr fa.ends)
 have a5:=Zb (fun W (z:Below w.heap.size w W)=>Zdl b w.heap.size u W z.size (HE.out W z) (HO.out W z) fb.mild fb.nn fb.nr fb.ends)
 have j8:=Zb ho.types
 have d3:=Zb fb
 have f0:=Zb (And.intro (And.intro ha.nl ha.rl) (And.intro z.nl z.rl))
 have k9:=Zb (fun W (z:Below w.heap.size w W) (c1:Jo a=true) (c2:Jo b=true) x y (B:Jt w.heap.size W x a.rels) (hy:Jt w.heap.size W y b.rels)=>Jbg a.rels b.rels w.heap.size x y W z.size (HE.out W z).tabs B hy (Za6 c1).2 (Za6 c2).2 fa.modR fb.modR ⟨by have:=f0.out;omega,by have:=f0.out;omega⟩)
 have m2:=Zb (fun W (z:Below w.heap.size w W) (c1:Jo a=true) (c2:Jo b=true) x y (B:Jj w.heap.size W x a.nodes) (hy:Jj w.heap.size W y b.nodes)=>Jbf a.nodes b.nodes w.heap.size x y W z.size (HE.out W z).tabs B hy (Za6 c1).1 (Za6 c2).1 fa.modN fb.modN ⟨by have:=f0.out;omega,by have:=f0.out;omega⟩)
 obtain ⟨k1,g6⟩:∃ x,Jo a=x:=⟨_,rfl⟩
 obtain ⟨k2,i8⟩:∃ x,Jo b=x:=⟨_,rfl⟩
 rw [g6] at b5 |-
 rw [i8] at a5 |-
 have j0:=Zb g6
 have l2:=Zb i8
 obtain ⟨na,nc,ra,rc,rfl,l0,n7⟩:=hg
 obtain ⟨h7,j2,i0,h9,rfl,l1,l4⟩:=ho
 have Y:=Zb (And.intro (And.intro l0 n7) (And.intro l1 l4))
 clear l0 n7 l1 l4 g6 i8 fa fb ha z hE
 generalize o7:a.nodes.length=nl at b5 HG Y |-
 generalize o0:a.rels.length=rl at b5 HG Y |-
 generalize j5:a.nn=nn at b5 HG |-
 generalize k6:a.nr=nr at b5 HG |-
 generalize m8:b.nodes.length=nl2 at a5 HO Y |-
 generalize k3:b.rels.length=rl2 at a5 HO Y |-
 generalize g3:b.nn=nn2 at a5 HO |-
 generalize g5:b.nr=nr2 at a5 HO |-
 have V:=Zb (And.intro (And.intro j5 k6) (And.intro g3 g5))
 clear o7 o0 j5 k6 m8 k3 g3 g5 HG HO
 go_enter Tryz.func20,Tryz.ntmps20
 go_upto_region 1 with fail
 generalize i5:World.alloc _ _=W1
 have d1:Hid (Below w.heap.size w W1):=by rw [<- i5];exact ((Below.refl _ _).alloc (Nat.le_refl _) _).alloc (by simp) _
 have T:=(Zl w #[.slice na nl nc,.slice ra rl rc,.int .i64 nn,.int .i64 nr] 25).alloc (.cells #[.slice h7 nl2 j2,.slice i0 rl2 h9,.int .i64 nn2,.int .i64 nr2] 25)
 have b7:=Zl (w.alloc (.cells #[.slice na nl nc,.slice ra rl rc,.int .i64 nn,.int .i64 nr] 25)) #[.slice h7 nl2 j2,.slice i0 rl2 h9,.int .i64 nn2,.int .i64 nr2] 25
 rw [i5] at T b7
 rw [World.size_alloc] at b7
 obtain ⟨A,hA⟩:∃ A,w.heap.size=A:=⟨_,rfl⟩
 rw [hA] at T b7
 rw [show (some ({ block:=w.heap.size,off:=0 }:Addr))=some ⟨A,0,none⟩ by rw [hA],show (some ({ block:=w.heap.size+1,off:=0 }:Addr))=some ⟨A+1,0,none⟩ by rw [hA]]
 have HX:Hid (∀ W,Below W1.heap.size W1 W->Rec W A #[.slice na nl nc,.slice ra rl rc,.int .i64 nn,.int .i64 nr] 25/\Rec W (A+1) #[.slice h7 nl2 j2,.slice i0 rl2 h9,.int .i64 nn2,.int .i64 nr2] 25):=fun W h=>⟨T.below h T.lt,b7.below h b7.lt⟩
 have a0:=T.cell 0 rfl
 have a1:=T.cell 1 rfl
 have a2:=T.cell 2 rfl
 have a3:=T.cell 3 rfl
 clear i5 T b7 hA
 go_wp2_with fail
 refine (b5.out W1 d1.out).mono ?_
 rintro e w2 ⟨rfl,j9⟩
 have f2:=Zb j9
 clear j9 a0 a1 a2 a3 b5
 cases k1 with
 | false =>
  go_wp2_with fail
  refine bodyPost_ret (v:=.tuple #[.slice none 0 0,.int .i64 2]) (by simp [results,Tryz.results20,go_sem]) rfl ⟨_,_,rfl,Za d1.out f2.out,⟨fun h=>by simp at h,fun _=>⟨rfl,rfl⟩⟩⟩
 | true =>
  obtain ⟨_,e8⟩:=HX.out w2 f2.out
  have b0:=e8.cell 0 rfl
  have b1:=e8.cell 1 rfl
  have b2:=e8.cell 2 rfl
  have b3:=e8.cell 3 rfl
  clear e8
  go_wp2_with fail
  refine (a5.out w2 (Za d1.out f2.out)).mono ?_
  rintro e w3 ⟨rfl,k5⟩
  have d6:=Zb (Za f2.out k5)
  clear k5 b0 b1 b2 b3 a5 f2
  cases k2 with
  | false =>
   go_wp2_with fail
   refine bodyPost_ret (v:=.tuple #[.slice none 0 0,.int .i64 2]) (by simp [results,Tryz.results20,go_sem]) rfl ⟨_,_,rfl,Za d1.out d6.out,⟨fun h=>by simp at h,fun _=>⟨rfl,rfl⟩⟩⟩
  | true =>
   have M:=Za d1.out d6.out
   have e5:=Zb (k9.out w3 M j0.out l2.out _ _ (Y.out.1.2.below M) (Y.out.2.2.below M))
   have f1:=Zb (fun W (z:Below w3.heap.size w3 W)=>m2.out W (Za M z) j0.out l2.out _ _ (Y.out.1.1.below (Za M z)) (Y.out.2.1.below (Za M z)))
   have j3:=Zb (Ztj j0.out b)
   have L:Hid ((Jr Jg.id a.rels b.rels).length<=60/\(Jr Zo.id a.nodes b.nodes).length<=60/\(Zbu Zo.id Zu a.nodes b.nodes).length<=60/\(Zbu Jg.id Je a.rels b.rels).length<=60):=by
    have h1:=Za3 Jg.id a.rels b.rels
    have h2:=Za3 Zo.id a.nodes b.nodes
    have h3:=Zbr Zo.id Zu a.nodes b.nodes
    have h4:=Zbr Jg.id Je a.rels b.rels
    have:=f0.out
    show _/\_
    omega
   have b8:Hid (Zc4 a b=(Jr Jg.id a.rels b.rels).map Jy++((Jr Zo.id a.nodes b.nodes).map Zak++((Zbu Zo.id Zu a.nodes b.nodes).map Zbt++((Zbu Jg.id Je a.rels b.rels).map Zc3++if a.nn != b.nn||a.nr != b.nr then [Zun b.nn b.nr] else [])))):=rfl
   have c6:Hid (∀ x ∈ Zbu Jg.id Je a.rels b.rels,x ∈ b.rels):=fun x B=>Zlx B
   have f9:Hid (∀ x ∈ Zbu Zo.id Zu a.nodes b.nodes,x ∈ b.nodes):=fun x B=>Zlx B
   rw [j3.out.2] at e5
   rw [j3.out.1] at f1
   generalize Jr Jg.id a.rels b.rels=G1 at e5 L b8
   generalize Jr Zo.id a.nodes b.nodes=G2 at f1 L b8
   generalize Zbu Zo.id Zu a.nodes b.nodes=P2 at f1 L b8 f9
   generalize Zbu Jg.id Je a.rels b.rels=P1 at e5 L b8 c6
   obtain ⟨l9,k7⟩:=HX.out w3 d6.out
   have a1:=l9.cell 1 rfl
   have b1:=k7.cell 1 rfl
   clear l9 k7 k9 m2 j3
   go_wp2_with fail
   refine e5.out.mono ?_
   rintro e w4 ⟨gr,pr,rfl,g7,l7,f3⟩
   have d7:=Zb f3
   have g1:=Zb g7
   have f6:Hid (Jt w4.heap.size w4 pr P1):=Zz5 l7 (f3.mono M.size) (Nat.le_trans M.size f3.size) fun r hr=>j8.out r (c6.out r hr)
   obtain ⟨m3,k4⟩:=HX.out w4 (Za d6.out f3)
   have a0:=m3.cell 0 rfl
   have b0:=k4.cell 0 rfl
   obtain ⟨o6,o1,rfl⟩:=Jn g7
   obtain ⟨o5,o2,m5,_⟩:=f6.out
   subst m5
   generalize l5:G1.length=n1 at g1 L |-
   generalize m4:P1.length=n4 at f6 L |-
   have a6:=Zb l5
   have d4:=Zb m4
   clear g7 l7 f3 m3 k4 a1 b1 e5 l5 m4
   go_wp2_with fail
   refine (f1.out w4 d7.out).mono ?_
   rintro e C ⟨gn,pn,rfl,i4,m6,S⟩
   have p4:=Zb S
   have l3:=Zb i4
   have i1:Hid (Jj C.heap.size C pn P2):=Zz4 m6 (S.mono (Nat.le_trans M.size d7.out.size)) (Nat.le_trans M.size (Nat.le_trans d7.out.size S.size))
   replace f6:Hid (Jt C.heap.size C _ P1):=(f6.out.below S).mono S.size
   replace g1:=Zb (Jf g1.out fun g _ hg=>S.block g hg)
   obtain ⟨n8,p0,rfl⟩:=Jn i4
   obtain ⟨o3,p2,l6,_⟩:=i1.out
   subst l6
   generalize m0:G2.length=n2 at l3 L |-
   generalize j6:P2.length=n3 at i1 L |-
   have b9:=Zb m0
   have c5:=Zb j6
   have o8:=Zb (Za (Za d6.out d7.out) S)
   have i2:=Zb (Za M (Za d7.out S))
   clear i4 m6 S a0 b0 f1 m0 j6 M
   go_wp2_with fail
   go_loopw [10,45] (fun o i wr=>∃ j:Nat,j<=n1/\i=.int .i64 j/\Below C.heap.size C wr/\Zdw C.heap.size wr o (([]:List Zs)++(G1.take j).map Jy)) (fun _ i _=>n1 - (intOf i).toNat)
   case atStart=>exact ⟨0,Nat.zero_le _,rfl,Below.refl _ _,Zri _ _⟩
   case round =>
    obtain ⟨j,hj,rfl,O,q⟩:=hrel
    have d:=Zb O
    have s:=Zb q
    obtain ⟨oa,oc,rfl⟩:=q.slice
    obtain ⟨ol,t⟩:∃ n,(([]:List Zs)++(G1.take j).map Jy).length=n:=⟨_,rfl⟩
    have a8:ol<=400:=by
     have h1:=Zhv Jy (([]:List Zs)) G1 j
     rw [t] at h1
     have h2:=L.out
     have h3:=a6.out
     simp only [List.length_nil] at h1
     omega
    rw [t] at s |-
    have N:=Zb t
    clear O q t
    by_cases hlt:j<n1
    ·have P:(j:Int)<n1:=by omega
     obtain ⟨x,B⟩:∃ x,G1[j]?=some x:=⟨_,List.getElem?_eq_getElem (by have:=a6.out;omega)⟩
     obtain ⟨g0,c0,he,g8,d5,i3,hc⟩:=Zwf g1.out B
     obtain ⟨rfl,rfl⟩:o6=some ⟨g0,0,none⟩/\o1=c0:=by simpa using he
     have j4:wr.cell? ⟨g0,j,none⟩=some (.int .i64 x):=(d.out.cell (p:=⟨g0,j,none⟩) g8).trans hc
     have b4:=Zb B
     clear he B hc
     have m:Below wr.heap.size wr (wr.alloc (.cells #[.int .i64 3,.int .i64 x,.int .i64 0,.int .i64 0,.slice none 0 0,.slice none 0 0,.int .i64 0,.int .i64 0,.int .i64 0,.string ⟨#[]⟩,.slice none 0 0] 51)):=(Below.refl _ _).alloc (Nat.le_refl _) _
     have F:=d.out.size
     have E:=m.size
     obtain ⟨g9,c9,w9,r9,o9,H⟩:=(s.out.below m).app' (ty:=36) (c9:=1) (Zcv _ _ 3 x 0) (Zl wr #[.int .i64 3,.int .i64 x,.int .i64 0,.int .i64 0,.slice none 0 0,.slice none 0 0,.int .i64 0,.int .i64 0,.int .i64 0,.string ⟨#[]⟩,.slice none 0 0] 51) N.out (by omega) (by omega)
     have Q:=Zb o9
     have R:Hid (Below C.heap.size C w9):=(Za d.out m).trans H
     clear o9 H m F E
     go_wp2_with (at_builtin;refine Zp rfl _ _ 36 rfl rfl rfl r9 ?_)
     go_roundw
     case rel=>exact ⟨j+1,by omega,by go_num,R.out,by rw [Zhu _ b4.out];exact Q.out⟩
     case measure=>simp [intOf];omega
    ·have P:¬ (j:Int)<n1:=by omega
     obtain rfl:j=n1:=by omega
     have D:Hid (Zdw C.heap.size wr (.slice oa ol oc) ([]++G1.map Jy)):=by
      have:=s.out
      rwa [<- a6.out,List.take_length] at this
     obtain ⟨W1,hW⟩:∃ W,wr=W:=⟨_,rfl⟩
     rw [hW] at d D |-
     have m1:=Zb d.out
     have k0:=Zb D.out
     clear hW d D s N hlt a8
     go_wp2_with fail
     go_loopw [10,57] (fun o i wr=>∃ j:Nat,j<=n2/\i=.int .i64 j/\Below C.heap.size C wr/\Zdw C.heap.size wr o (G1.map Jy++(G2.take j).map Zak)) (fun _ i _=>n2 - (intOf i).toNat)
     case atStart=>exact ⟨0,Nat.zero_le _,rfl,m1.out,by simpa using k0.out⟩
     case round =>
      obtain ⟨j,hj,rfl,O,q⟩:=hrel
      have d:=Zb O
      have s:=Zb q
      obtain ⟨oa,oc,rfl⟩:=q.slice
      obtain ⟨ol,t⟩:∃ n,(G1.map Jy++(G2.take j).map Zak).length=n:=⟨_,rfl⟩
      have a8:ol<=400:=by
       have h1:=Zhv Zak (G1.map Jy) G2 j
       rw [t] at h1
       have h2:=L.out
       have h3:=b9.out
       have h4:=a6.out
       simp only [List.length_map] at h1
       omega
      rw [t] at s |-
      have N:=Zb t
      clear O q t
      by_cases hlt:j<n2
      ·have P:(j:Int)<n2:=by omega
       obtain ⟨x,B⟩:∃ x,G2[j]?=some x:=⟨_,List.getElem?_eq_getElem (by have:=b9.out;omega)⟩
       obtain ⟨g0,c0,he,g8,d5,i3,hc⟩:=Zwf l3.out B
       obtain ⟨rfl,rfl⟩:n8=some ⟨g0,0,none⟩/\p0=c0:=by simpa using he
       have j4:wr.cell? ⟨g0,j,none⟩=some (.int .i64 x):=(d.out.cell (p:=⟨g0,j,none⟩) g8).trans hc
       have b4:=Zb B
       clear he B hc
       have m:Below wr.heap.size wr (wr.alloc (.cells #[.int .i64 2,.int .i64 x,.int .i64 0,.int .i64 0,.slice none 0 0,.slice none 0 0,.int .i64 0,.int .i64 0,.int .i64 0,.string ⟨#[]⟩,.slice none 0 0] 51)):=(Below.refl _ _).alloc (Nat.le_refl _) _
       have F:=d.out.size
       have E:=m.size
       obtain ⟨g9,c9,w9,r9,o9,H⟩:=(s.out.below m).app' (ty:=36) (c9:=1) (Zcv _ _ 2 x 0) (Zl wr #[.int .i64 2,.int .i64 x,.int .i64 0,.int .i64 0,.slice none 0 0,.slice none 0 0,.int .i64 0,.int .i64 0,.int .i64 0,.string ⟨#[]⟩,.slice none 0 0] 51) N.out (by omega) (by omega)
       have Q:=Zb o9
       have R:Hid (Below C.heap.size C w9):=(Za d.out m).trans H
       clear o9 H m F E
       go_wp2_with (at_builtin;refine Zp rfl _ _ 36 rfl rfl rfl r9 ?_)
       go_roundw
       case rel=>exact ⟨j+1,by omega,by go_num,R.out,by rw [Zhu _ b4.out];exact Q.out⟩
       case measure=>simp [intOf];omega
      ·have P:¬ (j:Int)<n2:=by omega
       obtain rfl:j=n2:=by omega
       have D:Hid (Zdw C.heap.size wr (.slice oa ol oc) (G1.map Jy++G2.map Zak)):=by
        have:=s.out
        rwa [<- b9.out,List.take_length] at this
       obtain ⟨W2,hW⟩:∃ W,wr=W:=⟨_,rfl⟩
       rw [hW] at d D |-
       have k8:=Zb d.out
       have n5:=Zb D.out
       clear hW d D s N hlt a8
       go_wp2_with fail
       go_loopw [10,69] (fun o i wr=>∃ j:Nat,j<=n3/\i=.int .i64 j/\Below C.heap.size C wr/\Zdw C.heap.size wr o ((G1.map Jy++G2.map Zak)++(P2.take j).map Zbt)) (fun _ i _=>n3 - (intOf i).toNat)
       case atStart=>exact ⟨0,Nat.zero_le _,rfl,k8.out,by simpa using n5.out⟩
       case round =>
        obtain ⟨j,hj,rfl,O,q⟩:=hrel
        have d:=Zb O
        have s:=Zb q
        obtain ⟨oa,oc,rfl⟩:=q.slice
        obtain ⟨ol,t⟩:∃ n,((G1.map Jy++G2.map Zak)++(P2.take j).map Zbt).length=n:=⟨_,rfl⟩
        have a8:ol<=400:=by
         have h1:=Zhv Zbt ((G1.map Jy++G2.map Zak)) P2 j
         rw [t] at h1
         have h2:=L.out
         have h3:=c5.out
         have h4:=a6.out
         have h5:=b9.out
         simp only [List.length_append,List.length_map] at h1
         omega
        rw [t] at s |-
        have N:=Zb t
        clear O q t
        by_cases hlt:j<n3
        ·have P:(j:Int)<n3:=by omega
         obtain ⟨x,B⟩:∃ x,P2[j]?=some x:=⟨_,List.getElem?_eq_getElem (by have:=c5.out;omega)⟩
         have F:=d.out.size
         obtain ⟨ea,ec,he,d5,i3,c7⟩:=i1.out
         obtain ⟨rfl,rfl⟩:o3=ea/\p2=ec:=by
          injection he with e1 _ e2;exact ⟨e1,e2⟩
         obtain ⟨bl,off,rfl,j1,a9⟩:=c7.resolve_left (by intro e;rw [e] at B;simp at B)
         replace a9:=(a9 j x B).below d.out j1
         rw [c5.out] at d5
         obtain ⟨la,lc,pv,⟨c0,c1,c2⟩,hs,hk,hp⟩:=a9
         obtain ⟨pa,pc,rfl⟩:=Zau hp
         have f8:Ja C.heap.size wr (.agg #[.int .i64 x.id,.slice la x.labels.length lc,.slice pa x.props.length pc]) x:=⟨la,lc,pa,pc,rfl,hs,hk,hp⟩
         have e6:=Zb (fun W (z:Below wr.heap.size wr W)=>Zg9 x _ C.heap.size W (by have:=z.size;omega) (f8.below (z.mono F)) (d3.out.ofN x (f9.out x (List.mem_of_getElem? B))).1 (d3.out.ofN x (f9.out x (List.mem_of_getElem? B))).2.1 (d3.out.ofN x (f9.out x (List.mem_of_getElem? B))).2.2)
         have b4:=Zb B
         clear he c7 B f8 hs hp
         go_upto_region 19 with fail
         generalize a4:World.alloc _ _=W6
         have f5:Below wr.heap.size wr W6:=by rw [<- a4];exact (Below.refl _ _).alloc (Nat.le_refl _) _
         have K:=Zl wr #[.int .i64 x.id,.slice la x.labels.length lc,.slice pa x.props.length pc] 47
         rw [a4] at K
         have a7:=Zb f5
         have e0:=K.cell 0 rfl
         have e1:=K.cell 1 rfl
         have e2:=K.cell 2 rfl
         clear a4 K f5 c0 c1 c2
         go_wp2_with fail
         refine (e6.out W6 a7.out).mono ?_
         rintro e w7 ⟨o4,rfl,d8,e7⟩
         have U:∀ k,(Value.slice oa ol oc).ownBlock=some k->k<W6.heap.size:=fun k hk=>Nat.lt_of_lt_of_le (s.out.lt k hk).2 a7.out.size
         obtain ⟨n0,j7,f7,d2,rfl,e9⟩:=Zth d8 U
         have I:=Za a7.out e7
         have m:Below w7.heap.size w7 (w7.alloc (.cells #[.int .i64 0,.int .i64 0,.int .i64 0,.int .i64 x.id,.slice n0 x.labels.length j7,.slice f7 x.props.length d2,.int .i64 0,.int .i64 0,.int .i64 0,.string ⟨#[]⟩,.slice none 0 0] 51)):=(Below.refl _ _).alloc (Nat.le_refl _) _
         have E:=I.size
         have d9:=m.size
         obtain ⟨g9,c9,w9,r9,o9,H⟩:=((s.out.below I).below m).app' (ty:=36) (c9:=1) (e9.on (Zhw m _) (.inl rfl)) (Zl w7 #[.int .i64 0,.int .i64 0,.int .i64 0,.int .i64 x.id,.slice n0 x.labels.length j7,.slice f7 x.props.length d2,.int .i64 0,.int .i64 0,.int .i64 0,.string ⟨#[]⟩,.slice none 0 0] 51) N.out (by omega) (by omega)
         have Q:=Zb o9
         have R:Hid (Below C.heap.size C w9):=(Za d.out (Za I m)).trans H
         clear o9 H m E d9 I e9 U d8 e7 e6 e0 e1 e2
         go_wp2_with (at_builtin;refine Zp rfl _ _ 36 rfl rfl rfl r9 ?_)
         go_roundw
         case rel=>exact ⟨j+1,by omega,by go_num,R.out,by rw [Zhu _ b4.out];exact Q.out⟩
         case measure=>simp [intOf];omega
        ·have P:¬ (j:Int)<n3:=by omega
         obtain rfl:j=n3:=by omega
         have D:Hid (Zdw C.heap.size wr (.slice oa ol oc) ((G1.map Jy++G2.map Zak)++P2.map Zbt)):=by
          have:=s.out
          rwa [<- c5.out,List.take_length] at this
         obtain ⟨W3,hW⟩:∃ W,wr=W:=⟨_,rfl⟩
         rw [hW] at d D |-
         have m9:=Zb d.out
         have m7:=Zb D.out
         clear hW d D s N hlt a8
         go_wp2_with fail
         go_loopw [10,82] (fun o i wr=>∃ j:Nat,j<=n4/\i=.int .i64 j/\Below C.heap.size C wr/\Zdw C.heap.size wr o ((G1.map Jy++G2.map Zak++P2.map Zbt)++(P1.take j).map Zc3)) (fun _ i _=>n4 - (intOf i).toNat)
         case atStart=>exact ⟨0,Nat.zero_le _,rfl,m9.out,by simpa using m7.out⟩
         case round =>
          obtain ⟨j,hj,rfl,O,q⟩:=hrel
          have d:=Zb O
          have s:=Zb q
          obtain ⟨oa,oc,rfl⟩:=q.slice
          obtain ⟨ol,t⟩:∃ n,((G1.map Jy++G2.map Zak++P2.map Zbt)++(P1.take j).map Zc3).length=n:=⟨_,rfl⟩
          have a8:ol<=400:=by
           have h1:=Zhv Zc3 ((G1.map Jy++G2.map Zak++P2.map Zbt)) P1 j
           rw [t] at h1
           have h2:=L.out
           have h3:=d4.out
           have h4:=a6.out
           have h5:=b9.out
           have h6:=c5.out
           simp only [List.length_append,List.length_map] at h1
           omega
          rw [t] at s |-
          have N:=Zb t
          clear O q t
          by_cases hlt:j<n4
          ·have P:(j:Int)<n4:=by omega
           obtain ⟨x,B⟩:∃ x,P1[j]?=some x:=⟨_,List.getElem?_eq_getElem (by have:=d4.out;omega)⟩
           have F:=d.out.size
           have p1:=Zb (j8.out x (c6.out x (List.mem_of_getElem? B)))
           obtain ⟨ea,ec,he,d5,i3,c7⟩:=f6.out
           obtain ⟨rfl,rfl⟩:o5=ea/\o2=ec:=by
            injection he with e1 _ e2;exact ⟨e1,e2⟩
           obtain ⟨bl,off,rfl,j1,a9⟩:=c7.resolve_left (by intro e;rw [e] at B;simp at B)
           replace a9:=(a9 j x B).below d.out j1
           rw [d4.out] at d5
           obtain ⟨pv,⟨c0,c1,c2,c3,c4⟩,hs,hp⟩:=a9
           obtain ⟨pa,pc,rfl⟩:=Zau hp
           have f8:Ji C.heap.size wr (.agg #[.int .i64 x.id,.int .i64 x.fr,.int .i64 x.tt,.string x.type,.slice pa x.props.length pc]) x:=⟨pa,pc,rfl,hp⟩
           have e6:=Zb (fun W (z:Below wr.heap.size wr W)=>Zjo x _ C.heap.size W (by have:=z.size;omega) (f8.below (z.mono F)) (d3.out.ofR x (c6.out x (List.mem_of_getElem? B))).1 (d3.out.ofR x (c6.out x (List.mem_of_getElem? B))).2)
           have b4:=Zb B
           clear he c7 B f8 hs hp
           go_upto_region 24 with fail
           generalize a4:World.alloc _ _=W6
           have f5:Below wr.heap.size wr W6:=by rw [<- a4];exact (Below.refl _ _).alloc (Nat.le_refl _) _
           have K:=Zl wr #[.int .i64 x.id,.int .i64 x.fr,.int .i64 x.tt,.string x.type,.slice pa x.props.length pc] 49
           rw [a4] at K
           have a7:=Zb f5
           have e0:=K.cell 0 rfl
           have e1:=K.cell 1 rfl
           have e2:=K.cell 2 rfl
           have e3:=K.cell 3 rfl
           have e4:=K.cell 4 rfl
           clear a4 K f5 c0 c1 c2 c3 c4
           go_wp2_with fail
           refine (e6.out W6 a7.out).mono ?_
           rintro e w7 ⟨o4,rfl,d8,e7⟩
           have U:∀ k,(Value.slice oa ol oc).ownBlock=some k->k<W6.heap.size:=fun k hk=>Nat.lt_of_lt_of_le (s.out.lt k hk).2 a7.out.size
           obtain ⟨f7,d2,rfl,e9⟩:=Zti p1.out d8 U
           have I:=Za a7.out e7
           have m:Below w7.heap.size w7 (w7.alloc (.cells #[.int .i64 1,.int .i64 0,.int .i64 0,.int .i64 0,.slice none 0 0,.slice none 0 0,.int .i64 x.id,.int .i64 x.fr,.int .i64 x.tt,.string x.type,.slice f7 x.props.length d2] 51)):=(Below.refl _ _).alloc (Nat.le_refl _) _
           have E:=I.size
           have d9:=m.size
           obtain ⟨g9,c9,w9,r9,o9,H⟩:=((s.out.below I).below m).app' (ty:=36) (c9:=1) (e9.on (Zhw m _) (.inl rfl)) (Zl w7 #[.int .i64 1,.int .i64 0,.int .i64 0,.int .i64 0,.slice none 0 0,.slice none 0 0,.int .i64 x.id,.int .i64 x.fr,.int .i64 x.tt,.string x.type,.slice f7 x.props.length d2] 51) N.out (by omega) (by omega)
           have Q:=Zb o9
           have R:Hid (Below C.heap.size C w9):=(Za d.out (Za I m)).trans H
           clear o9 H m E d9 I e9 U d8 e7 e6 e0 e1 e2 e3 e4
           go_wp2_with (at_builtin;refine Zp rfl _ _ 36 rfl rfl rfl r9 ?_)
           go_roundw
           case rel=>exact ⟨j+1,by omega,by go_num,R.out,by rw [Zhu _ b4.out];exact Q.out⟩
           case measure=>simp [intOf];omega
          ·have P:¬ (j:Int)<n4:=by omega
           obtain rfl:j=n4:=by omega
           have D:Hid (Zdw C.heap.size wr (.slice oa ol oc) ((G1.map Jy++G2.map Zak++P2.map Zbt)++P1.map Zc3)):=by
            have:=s.out
            rwa [<- d4.out,List.take_length] at this
           obtain ⟨W4,hW⟩:∃ W,wr=W:=⟨_,rfl⟩
           rw [hW] at d D |-
           have b6:=Zb d.out
           have d0:=Zb D.out
           clear hW d D s N hlt a8
           obtain ⟨i7,h8⟩:=HX.out W4 (Za o8.out b6.out)
           have a2:=i7.cell 2 rfl
           have b2:=h8.cell 2 rfl
           have a3:=i7.cell 3 rfl
           have b3:=h8.cell 3 rfl
           clear i7 h8
           have n9:Hid (Below w.heap.size w W4):=Za i2.out b6.out
           have i9:Hid (∀ {W:World} {v:Value} {cs:List Zs},Zdw C.heap.size W v cs->Zdw w.heap.size W v cs):=fun ⟨des,h1,h2⟩=>⟨des,Zeq h1 i2.out.size,h2⟩
           obtain ⟨g2,c8⟩:∃ n,(G1.map Jy++G2.map Zak++P2.map Zbt++P1.map Zc3).length=n:=⟨_,rfl⟩
           have p3:g2<=400:=by
            have h2:=L.out
            have h3:=a6.out
            have h4:=b9.out
            have h5:=c5.out
            have h6:=d4.out
            simp only [List.length_append,List.length_map] at c8
            omega
           have g4:=Zb c8
           clear c8
           have i6:Hid (nn=nn2->nr=nr2->Zc4 a b=G1.map Jy++G2.map Zak++P2.map Zbt++P1.map Zc3):=fun e1 e2=>by
            show _=_
            rw [b8.out,V.out.1.1,V.out.1.2,V.out.2.1,V.out.2.2,e1,e2,if_neg (by simp)]
            simp only [List.append_assoc,List.append_nil]
           have f4:Hid (¬ (nn=nn2/\nr=nr2)->Zc4 a b=(G1.map Jy++G2.map Zak++P2.map Zbt++P1.map Zc3)++[Zun nn2 nr2]):=fun e1=>by
            show _=_
            rw [b8.out,V.out.1.1,V.out.1.2,V.out.2.1,V.out.2.2,if_pos (by simp;omega)]
            simp only [List.append_assoc]
           have m:Below W4.heap.size W4 (W4.alloc (.cells #[.int .i64 4,.int .i64 nn2,.int .i64 nr2,.int .i64 0,.slice none 0 0,.slice none 0 0,.int .i64 0,.int .i64 0,.int .i64 0,.string ⟨#[]⟩,.slice none 0 0] 51)):=(Below.refl _ _).alloc (Nat.le_refl _) _
           have F:=b6.out.size
           have E:=m.size
           have n6:ol=g2:=by
            obtain ⟨_,_,e⟩:=d0.out.slice
            injection e with _ e2 _
            rw [e2];exact g4.out
           obtain ⟨g9,c9,w9,r9,o9,H⟩:=(d0.out.below m).app' (ty:=36) (c9:=1) (Zcv _ _ 4 nn2 nr2) (Zl W4 #[.int .i64 4,.int .i64 nn2,.int .i64 nr2,.int .i64 0,.slice none 0 0,.slice none 0 0,.int .i64 0,.int .i64 0,.int .i64 0,.string ⟨#[]⟩,.slice none 0 0] 51) g4.out (by omega) (by omega)
           have Q:=Zb o9
           have R:Hid (Below w.heap.size w w9):=Za i2.out ((Za b6.out m).trans H)
           clear o9 H m F E n6
           by_cases h1:nn=nn2
           ·have z1:(nn != nn2)=false:=by simp [h1]
            by_cases h2:nr=nr2
            ·have z2:(nr != nr2)=false:=by simp [h2]
             have HS:=Zb (i6.out h1 h2)
             clear h1 h2 r9
             go_wp2_with fail
             refine bodyPost_ret (v:=.tuple #[.slice oa ol oc,.int .i64 0]) (by simp [results,Tryz.results20,go_sem]) rfl ⟨_,_,rfl,n9.out,⟨fun _=>⟨rfl,by rw [HS.out];exact i9.out d0.out⟩,fun h=>by simp at h⟩⟩
            ·have z2:(nr != nr2)=true:=by simp [h2]
             have HS:=Zb (f4.out fun h=>h2 h.2)
             clear h1 h2
             go_wp2_with (at_builtin;refine Zp rfl _ _ 36 rfl rfl rfl r9 ?_)
             refine bodyPost_ret (v:=.tuple #[.slice (some ⟨g9,0,none⟩) (g2+1) c9,.int .i64 0]) (by simp [results,Tryz.results20,go_sem]) rfl ⟨_,_,rfl,R.out,⟨fun _=>⟨rfl,by rw [HS.out];exact i9.out Q.out⟩,fun h=>by simp at h⟩⟩
           ·have z1:(nn != nn2)=true:=by simp [h1]
            have HS:=Zb (f4.out fun h=>h1 h.1)
            clear h1
            go_wp2_with (at_builtin;refine Zp rfl _ _ 36 rfl rfl rfl r9 ?_)
            refine bodyPost_ret (v:=.tuple #[.slice (some ⟨g9,0,none⟩) (g2+1) c9,.int .i64 0]) (by simp [results,Tryz.results20,go_sem]) rfl ⟨_,_,rfl,R.out,⟨fun _=>⟨rfl,by rw [HS.out];exact i9.out Q.out⟩,fun h=>by simp at h⟩⟩
end
section
open Go.RowKit Go.Shelf Go.WideShapes
noncomputable def Jd8  : Array Oper:=Zy Tryz.f23 5
def Jhy  : List Sig:=[⟨19,.load 25 (.tmp 3),25,none⟩,⟨20,.fieldAddr 25 (.tmp 2) 1,0,none⟩,⟨21,.load 23 (.tmp 20),23,none⟩,⟨22,.move (.tmp 6),3,none⟩,⟨23,.indexAddr 23 (.tmp 21) (.tmp 22),0,none⟩,⟨24,.fieldAddr 49 (.tmp 23) 0,0,none⟩,⟨25,.load 2 (.tmp 24),2,none⟩,⟨26,.call { callee:=.value (.func 61),args:=#[.tmp 19,.tmp 25],argTypes:=#[25,2] },3,none⟩,⟨27,.binOp .lss 3 (.tmp 26) (.const (.int .i64 0)) 3,4,none⟩]
theorem Jhz  : Jh Jd8=Jhy.map some:=by kernel_rfl
def Jju  : List (List Nat):=[[],[],[1],[],[2,3],[4],[5],[0,6],[7]]
structure Zuf (A H d off kl kc j:Nat) (x r:Int) (b0 l o p:Value) (b:Bool) (c:Act):Prop where
 t2:c.eval (.tmp 2)=.pointer (some ⟨A,0,none⟩)
 t3:c.eval (.tmp 3)=.pointer (some ⟨H,0,none⟩)
 t6:c.eval (.tmp 6)=.int .i64 (j:Int)
def Jd9 (A H d off kl kc j:Nat) (x r:Int) (b0 l o p:Value) (b:Bool):List Value:=[.agg #[b0,l,o,p],.pointer (some ⟨A,1,none⟩),.slice (some ⟨d,off,none⟩) kl kc,.int .i64 (j:Int),.pointer (some ⟨d,off+j*5,none⟩),.pointer (some ⟨d,off+j*5,none⟩),.int .i64 x,.int .i64 r,.bool b]
structure Zmy (A H d off kl kc j:Nat) (x r:Int) (b0 l o p:Value) (b:Bool) (w:World):Prop where
 h0:w.cell? ⟨H,0,none⟩=some (b0)
 h1:w.cell? ⟨H,1,none⟩=some (l)
 h2:w.cell? ⟨H,2,none⟩=some (o)
 h3:w.cell? ⟨H,3,none⟩=some (p)
 g:w.cell? ⟨A,1,none⟩=some (.slice (some ⟨d,off,none⟩) kl kc)
 lt:j<kl
 le:kl<=9223372036854775807
 c0:w.cell? ⟨d,off+j*5,none⟩=some (.int .i64 x)
 k1:Calls Tryz.prog 61 #[.agg #[b0,l,o,p],.int .i64 x] w fun e w'=>e=.returned (.int .i64 r)/\Below w.heap.size w w'
 a1:decide (r<0)=b
theorem Zj5 (A H d off kl kc j:Nat) (x r:Int) (b0 l o p:Value) (b:Bool) (Q:Exit->Act->World->Prop) (base:Act) (t:World) (u:base.tmps.size=165) (q:Zuf A H d off kl kc j x r b0 l o p b base)
  (v:∀ w,Below t.heap.size t w->Zmy A H d off kl kc j x r b0 l o p b w) (E:∀ c w,Zaf Jd8 base c->Below t.heap.size t w->c.eval (.tmp 27)=.bool b->Q .normal c w):(Code.region 5 Jd8 true).wp Tryz.prog Q base t:=by
 refine Zn (B:=Zuf A H d off kl kc j x r b0 l o p b) (T:=Zmy A H d off kl kc j x r b0 l o p b) (n:=9) (k:=8) Jhy Jju (Jd9 A H d off kl kc j x r b0 l o p b) Jhz rfl (by kernel_rfl) (by kernel_rfl) (by kernel_rfl) (by rw [u];kernel_rfl) (fun c y=>⟨(Zc y (by kernel_rfl)).trans q.t2,(Zc y (by kernel_rfl)).trans q.t3,(Zc y (by kernel_rfl)).trans q.t6⟩) v ?_ (by decide) rfl rfl E
 clear u q v E
 iterate 9 (refine Zd ?_ (by
  intro c w q v hEq
  obtain ⟨t2,t3,t6⟩:=q
  obtain ⟨h0,h1,h2,h3,g,lt,le,c0,k1,a1⟩:=v
  have L:=evc c
  have K:=evf c
  dsimp only [Jju,Jhy,Jd9,nth,Zbm,Za2,Jc] at hEq |-
  first
  | exact ⟨by simp only [hEq],.inr ⟨by first | exact .inl rfl | exact .inr rfl,rfl⟩⟩
  | ((try refine ⟨by simp only [hEq],.inl ⟨rfl,?_⟩⟩);first | (refine Zk Tryz.call61 k1 ?_;simp only [List.map_toArray,List.map_cons,List.map_nil,hEq];done) | (refine .inl fun pos I=>?_;(clear k1;dsimp only [Sig.oper];generalize c.eval=ρ at *;go_simp;done)) | (refine .inl fun pos I=>?_;clear k1;dsimp only [Sig.oper];generalize c.eval=ρ at *;go_simp;simp only [decide_eq_true_eq,decide_eq_false_iff_not] at *;omega))))
 exact Zf
noncomputable def Jhu  : Array Oper:=Zy Tryz.f23 21
def Jh0  : List Sig:=[⟨111,.load 25 (.tmp 2),25,none⟩,⟨112,.fieldAddr 25 (.tmp 3) 1,0,none⟩,⟨113,.load 23 (.tmp 112),23,none⟩,⟨114,.move (.tmp 10),3,none⟩,⟨115,.indexAddr 23 (.tmp 113) (.tmp 114),0,none⟩,⟨116,.fieldAddr 49 (.tmp 115) 0,0,none⟩,⟨117,.load 2 (.tmp 116),2,none⟩,⟨118,.call { callee:=.value (.func 61),args:=#[.tmp 111,.tmp 117],argTypes:=#[25,2] },3,none⟩,⟨11,.assign (.tmp 118),3,none⟩]
theorem Jh1  : Jh Jhu=Jh0.map some:=by kernel_rfl
def Jjv  : List (List Nat):=[[],[],[1],[],[2,3],[4],[5],[0,6],[7]]
structure Zug (A H d off kl kc j:Nat) (x r:Int) (b0 l o p:Value) (c:Act):Prop where
 t2:c.eval (.tmp 2)=.pointer (some ⟨A,0,none⟩)
 t3:c.eval (.tmp 3)=.pointer (some ⟨H,0,none⟩)
 t10:c.eval (.tmp 10)=.int .i64 (j:Int)
def Jea (A H d off kl kc j:Nat) (x r:Int) (b0 l o p:Value):List Value:=[.agg #[b0,l,o,p],.pointer (some ⟨H,1,none⟩),.slice (some ⟨d,off,none⟩) kl kc,.int .i64 (j:Int),.pointer (some ⟨d,off+j*5,none⟩),.pointer (some ⟨d,off+j*5,none⟩),.int .i64 x,.int .i64 r,.int .i64 r]
structure Zmz (A H d off kl kc j:Nat) (x r:Int) (b0 l o p:Value) (w:World):Prop where
 h0:w.cell? ⟨A,0,none⟩=some (b0)
 h1:w.cell? ⟨A,1,none⟩=some (l)
 h2:w.cell? ⟨A,2,none⟩=some (o)
 h3:w.cell? ⟨A,3,none⟩=some (p)
 g:w.cell? ⟨H,1,none⟩=some (.slice (some ⟨d,off,none⟩) kl kc)
 lt:j<kl
 le:kl<=9223372036854775807
 c0:w.cell? ⟨d,off+j*5,none⟩=some (.int .i64 x)
 k1:Calls Tryz.prog 61 #[.agg #[b0,l,o,p],.int .i64 x] w fun e w'=>e=.returned (.int .i64 r)/\Below w.heap.size w w'
theorem Zsp (A H d off kl kc j:Nat) (x r:Int) (b0 l o p:Value) (Q:Exit->Act->World->Prop) (base:Act) (t:World) (u:base.tmps.size=165) (q:Zug A H d off kl kc j x r b0 l o p base)
  (v:∀ w,Below t.heap.size t w->Zmz A H d off kl kc j x r b0 l o p w) (E:∀ c w,Zaf Jhu base c->Below t.heap.size t w->c.eval (.tmp 11)=.int .i64 r->Q .normal c w):(Code.region 21 Jhu true).wp Tryz.prog Q base t:=by
 refine Zn (B:=Zug A H d off kl kc j x r b0 l o p) (T:=Zmz A H d off kl kc j x r b0 l o p) (n:=9) (k:=8) Jh0 Jjv (Jea A H d off kl kc j x r b0 l o p) Jh1 rfl (by kernel_rfl) (by kernel_rfl) (by kernel_rfl) (by rw [u];kernel_rfl) (fun c y=>⟨(Zc y (by kernel_rfl)).trans q.t2,(Zc y (by kernel_rfl)).trans q.t3,(Zc y (by kernel_rfl)).trans q.t10⟩) v ?_ (by decide) rfl rfl E
 clear u q v E
 iterate 9 (refine Zd ?_ (by
  intro c w q v hEq
  obtain ⟨t2,t3,t10⟩:=q
  obtain ⟨h0,h1,h2,h3,g,lt,le,c0,k1⟩:=v
  have L:=evc c
  have K:=evf c
  dsimp only [Jjv,Jh0,Jea,nth,Zbm,Za2,Jc] at hEq |-
  first
  | exact ⟨by simp only [hEq],.inr ⟨by first | exact .inl rfl | exact .inr rfl,rfl⟩⟩
  | ((try refine ⟨by simp only [hEq],.inl ⟨rfl,?_⟩⟩);first | (refine Zk Tryz.call61 k1 ?_;simp only [List.map_toArray,List.map_cons,List.map_nil,hEq];done) | (refine .inl fun pos I=>?_;(clear k1;dsimp only [Sig.oper];generalize c.eval=ρ at *;go_simp;done)))))
 exact Zf
noncomputable def Jeb  : Array Oper:=Zy Tryz.f23 22
def Jh2  : List Sig:=[⟨119,.move (.tmp 11),3,none⟩,⟨120,.binOp .lss 3 (.tmp 119) (.const (.int .i64 0)) 3,4,none⟩,⟨121,.move (.tmp 120),4,none⟩,⟨122,.fieldAddr 25 (.tmp 2) 1,0,some (2,false)⟩,⟨123,.load 23 (.tmp 122),23,some (2,false)⟩,⟨124,.move (.tmp 11),3,some (2,false)⟩,⟨125,.indexAddr 23 (.tmp 123) (.tmp 124),0,some (2,false)⟩,⟨126,.load 49 (.tmp 125),49,some (2,false)⟩,⟨127,.fieldAddr 25 (.tmp 3) 1,0,some (2,false)⟩,⟨128,.load 23 (.tmp 127),23,some (2,false)⟩,⟨129,.move (.tmp 10),3,some (2,false)⟩,⟨130,.indexAddr 23 (.tmp 128) (.tmp 129),0,some (2,false)⟩,⟨131,.load 49 (.tmp 130),49,some (2,false)⟩,⟨132,.call { callee:=.value (.func 46),args:=#[.tmp 126,.tmp 131],argTypes:=#[49,49] },4,some (2,false)⟩,⟨133,.unOp .not 4 (.tmp 132),4,some (2,false)⟩,⟨134,.pick (.tmp 121) (.const (.bool true)) (.tmp 133),4,none⟩]
theorem Jh3  : Jh Jeb=Jh2.map some:=by kernel_rfl
def Jjw  : List (List Nat):=[[],[0],[1],[2],[2,3],[2],[2,4,5],[2,6],[2],[2,8],[2],[2,9,10],[2,11],[2,7,12],[2,13],[2,14]]
structure Zuh (A H d off kl kc f a i s j m:Nat) (v0 v1 v2 v3 v4 C z D G F:Value) (b:Bool) (c:Act):Prop where
 t2:c.eval (.tmp 2)=.pointer (some ⟨A,0,none⟩)
 t3:c.eval (.tmp 3)=.pointer (some ⟨H,0,none⟩)
 t10:c.eval (.tmp 10)=.int .i64 (j:Int)
 t11:c.eval (.tmp 11)=.int .i64 (m:Int)
def Jec (A H d off kl kc f a i s j m:Nat) (v0 v1 v2 v3 v4 C z D G F:Value) (b:Bool):List Value:=[.int .i64 (m:Int),.bool false,.bool false,.pointer (some ⟨A,1,none⟩),.slice (some ⟨d,off,none⟩) kl kc,.int .i64 (m:Int),.pointer (some ⟨d,off+m*5,none⟩),.agg #[v0,v1,v2,v3,v4],.pointer (some ⟨H,1,none⟩),.slice (some ⟨f,a,none⟩) i s,.int .i64 (j:Int),.pointer (some ⟨f,a+j*5,none⟩),.agg #[C,z,D,G,F],.bool b,.bool (!b),.bool (!b)]
structure Zm0 (A H d off kl kc f a i s j m:Nat) (v0 v1 v2 v3 v4 C z D G F:Value) (b:Bool) (w:World):Prop where
 a1:decide ((m:Int)<0)=false
 g:w.cell? ⟨A,1,none⟩=some (.slice (some ⟨d,off,none⟩) kl kc)
 lt:m<kl
 le:kl<=9223372036854775807
 c0:w.cell? ⟨d,off+m*5,none⟩=some (v0)
 c1:w.cell? ⟨d,off+m*5+1,none⟩=some (v1)
 c2:w.cell? ⟨d,off+m*5+2,none⟩=some (v2)
 c3:w.cell? ⟨d,off+m*5+3,none⟩=some (v3)
 c4:w.cell? ⟨d,off+m*5+4,none⟩=some (v4)
 h:w.cell? ⟨H,1,none⟩=some (.slice (some ⟨f,a,none⟩) i s)
 lt2:j<i
 le2:i<=9223372036854775807
 d0:w.cell? ⟨f,a+j*5,none⟩=some (C)
 d1:w.cell? ⟨f,a+j*5+1,none⟩=some (z)
 d2:w.cell? ⟨f,a+j*5+2,none⟩=some (D)
 d3:w.cell? ⟨f,a+j*5+3,none⟩=some (G)
 d4:w.cell? ⟨f,a+j*5+4,none⟩=some (F)
 k1:Calls Tryz.prog 46 #[.agg #[v0,v1,v2,v3,v4],.agg #[C,z,D,G,F]] w fun e w'=>e=.returned (.bool b)/\Below w.heap.size w w'
theorem Zj6 (A H d off kl kc f a i s j m:Nat) (v0 v1 v2 v3 v4 C z D G F:Value) (b:Bool) (Q:Exit->Act->World->Prop) (base:Act) (t:World) (u:base.tmps.size=165) (q:Zuh A H d off kl kc f a i s j m v0 v1 v2 v3 v4 C z D G F b base)
  (v:∀ w,Below t.heap.size t w->Zm0 A H d off kl kc f a i s j m v0 v1 v2 v3 v4 C z D G F b w) (E:∀ c w,Zaf Jeb base c->Below t.heap.size t w->c.eval (.tmp 134)=.bool (!b)->Q .normal c w):(Code.region 22 Jeb true).wp Tryz.prog Q base t:=by
 refine Zn (B:=Zuh A H d off kl kc f a i s j m v0 v1 v2 v3 v4 C z D G F b) (T:=Zm0 A H d off kl kc f a i s j m v0 v1 v2 v3 v4 C z D G F b) (n:=16) (k:=15) Jh2 Jjw (Jec A H d off kl kc f a i s j m v0 v1 v2 v3 v4 C z D G F b) Jh3 rfl (by kernel_rfl) (by kernel_rfl) (by kernel_rfl) (by rw [u];kernel_rfl) (fun c y=>⟨(Zc y (by kernel_rfl)).trans q.t2,(Zc y (by kernel_rfl)).trans q.t3,(Zc y (by kernel_rfl)).trans q.t10,(Zc y (by kernel_rfl)).trans q.t11⟩) v ?_ (by decide) rfl rfl E
 clear u q v E
 iterate 16 (refine Zd ?_ (by
  intro c w q v hEq
  obtain ⟨t2,t3,t10,t11⟩:=q
  obtain ⟨a1,g,lt,le,c0,c1,c2,c3,c4,h,lt2,le2,d0,d1,d2,d3,d4,k1⟩:=v
  have L:=evc c
  have K:=evf c
  dsimp only [Jjw,Jh2,Jec,nth,Zbm,Za2,Jc] at hEq |-
  first
  | exact ⟨by simp only [hEq],.inr ⟨by first | exact .inl rfl | exact .inr rfl,rfl⟩⟩
  | ((try refine ⟨by simp only [hEq],.inl ⟨rfl,?_⟩⟩);first | (refine Zk Tryz.call46 k1 ?_;simp only [List.map_toArray,List.map_cons,List.map_nil,hEq];done) | (refine .inl fun pos I=>?_;(clear k1;dsimp only [Sig.oper];generalize c.eval=ρ at *;go_simp;done)) | (refine .inl fun pos I=>?_;clear k1;dsimp only [Sig.oper];generalize c.eval=ρ at *;go_simp;simp only [decide_eq_true_eq,decide_eq_false_iff_not] at *;omega))))
 exact Zf
noncomputable def Jed  : Array Oper:=Zy Tryz.f23 10
def Jh4  : List Sig:=[⟨45,.load 25 (.tmp 3),25,none⟩,⟨46,.fieldAddr 25 (.tmp 2) 0,0,none⟩,⟨47,.load 22 (.tmp 46),22,none⟩,⟨48,.move (.tmp 7),3,none⟩,⟨49,.indexAddr 22 (.tmp 47) (.tmp 48),0,none⟩,⟨50,.fieldAddr 47 (.tmp 49) 0,0,none⟩,⟨51,.load 2 (.tmp 50),2,none⟩,⟨52,.call { callee:=.value (.func 44),args:=#[.tmp 45,.tmp 51],argTypes:=#[25,2] },3,none⟩,⟨53,.binOp .lss 3 (.tmp 52) (.const (.int .i64 0)) 3,4,none⟩]
theorem Jh5  : Jh Jed=Jh4.map some:=by kernel_rfl
def Jjx  : List (List Nat):=[[],[],[1],[],[2,3],[4],[5],[0,6],[7]]
structure Zui (A H d off kl kc j:Nat) (x r:Int) (b0 l o p:Value) (b:Bool) (c:Act):Prop where
 t2:c.eval (.tmp 2)=.pointer (some ⟨A,0,none⟩)
 t3:c.eval (.tmp 3)=.pointer (some ⟨H,0,none⟩)
 t7:c.eval (.tmp 7)=.int .i64 (j:Int)
def Jee (A H d off kl kc j:Nat) (x r:Int) (b0 l o p:Value) (b:Bool):List Value:=[.agg #[b0,l,o,p],.pointer (some ⟨A,0,none⟩),.slice (some ⟨d,off,none⟩) kl kc,.int .i64 (j:Int),.pointer (some ⟨d,off+j*3,none⟩),.pointer (some ⟨d,off+j*3,none⟩),.int .i64 x,.int .i64 r,.bool b]
structure Zm1 (A H d off kl kc j:Nat) (x r:Int) (b0 l o p:Value) (b:Bool) (w:World):Prop where
 h0:w.cell? ⟨H,0,none⟩=some (b0)
 h1:w.cell? ⟨H,1,none⟩=some (l)
 h2:w.cell? ⟨H,2,none⟩=some (o)
 h3:w.cell? ⟨H,3,none⟩=some (p)
 g:w.cell? ⟨A,0,none⟩=some (.slice (some ⟨d,off,none⟩) kl kc)
 lt:j<kl
 le:kl<=9223372036854775807
 c0:w.cell? ⟨d,off+j*3,none⟩=some (.int .i64 x)
 k1:Calls Tryz.prog 44 #[.agg #[b0,l,o,p],.int .i64 x] w fun e w'=>e=.returned (.int .i64 r)/\Below w.heap.size w w'
 a1:decide (r<0)=b
theorem Zj7 (A H d off kl kc j:Nat) (x r:Int) (b0 l o p:Value) (b:Bool) (Q:Exit->Act->World->Prop) (base:Act) (t:World) (u:base.tmps.size=165) (q:Zui A H d off kl kc j x r b0 l o p b base)
  (v:∀ w,Below t.heap.size t w->Zm1 A H d off kl kc j x r b0 l o p b w) (E:∀ c w,Zaf Jed base c->Below t.heap.size t w->c.eval (.tmp 53)=.bool b->Q .normal c w):(Code.region 10 Jed true).wp Tryz.prog Q base t:=by
 refine Zn (B:=Zui A H d off kl kc j x r b0 l o p b) (T:=Zm1 A H d off kl kc j x r b0 l o p b) (n:=9) (k:=8) Jh4 Jjx (Jee A H d off kl kc j x r b0 l o p b) Jh5 rfl (by kernel_rfl) (by kernel_rfl) (by kernel_rfl) (by rw [u];kernel_rfl) (fun c y=>⟨(Zc y (by kernel_rfl)).trans q.t2,(Zc y (by kernel_rfl)).trans q.t3,(Zc y (by kernel_rfl)).trans q.t7⟩) v ?_ (by decide) rfl rfl E
 clear u q v E
 iterate 9 (refine Zd ?_ (by
  intro c w q v hEq
  obtain ⟨t2,t3,t7⟩:=q
  obtain ⟨h0,h1,h2,h3,g,lt,le,c0,k1,a1⟩:=v
  have L:=evc c
  have K:=evf c
  dsimp only [Jjx,Jh4,Jee,nth,Zbm,Za2,Jc] at hEq |-
  first
  | exact ⟨by simp only [hEq],.inr ⟨by first | exact .inl rfl | exact .inr rfl,rfl⟩⟩
  | ((try refine ⟨by simp only [hEq],.inl ⟨rfl,?_⟩⟩);first | (refine Zk Tryz.call44 k1 ?_;simp only [List.map_toArray,List.map_cons,List.map_nil,hEq];done) | (refine .inl fun pos I=>?_;(clear k1;dsimp only [Sig.oper];generalize c.eval=ρ at *;go_simp;done)) | (refine .inl fun pos I=>?_;clear k1;dsimp only [Sig.oper];generalize c.eval=ρ at *;go_simp;simp only [decide_eq_true_eq,decide_eq_false_iff_not] at *;omega))))
 exact Zf
noncomputable def Jhv  : Array Oper:=Zy Tryz.f23 15
def Jh6  : List Sig:=[⟨71,.load 25 (.tmp 2),25,none⟩,⟨72,.fieldAddr 25 (.tmp 3) 0,0,none⟩,⟨73,.load 22 (.tmp 72),22,none⟩,⟨74,.move (.tmp 8),3,none⟩,⟨75,.indexAddr 22 (.tmp 73) (.tmp 74),0,none⟩,⟨76,.fieldAddr 47 (.tmp 75) 0,0,none⟩,⟨77,.load 2 (.tmp 76),2,none⟩,⟨78,.call { callee:=.value (.func 44),args:=#[.tmp 71,.tmp 77],argTypes:=#[25,2] },3,none⟩,⟨9,.assign (.tmp 78),3,none⟩]
theorem Jh7  : Jh Jhv=Jh6.map some:=by kernel_rfl
def Jjy  : List (List Nat):=[[],[],[1],[],[2,3],[4],[5],[0,6],[7]]
structure Zuj (A H d off kl kc j:Nat) (x r:Int) (b0 l o p:Value) (c:Act):Prop where
 t2:c.eval (.tmp 2)=.pointer (some ⟨A,0,none⟩)
 t3:c.eval (.tmp 3)=.pointer (some ⟨H,0,none⟩)
 t8:c.eval (.tmp 8)=.int .i64 (j:Int)
def Jef (A H d off kl kc j:Nat) (x r:Int) (b0 l o p:Value):List Value:=[.agg #[b0,l,o,p],.pointer (some ⟨H,0,none⟩),.slice (some ⟨d,off,none⟩) kl kc,.int .i64 (j:Int),.pointer (some ⟨d,off+j*3,none⟩),.pointer (some ⟨d,off+j*3,none⟩),.int .i64 x,.int .i64 r,.int .i64 r]
structure Zm2 (A H d off kl kc j:Nat) (x r:Int) (b0 l o p:Value) (w:World):Prop where
 h0:w.cell? ⟨A,0,none⟩=some (b0)
 h1:w.cell? ⟨A,1,none⟩=some (l)
 h2:w.cell? ⟨A,2,none⟩=some (o)
 h3:w.cell? ⟨A,3,none⟩=some (p)
 g:w.cell? ⟨H,0,none⟩=some (.slice (some ⟨d,off,none⟩) kl kc)
 lt:j<kl
 le:kl<=9223372036854775807
 c0:w.cell? ⟨d,off+j*3,none⟩=some (.int .i64 x)
 k1:Calls Tryz.prog 44 #[.agg #[b0,l,o,p],.int .i64 x] w fun e w'=>e=.returned (.int .i64 r)/\Below w.heap.size w w'
theorem Zsq (A H d off kl kc j:Nat) (x r:Int) (b0 l o p:Value) (Q:Exit->Act->World->Prop) (base:Act) (t:World) (u:base.tmps.size=165) (q:Zuj A H d off kl kc j x r b0 l o p base)
  (v:∀ w,Below t.heap.size t w->Zm2 A H d off kl kc j x r b0 l o p w) (E:∀ c w,Zaf Jhv base c->Below t.heap.size t w->c.eval (.tmp 9)=.int .i64 r->Q .normal c w):(Code.region 15 Jhv true).wp Tryz.prog Q base t:=by
 refine Zn (B:=Zuj A H d off kl kc j x r b0 l o p) (T:=Zm2 A H d off kl kc j x r b0 l o p) (n:=9) (k:=8) Jh6 Jjy (Jef A H d off kl kc j x r b0 l o p) Jh7 rfl (by kernel_rfl) (by kernel_rfl) (by kernel_rfl) (by rw [u];kernel_rfl) (fun c y=>⟨(Zc y (by kernel_rfl)).trans q.t2,(Zc y (by kernel_rfl)).trans q.t3,(Zc y (by kernel_rfl)).trans q.t8⟩) v ?_ (by decide) rfl rfl E
 clear u q v E
 iterate 9 (refine Zd ?_ (by
  intro c w q v hEq
  obtain ⟨t2,t3,t8⟩:=q
  obtain ⟨h0,h1,h2,h3,g,lt,le,c0,k1⟩:=v
  have L:=evc c
  have K:=evf c
  dsimp only [Jjy,Jh6,Jef,nth,Zbm,Za2,Jc] at hEq |-
  first
  | exact ⟨by simp only [hEq],.inr ⟨by first | exact .inl rfl | exact .inr rfl,rfl⟩⟩
  | ((try refine ⟨by simp only [hEq],.inl ⟨rfl,?_⟩⟩);first | (refine Zk Tryz.call44 k1 ?_;simp only [List.map_toArray,List.map_cons,List.map_nil,hEq];done) | (refine .inl fun pos I=>?_;(clear k1;dsimp only [Sig.oper];generalize c.eval=ρ at *;go_simp;done)))))
 exact Zf
noncomputable def Jeg  : Array Oper:=Zy Tryz.f23 16
def Jh8  : List Sig:=[⟨79,.move (.tmp 9),3,none⟩,⟨80,.binOp .lss 3 (.tmp 79) (.const (.int .i64 0)) 3,4,none⟩,⟨81,.move (.tmp 80),4,none⟩,⟨82,.fieldAddr 25 (.tmp 2) 0,0,some (2,false)⟩,⟨83,.load 22 (.tmp 82),22,some (2,false)⟩,⟨84,.move (.tmp 9),3,some (2,false)⟩,⟨85,.indexAddr 22 (.tmp 83) (.tmp 84),0,some (2,false)⟩,⟨86,.load 47 (.tmp 85),47,some (2,false)⟩,⟨87,.fieldAddr 25 (.tmp 3) 0,0,some (2,false)⟩,⟨88,.load 22 (.tmp 87),22,some (2,false)⟩,⟨89,.move (.tmp 8),3,some (2,false)⟩,⟨90,.indexAddr 22 (.tmp 88) (.tmp 89),0,some (2,false)⟩,⟨91,.load 47 (.tmp 90),47,some (2,false)⟩,⟨92,.call { callee:=.value (.func 45),args:=#[.tmp 86,.tmp 91],argTypes:=#[47,47] },4,some (2,false)⟩,⟨93,.unOp .not 4 (.tmp 92),4,some (2,false)⟩,⟨94,.pick (.tmp 81) (.const (.bool true)) (.tmp 93),4,none⟩]
theorem Jh9  : Jh Jeg=Jh8.map some:=by kernel_rfl
def Jjz  : List (List Nat):=[[],[0],[1],[2],[2,3],[2],[2,4,5],[2,6],[2],[2,8],[2],[2,9,10],[2,11],[2,7,12],[2,13],[2,14]]
structure Zuk (A H d off kl kc f a i s j m:Nat) (v0 v1 v2 C z D:Value) (b:Bool) (c:Act):Prop where
 t2:c.eval (.tmp 2)=.pointer (some ⟨A,0,none⟩)
 t3:c.eval (.tmp 3)=.pointer (some ⟨H,0,none⟩)
 t8:c.eval (.tmp 8)=.int .i64 (j:Int)
 t9:c.eval (.tmp 9)=.int .i64 (m:Int)
def Jeh (A H d off kl kc f a i s j m:Nat) (v0 v1 v2 C z D:Value) (b:Bool):List Value:=[.int .i64 (m:Int),.bool false,.bool false,.pointer (some ⟨A,0,none⟩),.slice (some ⟨d,off,none⟩) kl kc,.int .i64 (m:Int),.pointer (some ⟨d,off+m*3,none⟩),.agg #[v0,v1,v2],.pointer (some ⟨H,0,none⟩),.slice (some ⟨f,a,none⟩) i s,.int .i64 (j:Int),.pointer (some ⟨f,a+j*3,none⟩),.agg #[C,z,D],.bool b,.bool (!b),.bool (!b)]
structure Zm3 (A H d off kl kc f a i s j m:Nat) (v0 v1 v2 C z D:Value) (b:Bool) (w:World):Prop where
 a1:decide ((m:Int)<0)=false
 g:w.cell? ⟨A,0,none⟩=some (.slice (some ⟨d,off,none⟩) kl kc)
 lt:m<kl
 le:kl<=9223372036854775807
 c0:w.cell? ⟨d,off+m*3,none⟩=some (v0)
 c1:w.cell? ⟨d,off+m*3+1,none⟩=some (v1)
 c2:w.cell? ⟨d,off+m*3+2,none⟩=some (v2)
 h:w.cell? ⟨H,0,none⟩=some (.slice (some ⟨f,a,none⟩) i s)
 lt2:j<i
 le2:i<=9223372036854775807
 d0:w.cell? ⟨f,a+j*3,none⟩=some (C)
 d1:w.cell? ⟨f,a+j*3+1,none⟩=some (z)
 d2:w.cell? ⟨f,a+j*3+2,none⟩=some (D)
 k1:Calls Tryz.prog 45 #[.agg #[v0,v1,v2],.agg #[C,z,D]] w fun e w'=>e=.returned (.bool b)/\Below w.heap.size w w'
theorem Zj8 (A H d off kl kc f a i s j m:Nat) (v0 v1 v2 C z D:Value) (b:Bool) (Q:Exit->Act->World->Prop) (base:Act) (t:World) (u:base.tmps.size=165) (q:Zuk A H d off kl kc f a i s j m v0 v1 v2 C z D b base)
  (v:∀ w,Below t.heap.size t w->Zm3 A H d off kl kc f a i s j m v0 v1 v2 C z D b w) (E:∀ c w,Zaf Jeg base c->Below t.heap.size t w->c.eval (.tmp 94)=.bool (!b)->Q .normal c w):(Code.region 16 Jeg true).wp Tryz.prog Q base t:=by
 refine Zn (B:=Zuk A H d off kl kc f a i s j m v0 v1 v2 C z D b) (T:=Zm3 A H d off kl kc f a i s j m v0 v1 v2 C z D b) (n:=16) (k:=15) Jh8 Jjz (Jeh A H d off kl kc f a i s j m v0 v1 v2 C z D b) Jh9 rfl (by kernel_rfl) (by kernel_rfl) (by kernel_rfl) (by rw [u];kernel_rfl) (fun c y=>⟨(Zc y (by kernel_rfl)).trans q.t2,(Zc y (by kernel_rfl)).trans q.t3,(Zc y (by kernel_rfl)).trans q.t8,(Zc y (by kernel_rfl)).trans q.t9⟩) v ?_ (by decide) rfl rfl E
 clear u q v E
 iterate 16 (refine Zd ?_ (by
  intro c w q v hEq
  obtain ⟨t2,t3,t8,t9⟩:=q
  obtain ⟨a1,g,lt,le,c0,c1,c2,h,lt2,le2,d0,d1,d2,k1⟩:=v
  have L:=evc c
  have K:=evf c
  dsimp only [Jjz,Jh8,Jeh,nth,Zbm,Za2,Jc] at hEq |-
  first
  | exact ⟨by simp only [hEq],.inr ⟨by first | exact .inl rfl | exact .inr rfl,rfl⟩⟩
  | ((try refine ⟨by simp only [hEq],.inl ⟨rfl,?_⟩⟩);first | (refine Zk Tryz.call45 k1 ?_;simp only [List.map_toArray,List.map_cons,List.map_nil,hEq];done) | (refine .inl fun pos I=>?_;(clear k1;dsimp only [Sig.oper];generalize c.eval=ρ at *;go_simp;done)) | (refine .inl fun pos I=>?_;clear k1;dsimp only [Sig.oper];generalize c.eval=ρ at *;go_simp;simp only [decide_eq_true_eq,decide_eq_false_iff_not] at *;omega))))
 exact Zf
end
