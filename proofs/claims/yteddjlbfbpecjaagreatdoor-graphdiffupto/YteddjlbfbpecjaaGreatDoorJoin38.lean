import Derived.Test.YteddjlbfbpecjaaGreatDoorJoin37
namespace Go.Proofs.YteddjlbfbpecjaaGreatDoor
set_option maxHeartbeats 4000000
set_option maxRecDepth 100000
set_option linter.all false
section
open Go.RowKit Go.Shelf
attribute [local go_sem] Oper.semAt_some
theorem Zdw.app' {ty base c9 X n:Nat} {w:World} {v:Value} {cs:List Zs} {ds:List Value} {c:Zs} (h:Zdw base w v cs) (hs:Zfm w v.ownBlock ds c) (hr:Rec w X ds.toArray 51) (he:cs.length=n) (hn:n+1<=1000000) (z:base<=w.heap.size) :
  ∃ g cap w',(Builtin.append_ #[36,36] ty #[v,.slice (some ⟨X,0,none⟩) 1 c9]).run Tryz.prog w=.ok (.slice (some ⟨g,0,none⟩) (n+1) cap) w'/\Zdw base w' (.slice (some ⟨g,0,none⟩) (n+1) cap) (cs++[c])/\Below base w w':=by
 subst he
 exact h.app hs hr hn z
theorem Zwf {base n:Nat} {v:Value} {w:World} {G:List Int} {j:Nat} {x:Int} (h:w.ownsRow base 2 1 v n (G.map (.int .i64 ·))) (B:G[j]?=some x):∃ g cap,v=.slice (some ⟨g,0,none⟩) n cap/\g<w.heap.size/\n<=cap/\cap<=9223372036854775807/\w.cell? ⟨g,j,none⟩=some (.int .i64 x):=by
 have h':=h
 have hl:=(List.getElem?_eq_some_iff.1 B).1
 obtain ⟨h0,⟨_,h2⟩ | ⟨g,cap,cur,rfl,_,hg,hc,hm,_⟩⟩:=h
 ·rw [List.length_map] at h0;omega
 ·refine ⟨g,cap,rfl,(Array.getElem?_eq_some_iff.1 hg).1,hc,by simp only [maxLen] at hm;omega,?_⟩
  have:=h'.cells (g:=g) rfl j (.int .i64 x) (by rw [List.getElem?_map,B];rfl)
  have l8:(⟨g,0,none⟩:Addr).add j=⟨g,j,none⟩:=by unfold Addr.add;split<;>simp_all
  rwa [l8] at this
theorem Za3 {α:Type} (key:α->Int) (a b:List α):(Jr key a b).length<=a.length:=by
 unfold Jr;rw [List.length_map];exact List.length_filter_le _ _
theorem Zbr {α:Type} (key:α->Int) (same:α->α->Bool) (a b:List α):(Zbu key same a b).length<=b.length:=List.length_filter_le _ _
theorem Zlx {α:Type} {key:α->Int} {same:α->α->Bool} {a b:List α} {x:α} (h:x ∈ Zbu key same a b):x ∈ b:=(List.mem_filter.1 h).1
theorem Zhu {α:Type} (f:α->Zs) {l:List α} {j:Nat} {x:α} (h:l[j]?=some x) (pre:List Zs):pre++(l.take (j+1)).map f=(pre++(l.take j).map f)++[f x]:=by
 rw [List.take_add_one,h,List.map_append,List.append_assoc];rfl
theorem Zhv {α:Type} (f:α->Zs) (pre:List Zs) (l:List α) (j:Nat):(pre++(l.take j).map f).length<=pre.length+l.length:=by
 rw [List.length_append,List.length_map,List.length_take];omega
def Je7 (ok:Bool) (cs:List Zs) (base:Nat) (w:World) (v:Value) (er:Int):Prop:=(ok=true->er=0/\Zdw base w v cs)/\(ok=false->er=2/\v=.slice none 0 0)
set_option maxRecDepth 100000 in
set_option maxHeartbeats 32000000 in
theorem Zzy (a b:Zt) (v u:Value) (w:World) (hE:Env w) (hg:Zr w.heap.size w v a) (ho:Zr w.heap.size w u b) (ha:GF 60 a) (z:GF 60 b) :
  Calls Tryz.prog 20 #[v,u] w fun e w'=>∃ v' er,e=.returned (.tuple #[v',.int .i64 er])/\Below w.heap.size w w'/\Je7 (Jo a&&Jo b) (Zc4 a b) w.heap.size w' v' er:=by
 have fa:=ha.fit (by omega)
 have fb:=z.fit (by omega)
 have HE:=Zb (fun W (z:Below w.heap.size w W)=>hE.below z hE.room)
 have HG:=Zb (fun W (z:Below w.heap.size w W)=>(hg.below z))
 have HO:=Zb (fun W (z:Below w.heap.size w W)=>(ho.below z))
 have a8:=Zb (fun W (z:Below w.heap.size w W)=>Zdl a w.heap.size v W z.size (HE.out W z) (HG.out W z) fa.mild fa.nn fa.nr fa.ends)
 have a4:=Zb (fun W (z:Below w.heap.size w W)=>Zdl b w.heap.size u W z.size (HE.out W z) (HO.out W z) fb.mild fb.nn fb.nr fb.ends)
 have m6:=Zb ho.types
 have d2:=Zb fb
 have f4:=Zb (And.intro (And.intro ha.nl ha.rl) (And.intro z.nl z.rl))
 have n6:=Zb (fun W (z:Below w.heap.size w W) (c1:Jo a=true) (c2:Jo b=true) x y (B:Jt w.heap.size W x a.rels) (hy:Jt w.heap.size W y b.rels)=>Jbg a.rels b.rels w.heap.size x y W z.size (HE.out W z).tabs B hy (Za6 c1).2 (Za6 c2).2 fa.modR fb.modR ⟨by have:=f4.out;omega,by have:=f4.out;omega⟩)
 have k6:=Zb (fun W (z:Below w.heap.size w W) (c1:Jo a=true) (c2:Jo b=true) x y (B:Jj w.heap.size W x a.nodes) (hy:Jj w.heap.size W y b.nodes)=>Jbf a.nodes b.nodes w.heap.size x y W z.size (HE.out W z).tabs B hy (Za6 c1).1 (Za6 c2).1 fa.modN fb.modN ⟨by have:=f4.out;omega,by have:=f4.out;omega⟩)
 obtain ⟨k1,h8⟩:∃ x,Jo a=x:=⟨_,rfl⟩
 obtain ⟨k2,i1⟩:∃ x,Jo b=x:=⟨_,rfl⟩
 rw [h8] at a8 |-
 rw [i1] at a4 |-
 have i8:=Zb h8
 have n5:=Zb i1
 obtain ⟨na,nc,ra,rc,rfl,l3,j5⟩:=hg
 obtain ⟨j1,i4,j4,i2,rfl,l5,l4⟩:=ho
 have Y:=Zb (And.intro (And.intro l3 j5) (And.intro l5 l4))
 clear l3 j5 l5 l4 h8 i1 fa fb ha z hE
 generalize o0:a.nodes.length=nl at a8 HG Y |-
 generalize o1:a.rels.length=rl at a8 HG Y |-
 generalize j7:a.nn=nn at a8 HG |-
 generalize k7:a.nr=nr at a8 HG |-
 generalize l9:b.nodes.length=nl2 at a4 HO Y |-
 generalize m0:b.rels.length=rl2 at a4 HO Y |-
 generalize g5:b.nn=nn2 at a4 HO |-
 generalize g4:b.nr=nr2 at a4 HO |-
 have U:=Zb (And.intro (And.intro j7 k7) (And.intro g5 g4))
 clear o0 o1 j7 k7 l9 m0 g5 g4 HG HO
 go_enter Tryz.func20,Tryz.ntmps20
 go_upto_region 1 with fail
 generalize j0:World.alloc _ _=W1
 have d6:Hid (Below w.heap.size w W1):=by rw [<- j0];exact ((Below.refl _ _).alloc (Nat.le_refl _) _).alloc (by simp) _
 have S:=(Zl w #[.slice na nl nc,.slice ra rl rc,.int .i64 nn,.int .i64 nr] 25).alloc (.cells #[.slice j1 nl2 i4,.slice j4 rl2 i2,.int .i64 nn2,.int .i64 nr2] 25)
 have c5:=Zl (w.alloc (.cells #[.slice na nl nc,.slice ra rl rc,.int .i64 nn,.int .i64 nr] 25)) #[.slice j1 nl2 i4,.slice j4 rl2 i2,.int .i64 nn2,.int .i64 nr2] 25
 rw [j0] at S c5
 rw [World.size_alloc] at c5
 obtain ⟨A,hA⟩:∃ A,w.heap.size=A:=⟨_,rfl⟩
 rw [hA] at S c5
 rw [show (some ({ block:=w.heap.size,off:=0 }:Addr))=some ⟨A,0,none⟩ by rw [hA],show (some ({ block:=w.heap.size+1,off:=0 }:Addr))=some ⟨A+1,0,none⟩ by rw [hA]]
 have HX:Hid (∀ W,Below W1.heap.size W1 W->Rec W A #[.slice na nl nc,.slice ra rl rc,.int .i64 nn,.int .i64 nr] 25/\Rec W (A+1) #[.slice j1 nl2 i4,.slice j4 rl2 i2,.int .i64 nn2,.int .i64 nr2] 25):=fun W h=>⟨S.below h S.lt,c5.below h c5.lt⟩
 have a0:=S.cell 0 rfl
 have a1:=S.cell 1 rfl
 have a2:=S.cell 2 rfl
 have a3:=S.cell 3 rfl
 clear j0 S c5 hA
 go_wp2_with fail
 refine (a8.out W1 d6.out).mono ?_
 rintro e w2 ⟨rfl,m2⟩
 have c7:=Zb m2
 clear m2 a0 a1 a2 a3 a8
 cases k1 with
 | false =>
  go_wp2_with fail
  refine bodyPost_ret (v:=.tuple #[.slice none 0 0,.int .i64 2]) (by simp [results,Tryz.results20,go_sem]) rfl ⟨_,_,rfl,Za d6.out c7.out,⟨fun h=>by simp at h,fun _=>⟨rfl,rfl⟩⟩⟩
 | true =>
  obtain ⟨_,d4⟩:=HX.out w2 c7.out
  have b0:=d4.cell 0 rfl
  have b1:=d4.cell 1 rfl
  have b2:=d4.cell 2 rfl
  have b3:=d4.cell 3 rfl
  clear d4
  go_wp2_with fail
  refine (a4.out w2 (Za d6.out c7.out)).mono ?_
  rintro e w3 ⟨rfl,j9⟩
  have d9:=Zb (Za c7.out j9)
  clear j9 b0 b1 b2 b3 a4 c7
  cases k2 with
  | false =>
   go_wp2_with fail
   refine bodyPost_ret (v:=.tuple #[.slice none 0 0,.int .i64 2]) (by simp [results,Tryz.results20,go_sem]) rfl ⟨_,_,rfl,Za d6.out d9.out,⟨fun h=>by simp at h,fun _=>⟨rfl,rfl⟩⟩⟩
  | true =>
   have M:=Za d6.out d9.out
   have f8:=Zb (n6.out w3 M i8.out n5.out _ _ (Y.out.1.2.below M) (Y.out.2.2.below M))
   have d7:=Zb (fun W (z:Below w3.heap.size w3 W)=>k6.out W (Za M z) i8.out n5.out _ _ (Y.out.1.1.below (Za M z)) (Y.out.2.1.below (Za M z)))
   have i9:=Zb (Ztj i8.out b)
   have K:Hid ((Jr Jg.id a.rels b.rels).length<=60/\(Jr Zo.id a.nodes b.nodes).length<=60/\(Zbu Zo.id Zu a.nodes b.nodes).length<=60/\(Zbu Jg.id Je a.rels b.rels).length<=60):=by
    have h1:=Za3 Jg.id a.rels b.rels
    have h2:=Za3 Zo.id a.nodes b.nodes
    have h3:=Zbr Zo.id Zu a.nodes b.nodes
    have h4:=Zbr Jg.id Je a.rels b.rels
    have:=f4.out
    show _/\_
    omega
   have b8:Hid (Zc4 a b=(Jr Jg.id a.rels b.rels).map Jy++((Jr Zo.id a.nodes b.nodes).map Zak++((Zbu Zo.id Zu a.nodes b.nodes).map Zbt++((Zbu Jg.id Je a.rels b.rels).map Zc3++if a.nn != b.nn||a.nr != b.nr then [Zun b.nn b.nr] else [])))):=rfl
   have f2:Hid (∀ x ∈ Zbu Jg.id Je a.rels b.rels,x ∈ b.rels):=fun x B=>Zlx B
   have g2:Hid (∀ x ∈ Zbu Zo.id Zu a.nodes b.nodes,x ∈ b.nodes):=fun x B=>Zlx B
   rw [i9.out.2] at f8
   rw [i9.out.1] at d7
   generalize Jr Jg.id a.rels b.rels=G1 at f8 K b8
   generalize Jr Zo.id a.nodes b.nodes=G2 at d7 K b8
   generalize Zbu Zo.id Zu a.nodes b.nodes=P2 at d7 K b8 g2
   generalize Zbu Jg.id Je a.rels b.rels=P1 at f8 K b8 f2
   obtain ⟨k3,k0⟩:=HX.out w3 d9.out
   have a1:=k3.cell 1 rfl
   have b1:=k0.cell 1 rfl
   clear k3 k0 n6 k6 i9
   go_wp2_with fail
   refine f8.out.mono ?_
   rintro e w4 ⟨gr,pr,rfl,h9,k4,f0⟩
   have f3:=Zb f0
   have g1:=Zb h9
   have e7:Hid (Jt w4.heap.size w4 pr P1):=Zz5 k4 (f0.mono M.size) (Nat.le_trans M.size f0.size) fun r hr=>m6.out r (f2.out r hr)
   obtain ⟨m4,m8⟩:=HX.out w4 (Za d9.out f0)
   have a0:=m4.cell 0 rfl
   have b0:=m8.cell 0 rfl
   obtain ⟨p0,o2,rfl⟩:=Jn h9
   obtain ⟨o7,p2,l6,_⟩:=e7.out
   subst l6
   generalize l7:G1.length=n1 at g1 K |-
   generalize m7:P1.length=n4 at e7 K |-
   have a9:=Zb l7
   have d1:=Zb m7
   clear h9 k4 f0 m4 m8 a1 b1 f8 l7 m7
   go_wp2_with fail
   refine (d7.out w4 f3.out).mono ?_
   rintro e C ⟨gn,pn,rfl,i5,n0,T⟩
   have p4:=Zb T
   have m3:=Zb i5
   have g6:Hid (Jj C.heap.size C pn P2):=Zz4 n0 (T.mono (Nat.le_trans M.size f3.out.size)) (Nat.le_trans M.size (Nat.le_trans f3.out.size T.size))
   replace e7:Hid (Jt C.heap.size C _ P1):=(e7.out.below T).mono T.size
   replace g1:=Zb (Jf g1.out fun g _ hg=>T.block g hg)
   obtain ⟨o5,p1,rfl⟩:=Jn i5
   obtain ⟨o3,o6,k5,_⟩:=g6.out
   subst k5
   generalize j6:G2.length=n2 at m3 K |-
   generalize l1:P2.length=n3 at g6 K |-
   have b7:=Zb j6
   have b9:=Zb l1
   have o4:=Zb (Za (Za d9.out f3.out) T)
   have j3:=Zb (Za M (Za f3.out T))
   clear i5 n0 T a0 b0 d7 j6 l1 M
   go_wp2_with fail
   go_loopw [10,45] (fun o i wr=>∃ j:Nat,j<=n1/\i=.int .i64 j/\Below C.heap.size C wr/\Zdw C.heap.size wr o (([]:List Zs)++(G1.take j).map Jy)) (fun _ i _=>n1 - (intOf i).toNat)
   case atStart=>exact ⟨0,Nat.zero_le _,rfl,Below.refl _ _,Zri _ _⟩
   case round =>
    obtain ⟨j,hj,rfl,O,q⟩:=hrel
    have d:=Zb O
    have s:=Zb q
    obtain ⟨oa,oc,rfl⟩:=q.slice
    obtain ⟨ol,t⟩:∃ n,(([]:List Zs)++(G1.take j).map Jy).length=n:=⟨_,rfl⟩
    have a6:ol<=400:=by
     have h1:=Zhv Jy (([]:List Zs)) G1 j
     rw [t] at h1
     have h2:=K.out
     have h3:=a9.out
     simp only [List.length_nil] at h1
     omega
    rw [t] at s |-
    have N:=Zb t
    clear O q t
    by_cases hlt:j<n1
    ·have P:(j:Int)<n1:=by omega
     obtain ⟨x,B⟩:∃ x,G1[j]?=some x:=⟨_,List.getElem?_eq_getElem (by have:=a9.out;omega)⟩
     obtain ⟨g0,c0,he,i6,d8,i0,hc⟩:=Zwf g1.out B
     obtain ⟨rfl,rfl⟩:p0=some ⟨g0,0,none⟩/\o2=c0:=by simpa using he
     have g7:wr.cell? ⟨g0,j,none⟩=some (.int .i64 x):=(d.out.cell (p:=⟨g0,j,none⟩) i6).trans hc
     have a5:=Zb B
     clear he B hc
     have m:Below wr.heap.size wr (wr.alloc (.cells #[.int .i64 3,.int .i64 x,.int .i64 0,.int .i64 0,.slice none 0 0,.slice none 0 0,.int .i64 0,.int .i64 0,.int .i64 0,.string ⟨#[]⟩,.slice none 0 0] 51)):=(Below.refl _ _).alloc (Nat.le_refl _) _
     have I:=d.out.size
     have F:=m.size
     obtain ⟨g9,c9,w9,r9,o9,E⟩:=(s.out.below m).app' (ty:=36) (c9:=1) (Zcv _ _ 3 x 0) (Zl wr #[.int .i64 3,.int .i64 x,.int .i64 0,.int .i64 0,.slice none 0 0,.slice none 0 0,.int .i64 0,.int .i64 0,.int .i64 0,.string ⟨#[]⟩,.slice none 0 0] 51) N.out (by omega) (by omega)
     have Q:=Zb o9
     have R:Hid (Below C.heap.size C w9):=(Za d.out m).trans E
     clear o9 E m I F
     go_wp2_with (at_builtin;refine Zp rfl _ _ 36 rfl rfl rfl r9 ?_)
     go_roundw
     case rel=>exact ⟨j+1,by omega,by go_num,R.out,by rw [Zhu _ a5.out];exact Q.out⟩
     case measure=>simp [intOf];omega
    ·have P:¬ (j:Int)<n1:=by omega
     obtain rfl:j=n1:=by omega
     have D:Hid (Zdw C.heap.size wr (.slice oa ol oc) ([]++G1.map Jy)):=by
      have:=s.out
      rwa [<- a9.out,List.take_length] at this
     obtain ⟨W1,hW⟩:∃ W,wr=W:=⟨_,rfl⟩
     rw [hW] at d D |-
     have n7:=Zb d.out
     have k8:=Zb D.out
     clear hW d D s N hlt a6
     go_wp2_with fail
     go_loopw [10,57] (fun o i wr=>∃ j:Nat,j<=n2/\i=.int .i64 j/\Below C.heap.size C wr/\Zdw C.heap.size wr o (G1.map Jy++(G2.take j).map Zak)) (fun _ i _=>n2 - (intOf i).toNat)
     case atStart=>exact ⟨0,Nat.zero_le _,rfl,n7.out,by simpa using k8.out⟩
     case round =>
      obtain ⟨j,hj,rfl,O,q⟩:=hrel
      have d:=Zb O
      have s:=Zb q
      obtain ⟨oa,oc,rfl⟩:=q.slice
      obtain ⟨ol,t⟩:∃ n,(G1.map Jy++(G2.take j).map Zak).length=n:=⟨_,rfl⟩
      have a6:ol<=400:=by
       have h1:=Zhv Zak (G1.map Jy) G2 j
       rw [t] at h1
       have h2:=K.out
       have h3:=b7.out
       have h4:=a9.out
       simp only [List.length_map] at h1
       omega
      rw [t] at s |-
      have N:=Zb t
      clear O q t
      by_cases hlt:j<n2
      ·have P:(j:Int)<n2:=by omega
       obtain ⟨x,B⟩:∃ x,G2[j]?=some x:=⟨_,List.getElem?_eq_getElem (by have:=b7.out;omega)⟩
       obtain ⟨g0,c0,he,i6,d8,i0,hc⟩:=Zwf m3.out B
       obtain ⟨rfl,rfl⟩:o5=some ⟨g0,0,none⟩/\p1=c0:=by simpa using he
       have g7:wr.cell? ⟨g0,j,none⟩=some (.int .i64 x):=(d.out.cell (p:=⟨g0,j,none⟩) i6).trans hc
       have a5:=Zb B
       clear he B hc
       have m:Below wr.heap.size wr (wr.alloc (.cells #[.int .i64 2,.int .i64 x,.int .i64 0,.int .i64 0,.slice none 0 0,.slice none 0 0,.int .i64 0,.int .i64 0,.int .i64 0,.string ⟨#[]⟩,.slice none 0 0] 51)):=(Below.refl _ _).alloc (Nat.le_refl _) _
       have I:=d.out.size
       have F:=m.size
       obtain ⟨g9,c9,w9,r9,o9,E⟩:=(s.out.below m).app' (ty:=36) (c9:=1) (Zcv _ _ 2 x 0) (Zl wr #[.int .i64 2,.int .i64 x,.int .i64 0,.int .i64 0,.slice none 0 0,.slice none 0 0,.int .i64 0,.int .i64 0,.int .i64 0,.string ⟨#[]⟩,.slice none 0 0] 51) N.out (by omega) (by omega)
       have Q:=Zb o9
       have R:Hid (Below C.heap.size C w9):=(Za d.out m).trans E
       clear o9 E m I F
       go_wp2_with (at_builtin;refine Zp rfl _ _ 36 rfl rfl rfl r9 ?_)
       go_roundw
       case rel=>exact ⟨j+1,by omega,by go_num,R.out,by rw [Zhu _ a5.out];exact Q.out⟩
       case measure=>simp [intOf];omega
      ·have P:¬ (j:Int)<n2:=by omega
       obtain rfl:j=n2:=by omega
       have D:Hid (Zdw C.heap.size wr (.slice oa ol oc) (G1.map Jy++G2.map Zak)):=by
        have:=s.out
        rwa [<- b7.out,List.take_length] at this
       obtain ⟨W2,hW⟩:∃ W,wr=W:=⟨_,rfl⟩
       rw [hW] at d D |-
       have k9:=Zb d.out
       have l2:=Zb D.out
       clear hW d D s N hlt a6
       go_wp2_with fail
       go_loopw [10,69] (fun o i wr=>∃ j:Nat,j<=n3/\i=.int .i64 j/\Below C.heap.size C wr/\Zdw C.heap.size wr o ((G1.map Jy++G2.map Zak)++(P2.take j).map Zbt)) (fun _ i _=>n3 - (intOf i).toNat)
       case atStart=>exact ⟨0,Nat.zero_le _,rfl,k9.out,by simpa using l2.out⟩
       case round =>
        obtain ⟨j,hj,rfl,O,q⟩:=hrel
        have d:=Zb O
        have s:=Zb q
        obtain ⟨oa,oc,rfl⟩:=q.slice
        obtain ⟨ol,t⟩:∃ n,((G1.map Jy++G2.map Zak)++(P2.take j).map Zbt).length=n:=⟨_,rfl⟩
        have a6:ol<=400:=by
         have h1:=Zhv Zbt ((G1.map Jy++G2.map Zak)) P2 j
         rw [t] at h1
         have h2:=K.out
         have h3:=b9.out
         have h4:=a9.out
         have h5:=b7.out
         simp only [List.length_append,List.length_map] at h1
         omega
        rw [t] at s |-
        have N:=Zb t
        clear O q t
        by_cases hlt:j<n3
        ·have P:(j:Int)<n3:=by omega
         obtain ⟨x,B⟩:∃ x,P2[j]?=some x:=⟨_,List.getElem?_eq_getElem (by have:=b9.out;omega)⟩
         have I:=d.out.size
         obtain ⟨ea,ec,he,d8,i0,c6⟩:=g6.out
         obtain ⟨rfl,rfl⟩:o3=ea/\o6=ec:=by
          injection he with e1 _ e2;exact ⟨e1,e2⟩
         obtain ⟨bl,off,rfl,g8,b4⟩:=c6.resolve_left (by intro e;rw [e] at B;simp at B)
         replace b4:=(b4 j x B).below d.out g8
         rw [b9.out] at d8
         obtain ⟨la,lc,pv,⟨c0,c1,c2⟩,hs,hk,hp⟩:=b4
         obtain ⟨pa,pc,rfl⟩:=Zau hp
         have c8:Ja C.heap.size wr (.agg #[.int .i64 x.id,.slice la x.labels.length lc,.slice pa x.props.length pc]) x:=⟨la,lc,pa,pc,rfl,hs,hk,hp⟩
         have e6:=Zb (fun W (z:Below wr.heap.size wr W)=>Zg9 x _ C.heap.size W (by have:=z.size;omega) (c8.below (z.mono I)) (d2.out.ofN x (g2.out x (List.mem_of_getElem? B))).1 (d2.out.ofN x (g2.out x (List.mem_of_getElem? B))).2.1 (d2.out.ofN x (g2.out x (List.mem_of_getElem? B))).2.2)
         have a5:=Zb B
         clear he c6 B c8 hs hp
         go_upto_region 19 with fail
         generalize b5:World.alloc _ _=W6
         have e5:Below wr.heap.size wr W6:=by rw [<- b5];exact (Below.refl _ _).alloc (Nat.le_refl _) _
         have L:=Zl wr #[.int .i64 x.id,.slice la x.labels.length lc,.slice pa x.props.length pc] 47
         rw [b5] at L
         have a7:=Zb e5
         have e0:=L.cell 0 rfl
         have e1:=L.cell 1 rfl
         have e2:=L.cell 2 rfl
         clear b5 L e5 c0 c1 c2
         go_wp2_with fail
         refine (e6.out W6 a7.out).mono ?_
         rintro e w7 ⟨n8,rfl,d5,f5⟩
         have V:∀ k,(Value.slice oa ol oc).ownBlock=some k->k<W6.heap.size:=fun k hk=>Nat.lt_of_lt_of_le (s.out.lt k hk).2 a7.out.size
         obtain ⟨j8,l0,d0,d3,rfl,f6⟩:=Zth d5 V
         have H:=Za a7.out f5
         have m:Below w7.heap.size w7 (w7.alloc (.cells #[.int .i64 0,.int .i64 0,.int .i64 0,.int .i64 x.id,.slice j8 x.labels.length l0,.slice d0 x.props.length d3,.int .i64 0,.int .i64 0,.int .i64 0,.string ⟨#[]⟩,.slice none 0 0] 51)):=(Below.refl _ _).alloc (Nat.le_refl _) _
         have F:=H.size
         have f1:=m.size
         obtain ⟨g9,c9,w9,r9,o9,E⟩:=((s.out.below H).below m).app' (ty:=36) (c9:=1) (f6.on (Zhw m _) (.inl rfl)) (Zl w7 #[.int .i64 0,.int .i64 0,.int .i64 0,.int .i64 x.id,.slice j8 x.labels.length l0,.slice d0 x.props.length d3,.int .i64 0,.int .i64 0,.int .i64 0,.string ⟨#[]⟩,.slice none 0 0] 51) N.out (by omega) (by omega)
         have Q:=Zb o9
         have R:Hid (Below C.heap.size C w9):=(Za d.out (Za H m)).trans E
         clear o9 E m F f1 H f6 V d5 f5 e6 e0 e1 e2
         go_wp2_with (at_builtin;refine Zp rfl _ _ 36 rfl rfl rfl r9 ?_)
         go_roundw
         case rel=>exact ⟨j+1,by omega,by go_num,R.out,by rw [Zhu _ a5.out];exact Q.out⟩
         case measure=>simp [intOf];omega
        ·have P:¬ (j:Int)<n3:=by omega
         obtain rfl:j=n3:=by omega
         have D:Hid (Zdw C.heap.size wr (.slice oa ol oc) ((G1.map Jy++G2.map Zak)++P2.map Zbt)):=by
          have:=s.out
          rwa [<- b9.out,List.take_length] at this
         obtain ⟨W3,hW⟩:∃ W,wr=W:=⟨_,rfl⟩
         rw [hW] at d D |-
         have m1:=Zb d.out
         have m5:=Zb D.out
         clear hW d D s N hlt a6
         go_wp2_with fail
         go_loopw [10,82] (fun o i wr=>∃ j:Nat,j<=n4/\i=.int .i64 j/\Below C.heap.size C wr/\Zdw C.heap.size wr o ((G1.map Jy++G2.map Zak++P2.map Zbt)++(P1.take j).map Zc3)) (fun _ i _=>n4 - (intOf i).toNat)
         case atStart=>exact ⟨0,Nat.zero_le _,rfl,m1.out,by simpa using m5.out⟩
         case round =>
          obtain ⟨j,hj,rfl,O,q⟩:=hrel
          have d:=Zb O
          have s:=Zb q
          obtain ⟨oa,oc,rfl⟩:=q.slice
          obtain ⟨ol,t⟩:∃ n,((G1.map Jy++G2.map Zak++P2.map Zbt)++(P1.take j).map Zc3).length=n:=⟨_,rfl⟩
          have a6:ol<=400:=by
           have h1:=Zhv Zc3 ((G1.map Jy++G2.map Zak++P2.map Zbt)) P1 j
           rw [t] at h1
           have h2:=K.out
           have h3:=d1.out
           have h4:=a9.out
           have h5:=b7.out
           have h6:=b9.out
           simp only [List.length_append,List.length_map] at h1
           omega
          rw [t] at s |-
          have N:=Zb t
          clear O q t
          by_cases hlt:j<n4
          ·have P:(j:Int)<n4:=by omega
           obtain ⟨x,B⟩:∃ x,P1[j]?=some x:=⟨_,List.getElem?_eq_getElem (by have:=d1.out;omega)⟩
           have I:=d.out.size
           have n9:=Zb (m6.out x (f2.out x (List.mem_of_getElem? B)))
           obtain ⟨ea,ec,he,d8,i0,c6⟩:=e7.out
           obtain ⟨rfl,rfl⟩:o7=ea/\p2=ec:=by
            injection he with e1 _ e2;exact ⟨e1,e2⟩
           obtain ⟨bl,off,rfl,g8,b4⟩:=c6.resolve_left (by intro e;rw [e] at B;simp at B)
           replace b4:=(b4 j x B).below d.out g8
           rw [d1.out] at d8
           obtain ⟨pv,⟨c0,c1,c2,c3,c4⟩,hs,hp⟩:=b4
           obtain ⟨pa,pc,rfl⟩:=Zau hp
           have c8:Ji C.heap.size wr (.agg #[.int .i64 x.id,.int .i64 x.fr,.int .i64 x.tt,.string x.type,.slice pa x.props.length pc]) x:=⟨pa,pc,rfl,hp⟩
           have e6:=Zb (fun W (z:Below wr.heap.size wr W)=>Zjo x _ C.heap.size W (by have:=z.size;omega) (c8.below (z.mono I)) (d2.out.ofR x (f2.out x (List.mem_of_getElem? B))).1 (d2.out.ofR x (f2.out x (List.mem_of_getElem? B))).2)
           have a5:=Zb B
           clear he c6 B c8 hs hp
           go_upto_region 24 with fail
           generalize b5:World.alloc _ _=W6
           have e5:Below wr.heap.size wr W6:=by rw [<- b5];exact (Below.refl _ _).alloc (Nat.le_refl _) _
           have L:=Zl wr #[.int .i64 x.id,.int .i64 x.fr,.int .i64 x.tt,.string x.type,.slice pa x.props.length pc] 49
           rw [b5] at L
           have a7:=Zb e5
           have e0:=L.cell 0 rfl
           have e1:=L.cell 1 rfl
           have e2:=L.cell 2 rfl
           have e3:=L.cell 3 rfl
           have e4:=L.cell 4 rfl
           clear b5 L e5 c0 c1 c2 c3 c4
           go_wp2_with fail
           refine (e6.out W6 a7.out).mono ?_
           rintro e w7 ⟨n8,rfl,d5,f5⟩
           have V:∀ k,(Value.slice oa ol oc).ownBlock=some k->k<W6.heap.size:=fun k hk=>Nat.lt_of_lt_of_le (s.out.lt k hk).2 a7.out.size
           obtain ⟨d0,d3,rfl,f6⟩:=Zti n9.out d5 V
           have H:=Za a7.out f5
           have m:Below w7.heap.size w7 (w7.alloc (.cells #[.int .i64 1,.int .i64 0,.int .i64 0,.int .i64 0,.slice none 0 0,.slice none 0 0,.int .i64 x.id,.int .i64 x.fr,.int .i64 x.tt,.string x.type,.slice d0 x.props.length d3] 51)):=(Below.refl _ _).alloc (Nat.le_refl _) _
           have F:=H.size
           have f1:=m.size
           obtain ⟨g9,c9,w9,r9,o9,E⟩:=((s.out.below H).below m).app' (ty:=36) (c9:=1) (f6.on (Zhw m _) (.inl rfl)) (Zl w7 #[.int .i64 1,.int .i64 0,.int .i64 0,.int .i64 0,.slice none 0 0,.slice none 0 0,.int .i64 x.id,.int .i64 x.fr,.int .i64 x.tt,.string x.type,.slice d0 x.props.length d3] 51) N.out (by omega) (by omega)
           have Q:=Zb o9
           have R:Hid (Below C.heap.size C w9):=(Za d.out (Za H m)).trans E
           clear o9 E m F f1 H f6 V d5 f5 e6 e0 e1 e2 e3 e4
           go_wp2_with (at_builtin;refine Zp rfl _ _ 36 rfl rfl rfl r9 ?_)
           go_roundw
           case rel=>exact ⟨j+1,by omega,by go_num,R.out,by rw [Zhu _ a5.out];exact Q.out⟩
           case measure=>simp [intOf];omega
          ·have P:¬ (j:Int)<n4:=by omega
           obtain rfl:j=n4:=by omega
           have D:Hid (Zdw C.heap.size wr (.slice oa ol oc) ((G1.map Jy++G2.map Zak++P2.map Zbt)++P1.map Zc3)):=by
            have:=s.out
            rwa [<- d1.out,List.take_length] at this
           obtain ⟨W4,hW⟩:∃ W,wr=W:=⟨_,rfl⟩
           rw [hW] at d D |-
           have b6:=Zb d.out
           have e8:=Zb D.out
           clear hW d D s N hlt a6
           obtain ⟨h7,i7⟩:=HX.out W4 (Za o4.out b6.out)
           have a2:=h7.cell 2 rfl
           have b2:=i7.cell 2 rfl
           have a3:=h7.cell 3 rfl
           have b3:=i7.cell 3 rfl
           clear h7 i7
           have o8:Hid (Below w.heap.size w W4):=Za j3.out b6.out
           have j2:Hid (∀ {W:World} {v:Value} {cs:List Zs},Zdw C.heap.size W v cs->Zdw w.heap.size W v cs):=fun ⟨des,h1,h2⟩=>⟨des,Zeq h1 j3.out.size,h2⟩
           obtain ⟨f9,e9⟩:∃ n,(G1.map Jy++G2.map Zak++P2.map Zbt++P1.map Zc3).length=n:=⟨_,rfl⟩
           have p3:f9<=400:=by
            have h2:=K.out
            have h3:=a9.out
            have h4:=b7.out
            have h5:=b9.out
            have h6:=d1.out
            simp only [List.length_append,List.length_map] at e9
            omega
           have g3:=Zb e9
           clear e9
           have i3:Hid (nn=nn2->nr=nr2->Zc4 a b=G1.map Jy++G2.map Zak++P2.map Zbt++P1.map Zc3):=fun e1 e2=>by
            show _=_
            rw [b8.out,U.out.1.1,U.out.1.2,U.out.2.1,U.out.2.2,e1,e2,if_neg (by simp)]
            simp only [List.append_assoc,List.append_nil]
           have f7:Hid (¬ (nn=nn2/\nr=nr2)->Zc4 a b=(G1.map Jy++G2.map Zak++P2.map Zbt++P1.map Zc3)++[Zun nn2 nr2]):=fun e1=>by
            show _=_
            rw [b8.out,U.out.1.1,U.out.1.2,U.out.2.1,U.out.2.2,if_pos (by simp;omega)]
            simp only [List.append_assoc]
           have m:Below W4.heap.size W4 (W4.alloc (.cells #[.int .i64 4,.int .i64 nn2,.int .i64 nr2,.int .i64 0,.slice none 0 0,.slice none 0 0,.int .i64 0,.int .i64 0,.int .i64 0,.string ⟨#[]⟩,.slice none 0 0] 51)):=(Below.refl _ _).alloc (Nat.le_refl _) _
           have I:=b6.out.size
           have F:=m.size
           have m9:ol=f9:=by
            obtain ⟨_,_,e⟩:=e8.out.slice
            injection e with _ e2 _
            rw [e2];exact g3.out
           obtain ⟨g9,c9,w9,r9,o9,E⟩:=(e8.out.below m).app' (ty:=36) (c9:=1) (Zcv _ _ 4 nn2 nr2) (Zl W4 #[.int .i64 4,.int .i64 nn2,.int .i64 nr2,.int .i64 0,.slice none 0 0,.slice none 0 0,.int .i64 0,.int .i64 0,.int .i64 0,.string ⟨#[]⟩,.slice none 0 0] 51) g3.out (by omega) (by omega)
           have Q:=Zb o9
           have R:Hid (Below w.heap.size w w9):=Za j3.out ((Za b6.out m).trans E)
           clear o9 E m I F m9
           by_cases h1:nn=nn2
           ·have z1:(nn != nn2)=false:=by simp [h1]
            by_cases h2:nr=nr2
            ·have z2:(nr != nr2)=false:=by simp [h2]
             have HS:=Zb (i3.out h1 h2)
             clear h1 h2 r9
             go_wp2_with fail
             refine bodyPost_ret (v:=.tuple #[.slice oa ol oc,.int .i64 0]) (by simp [results,Tryz.results20,go_sem]) rfl ⟨_,_,rfl,o8.out,⟨fun _=>⟨rfl,by rw [HS.out];exact j2.out e8.out⟩,fun h=>by simp at h⟩⟩
            ·have z2:(nr != nr2)=true:=by simp [h2]
             have HS:=Zb (f7.out fun h=>h2 h.2)
             clear h1 h2
             go_wp2_with (at_builtin;refine Zp rfl _ _ 36 rfl rfl rfl r9 ?_)
             refine bodyPost_ret (v:=.tuple #[.slice (some ⟨g9,0,none⟩) (f9+1) c9,.int .i64 0]) (by simp [results,Tryz.results20,go_sem]) rfl ⟨_,_,rfl,R.out,⟨fun _=>⟨rfl,by rw [HS.out];exact j2.out Q.out⟩,fun h=>by simp at h⟩⟩
           ·have z1:(nn != nn2)=true:=by simp [h1]
            have HS:=Zb (f7.out fun h=>h1 h.1)
            clear h1
            go_wp2_with (at_builtin;refine Zp rfl _ _ 36 rfl rfl rfl r9 ?_)
            refine bodyPost_ret (v:=.tuple #[.slice (some ⟨g9,0,none⟩) (f9+1) c9,.int .i64 0]) (by simp [results,Tryz.results20,go_sem]) rfl ⟨_,_,rfl,R.out,⟨fun _=>⟨rfl,by rw [HS.out];exact j2.out Q.out⟩,fun h=>by simp at h⟩⟩
end
section
open Go.RowKit Go.Shelf Go.WideShapes
noncomputable def Jd8  : Array Oper:=Zy Tryz.f23 5
def Jhy  : List Sig:=[⟨19,.load 25 (.tmp 3),25,none⟩,⟨20,.fieldAddr 25 (.tmp 2) 1,0,none⟩,⟨21,.load 23 (.tmp 20),23,none⟩,⟨22,.move (.tmp 6),3,none⟩,⟨23,.indexAddr 23 (.tmp 21) (.tmp 22),0,none⟩,⟨24,.fieldAddr 49 (.tmp 23) 0,0,none⟩,⟨25,.load 2 (.tmp 24),2,none⟩,⟨26,.call { callee:=.value (.func 61),args:=#[.tmp 19,.tmp 25],argTypes:=#[25,2] },3,none⟩,⟨27,.binOp .lss 3 (.tmp 26) (.const (.int .i64 0)) 3,4,none⟩]
theorem Jhz  : Jh Jd8=Jhy.map some:=by kernel_rfl
def Jju  : List (List Nat):=[[],[],[1],[],[2,3],[4],[5],[0,6],[7]]
structure Zuf (A H d off kl kc j:Nat) (x r:Int) (b0 o p l:Value) (b:Bool) (c:Act):Prop where
 t2:c.eval (.tmp 2)=.pointer (some ⟨A,0,none⟩)
 t3:c.eval (.tmp 3)=.pointer (some ⟨H,0,none⟩)
 t6:c.eval (.tmp 6)=.int .i64 (j:Int)
def Jd9 (A H d off kl kc j:Nat) (x r:Int) (b0 o p l:Value) (b:Bool):List Value:=[.agg #[b0,o,p,l],.pointer (some ⟨A,1,none⟩),.slice (some ⟨d,off,none⟩) kl kc,.int .i64 (j:Int),.pointer (some ⟨d,off+j*5,none⟩),.pointer (some ⟨d,off+j*5,none⟩),.int .i64 x,.int .i64 r,.bool b]
structure Zmy (A H d off kl kc j:Nat) (x r:Int) (b0 o p l:Value) (b:Bool) (w:World):Prop where
 h0:w.cell? ⟨H,0,none⟩=some (b0)
 h1:w.cell? ⟨H,1,none⟩=some (o)
 h2:w.cell? ⟨H,2,none⟩=some (p)
 h3:w.cell? ⟨H,3,none⟩=some (l)
 g:w.cell? ⟨A,1,none⟩=some (.slice (some ⟨d,off,none⟩) kl kc)
 lt:j<kl
 le:kl<=9223372036854775807
 c0:w.cell? ⟨d,off+j*5,none⟩=some (.int .i64 x)
 k1:Calls Tryz.prog 61 #[.agg #[b0,o,p,l],.int .i64 x] w fun e w'=>e=.returned (.int .i64 r)/\Below w.heap.size w w'
 a1:decide (r<0)=b
theorem Zj5 (A H d off kl kc j:Nat) (x r:Int) (b0 o p l:Value) (b:Bool) (Q:Exit->Act->World->Prop) (base:Act) (u:World) (t:base.tmps.size=165) (q:Zuf A H d off kl kc j x r b0 o p l b base)
  (v:∀ w,Below u.heap.size u w->Zmy A H d off kl kc j x r b0 o p l b w) (F:∀ c w,Zaf Jd8 base c->Below u.heap.size u w->c.eval (.tmp 27)=.bool b->Q .normal c w):(Code.region 5 Jd8 true).wp Tryz.prog Q base u:=by
 refine Zn (B:=Zuf A H d off kl kc j x r b0 o p l b) (T:=Zmy A H d off kl kc j x r b0 o p l b) (n:=9) (k:=8) Jhy Jju (Jd9 A H d off kl kc j x r b0 o p l b) Jhz rfl (by kernel_rfl) (by kernel_rfl) (by kernel_rfl) (by rw [t];kernel_rfl) (fun c y=>⟨(Zc y (by kernel_rfl)).trans q.t2,(Zc y (by kernel_rfl)).trans q.t3,(Zc y (by kernel_rfl)).trans q.t6⟩) v ?_ (by decide) rfl rfl F
 clear t q v F
 iterate 9 (refine Zd ?_ (by
  intro c w q v hEq
  obtain ⟨t2,t3,t6⟩:=q
  obtain ⟨h0,h1,h2,h3,g,lt,le,c0,k1,a1⟩:=v
  have M:=evc c
  have L:=evf c
  dsimp only [Jju,Jhy,Jd9,nth,Zbm,Za2,Jc] at hEq |-
  first
  | exact ⟨by simp only [hEq],.inr ⟨by first | exact .inl rfl | exact .inr rfl,rfl⟩⟩
  | ((try refine ⟨by simp only [hEq],.inl ⟨rfl,?_⟩⟩);first | (refine Zk Tryz.call61 k1 ?_;simp only [List.map_toArray,List.map_cons,List.map_nil,hEq];done) | (refine .inl fun E K=>?_;(clear k1;dsimp only [Sig.oper];generalize c.eval=ρ at *;go_simp;done)) | (refine .inl fun E K=>?_;clear k1;dsimp only [Sig.oper];generalize c.eval=ρ at *;go_simp;simp only [decide_eq_true_eq,decide_eq_false_iff_not] at *;omega))))
 exact Zf
noncomputable def Jhu  : Array Oper:=Zy Tryz.f23 21
def Jh0  : List Sig:=[⟨111,.load 25 (.tmp 2),25,none⟩,⟨112,.fieldAddr 25 (.tmp 3) 1,0,none⟩,⟨113,.load 23 (.tmp 112),23,none⟩,⟨114,.move (.tmp 10),3,none⟩,⟨115,.indexAddr 23 (.tmp 113) (.tmp 114),0,none⟩,⟨116,.fieldAddr 49 (.tmp 115) 0,0,none⟩,⟨117,.load 2 (.tmp 116),2,none⟩,⟨118,.call { callee:=.value (.func 61),args:=#[.tmp 111,.tmp 117],argTypes:=#[25,2] },3,none⟩,⟨11,.assign (.tmp 118),3,none⟩]
theorem Jh1  : Jh Jhu=Jh0.map some:=by kernel_rfl
def Jjv  : List (List Nat):=[[],[],[1],[],[2,3],[4],[5],[0,6],[7]]
structure Zug (A H d off kl kc j:Nat) (x r:Int) (b0 o p l:Value) (c:Act):Prop where
 t2:c.eval (.tmp 2)=.pointer (some ⟨A,0,none⟩)
 t3:c.eval (.tmp 3)=.pointer (some ⟨H,0,none⟩)
 t10:c.eval (.tmp 10)=.int .i64 (j:Int)
def Jea (A H d off kl kc j:Nat) (x r:Int) (b0 o p l:Value):List Value:=[.agg #[b0,o,p,l],.pointer (some ⟨H,1,none⟩),.slice (some ⟨d,off,none⟩) kl kc,.int .i64 (j:Int),.pointer (some ⟨d,off+j*5,none⟩),.pointer (some ⟨d,off+j*5,none⟩),.int .i64 x,.int .i64 r,.int .i64 r]
structure Zmz (A H d off kl kc j:Nat) (x r:Int) (b0 o p l:Value) (w:World):Prop where
 h0:w.cell? ⟨A,0,none⟩=some (b0)
 h1:w.cell? ⟨A,1,none⟩=some (o)
 h2:w.cell? ⟨A,2,none⟩=some (p)
 h3:w.cell? ⟨A,3,none⟩=some (l)
 g:w.cell? ⟨H,1,none⟩=some (.slice (some ⟨d,off,none⟩) kl kc)
 lt:j<kl
 le:kl<=9223372036854775807
 c0:w.cell? ⟨d,off+j*5,none⟩=some (.int .i64 x)
 k1:Calls Tryz.prog 61 #[.agg #[b0,o,p,l],.int .i64 x] w fun e w'=>e=.returned (.int .i64 r)/\Below w.heap.size w w'
theorem Zsp (A H d off kl kc j:Nat) (x r:Int) (b0 o p l:Value) (Q:Exit->Act->World->Prop) (base:Act) (u:World) (t:base.tmps.size=165) (q:Zug A H d off kl kc j x r b0 o p l base)
  (v:∀ w,Below u.heap.size u w->Zmz A H d off kl kc j x r b0 o p l w) (F:∀ c w,Zaf Jhu base c->Below u.heap.size u w->c.eval (.tmp 11)=.int .i64 r->Q .normal c w):(Code.region 21 Jhu true).wp Tryz.prog Q base u:=by
 refine Zn (B:=Zug A H d off kl kc j x r b0 o p l) (T:=Zmz A H d off kl kc j x r b0 o p l) (n:=9) (k:=8) Jh0 Jjv (Jea A H d off kl kc j x r b0 o p l) Jh1 rfl (by kernel_rfl) (by kernel_rfl) (by kernel_rfl) (by rw [t];kernel_rfl) (fun c y=>⟨(Zc y (by kernel_rfl)).trans q.t2,(Zc y (by kernel_rfl)).trans q.t3,(Zc y (by kernel_rfl)).trans q.t10⟩) v ?_ (by decide) rfl rfl F
 clear t q v F
 iterate 9 (refine Zd ?_ (by
  intro c w q v hEq
  obtain ⟨t2,t3,t10⟩:=q
  obtain ⟨h0,h1,h2,h3,g,lt,le,c0,k1⟩:=v
  have M:=evc c
  have L:=evf c
  dsimp only [Jjv,Jh0,Jea,nth,Zbm,Za2,Jc] at hEq |-
  first
  | exact ⟨by simp only [hEq],.inr ⟨by first | exact .inl rfl | exact .inr rfl,rfl⟩⟩
  | ((try refine ⟨by simp only [hEq],.inl ⟨rfl,?_⟩⟩);first | (refine Zk Tryz.call61 k1 ?_;simp only [List.map_toArray,List.map_cons,List.map_nil,hEq];done) | (refine .inl fun E K=>?_;(clear k1;dsimp only [Sig.oper];generalize c.eval=ρ at *;go_simp;done)))))
 exact Zf
noncomputable def Jeb  : Array Oper:=Zy Tryz.f23 22
def Jh2  : List Sig:=[⟨119,.move (.tmp 11),3,none⟩,⟨120,.binOp .lss 3 (.tmp 119) (.const (.int .i64 0)) 3,4,none⟩,⟨121,.move (.tmp 120),4,none⟩,⟨122,.fieldAddr 25 (.tmp 2) 1,0,some (2,false)⟩,⟨123,.load 23 (.tmp 122),23,some (2,false)⟩,⟨124,.move (.tmp 11),3,some (2,false)⟩,⟨125,.indexAddr 23 (.tmp 123) (.tmp 124),0,some (2,false)⟩,⟨126,.load 49 (.tmp 125),49,some (2,false)⟩,⟨127,.fieldAddr 25 (.tmp 3) 1,0,some (2,false)⟩,⟨128,.load 23 (.tmp 127),23,some (2,false)⟩,⟨129,.move (.tmp 10),3,some (2,false)⟩,⟨130,.indexAddr 23 (.tmp 128) (.tmp 129),0,some (2,false)⟩,⟨131,.load 49 (.tmp 130),49,some (2,false)⟩,⟨132,.call { callee:=.value (.func 46),args:=#[.tmp 126,.tmp 131],argTypes:=#[49,49] },4,some (2,false)⟩,⟨133,.unOp .not 4 (.tmp 132),4,some (2,false)⟩,⟨134,.pick (.tmp 121) (.const (.bool true)) (.tmp 133),4,none⟩]
theorem Jh3  : Jh Jeb=Jh2.map some:=by kernel_rfl
def Jjw  : List (List Nat):=[[],[0],[1],[2],[2,3],[2],[2,4,5],[2,6],[2],[2,8],[2],[2,9,10],[2,11],[2,7,12],[2,13],[2,14]]
structure Zuh (A H d off kl kc f a i s j m:Nat) (v0 v1 v2 v3 v4 z D C I G:Value) (b:Bool) (c:Act):Prop where
 t2:c.eval (.tmp 2)=.pointer (some ⟨A,0,none⟩)
 t3:c.eval (.tmp 3)=.pointer (some ⟨H,0,none⟩)
 t10:c.eval (.tmp 10)=.int .i64 (j:Int)
 t11:c.eval (.tmp 11)=.int .i64 (m:Int)
def Jec (A H d off kl kc f a i s j m:Nat) (v0 v1 v2 v3 v4 z D C I G:Value) (b:Bool):List Value:=[.int .i64 (m:Int),.bool false,.bool false,.pointer (some ⟨A,1,none⟩),.slice (some ⟨d,off,none⟩) kl kc,.int .i64 (m:Int),.pointer (some ⟨d,off+m*5,none⟩),.agg #[v0,v1,v2,v3,v4],.pointer (some ⟨H,1,none⟩),.slice (some ⟨f,a,none⟩) i s,.int .i64 (j:Int),.pointer (some ⟨f,a+j*5,none⟩),.agg #[z,D,C,I,G],.bool b,.bool (!b),.bool (!b)]
structure Zm0 (A H d off kl kc f a i s j m:Nat) (v0 v1 v2 v3 v4 z D C I G:Value) (b:Bool) (w:World):Prop where
 a1:decide ((m:Int)<0)=false
 g:w.cell? ⟨A,1,none⟩=some (.slice (some ⟨d,off,none⟩) kl kc)
 lt:m<kl
 le:kl<=9223372036854775807
 c0:w.cell? ⟨d,off+m*5,none⟩=some (v0)
 c1:w.cell? ⟨d,off+m*5+1,none⟩=some (v1)
 c2:w.cell? ⟨d,off+m*5+2,none⟩=some (v2)
 c3:w.cell? ⟨d,off+m*5+3,none⟩=some (v3)
 c4:w.cell? ⟨d,off+m*5+4,none⟩=some (v4)
 h:w.cell? ⟨H,1,none⟩=some (.slice (some ⟨f,a,none⟩) i s)
 lt2:j<i
 le2:i<=9223372036854775807
 d0:w.cell? ⟨f,a+j*5,none⟩=some (z)
 d1:w.cell? ⟨f,a+j*5+1,none⟩=some (D)
 d2:w.cell? ⟨f,a+j*5+2,none⟩=some (C)
 d3:w.cell? ⟨f,a+j*5+3,none⟩=some (I)
 d4:w.cell? ⟨f,a+j*5+4,none⟩=some (G)
 k1:Calls Tryz.prog 46 #[.agg #[v0,v1,v2,v3,v4],.agg #[z,D,C,I,G]] w fun e w'=>e=.returned (.bool b)/\Below w.heap.size w w'
theorem Zj6 (A H d off kl kc f a i s j m:Nat) (v0 v1 v2 v3 v4 z D C I G:Value) (b:Bool) (Q:Exit->Act->World->Prop) (base:Act) (u:World) (t:base.tmps.size=165) (q:Zuh A H d off kl kc f a i s j m v0 v1 v2 v3 v4 z D C I G b base)
  (v:∀ w,Below u.heap.size u w->Zm0 A H d off kl kc f a i s j m v0 v1 v2 v3 v4 z D C I G b w) (F:∀ c w,Zaf Jeb base c->Below u.heap.size u w->c.eval (.tmp 134)=.bool (!b)->Q .normal c w):(Code.region 22 Jeb true).wp Tryz.prog Q base u:=by
 refine Zn (B:=Zuh A H d off kl kc f a i s j m v0 v1 v2 v3 v4 z D C I G b) (T:=Zm0 A H d off kl kc f a i s j m v0 v1 v2 v3 v4 z D C I G b) (n:=16) (k:=15) Jh2 Jjw (Jec A H d off kl kc f a i s j m v0 v1 v2 v3 v4 z D C I G b) Jh3 rfl (by kernel_rfl) (by kernel_rfl) (by kernel_rfl) (by rw [t];kernel_rfl) (fun c y=>⟨(Zc y (by kernel_rfl)).trans q.t2,(Zc y (by kernel_rfl)).trans q.t3,(Zc y (by kernel_rfl)).trans q.t10,(Zc y (by kernel_rfl)).trans q.t11⟩) v ?_ (by decide) rfl rfl F
 clear t q v F
 iterate 16 (refine Zd ?_ (by
  intro c w q v hEq
  obtain ⟨t2,t3,t10,t11⟩:=q
  obtain ⟨a1,g,lt,le,c0,c1,c2,c3,c4,h,lt2,le2,d0,d1,d2,d3,d4,k1⟩:=v
  have M:=evc c
  have L:=evf c
  dsimp only [Jjw,Jh2,Jec,nth,Zbm,Za2,Jc] at hEq |-
  first
  | exact ⟨by simp only [hEq],.inr ⟨by first | exact .inl rfl | exact .inr rfl,rfl⟩⟩
  | ((try refine ⟨by simp only [hEq],.inl ⟨rfl,?_⟩⟩);first | (refine Zk Tryz.call46 k1 ?_;simp only [List.map_toArray,List.map_cons,List.map_nil,hEq];done) | (refine .inl fun E K=>?_;(clear k1;dsimp only [Sig.oper];generalize c.eval=ρ at *;go_simp;done)) | (refine .inl fun E K=>?_;clear k1;dsimp only [Sig.oper];generalize c.eval=ρ at *;go_simp;simp only [decide_eq_true_eq,decide_eq_false_iff_not] at *;omega))))
 exact Zf
noncomputable def Jed  : Array Oper:=Zy Tryz.f23 10
def Jh4  : List Sig:=[⟨45,.load 25 (.tmp 3),25,none⟩,⟨46,.fieldAddr 25 (.tmp 2) 0,0,none⟩,⟨47,.load 22 (.tmp 46),22,none⟩,⟨48,.move (.tmp 7),3,none⟩,⟨49,.indexAddr 22 (.tmp 47) (.tmp 48),0,none⟩,⟨50,.fieldAddr 47 (.tmp 49) 0,0,none⟩,⟨51,.load 2 (.tmp 50),2,none⟩,⟨52,.call { callee:=.value (.func 44),args:=#[.tmp 45,.tmp 51],argTypes:=#[25,2] },3,none⟩,⟨53,.binOp .lss 3 (.tmp 52) (.const (.int .i64 0)) 3,4,none⟩]
theorem Jh5  : Jh Jed=Jh4.map some:=by kernel_rfl
def Jjx  : List (List Nat):=[[],[],[1],[],[2,3],[4],[5],[0,6],[7]]
structure Zui (A H d off kl kc j:Nat) (x r:Int) (b0 o p l:Value) (b:Bool) (c:Act):Prop where
 t2:c.eval (.tmp 2)=.pointer (some ⟨A,0,none⟩)
 t3:c.eval (.tmp 3)=.pointer (some ⟨H,0,none⟩)
 t7:c.eval (.tmp 7)=.int .i64 (j:Int)
def Jee (A H d off kl kc j:Nat) (x r:Int) (b0 o p l:Value) (b:Bool):List Value:=[.agg #[b0,o,p,l],.pointer (some ⟨A,0,none⟩),.slice (some ⟨d,off,none⟩) kl kc,.int .i64 (j:Int),.pointer (some ⟨d,off+j*3,none⟩),.pointer (some ⟨d,off+j*3,none⟩),.int .i64 x,.int .i64 r,.bool b]
structure Zm1 (A H d off kl kc j:Nat) (x r:Int) (b0 o p l:Value) (b:Bool) (w:World):Prop where
 h0:w.cell? ⟨H,0,none⟩=some (b0)
 h1:w.cell? ⟨H,1,none⟩=some (o)
 h2:w.cell? ⟨H,2,none⟩=some (p)
 h3:w.cell? ⟨H,3,none⟩=some (l)
 g:w.cell? ⟨A,0,none⟩=some (.slice (some ⟨d,off,none⟩) kl kc)
 lt:j<kl
 le:kl<=9223372036854775807
 c0:w.cell? ⟨d,off+j*3,none⟩=some (.int .i64 x)
 k1:Calls Tryz.prog 44 #[.agg #[b0,o,p,l],.int .i64 x] w fun e w'=>e=.returned (.int .i64 r)/\Below w.heap.size w w'
 a1:decide (r<0)=b
theorem Zj7 (A H d off kl kc j:Nat) (x r:Int) (b0 o p l:Value) (b:Bool) (Q:Exit->Act->World->Prop) (base:Act) (u:World) (t:base.tmps.size=165) (q:Zui A H d off kl kc j x r b0 o p l b base)
  (v:∀ w,Below u.heap.size u w->Zm1 A H d off kl kc j x r b0 o p l b w) (F:∀ c w,Zaf Jed base c->Below u.heap.size u w->c.eval (.tmp 53)=.bool b->Q .normal c w):(Code.region 10 Jed true).wp Tryz.prog Q base u:=by
 refine Zn (B:=Zui A H d off kl kc j x r b0 o p l b) (T:=Zm1 A H d off kl kc j x r b0 o p l b) (n:=9) (k:=8) Jh4 Jjx (Jee A H d off kl kc j x r b0 o p l b) Jh5 rfl (by kernel_rfl) (by kernel_rfl) (by kernel_rfl) (by rw [t];kernel_rfl) (fun c y=>⟨(Zc y (by kernel_rfl)).trans q.t2,(Zc y (by kernel_rfl)).trans q.t3,(Zc y (by kernel_rfl)).trans q.t7⟩) v ?_ (by decide) rfl rfl F
 clear t q v F
 iterate 9 (refine Zd ?_ (by
  intro c w q v hEq
  obtain ⟨t2,t3,t7⟩:=q
  obtain ⟨h0,h1,h2,h3,g,lt,le,c0,k1,a1⟩:=v
  have M:=evc c
  have L:=evf c
  dsimp only [Jjx,Jh4,Jee,nth,Zbm,Za2,Jc] at hEq |-
  first
  | exact ⟨by simp only [hEq],.inr ⟨by first | exact .inl rfl | exact .inr rfl,rfl⟩⟩
  | ((try refine ⟨by simp only [hEq],.inl ⟨rfl,?_⟩⟩);first | (refine Zk Tryz.call44 k1 ?_;simp only [List.map_toArray,List.map_cons,List.map_nil,hEq];done) | (refine .inl fun E K=>?_;(clear k1;dsimp only [Sig.oper];generalize c.eval=ρ at *;go_simp;done)) | (refine .inl fun E K=>?_;clear k1;dsimp only [Sig.oper];generalize c.eval=ρ at *;go_simp;simp only [decide_eq_true_eq,decide_eq_false_iff_not] at *;omega))))
 exact Zf
noncomputable def Jhv  : Array Oper:=Zy Tryz.f23 15
def Jh6  : List Sig:=[⟨71,.load 25 (.tmp 2),25,none⟩,⟨72,.fieldAddr 25 (.tmp 3) 0,0,none⟩,⟨73,.load 22 (.tmp 72),22,none⟩,⟨74,.move (.tmp 8),3,none⟩,⟨75,.indexAddr 22 (.tmp 73) (.tmp 74),0,none⟩,⟨76,.fieldAddr 47 (.tmp 75) 0,0,none⟩,⟨77,.load 2 (.tmp 76),2,none⟩,⟨78,.call { callee:=.value (.func 44),args:=#[.tmp 71,.tmp 77],argTypes:=#[25,2] },3,none⟩,⟨9,.assign (.tmp 78),3,none⟩]
theorem Jh7  : Jh Jhv=Jh6.map some:=by kernel_rfl
def Jjy  : List (List Nat):=[[],[],[1],[],[2,3],[4],[5],[0,6],[7]]
structure Zuj (A H d off kl kc j:Nat) (x r:Int) (b0 o p l:Value) (c:Act):Prop where
 t2:c.eval (.tmp 2)=.pointer (some ⟨A,0,none⟩)
 t3:c.eval (.tmp 3)=.pointer (some ⟨H,0,none⟩)
 t8:c.eval (.tmp 8)=.int .i64 (j:Int)
def Jef (A H d off kl kc j:Nat) (x r:Int) (b0 o p l:Value):List Value:=[.agg #[b0,o,p,l],.pointer (some ⟨H,0,none⟩),.slice (some ⟨d,off,none⟩) kl kc,.int .i64 (j:Int),.pointer (some ⟨d,off+j*3,none⟩),.pointer (some ⟨d,off+j*3,none⟩),.int .i64 x,.int .i64 r,.int .i64 r]
structure Zm2 (A H d off kl kc j:Nat) (x r:Int) (b0 o p l:Value) (w:World):Prop where
 h0:w.cell? ⟨A,0,none⟩=some (b0)
 h1:w.cell? ⟨A,1,none⟩=some (o)
 h2:w.cell? ⟨A,2,none⟩=some (p)
 h3:w.cell? ⟨A,3,none⟩=some (l)
 g:w.cell? ⟨H,0,none⟩=some (.slice (some ⟨d,off,none⟩) kl kc)
 lt:j<kl
 le:kl<=9223372036854775807
 c0:w.cell? ⟨d,off+j*3,none⟩=some (.int .i64 x)
 k1:Calls Tryz.prog 44 #[.agg #[b0,o,p,l],.int .i64 x] w fun e w'=>e=.returned (.int .i64 r)/\Below w.heap.size w w'
theorem Zsq (A H d off kl kc j:Nat) (x r:Int) (b0 o p l:Value) (Q:Exit->Act->World->Prop) (base:Act) (u:World) (t:base.tmps.size=165) (q:Zuj A H d off kl kc j x r b0 o p l base)
  (v:∀ w,Below u.heap.size u w->Zm2 A H d off kl kc j x r b0 o p l w) (F:∀ c w,Zaf Jhv base c->Below u.heap.size u w->c.eval (.tmp 9)=.int .i64 r->Q .normal c w):(Code.region 15 Jhv true).wp Tryz.prog Q base u:=by
 refine Zn (B:=Zuj A H d off kl kc j x r b0 o p l) (T:=Zm2 A H d off kl kc j x r b0 o p l) (n:=9) (k:=8) Jh6 Jjy (Jef A H d off kl kc j x r b0 o p l) Jh7 rfl (by kernel_rfl) (by kernel_rfl) (by kernel_rfl) (by rw [t];kernel_rfl) (fun c y=>⟨(Zc y (by kernel_rfl)).trans q.t2,(Zc y (by kernel_rfl)).trans q.t3,(Zc y (by kernel_rfl)).trans q.t8⟩) v ?_ (by decide) rfl rfl F
 clear t q v F
 iterate 9 (refine Zd ?_ (by
  intro c w q v hEq
  obtain ⟨t2,t3,t8⟩:=q
  obtain ⟨h0,h1,h2,h3,g,lt,le,c0,k1⟩:=v
  have M:=evc c
  have L:=evf c
  dsimp only [Jjy,Jh6,Jef,nth,Zbm,Za2,Jc] at hEq |-
  first
  | exact ⟨by simp only [hEq],.inr ⟨by first | exact .inl rfl | exact .inr rfl,rfl⟩⟩
  | ((try refine ⟨by simp only [hEq],.inl ⟨rfl,?_⟩⟩);first | (refine Zk Tryz.call44 k1 ?_;simp only [List.map_toArray,List.map_cons,List.map_nil,hEq];done) | (refine .inl fun E K=>?_;(clear k1;dsimp only [Sig.oper];generalize c.eval=ρ at *;go_simp;done)))))
 exact Zf
noncomputable def Jeg  : Array Oper:=Zy Tryz.f23 16
def Jh8  : List Sig:=[⟨79,.move (.tmp 9),3,none⟩,⟨80,.binOp .lss 3 (.tmp 79) (.const (.int .i64 0)) 3,4,none⟩,⟨81,.move (.tmp 80),4,none⟩,⟨82,.fieldAddr 25 (.tmp 2) 0,0,some (2,false)⟩,⟨83,.load 22 (.tmp 82),22,some (2,false)⟩,⟨84,.move (.tmp 9),3,some (2,false)⟩,⟨85,.indexAddr 22 (.tmp 83) (.tmp 84),0,some (2,false)⟩,⟨86,.load 47 (.tmp 85),47,some (2,false)⟩,⟨87,.fieldAddr 25 (.tmp 3) 0,0,some (2,false)⟩,⟨88,.load 22 (.tmp 87),22,some (2,false)⟩,⟨89,.move (.tmp 8),3,some (2,false)⟩,⟨90,.indexAddr 22 (.tmp 88) (.tmp 89),0,some (2,false)⟩,⟨91,.load 47 (.tmp 90),47,some (2,false)⟩,⟨92,.call { callee:=.value (.func 45),args:=#[.tmp 86,.tmp 91],argTypes:=#[47,47] },4,some (2,false)⟩,⟨93,.unOp .not 4 (.tmp 92),4,some (2,false)⟩,⟨94,.pick (.tmp 81) (.const (.bool true)) (.tmp 93),4,none⟩]
theorem Jh9  : Jh Jeg=Jh8.map some:=by kernel_rfl
def Jjz  : List (List Nat):=[[],[0],[1],[2],[2,3],[2],[2,4,5],[2,6],[2],[2,8],[2],[2,9,10],[2,11],[2,7,12],[2,13],[2,14]]
structure Zuk (A H d off kl kc f a i s j m:Nat) (v0 v1 v2 z D C:Value) (b:Bool) (c:Act):Prop where
 t2:c.eval (.tmp 2)=.pointer (some ⟨A,0,none⟩)
 t3:c.eval (.tmp 3)=.pointer (some ⟨H,0,none⟩)
 t8:c.eval (.tmp 8)=.int .i64 (j:Int)
 t9:c.eval (.tmp 9)=.int .i64 (m:Int)
def Jeh (A H d off kl kc f a i s j m:Nat) (v0 v1 v2 z D C:Value) (b:Bool):List Value:=[.int .i64 (m:Int),.bool false,.bool false,.pointer (some ⟨A,0,none⟩),.slice (some ⟨d,off,none⟩) kl kc,.int .i64 (m:Int),.pointer (some ⟨d,off+m*3,none⟩),.agg #[v0,v1,v2],.pointer (some ⟨H,0,none⟩),.slice (some ⟨f,a,none⟩) i s,.int .i64 (j:Int),.pointer (some ⟨f,a+j*3,none⟩),.agg #[z,D,C],.bool b,.bool (!b),.bool (!b)]
structure Zm3 (A H d off kl kc f a i s j m:Nat) (v0 v1 v2 z D C:Value) (b:Bool) (w:World):Prop where
 a1:decide ((m:Int)<0)=false
 g:w.cell? ⟨A,0,none⟩=some (.slice (some ⟨d,off,none⟩) kl kc)
 lt:m<kl
 le:kl<=9223372036854775807
 c0:w.cell? ⟨d,off+m*3,none⟩=some (v0)
 c1:w.cell? ⟨d,off+m*3+1,none⟩=some (v1)
 c2:w.cell? ⟨d,off+m*3+2,none⟩=some (v2)
 h:w.cell? ⟨H,0,none⟩=some (.slice (some ⟨f,a,none⟩) i s)
 lt2:j<i
 le2:i<=9223372036854775807
 d0:w.cell? ⟨f,a+j*3,none⟩=some (z)
 d1:w.cell? ⟨f,a+j*3+1,none⟩=some (D)
 d2:w.cell? ⟨f,a+j*3+2,none⟩=some (C)
 k1:Calls Tryz.prog 45 #[.agg #[v0,v1,v2],.agg #[z,D,C]] w fun e w'=>e=.returned (.bool b)/\Below w.heap.size w w'
theorem Zj8 (A H d off kl kc f a i s j m:Nat) (v0 v1 v2 z D C:Value) (b:Bool) (Q:Exit->Act->World->Prop) (base:Act) (u:World) (t:base.tmps.size=165) (q:Zuk A H d off kl kc f a i s j m v0 v1 v2 z D C b base)
  (v:∀ w,Below u.heap.size u w->Zm3 A H d off kl kc f a i s j m v0 v1 v2 z D C b w) (F:∀ c w,Zaf Jeg base c->Below u.heap.size u w->c.eval (.tmp 94)=.bool (!b)->Q .normal c w):(Code.region 16 Jeg true).wp Tryz.prog Q base u:=by
 refine Zn (B:=Zuk A H d off kl kc f a i s j m v0 v1 v2 z D C b) (T:=Zm3 A H d off kl kc f a i s j m v0 v1 v2 z D C b) (n:=16) (k:=15) Jh8 Jjz (Jeh A H d off kl kc f a i s j m v0 v1 v2 z D C b) Jh9 rfl (by kernel_rfl) (by kernel_rfl) (by kernel_rfl) (by rw [t];kernel_rfl) (fun c y=>⟨(Zc y (by kernel_rfl)).trans q.t2,(Zc y (by kernel_rfl)).trans q.t3,(Zc y (by kernel_rfl)).trans q.t8,(Zc y (by kernel_rfl)).trans q.t9⟩) v ?_ (by decide) rfl rfl F
 clear t q v F
 iterate 16 (refine Zd ?_ (by
  intro c w q v hEq
  obtain ⟨t2,t3,t8,t9⟩:=q
  obtain ⟨a1,g,lt,le,c0,c1,c2,h,lt2,le2,d0,d1,d2,k1⟩:=v
  have M:=evc c
  have L:=evf c
  dsimp only [Jjz,Jh8,Jeh,nth,Zbm,Za2,Jc] at hEq |-
  first
  | exact ⟨by simp only [hEq],.inr ⟨by first | exact .inl rfl | exact .inr rfl,rfl⟩⟩
  | ((try refine ⟨by simp only [hEq],.inl ⟨rfl,?_⟩⟩);first | (refine Zk Tryz.call45 k1 ?_;simp only [List.map_toArray,List.map_cons,List.map_nil,hEq];done) | (refine .inl fun E K=>?_;(clear k1;dsimp only [Sig.oper];generalize c.eval=ρ at *;go_simp;done)) | (refine .inl fun E K=>?_;clear k1;dsimp only [Sig.oper];generalize c.eval=ρ at *;go_simp;simp only [decide_eq_true_eq,decide_eq_false_iff_not] at *;omega))))
 exact Zf
end
