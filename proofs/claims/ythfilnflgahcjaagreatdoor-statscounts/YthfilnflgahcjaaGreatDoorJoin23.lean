/- Both ends are there: the program's word. May a graph be: the program's word. A graph's counts (Count 11). The text of the number one. -/
import Derived.Test.YthfilnflgahcjaaGreatDoorJoin22
import Derived.Test.YthfilnflgahcjaaGreatDoorJoin15
import Derived.Test.YthfilnflgahcjaaGreatDoorJoin10
import Derived.Test.YthfilnflgahcjaaGreatDoorJoin8
import Derived.Test.YthfilnflgahcjaaGreatDoorSkc
import Derived.Test.YthfilnflgahcjaaGreatDoorJoin16
import Derived.Test.YthfilnflgahcjaaGreatDoorJoin7
namespace Go.Proofs.YthfilnflgahcjaaGreatDoor
open Go.RowKit Go.Shelf
set_option linter.all false
attribute [local go_sem] Oper.semAt_some
theorem Tryz.underlying198':Tryz.prog.underlying 198=some (.map 2 164):=by kernel_rfl
def Zj2 (ns:List Zj):List (Int × Value):=ns.map fun n=>(n.id,.agg #[])
def Zj3 (es:List (Int × Value)):List Zbr->Bool
 | []=>true
 | r::t=>Zwa r.fr es&&(Zwa r.tt es&&Zj3 es t)
theorem Zz3 {es:List (Int × Value)} {rs:List Zbr} {j:Nat} {r:Zbr} (h:rs[j]?=some r):Zj3 es (rs.drop j)=(Zwa r.fr es&&(Zwa r.tt es&&Zj3 es (rs.drop (j+1)))):=by
 obtain ⟨E,f⟩:=List.getElem?_eq_some_iff.1 h
 rw [List.drop_eq_getElem_cons E,f,Zj3]
theorem Ztb {w:World} {b:Nat} {ns:List Zj} (h:MI w b (Zj2 ns)) (k:Int) (hk:I64 k):(Instr.lookup 198 (.map (some b)) (.int .i64 k) true).run Tryz.prog w=.ok (.tuple #[.agg #[],.bool (Zwa k (Zj2 ns))]) w:=by
 obtain ⟨v,hv,he⟩:=Jc2 Tryz.underlying198' Jdp h k hk (fun p z q hq _=>by
  unfold Zj2 at z hq
  obtain ⟨a,_,rfl⟩:=List.mem_map.1 z
  obtain ⟨c,_,rfl⟩:=List.mem_map.1 hq
  rfl)
 have e:v=.agg #[]:=by
  rcases hv with ⟨q,hq,_,rfl⟩ | rfl
  ·unfold Zj2 at hq
   obtain ⟨a,_,rfl⟩:=List.mem_map.1 hq
   rfl
  ·rfl
 rw [e] at he
 exact he
structure EnJ (w:World) (cs:Array Value) (es:List (Int × Value)) (wr:World):Prop where
 box:Rec wr w.heap.size cs 25
 map:MI wr (w.heap.size+1) es
 keep:Below w.heap.size w wr
theorem EnJ.below {w wr wz:World} {cs:Array Value} {es:List (Int × Value)} (h:EnJ w cs es wr) (hb:Below wr.heap.size wr wz):EnJ w cs es wz:=⟨h.box.below hb h.box.lt,h.map.below hb (Nat.le_refl _),Zm h.keep hb⟩
set_option maxRecDepth 100000 in
set_option maxHeartbeats 4000000 in
theorem Zwu (g:Zx) (B:Nat) (v:Value) (w:World) (hB:B<=w.heap.size) (hg:Zp B w v g) (hd:(g.nodes.map Zj.id).Nodup) (hi:∀ n ∈ g.nodes,I64 n.id) (K:∀ r ∈ g.rels,I64 r.fr/\I64 r.tt):Calls Tryz.prog 105 #[v] w fun e w'=>e=.returned (.bool (Zj3 (Zj2 g.nodes) g.rels))/\Below w.heap.size w w':=by
 have b0:∀ W:World,(Instr.makeMap 198 none).run Tryz.prog W=.ok (.map (some W.heap.size)) (W.alloc (.map #[] 0)):=fun W=>rfl
 obtain ⟨na,nc,ra,rc,rfl,hn,hr⟩:=hg
 obtain ⟨u,A⟩:∃ r,Zj3 (Zj2 g.nodes) g.rels=r:=⟨_,rfl⟩
 have HR:=Za A
 rw [A]
 clear A
 obtain ⟨ns,rs,nn,nr⟩:=g
 simp only at hn hr hd hi K HR |-
 obtain ⟨a',c',e1,h1,h2,V⟩:=hn
 obtain ⟨rfl,rfl⟩:na=a'/\nc=c':=by injection e1 with e1 _ e2;exact ⟨e1,e2⟩
 obtain ⟨a',c',e2,r1,r2,a1⟩:=hr
 obtain ⟨rfl,rfl⟩:ra=a'/\rc=c':=by injection e2 with e1 _ e2;exact ⟨e1,e2⟩
 have HP:=Za V
 have HQ:=Za a1
 have HD:=Za hd
 have HI:=Za hi
 have a7:=Za K
 obtain ⟨n,hn⟩:∃ n,ns.length=n:=⟨_,rfl⟩
 have HN:=Za hn
 obtain ⟨m,hm⟩:∃ m,rs.length=m:=⟨_,rfl⟩
 have HM:=Za hm
 rw [hn] at h1
 rw [hm] at r1
 rw [hn,hm]
 clear V a1 hn hm e1 e2 hd hi K
 go_enter Tryz.func105,Tryz.ntmps105
 go_upto_region 2 with fail
 generalize a3:World.alloc _ _=W1
 have E:EnJ w #[.slice na n nc,.slice ra m rc,.int .i64 nn,.int .i64 nr] [] W1:=by
  rw [<- a3]
  have Y:=Zk w #[.slice na n nc,.slice ra m rc,.int .i64 nn,.int .i64 nr] 25
  refine ⟨Y.below ((Below.refl _ _).alloc (Nat.le_refl _) _) Y.lt,?_,?_⟩
  ·have:=Zwh (w.alloc (.cells #[.slice na n nc,.slice ra m rc,.int .i64 nn,.int .i64 nr] 25))
   rw [World.size_alloc] at this
   exact this
  ·exact ((Below.refl _ w).alloc (Nat.le_refl _) _).alloc (by simp) _
 have HJ:=Za E
 have q0:=E.box.cell 0 rfl
 clear a3 E b0
 go_wp2_with fail
 clear q0
 go_loopw [16] (fun i wr=>∃ j:Nat,j<=n/\i=.int .i64 j/\EnJ w #[.slice na n nc,.slice ra m rc,.int .i64 nn,.int .i64 nr] (Zj2 (ns.take j)) wr) (fun i _=>n - (intOf i).toNat)
 case atStart=>exact ⟨0,Nat.zero_le _,rfl,HJ.out⟩
 case round =>
  obtain ⟨j,E,rfl,l⟩:=hrel
  have C:=Za l
  have y:=Za l.keep
  have q1:=l.box.cell 1 rfl
  clear l HJ
  by_cases hlt:j<n
  ·have s:(j:Int)<n:=by omega
   obtain ⟨⟨I,xl,xp⟩,f⟩:∃ q,ns[j]?=some q:=⟨_,List.getElem?_eq_getElem (by have:=HN.out;omega)⟩
   obtain ⟨bl,off,rfl,O,hc⟩:=HP.out.resolve_left (by intro e;rw [e] at f;simp at f)
   obtain ⟨la,lc,pv,⟨c0,c1,c2⟩,_,_,z⟩:=(hc j _ f).below (y.out.mono hB) O
   simp only at c0 c1 c2 z
   obtain ⟨pa,pc,rfl,_,_,_⟩:=z
   have b8:I64 I:=HI.out _ (List.mem_of_getElem? f)
   have H:∀ p ∈ Zj2 (ns.take j),p.1≠I:=by
    intro p z e
    unfold Zj2 at z
    obtain ⟨a,ha,rfl⟩:=List.mem_map.1 z
    obtain ⟨i,hi,b5⟩:=List.mem_take_iff_getElem.1 ha
    have a8:=(List.getElem?_eq_some_iff.1 f).1
    have b6:=(List.getElem?_eq_some_iff.1 f).2
    have h0:=List.pairwise_iff_getElem.1 HD.out i j (by simp;omega) (by simpa using a8) (by omega)
    apply h0
    rw [List.getElem_map,List.getElem_map,b5,b6]
    exact e
   have b9:Hid (Zj2 (ns.take j)++[(I,.agg #[])]=Zj2 (ns.take (j+1))):=by
    show _=_
    unfold Zj2
    rw [List.take_add_one,f]
    simp
   clear hc f q1
   go_upto_region 5 with fail
   generalize o:World.alloc _ _=W2
   have d:=Zk wr #[.int .i64 I,.slice la xl.length lc,.slice pa xp.length pc] 73
   rw [o] at d
   have M:Hid (Below wr.heap.size wr W2):=by rw [<- o];exact (Below.refl _ _).alloc (Nat.le_refl _) _
   have k0:=d.cell 0 rfl
   have x:=Za (C.out.below M.out)
   obtain ⟨w9,c6,a2,R,G,F⟩:=Jcb Tryz.underlying198' x.out.map I (.agg #[]) b8 H
   have b4:Hid (EnJ w #[.slice (some ⟨bl,off,none⟩) n nc,.slice ra m rc,.int .i64 nn,.int .i64 nr] (Zj2 (ns.take (j+1))) w9):=⟨x.out.box.keep (G _ (by omega)),b9.out▸a2,x.out.keep.trans (F.mono (by omega))⟩
   clear o d c0 c1 c2 a2 R G F H
   go_wp2_with fail
   go_roundw
   case rel=>exact ⟨j+1,by omega,by go_num,b4.out⟩
   case measure=>simp [intOf];omega
  ·have s:¬ (j:Int)<n:=by omega
   have a0:Hid (EnJ w #[.slice na n nc,.slice ra m rc,.int .i64 nn,.int .i64 nr] (Zj2 ns) wr):=by
    have:=C.out
    rwa [List.take_of_length_le (by have:=HN.out;omega)] at this
   go_wp2_with fail
   clear hlt s E y q1 C
   go_loopw [28] (fun i wr=>∃ j:Nat,j<=m/\i=.int .i64 j/\EnJ w #[.slice na n nc,.slice ra m rc,.int .i64 nn,.int .i64 nr] (Zj2 ns) wr/\Zj3 (Zj2 ns) (rs.drop j)=u) (fun i _=>m - (intOf i).toNat)
   case atStart=>exact ⟨0,Nat.zero_le _,rfl,a0.out,HR.out⟩
   case round =>
    clear a0
    obtain ⟨j,E,rfl,l,X⟩:=hrel
    have C:=Za l
    have y:=Za l.keep
    have a5:=Za X
    clear l X
    by_cases hlt:j<m
    ·have s:(j:Int)<m:=by omega
     obtain ⟨⟨I,fr,tt,ty,xp⟩,f⟩:∃ q,rs[j]?=some q:=⟨_,List.getElem?_eq_getElem (by have:=HM.out;omega)⟩
     obtain ⟨bl,off,rfl,O,hc⟩:=HQ.out.resolve_left (by intro e;rw [e] at f;simp at f)
     obtain ⟨pv,⟨c0,c1,c2,c3,c4⟩,_,z⟩:=(hc j _ f).below (y.out.mono hB) O
     simp only at c0 c1 c2 c3 c4 z
     obtain ⟨pa,pc,rfl,_,_,_⟩:=z
     have D:=a7.out _ (List.mem_of_getElem? f)
     simp only at D
     obtain ⟨b1,N⟩:∃ b,Zwa fr (Zj2 ns)=b:=⟨_,rfl⟩
     obtain ⟨b2,Q⟩:∃ b,Zwa tt (Zj2 ns)=b:=⟨_,rfl⟩
     have P:Hid (u=(b1&&(b2&&Zj3 (Zj2 ns) (rs.drop (j+1))))):=by
      show _=_
      rw [<- a5.out,Zz3 f,<- N,<- Q]
     have b7:Hid (∀ W,MI W (w.heap.size+1) (Zj2 ns)->(Instr.lookup 198 (.map (some (w.heap.size+1))) (.int .i64 fr) true).run Tryz.prog W=.ok (.tuple #[.agg #[],.bool b1]) W):=fun W h=>by rw [<- N];exact Ztb h fr D.1
     have c5:Hid (∀ W,MI W (w.heap.size+1) (Zj2 ns)->(Instr.lookup 198 (.map (some (w.heap.size+1))) (.int .i64 tt) true).run Tryz.prog W=.ok (.tuple #[.agg #[],.bool b2]) W):=fun W h=>by rw [<- Q];exact Ztb h tt D.2
     clear hc f N Q D
     go_upto_region 10 with fail
     generalize o:World.alloc _ _=W2
     have d:=Zk wr #[.int .i64 I,.int .i64 fr,.int .i64 tt,.string ty,.slice pa xp.length pc] 71
     rw [o] at d
     have a4:=Za d
     have M:Hid (Below wr.heap.size wr W2):=by rw [<- o];exact (Below.refl _ _).alloc (Nat.le_refl _) _
     have x:=Za (C.out.below M.out)
     have k1:=d.cell 1 rfl
     have l1:=b7.out W2 x.out.map
     clear o d c0 c1 c2 c3 c4
     go_upto_region 11 with fail
     generalize a6:World.alloc _ _=W3
     have T:Hid (Below W2.heap.size W2 W3):=by rw [<- a6];exact (Below.refl _ _).alloc (Nat.le_refl _) _
     have U:=Za (x.out.below T.out)
     have k2:=(a4.out.below T.out a4.out.lt).cell 2 rfl
     have l2:=c5.out W3 U.out.map
     clear a6 k1 l1
     go_upto_region 12 with fail
     generalize S:World.alloc _ _=W4
     have a9:Hid (Below W3.heap.size W3 W4):=by rw [<- S];exact (Below.refl _ _).alloc (Nat.le_refl _) _
     have L:=Za (U.out.below a9.out)
     clear S k2 l2
     cases b1 with
     | false =>
      have HF:Hid (u=false):=P.out
      go_wp2_with fail
      go_ret
      exact ⟨by rw [HF.out];rfl,L.out.keep⟩
     | true =>
      cases b2 with
      | false =>
       have HF:Hid (u=false):=P.out
       go_wp2_with fail
       go_ret
       exact ⟨by rw [HF.out];rfl,L.out.keep⟩
      | true =>
       have b3:Hid (Zj3 (Zj2 ns) (rs.drop (j+1))=u):=P.out.symm
       go_wp2_with fail
       go_roundw
       case rel=>exact ⟨j+1,by omega,by go_num,L.out,b3.out⟩
       case measure=>simp [intOf];omega
    ·have HF:Hid (u=true):=by
      show _=_
      rw [<- a5.out,List.drop_of_length_le (by have:=HM.out;omega)];rfl
     have s:¬ (j:Int)<m:=by omega
     go_wp2_with fail
     go_ret
     exact ⟨by rw [HF.out];rfl,y.out⟩
end Go.Proofs.YthfilnflgahcjaaGreatDoor

namespace Go.Proofs.YthfilnflgahcjaaGreatDoor
open Go.RowKit Go.Shelf
set_option linter.all false
attribute [local go_sem] Oper.semAt_some
theorem Je7 {k:Int} (h1:-9223372036854775808<=k) (h2:k<=9223372036854775807):I64 k:=by
 have a:IntKind.i64.min=-9223372036854775808:=by kernel_rfl
 have b:IntKind.i64.max=9223372036854775807:=by kernel_rfl
 unfold I64 Lit.wf
 simp [a,b]
 omega
theorem Zh9 {next:Int}:∀ {ks:List Int} {l:Int},Zco next l ks=true->(∀ x ∈ ks,l<=x/\x<next)/\ks.Pairwise (·≠·)
 | [],l,h=>⟨fun x T=>by simp at T,List.Pairwise.nil⟩
 | y::r,l,h=>by
  rw [Zco] at h
  simp only [Bool.and_eq_true,Bool.not_eq_true',decide_eq_false_iff_not] at h
  obtain ⟨h1,h2,h3⟩:=h
  obtain ⟨h4,h5⟩:=Zh9 h3
  refine ⟨fun x T=>?_,List.pairwise_cons.2 ⟨fun x T=>by have:=h4 x T;omega,h5⟩⟩
  rcases List.mem_cons.1 T with rfl | T
  ·omega
  ·have:=h4 x T;omega
def Zaz (g:Zx):Bool:=decide ((g.nodes.length:Int)+(g.rels.length:Int)<=65536)&&((Zco g.nn 0 (g.nodes.map Zj.id)&&Zco g.nr 0 (g.rels.map Zbr.id))&&(Zbu g.nodes&&((Jv g.nodes&&Zag g.rels)&&(Zft g.rels&&Zj3 (Zj2 g.nodes) g.rels))))
set_option maxRecDepth 100000 in
set_option maxHeartbeats 4000000 in
theorem Zi6 (g:Zx) (B:Nat) (v:Value) (w:World) (hB:B<=w.heap.size) (hE:Env w) (hg:Zp B w v g) (hz:Jbj g) (b8:-9223372036854775808<=g.nn/\g.nn<=9223372036854775807) (a9:-9223372036854775808<=g.nr/\g.nr<=9223372036854775807) (a7:∀ r ∈ g.rels,I64 r.fr/\I64 r.tt):Calls Tryz.prog 13 #[v] w fun e w'=>e=.returned (.int .i64 (if Zaz g=true then 0 else 2))/\Below w.heap.size w w':=by
 have L:=Za hE
 obtain ⟨u,A⟩:∃ r,Zaz g=r:=⟨_,rfl⟩
 rw [A]
 obtain ⟨code,C⟩:∃ c:Int,(if u=true then 0 else 2)=c:=⟨_,rfl⟩
 rw [C]
 have D:=Za C
 clear C
 unfold Zaz at A
 have c0:=hg
 obtain ⟨na,nc,ra,rc,rfl,_,_⟩:=c0
 have R:Hid (∀ W,Below w.heap.size w W->Calls Tryz.prog 100 #[.agg #[.slice na g.nodes.length nc,.slice ra g.rels.length rc,.int .i64 g.nn,.int .i64 g.nr]] W fun e w'=>e=.returned (.bool (decide ((g.nodes.length:Int)+(g.rels.length:Int)<=65536)))/\Below W.heap.size W w'):=fun W hb=>Jbk g B _ W (by have:=hb.size;omega) (L.out.below hb L.out.room) (hg.below (hb.mono hB)) hz
 have a4:Hid (∀ W,Below w.heap.size w W->Calls Tryz.prog 101 #[.agg #[.slice na g.nodes.length nc,.slice ra g.rels.length rc,.int .i64 g.nn,.int .i64 g.nr]] W fun e w'=>e=.returned (.bool ((Zco g.nn 0 (g.nodes.map Zj.id)&&Zco g.nr 0 (g.rels.map Zbr.id))))/\Below W.heap.size W w'):=fun W hb=>Zrz g B _ W (by have:=hb.size;omega) (hg.below (hb.mono hB)) b8 a9
 have X:Hid (∀ W,Below w.heap.size w W->Calls Tryz.prog 102 #[.agg #[.slice na g.nodes.length nc,.slice ra g.rels.length rc,.int .i64 g.nn,.int .i64 g.nr]] W fun e w'=>e=.returned (.bool (Zbu g.nodes))/\Below W.heap.size W w'):=fun W hb=>Zvp g B _ W (by have:=hb.size;omega) (L.out.below hb L.out.room) (hg.below (hb.mono hB)) hz
 have P:Hid (∀ W,Below w.heap.size w W->Calls Tryz.prog 103 #[.agg #[.slice na g.nodes.length nc,.slice ra g.rels.length rc,.int .i64 g.nn,.int .i64 g.nr]] W fun e w'=>e=.returned (.bool ((Jv g.nodes&&Zag g.rels)))/\Below W.heap.size W w'):=fun W hb=>Zx4 g B _ W (by have:=hb.size;omega) (L.out.below hb L.out.room) (hg.below (hb.mono hB)) hz
 have a5:Hid (∀ W,Below w.heap.size w W->Calls Tryz.prog 104 #[.agg #[.slice na g.nodes.length nc,.slice ra g.rels.length rc,.int .i64 g.nn,.int .i64 g.nr]] W fun e w'=>e=.returned (.bool (Zft g.rels))/\Below W.heap.size W w'):=fun W hb=>Zx3 g B _ W (by have:=hb.size;omega) (L.out.below hb L.out.room) (hg.below (hb.mono hB)) hz
 have Y:Hid ((Zco g.nn 0 (g.nodes.map Zj.id)&&Zco g.nr 0 (g.rels.map Zbr.id))=true->∀ W,Below w.heap.size w W->Calls Tryz.prog 105 #[.agg #[.slice na g.nodes.length nc,.slice ra g.rels.length rc,.int .i64 g.nn,.int .i64 g.nr]] W fun e w'=>e=.returned (.bool (Zj3 (Zj2 g.nodes) g.rels))/\Below W.heap.size W w'):=fun hk W hb=>by
  have b7:=Zh9 (Bool.and_eq_true_iff.1 hk).1
  exact Zwu g B _ W (by have:=hb.size;omega) (hg.below (hb.mono hB)) b7.2 (fun n hn=>by
   have:=b7.1 n.id (List.mem_map_of_mem hn)
   exact Je7 (by omega) (by omega)) a7
 obtain ⟨b0,U⟩:∃ b,decide ((g.nodes.length:Int)+(g.rels.length:Int)<=65536)=b:=⟨_,rfl⟩
 obtain ⟨b1,I⟩:∃ b,(Zco g.nn 0 (g.nodes.map Zj.id)&&Zco g.nr 0 (g.rels.map Zbr.id))=b:=⟨_,rfl⟩
 obtain ⟨b2,F⟩:∃ b,Zbu g.nodes=b:=⟨_,rfl⟩
 obtain ⟨b3,d⟩:∃ b,(Jv g.nodes&&Zag g.rels)=b:=⟨_,rfl⟩
 obtain ⟨b4,S⟩:∃ b,Zft g.rels=b:=⟨_,rfl⟩
 obtain ⟨b5,V⟩:∃ b,Zj3 (Zj2 g.nodes) g.rels=b:=⟨_,rfl⟩
 rw [U] at R
 rw [I] at a4
 rw [F] at X
 rw [d] at P
 rw [S] at a5
 rw [I,V] at Y
 rw [U,I,F,d,S,V] at A
 have HR:=Za A
 clear U I F d S V A hg hz b8 a9 a7
 obtain ⟨ns,rs,nn,nr⟩:=g
 simp only at R a4 X P a5 Y |-
 generalize ns.length=n at *
 generalize rs.length=m at *
 go_enter Tryz.func13,Tryz.ntmps13
 go_upto_region 1 with fail
 generalize Q:World.alloc _ _=W1
 have N:=Zk w #[.slice na n nc,.slice ra m rc,.int .i64 nn,.int .i64 nr] 25
 rw [Q] at N
 have b9:Hid (Below w.heap.size w W1):=by rw [<- Q];exact (Below.refl _ _).alloc (Nat.le_refl _) _
 have b6:=Za N
 clear Q N
 go_wp2_with fail
 refine (Zws _).mono ?_
 rintro e w2 ⟨rfl,F,M⟩
 have K:=Za F
 have O:=Za M
 obtain ⟨p,hp⟩:∃ p,W1.heap.size=p:=⟨_,rfl⟩
 have c2:p<w2.heap.size:=by
  rw [<- hp]
  exact Jj (M 0 _ rfl)
 rw [hp] at O |-
 clear F M hp
 go_wp2_with fail
 go_loopw [7] (fun x wr=>∃ q:Nat,q<=6/\x=.int .i64 q/\Below w2.heap.size w2 wr/\(([b0,b1,b2,b3,b4,b5].drop q).all id)=u/\(2<=q->b1=true)) (fun x _=>6 - (intOf x).toNat)
 case atStart=>exact ⟨0,by omega,rfl,Below.refl _ _,by rw [<- HR.out];simp,fun h=>by omega⟩
 case round =>
  obtain ⟨q,hq,rfl,hb,a8,a6⟩:=hrel
  have G:=Za hb
  have o:=Za a8
  have H:=Za a6
  have j:=Za (Zm b9.out (Zm K.out hb))
  have z:=b6.out.below (Zm K.out hb) b6.out.lt
  have a0:=z.cell 0 rfl
  have a1:=z.cell 1 rfl
  have a2:=z.cell 2 rfl
  have a3:=z.cell 3 rfl
  clear hb a8 a6 z
  have c1:q=0\/q=1\/q=2\/q=3\/q=4\/q=5\/q=6:=by omega
  rcases c1 with rfl | rfl | rfl | rfl | rfl | rfl | rfl
  ·have k0:=Zar G.out (Nat.le_refl _) (O.out 0 _ rfl)
   have f:=Za (R.out wr j.out)
   go_wp2_with fail
   refine f.out.mono ?_
   rintro e w3 ⟨rfl,d⟩
   have s:=Za (Zm G.out d)
   have i:=Za (Zm j.out d)
   clear d a0 a1 a2 a3 k0 f
   cases b0 with
   | false =>
    have E:Hid (code=2):=by
     show _=_
     have e:u=false:=by rw [<- o.out];rfl
     rw [<- D.out,e];rfl
    go_wp2_with fail
    go_ret
    exact ⟨by rw [E.out];rfl,i.out⟩
   | true =>
    have t:=Za o.out
    go_wp2_with fail
    go_roundw
    case rel=>exact ⟨1,by omega,rfl,s.out,t.out,fun h=>by omega⟩
    case measure=>simp [intOf]
  ·have k0:=Zar G.out (Nat.le_refl _) (O.out 1 _ rfl)
   have f:=Za (a4.out wr j.out)
   go_wp2_with fail
   refine f.out.mono ?_
   rintro e w3 ⟨rfl,d⟩
   have s:=Za (Zm G.out d)
   have i:=Za (Zm j.out d)
   clear d a0 a1 a2 a3 k0 f
   cases b1 with
   | false =>
    have E:Hid (code=2):=by
     show _=_
     have e:u=false:=by rw [<- o.out];rfl
     rw [<- D.out,e];rfl
    go_wp2_with fail
    go_ret
    exact ⟨by rw [E.out];rfl,i.out⟩
   | true =>
    have t:=Za o.out
    go_wp2_with fail
    go_roundw
    case rel=>exact ⟨2,by omega,rfl,s.out,t.out,fun h=>trivial⟩
    case measure=>simp [intOf]
  ·have k0:=Zar G.out (Nat.le_refl _) (O.out 2 _ rfl)
   have f:=Za (X.out wr j.out)
   go_wp2_with fail
   refine f.out.mono ?_
   rintro e w3 ⟨rfl,d⟩
   have s:=Za (Zm G.out d)
   have i:=Za (Zm j.out d)
   clear d a0 a1 a2 a3 k0 f
   cases b2 with
   | false =>
    have E:Hid (code=2):=by
     show _=_
     have e:u=false:=by rw [<- o.out];rfl
     rw [<- D.out,e];rfl
    go_wp2_with fail
    go_ret
    exact ⟨by rw [E.out];rfl,i.out⟩
   | true =>
    have t:=Za o.out
    go_wp2_with fail
    go_roundw
    case rel=>exact ⟨3,by omega,rfl,s.out,t.out,fun h=>H.out (by omega)⟩
    case measure=>simp [intOf]
  ·have k0:=Zar G.out (Nat.le_refl _) (O.out 3 _ rfl)
   have f:=Za (P.out wr j.out)
   go_wp2_with fail
   refine f.out.mono ?_
   rintro e w3 ⟨rfl,d⟩
   have s:=Za (Zm G.out d)
   have i:=Za (Zm j.out d)
   clear d a0 a1 a2 a3 k0 f
   cases b3 with
   | false =>
    have E:Hid (code=2):=by
     show _=_
     have e:u=false:=by rw [<- o.out];rfl
     rw [<- D.out,e];rfl
    go_wp2_with fail
    go_ret
    exact ⟨by rw [E.out];rfl,i.out⟩
   | true =>
    have t:=Za o.out
    go_wp2_with fail
    go_roundw
    case rel=>exact ⟨4,by omega,rfl,s.out,t.out,fun h=>H.out (by omega)⟩
    case measure=>simp [intOf]
  ·have k0:=Zar G.out (Nat.le_refl _) (O.out 4 _ rfl)
   have f:=Za (a5.out wr j.out)
   go_wp2_with fail
   refine f.out.mono ?_
   rintro e w3 ⟨rfl,d⟩
   have s:=Za (Zm G.out d)
   have i:=Za (Zm j.out d)
   clear d a0 a1 a2 a3 k0 f
   cases b4 with
   | false =>
    have E:Hid (code=2):=by
     show _=_
     have e:u=false:=by rw [<- o.out];rfl
     rw [<- D.out,e];rfl
    go_wp2_with fail
    go_ret
    exact ⟨by rw [E.out];rfl,i.out⟩
   | true =>
    have t:=Za o.out
    go_wp2_with fail
    go_roundw
    case rel=>exact ⟨5,by omega,rfl,s.out,t.out,fun h=>H.out (by omega)⟩
    case measure=>simp [intOf]
  ·have k0:=Zar G.out (Nat.le_refl _) (O.out 5 _ rfl)
   have f:=Za (Y.out (H.out (by omega)) wr j.out)
   go_wp2_with fail
   refine f.out.mono ?_
   rintro e w3 ⟨rfl,d⟩
   have s:=Za (Zm G.out d)
   have i:=Za (Zm j.out d)
   clear d a0 a1 a2 a3 k0 f
   cases b5 with
   | false =>
    have E:Hid (code=2):=by
     show _=_
     have e:u=false:=by rw [<- o.out];rfl
     rw [<- D.out,e];rfl
    go_wp2_with fail
    go_ret
    exact ⟨by rw [E.out];rfl,i.out⟩
   | true =>
    have t:=Za o.out
    go_wp2_with fail
    go_roundw
    case rel=>exact ⟨6,by omega,rfl,s.out,t.out,fun h=>H.out (by omega)⟩
    case measure=>simp [intOf]
  ·have E:Hid (code=0):=by
    show _=_
    have e:u=true:=by rw [<- o.out];rfl
    rw [<- D.out,e];rfl
   go_wp2_with fail
   go_ret
   exact ⟨by rw [E.out];rfl,j.out⟩
end Go.Proofs.YthfilnflgahcjaaGreatDoor

namespace Go.Proofs.YthfilnflgahcjaaGreatDoor
open Go.RowKit Go.Shelf Go.Maps
set_option linter.all false
attribute [local go_sem] Oper.semAt_some
structure Zpt (tx:Zd->ByteArray) (g:Zx) (most K:Nat):Prop where
 ln:g.nodes.length<=100000
 lr:g.rels.length<=100000
 fr:∀ r ∈ g.rels,W64 r.fr/\W64 r.tt
 nd:(g.nodes.map Zj.id).Nodup
 id:∀ n ∈ g.nodes,W64 n.id
 ll:(Zi g.nodes).length<=1000000
 kk:∀ n ∈ g.nodes,n.labels.length<=K
 km:K<=1000000000
 jn:(cnt (Zl g.rels)).length*K<=1000000000
 it:(Zq tx g.nodes).length<=1000000
 wl:Zju (Zq tx g.nodes)<=100000000
 cl:(Zaf (Zi g.nodes)).length<=most
 ct:(Zaf (g.rels.map fun r=>r.type)).length<=most
 ce:(Jc (Jn g.nodes (cnt (Zl g.rels)))).length<=most
 ck:(Zds (Zci (Zq tx g.nodes)).2).length<=most
structure Zk7 (tx:Zd->ByteArray) (g:Zx) (G I:ByteArray × Int->ByteArray × Int->Prop) (H:Zae->Zae->Prop) (M:Zav->Zav->Prop) (s:Zak):Prop where
 n:s.nodes=g.nodes.length
 r:s.rels=g.rels.length
 l1:s.labels.Perm ((Zaf (Zi g.nodes)).map (fun p:(ByteArray × Int) × Int=>(p.1.1,p.2)))
 l2:s.labels.Pairwise G
 t1:s.types.Perm ((Zaf (g.rels.map fun r=>r.type)).map (fun p:(ByteArray × Int) × Int=>(p.1.1,p.2)))
 t2:s.types.Pairwise I
 e1:s.ends.Perm ((Jc (Jn g.nodes (cnt (Zl g.rels)))).map (fun p:Zae × Int=>(p.1.1,p.1.2.1,p.1.2.2.1,p.2)))
 e2:s.ends.Pairwise H
 k1:s.keys.Perm (Zom (Zci (Zq tx g.nodes)).2)
 k2:s.keys.Pairwise M
structure Zzl (base:Nat) (w:World) (vl vt ve vk:Value) (s:Zak):Prop where
 l:Jb 42 2 Za0 base w vl s.labels
 t:Jb 62 2 Za0 base w vt s.types
 e:Jb 64 4 Zc7 base w ve s.ends
 k:Jb 66 4 Zd3 base w vk s.keys
def Jhn (o:Option Oper):Array Edge:=match o with | some o=>o.after | none=>#[]
def Jho (o:Option Oper):String:=match o with | some o=>o.pos | none => ""
theorem Jff:∃ a1 a2 a3 q1 q2 q3,Zac L11 [14,15,16]=[⟨some 22,.build 33 #[(0,.tmp 10),(1,.tmp 13),(2,.tmp 15),(3,.tmp 17),(4,.tmp 19),(5,.tmp 21)],33,q1,a1,none⟩,⟨none,.store 33 (.tmp 2) (.tmp 22),0,q2,a2,none⟩,⟨some 3,.assign (.const (.int .i64 0)),34,q3,a3,none⟩]:=⟨Jhn (Zbn L11 14),Jhn (Zbn L11 15),Jhn (Zbn L11 16),Jho (Zbn L11 14),Jho (Zbn L11 15),Jho (Zbn L11 16),by kernel_rfl⟩
set_option maxRecDepth 100000 in
set_option maxHeartbeats 16000000 in
theorem Zmt {G I:ByteArray × Int->ByteArray × Int->Prop} {H:Zae->Zae->Prop} {M:Zav->Zav->Prop} {most:Nat} (h4:Zse G most) (g4:Zro I most) (f8:Zsy H most) (h7:Zsa M most) (x:most<=900000)
  (tx:Zd->ByteArray) (K:Nat) (g:Zx) (v:Value) (B:Nat) (w:World) (hB:B<=w.heap.size) (hE:Env w) (h:Zp B w v g) (hz:Jbj g) (h8:-9223372036854775808<=g.nn/\g.nn<=9223372036854775807) (f9:-9223372036854775808<=g.nr/\g.nr<=9223372036854775807) (f:Zpt tx g most K) (g9:Zaz g=true)
  (hT:∀ n ∈ g.nodes,∀ p ∈ n.props,okS (tx p.2)/\∀ (W:World) (u:Value),Below w.heap.size w W->Zb6 B W u p.2->Calls Tryz.prog 127 #[u] W fun e w'=>e=.returned (.tuple #[.string (tx p.2),.int .i64 0])/\Below W.heap.size W w') :
  Calls Tryz.prog 11 #[v] w fun e w'=>∃ s vl vt ve vk,e=.returned (.tuple #[Za4 s vl vt ve vk,.int .i64 0])/\Zk7 tx g G I H M s/\Zzl w.heap.size w' vl vt ve vk s/\Below w.heap.size w w':=by
 have HG:=Za h
 obtain ⟨na,nc,ra,rc,rfl,_,_⟩:=h
 have HF:=Za f
 have g0:=f.ln
 have g5:=f.lr
 have a0:=Za (fun (W:World) (hb:Below w.heap.size w W)=>Zi6 g B _ W (Nat.le_trans hB hb.size) (hE.below hb hE.room) (HG.out.below (hb.mono hB)) hz h8 f9 f.fr)
 rw [if_pos g9] at a0
 have HT:=Za hT
 obtain ⟨l1,a5⟩:∃ m,g.nodes.length=m:=⟨_,rfl⟩
 obtain ⟨l2,a7⟩:∃ m,g.rels.length=m:=⟨_,rfl⟩
 have HL:=Za (And.intro a5 a7)
 rw [a5] at g0
 rw [a7] at g5
 rw [a5,a7] at HG a0 |-
 generalize g.nn=nn at *
 generalize g.nr=nr at *
 clear f a5 a7 hT hE hz
 obtain ⟨Wa,T⟩:∃ W,w.alloc (.cells #[.slice na l1 nc,.slice ra l2 rc,.int .i64 nn,.int .i64 nr] 25)=W:=⟨_,rfl⟩
 have f0:Rec Wa w.heap.size #[.slice na l1 nc,.slice ra l2 rc,.int .i64 nn,.int .i64 nr] 25:=by rw [<- T];exact Zk _ _ _
 have b4:Wa.heap.size=w.heap.size+1:=by rw [<- T];simp
 have f4:Below w.heap.size w Wa:=by rw [<- T];exact (Below.refl _ _).alloc (Nat.le_refl _) _
 obtain ⟨Wb,P⟩:∃ W,Wa.alloc (.cells #[.int .i64 0,.int .i64 0,.slice none 0 0,.slice none 0 0,.slice none 0 0,.slice none 0 0] 33)=W:=⟨_,rfl⟩
 have b2:Below Wa.heap.size Wa Wb:=by rw [<- P];exact (Below.refl _ _).alloc (Nat.le_refl _) _
 have d8:Rec Wb (w.heap.size+1) #[.int .i64 0,.int .i64 0,.slice none 0 0,.slice none 0 0,.slice none 0 0,.slice none 0 0] 33:=by rw [<- P,<- b4];exact Zk _ _ _
 have d7:Wb.heap.size=w.heap.size+1+1:=by rw [<- P,<- b4];simp
 have E:Rec Wb w.heap.size #[.slice na l1 nc,.slice ra l2 rc,.int .i64 nn,.int .i64 nr] 25:=f0.below b2 (by omega)
 have C:Below w.heap.size w Wb:=Below.on f4 b2
 have HB:=Za C
 have b3:=Za E
 have b6:=Za d8
 have d6:=Za d7
 have HC:=Za (a0.out Wb C)
 have c0:=E.cell 0 rfl
 have c1:=E.cell 1 rfl
 have c2:=E.cell 2 rfl
 have c3:=E.cell 3 rfl
 clear f0 f4 b2 E d8 C a0
 go_enter Tryz.func11,Tryz.ntmps11
 go_upto_region 1 with fail
 try rw [T]
 try rw [P]
 clear T P b4 d7
 go_upto_region 3 with (go_at_call 13;refine HC.out.mono ?_;rintro e W2 ⟨rfl,y1⟩;have HY:=Za y1;clear y1)
 have Y:=HY.out
 have h5:=Y.size
 have b9:=b3.out.below Y b3.out.lt
 have d:=b6.out.below Y b6.out.lt
 have c7:=Za (Below.on HB.out Y)
 have a8:=Za b9
 have b0:=Za d
 have g8:Hid (w.heap.size+2<=W2.heap.size):=by show _<=_;have:=d6.out;omega
 clear Y h5 b9 d HY b3 b6 d6 HB HC c0 c1 c2 c3
 refine Jez (L:=L11) 14 [14,15,16] (by kernel_rfl) (by kernel_rfl) ?_
 refine Jc6 (F:=Ze1 (Zkq w.heap.size na l1 nc ra l2 rc nn nr
  (fun v W=>∃ L:List (ByteArray × Int),L.Perm ((Zaf (Zi g.nodes)).map (fun p:(ByteArray × Int) × Int=>(p.1.1,p.2)))/\L.Pairwise G/\Jb 42 2 Za0 (w.heap.size+2) W v L)
  (fun v W=>∃ L:List (ByteArray × Int),L.Perm ((Zaf (g.rels.map fun r=>r.type)).map (fun p:(ByteArray × Int) × Int=>(p.1.1,p.2)))/\L.Pairwise I/\Jb 62 2 Za0 (w.heap.size+2) W v L)
  (fun v W=>∃ L:List Zae,L.Perm ((Jc (Jn g.nodes (cnt (Zl g.rels)))).map (fun p:Zae × Int=>(p.1.1,p.1.2.1,p.1.2.2.1,p.2)))/\L.Pairwise H/\Jb 64 4 Zc7 (w.heap.size+2) W v L)
  (fun v W=>∃ L:List Zav,L.Perm (Zom (Zci (Zq tx g.nodes)).2)/\L.Pairwise M/\Jb 66 4 Zd3 (w.heap.size+2) W v L))) (by kernel_rfl) ?_ ?_ ?_
 ·exact fun i v w w' h1 h2=>Zg9 (Zzs _ _ _ _ _ _ _ _ _ (fun v W W' ⟨L,a,b,c⟩ hb=>⟨L,a,b,c.below hb⟩) (fun v W W' ⟨L,a,b,c⟩ hb=>⟨L,a,b,c.below hb⟩) (fun v W W' ⟨L,a,b,c⟩ hb=>⟨L,a,b,c.below hb⟩) (fun v W W' ⟨L,a,b,c⟩ hb=>⟨L,a,b,c.below hb⟩)) i v w w' h1 h2
 ·intro i hi a W hS hb hF
  have C:Below w.heap.size w W:=Below.on c7.out hb
  have hr:=a8.out.below hb a8.out.lt
  have hg:Zp B W (.agg #[.slice na l1 nc,.slice ra l2 rc,.int .i64 nn,.int .i64 nr]) g:=HG.out.below (C.mono hB)
  have a4:B<=W.heap.size:=Nat.le_trans hB C.size
  have f:=HF.out
  have a6:w.heap.size+2<=W.heap.size:=Nat.le_trans g8.out hb.size
  refine Jhi w.heap.size na l1 nc ra l2 rc nn nr _ _ _ _ _ a W ((Za2 hS (by kernel_rfl)).trans rfl) (by omega) (by omega) ⟨hr.cell 0 rfl,hr.cell 1 rfl,hr.cell 2 rfl,hr.cell 3 rfl,?_,?_,?_,?_⟩ i hi hF
  ·refine (Zv0 h4 x g _ B W a4 hg f.ln f.ll f.cl).mono ?_
   rintro e W' ⟨v,L,rfl,x1,x2,x3,x4⟩
   exact ⟨v,rfl,⟨L,x1,x2,x3.base a6⟩,x4⟩
  ·refine (Zza g4 x g _ B W a4 hg f.lr f.ct).mono ?_
   rintro e W' ⟨v,L,rfl,x1,x2,x3,x4⟩
   exact ⟨v,rfl,⟨L,x1,x2,x3.base a6⟩,x4⟩
  ·refine (Jba f8 x g _ B W a4 hg f.lr f.ln f.fr f.nd f.id K f.kk f.km f.jn f.ce).mono ?_
   rintro e W' ⟨v,L,rfl,x1,x2,x3,x4⟩
   exact ⟨v,rfl,⟨L,x1,x2,x3.base a6⟩,x4⟩
  ·refine (Jbh h7 x tx g _ B W a4 hg f.ln (fun n hn p hp=>⟨(HT.out n hn p hp).1,fun W' u h1 h2=>(HT.out n hn p hp).2 W' u (Below.on C h1) h2⟩) f.it f.wl f.ck).mono ?_
   rintro e W' ⟨v,L,rfl,x1,x2,x3,x4⟩
   exact ⟨v,rfl,⟨L,x1,x2,x3.base a6⟩,x4⟩
 ·intro a W hS hb hF
  show wpList Tryz.prog L11.toArray _ (Zac L11 [14,15,16]) a W
  obtain ⟨a1,a2,a3,q1,q2,q3,g6⟩:=Jff
  rw [g6]
  have c8:a.eval (.tmp 10)=.int .i64 l1:=Zg (p:=eqv (.int .i64 l1)) (by kernel_rfl) rfl (hF 2 (by omega))
  have c9:a.eval (.tmp 13)=.int .i64 l2:=Zg (p:=eqv (.int .i64 l2)) (by kernel_rfl) rfl (hF 5 (by omega))
  obtain ⟨LL,f1,f2,f3⟩:=Zg (p:=fun v W=>∃ L:List (ByteArray × Int),L.Perm ((Zaf (Zi g.nodes)).map (fun p:(ByteArray × Int) × Int=>(p.1.1,p.2)))/\L.Pairwise G/\Jb 42 2 Za0 (w.heap.size+2) W v L) (by kernel_rfl) rfl (hF 7 (by omega))
  obtain ⟨LT,g1,g2,g3⟩:=Zg (p:=fun v W=>∃ L:List (ByteArray × Int),L.Perm ((Zaf (g.rels.map fun r=>r.type)).map (fun p:(ByteArray × Int) × Int=>(p.1.1,p.2)))/\L.Pairwise I/\Jb 62 2 Za0 (w.heap.size+2) W v L) (by kernel_rfl) rfl (hF 9 (by omega))
  obtain ⟨LE,h1,h2,h3⟩:=Zg (p:=fun v W=>∃ L:List Zae,L.Perm ((Jc (Jn g.nodes (cnt (Zl g.rels)))).map (fun p:Zae × Int=>(p.1.1,p.1.2.1,p.1.2.2.1,p.2)))/\L.Pairwise H/\Jb 64 4 Zc7 (w.heap.size+2) W v L) (by kernel_rfl) rfl (hF 11 (by omega))
  obtain ⟨LK,k1,k2,k3⟩:=Zg (p:=fun v W=>∃ L:List Zav,L.Perm (Zom (Zci (Zq tx g.nodes)).2)/\L.Pairwise M/\Jb 66 4 Zd3 (w.heap.size+2) W v L) (by kernel_rfl) rfl (hF 13 (by omega))
  obtain ⟨e6,b1⟩:∃ y,a.eval (.tmp 15)=y:=⟨_,rfl⟩
  obtain ⟨e4,b8⟩:∃ y,a.eval (.tmp 17)=y:=⟨_,rfl⟩
  obtain ⟨e3,b5⟩:∃ y,a.eval (.tmp 19)=y:=⟨_,rfl⟩
  obtain ⟨d9,b7⟩:∃ y,a.eval (.tmp 21)=y:=⟨_,rfl⟩
  have f3:Jb 42 2 Za0 (w.heap.size+2) W e6 LL:=by have:=f3;rwa [show a.eval (.tmp 15)=e6 from b1] at this
  have g3:Jb 62 2 Za0 (w.heap.size+2) W e4 LT:=by have:=g3;rwa [show a.eval (.tmp 17)=e4 from b8] at this
  have h3:Jb 64 4 Zc7 (w.heap.size+2) W e3 LE:=by have:=h3;rwa [show a.eval (.tmp 19)=e3 from b5] at this
  have k3:Jb 66 4 Zd3 (w.heap.size+2) W d9 LK:=by have:=k3;rwa [show a.eval (.tmp 21)=d9 from b7] at this
  obtain ⟨X,N,rfl⟩:=f3.slice
  obtain ⟨S,O,rfl⟩:=g3.slice
  obtain ⟨R,Q,rfl⟩:=h3.slice
  obtain ⟨V,U,rfl⟩:=k3.slice
  have d:=b0.out.below hb b0.out.lt
  have h0:=Za (Below.on c7.out hb)
  have h6:=Za (And.intro f3 (And.intro g3 (And.intro h3 k3)))
  have g7:=Za (And.intro (And.intro f1 f2) (And.intro (And.intro g1 g2) (And.intro (And.intro h1 h2) (And.intro k1 k2))))
  have i1:=Za d
  clear f1 f2 f3 g1 g2 g3 h1 h2 h3 k1 k2 k3 hF hb
  rw [Zwo [8,9,10,11,12,13,14,15,16,17,18,19,20,21] hS (by kernel_rfl)]
  unfold Jcc
  obtain ⟨y8,e8⟩:∃ y,a.eval (.tmp 8)=y:=⟨_,rfl⟩
  obtain ⟨y9,e9⟩:∃ y,a.eval (.tmp 9)=y:=⟨_,rfl⟩
  obtain ⟨i8,f7⟩:∃ y,a.eval (.tmp 11)=y:=⟨_,rfl⟩
  obtain ⟨i9,f6⟩:∃ y,a.eval (.tmp 12)=y:=⟨_,rfl⟩
  obtain ⟨i5,c6⟩:∃ y,a.eval (.tmp 14)=y:=⟨_,rfl⟩
  obtain ⟨i7,f5⟩:∃ y,a.eval (.tmp 16)=y:=⟨_,rfl⟩
  obtain ⟨i6,e7⟩:∃ y,a.eval (.tmp 18)=y:=⟨_,rfl⟩
  obtain ⟨i4,e0⟩:∃ y,a.eval (.tmp 20)=y:=⟨_,rfl⟩
  simp only [List.foldl_cons,List.foldl_nil,e8,e9,c8,f7,f6,c9,c6,b1,f5,b8,e7,b5,e0,b7]
  clear e8 e9 c8 f7 f6 c9 c6 b1 f5 b8 e7 b5 e0 b7 hS
  simp only [Act.put,List.setIfInBounds_toArray,List.set_cons_succ,List.set_cons_zero]
  have c0:=d.cell 0 rfl
  have c1:=d.cell 1 rfl
  have c2:=d.cell 2 rfl
  have c3:=d.cell 3 rfl
  have c4:=d.cell 4 rfl
  have c5:=d.cell 5 rfl
  generalize h9:LL.length=n1 at *
  generalize i3:LT.length=n2 at *
  generalize i0:LE.length=n3 at *
  generalize i2:LK.length=n4 at *
  have z0:=d.z 0
  have z1:=d.z 1
  have z2:=d.z 2
  have z3:=d.z 3
  have z4:=d.z 4
  have z5:=d.z 5
  have a9:=Za (Jm (Jm (Jm (Jm (Jm (Jm (Zev d) 0 (.int .i64 l1)) 1 (.int .i64 l2)) 2 (.slice X n1 N)) 3 (.slice S n2 O)) 4 (.slice R n3 Q)) 5 (.slice V n4 U))
  clear d
  go_wp2_with fail
  obtain ⟨W3,e5⟩:∃ W3,(((((W.setCell { block:=w.heap.size+1,off:=0 } (Value.int IntKind.i64 l1)).setCell { block:=w.heap.size+1,off:=1 } (Value.int IntKind.i64 l2)).setCell { block:=w.heap.size+1,off:=2 } (Value.slice X n1 N)).setCell { block:=w.heap.size+1,off:=3 } (Value.slice S n2 O)).setCell { block:=w.heap.size+1,off:=4 } (Value.slice R n3 Q)).setCell { block:=w.heap.size+1,off:=5 } (Value.slice V n4 U)=W3:=⟨_,rfl⟩
  rw [e5] at a9
  rw [e5]
  have j:=a9.out
  have D:=j.r
  simp only [List.setIfInBounds_toArray,List.set_cons_succ,List.set_cons_zero] at D
  have d0:=D.cell 0 rfl
  have d1:=D.cell 1 rfl
  have d2:=D.cell 2 rfl
  have d3:=D.cell 3 rfl
  have d4:=D.cell 4 rfl
  have d5:=D.cell 5 rfl
  obtain ⟨⟨f1,f2⟩,⟨g1,g2⟩,⟨h1,h2⟩,k1,k2⟩:=g7.out
  obtain ⟨f3,g3,h3,k3⟩:=h6.out
  refine bodyPost_ret (v:=.tuple #[.agg #[.int .i64 l1,.int .i64 l2,.slice X n1 N,.slice S n2 O,.slice R n3 Q,.slice V n4 U],.int .i64 0]) ?_ rfl ⟨⟨l1,l2,LL,LT,LE,LK⟩,_,_,_,_,rfl,⟨congrArg _ HL.out.1.symm,congrArg _ HL.out.2.symm,f1,f2,g1,g2,h1,h2,k1,k2⟩,⟨?_,?_,?_,?_⟩,h0.out.trans (j.below.mono (by omega))⟩
  ·simp [results,Tryz.results11,go_sem,d0,d1,d2,d3,d4,d5]
  ·exact Jb.base (Jb.keep f3 (fun q hq _=>j.other q (show q≠w.heap.size+1 by omega))) (show w.heap.size<=w.heap.size+2 by omega)
  ·exact Jb.base (Jb.keep g3 (fun q hq _=>j.other q (show q≠w.heap.size+1 by omega))) (show w.heap.size<=w.heap.size+2 by omega)
  ·exact Jb.base (Jb.keep h3 (fun q hq _=>j.other q (show q≠w.heap.size+1 by omega))) (show w.heap.size<=w.heap.size+2 by omega)
  ·exact Jb.base (Jb.keep k3 (fun q hq _=>j.other q (show q≠w.heap.size+1 by omega))) (show w.heap.size<=w.heap.size+2 by omega)
end Go.Proofs.YthfilnflgahcjaaGreatDoor

namespace Go.Proofs.YthfilnflgahcjaaGreatDoor
open Go.RowKit Go.Shelf Go.Lib
set_option linter.all false
attribute [local go_sem] Oper.semAt_some
set_option maxRecDepth 100000 in
theorem Zxs (w:World):Calls Tryz.prog 163 #[.int .i64 1] w fun e w'=>e=.returned (.string ⟨#[49]⟩)/\w'=w:=by
 go_enter Tryz.func163,Tryz.ntmps163
 go_wp2_with fail
 go_ret
 exact ⟨rfl,rfl⟩
def Jhe (e:Ending) (w w':World):Prop:=∃ g c,e=.returned (.slice (some ⟨g,0,none⟩) 1 c)/\w'.cell? ⟨g,0,none⟩=some (.int .u8 49)/\Below w.heap.size w w'
set_option maxRecDepth 100000 in
theorem Zl4 (w:World):Calls Tryz.prog 253 #[.slice none 0 0,.int .u64 1,.int .i64 10] w fun e w'=>Jhe e w w':=by
 go_enter Tryz.func253,Tryz.ntmps253
 go_wp2_with fail
 refine (Zxs w).mono ?_
 rintro e w1 ⟨rfl,A⟩
 subst A
 go_wp2_with fail
 go_ret
 refine ⟨_,_,rfl,?_,((Below.refl _ _).alloc (Nat.le_refl _) _).drew⟩
 show World.cell? (World.alloc _ _) _=_
 refine Zh _ _ _ 0 _ ?_
 rw [Array.getElem?_append_left (by decide)]
 rfl
set_option maxRecDepth 100000 in
theorem Zoe (w:World):Calls Tryz.prog 239 #[.slice none 0 0,.int .i64 1,.int .i64 10] w fun e w'=>Jhe e w w':=by
 have i:=Za (Zl4 w)
 go_enter Tryz.func239,Tryz.ntmps239
 go_wp2_with fail
 refine i.out.mono ?_
 rintro e w' ⟨g,c,rfl,h,f⟩
 have k:=Za (And.intro h f)
 clear h f i
 go_wp2_with fail
 go_ret
 exact ⟨g,c,rfl,k.out.1,k.out.2⟩
set_option maxRecDepth 100000 in
theorem Zof (w:World):Calls Tryz.prog 202 #[.slice none 0 0,.int .i64 1,.int .i64 10] w fun e w'=>Jhe e w w':=by
 have i:=Za (Zoe w)
 go_enter Tryz.func202,Tryz.ntmps202
 go_wp2_with fail
 refine i.out.mono ?_
 rintro e w' ⟨g,c,rfl,h,f⟩
 have k:=Za (And.intro h f)
 clear h f i
 go_wp2_with fail
 go_ret
 exact ⟨g,c,rfl,k.out.1,k.out.2⟩
set_option maxRecDepth 100000 in
set_option maxHeartbeats 4000000 in
theorem Ja2 (b:Bool) (s:ByteArray) (ka la:Option Addr) (q kc ll lc:Nat) (w:World):Calls Tryz.prog 152 #[.slice none 0 0,.agg #[.int .i64 2,.bool b,.int .i64 1,.string s,.slice ka q kc,.slice la ll lc]] w fun e w'=>Jhe e w w':=by
 obtain ⟨l,a⟩:∃ W,w.alloc (.cells #[.int .i64 2,.bool b,.int .i64 1,.string s,.slice ka q kc,.slice la ll lc] 88)=W:=⟨_,rfl⟩
 have hr:Rec l w.heap.size #[.int .i64 2,.bool b,.int .i64 1,.string s,.slice ka q kc,.slice la ll lc] 88:=by rw [<- a];exact Zk _ _ _
 have n:Hid (Below w.heap.size w l):=by rw [<- a];exact (Below.refl _ _).alloc (Nat.le_refl _) _
 have c0:=hr.cell 0 rfl
 have c2:=hr.cell 2 rfl
 have i:=Za (Zof l)
 clear hr
 go_enter Tryz.func152,Tryz.ntmps152
 go_upto_region 1 with fail
 try rw [a]
 clear a
 go_wp2_with fail
 refine i.out.mono ?_
 rintro e w' ⟨g,c,rfl,h,f⟩
 have k:=Za (And.intro h f)
 clear h f i
 go_wp2_with fail
 go_ret
 exact ⟨g,c,rfl,k.out.1,n.out.trans (k.out.2.mono n.out.size)⟩
set_option maxRecDepth 100000 in
set_option maxHeartbeats 4000000 in
theorem Ja3 (v:Value) (w:World) (t:Zb6 w.heap.size w v (.mk 2 false 1 ⟨#[]⟩ [] [])) (C:Zn5 w):Calls Tryz.prog 127 #[v] w fun e w'=>e=.returned (.tuple #[.string ⟨#[49]⟩,.int .i64 0])/\Below w.heap.size w w':=by
 have x:=Za t
 simp only [Zb6] at t
 obtain ⟨ka,kc,la,lc,rfl,-⟩:=t
 simp only [List.length_nil] at x |-
 obtain ⟨l,a⟩:∃ W,w.alloc (.cells #[.int .i64 2,.bool false,.int .i64 1,.string ⟨#[]⟩,.slice ka 0 kc,.slice la 0 lc] 88)=W:=⟨_,rfl⟩
 have hr:Rec l w.heap.size #[.int .i64 2,.bool false,.int .i64 1,.string ⟨#[]⟩,.slice ka 0 kc,.slice la 0 lc] 88:=by rw [<- a];exact Zk _ _ _
 have hb:Below w.heap.size w l:=by rw [<- a];exact (Below.refl _ _).alloc (Nat.le_refl _) _
 have n:=Za hb
 have c0:=hr.cell 0 rfl
 have c1:=hr.cell 1 rfl
 have c2:=hr.cell 2 rfl
 have c3:=hr.cell 3 rfl
 have c4:=hr.cell 4 rfl
 have c5:=hr.cell 5 rfl
 have u:=Za hr
 have i:=Za (Zlv _ _ l ((x.out.below hb).mono hb.size) (C.below hb) (by decide) (by decide))
 rw [show Zbg (.mk 2 false 1 ⟨#[]⟩ [] [])=0 by kernel_rfl] at i
 clear hr hb
 go_enter Tryz.func127,Tryz.ntmps127
 go_upto_region 1 with fail
 try rw [a]
 clear a
 go_wp2_with fail
 refine i.out.mono ?_
 rintro e w2 ⟨rfl,m⟩
 have d:=u.out.below m u.out.lt
 have p:Hid (Below w.heap.size w w2):=n.out.trans (m.mono n.out.size)
 have d0:=d.cell 0 rfl
 have d1:=d.cell 1 rfl
 have d2:=d.cell 2 rfl
 have d3:=d.cell 3 rfl
 have B:=d.cell 4 rfl
 have D:=d.cell 5 rfl
 have o:=Za (Ja2 false ⟨#[]⟩ ka la 0 kc 0 lc w2)
 clear c0 c1 c2 c3 c4 c5 d m
 go_wp2_with fail
 refine o.out.mono ?_
 rintro e r ⟨g,c,rfl,h,f⟩
 have y:(convert 116 9 (.slice (some ⟨g,0,none⟩) 1 c)).run Tryz.prog r=.ok (.string ⟨#[49]⟩) r:=by
  refine run_convert_bytes_back (P:=Tryz.prog) r 116 9 5 ⟨g,0,none⟩ c [49] Tryz.underlying116 Tryz.underlying5 Tryz.underlying9 fun j z=>?_
  simp only [List.length_cons,List.length_nil] at z
  have:j=0:=by omega
  subst this
  exact h
 have E:=Za (p.out.trans (f.mono p.out.size))
 clear h f o d0 d1 d2 d3 B D
 go_wp2_with fail
 go_ret2
 exact ⟨rfl,E.out⟩
end Go.Proofs.YthfilnflgahcjaaGreatDoor

