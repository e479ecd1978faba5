import Derived.Test.YteddjlbfbpecjaaGreatDoorJoin24
namespace Go.Proofs.YteddjlbfbpecjaaGreatDoor
set_option maxHeartbeats 4000000
set_option maxRecDepth 100000
set_option linter.all false
section
open Go.RowKit Go.Shelf
attribute [local go_sem] Oper.semAt_some
def Zax (next:Int):Int->List Int->Bool
 | _,[]=>decide (0<=next)&&decide (next<=4611686018427387904)
 | l,x::r=>!decide (x<l)&&(!decide (next<=x)&&Zax next (x+1) r)
theorem Zsh {next l:Int} {ks:List Int} {j:Nat} {x:Int} (h:ks[j]?=some x):Zax next l (ks.drop j)=(!decide (x<l)&&(!decide (next<=x)&&Zax next (x+1) (ks.drop (j+1)))):=by
 obtain ⟨hj,D⟩:=List.getElem?_eq_some_iff.1 h
 rw [List.drop_eq_getElem_cons hj,D,Zax]
theorem Zao (xi:Int) (la:Option Addr) (ll lc:Nat) (L:Option Addr) (V F:Nat) (w:World):Calls Tryz.prog 56 #[.agg #[.int .i64 xi,.slice la ll lc,.slice L V F]] w fun e w'=>e=.returned (.int .i64 xi)/\Below w.heap.size w w':=by
 go_enter Tryz.func56,Tryz.ntmps56
 go_upto_region 1 with fail
 generalize d:World.alloc _ _=W1
 have M:=Zl w #[.int .i64 xi,.slice la ll lc,.slice L V F] 47
 rw [d] at M
 have C:Hid (Below w.heap.size w W1):=by rw [<- d];exact (Below.refl _ _).alloc (Nat.le_refl _) _
 have q0:=M.cell 0 rfl
 clear d M
 go_wp2_with fail
 go_ret
 exact ⟨rfl,C.out⟩
theorem Za1 (xi fr tt:Int) (ty:ByteArray) (L:Option Addr) (V F:Nat) (w:World):Calls Tryz.prog 54 #[.agg #[.int .i64 xi,.int .i64 fr,.int .i64 tt,.string ty,.slice L V F]] w fun e w'=>e=.returned (.int .i64 xi)/\Below w.heap.size w w':=by
 go_enter Tryz.func54,Tryz.ntmps54
 go_upto_region 1 with fail
 generalize d:World.alloc _ _=W1
 have M:=Zl w #[.int .i64 xi,.int .i64 fr,.int .i64 tt,.string ty,.slice L V F] 49
 rw [d] at M
 have C:Hid (Below w.heap.size w W1):=by rw [<- d];exact (Below.refl _ _).alloc (Nat.le_refl _) _
 have q0:=M.cell 0 rfl
 clear d M
 go_wp2_with fail
 go_ret
 exact ⟨rfl,C.out⟩
theorem Zp8 (ks:List Zo) (next:Int) (B:Nat) (v:Value) (w:World) (U:B<=w.heap.size) (hk:Jj B w v ks) (a9:-9223372036854775808<=next) (a8:next<=9223372036854775807) :
  Calls Tryz.prog 142 #[v,.func (.func 56) #[] #[],.int .i64 next] w fun e w'=>e=.returned (.bool (Zax next 0 (ks.map Zo.id)))/\Below w.heap.size w w':=by
 obtain ⟨ka,kc,rfl,h1,h2,G⟩:=hk
 have HK:=Zb G
 obtain ⟨n,N⟩:∃ n,ks.length=n:=⟨_,rfl⟩
 have HN:=Zb N
 rw [N] at h1 |-
 obtain ⟨res,c⟩:∃ r,Zax next 0 (ks.map Zo.id)=r:=⟨_,rfl⟩
 have HR:=Zb c
 rw [c]
 clear G N c
 go_enter Tryz.func142,Tryz.ntmps142
 go_wp2_with fail
 go_loopw [13,7] (fun i l wr=>∃ (j:Nat) (s:Int),j<=n/\i=.int .i64 j/\l=.int .i64 s/\0<=s/\Below w.heap.size w wr/\Zax next s ((ks.map Zo.id).drop j)=res) (fun i _ _=>n - (intOf i).toNat)
 case atStart=>exact ⟨0,0,Nat.zero_le _,rfl,rfl,by omega,Below.refl _ _,HR.out⟩
 case round =>
  obtain ⟨j,s,hj,rfl,rfl,a6,p,H⟩:=hrel
  have f:=Zb p
  have I:=Zb H
  have a7:w.heap.size<=wr.heap.size:=p.size
  clear p H
  by_cases hlt:j<n
  ·have K:(j:Int)<n:=by omega
   obtain ⟨⟨xi,xl,Y⟩,D⟩:∃ x,ks[j]?=some x:=⟨_,List.getElem?_eq_getElem (by have:=HN.out;omega)⟩
   have HX:Hid ((ks.map Zo.id)[j]?=some xi):=by
    show _=_
    rw [List.getElem?_map,D];rfl
   obtain ⟨bl,off,rfl,S,hc⟩:=HK.out.resolve_left (by intro e;rw [e] at D;simp at D)
   obtain ⟨la,lc,pv,⟨c0,c1,c2⟩,_,_,hp⟩:=(hc j _ D).below (f.out.mono U) S
   simp only at c0 c1 c2 hp
   obtain ⟨L,F,rfl,_,_,_⟩:=hp
   have u:Hid (res=(!decide (xi<s)&&(!decide (next<=xi)&&Zax next (xi+1) ((ks.map Zo.id).drop (j+1))))):=by
    show _=_
    rw [<- I.out,Zsh HX.out]
   clear hc D
   go_upto_region 5 with fail
   generalize q:World.alloc _ _=W2
   have a:=Zl wr #[.int .i64 xi,.slice la xl.length lc,.slice L Y.length F] 47
   rw [q] at a
   have y:Hid (Below wr.heap.size wr W2):=by rw [<- q];exact (Below.refl _ _).alloc (Nat.le_refl _) _
   have k0:=a.cell 0 rfl
   have k1:=a.cell 1 rfl
   have k2:=a.cell 2 rfl
   clear q a c0 c1 c2
   go_wp2_with fail
   refine (Zao xi la xl.length lc L Y.length F _).mono ?_
   rintro e w3 ⟨rfl,o⟩
   have k:=Zb (Za f.out (Za y.out o))
   clear o k0 k1 k2
   by_cases a1:xi<s
   ·have A:Hid (res=false):=by
     show _=_
     rw [u.out,decide_eq_true a1];rfl
    go_wp2_with fail
    go_ret
    exact ⟨by rw [A.out];rfl,k.out⟩
   ·by_cases a2:next<=xi
    ·have A:Hid (res=false):=by
      show _=_
      rw [u.out,decide_eq_false a1,decide_eq_true a2];rfl
     go_wp2_with fail
     go_ret
     exact ⟨by rw [A.out];rfl,k.out⟩
    ·have Q:Hid (Zax next (xi+1) ((ks.map Zo.id).drop (j+1))=res):=by
      show _=_
      rw [u.out,decide_eq_false a1,decide_eq_false a2];rfl
     have a5:IntKind.i64.wrap (xi+1)=xi+1:=by rw [IntKind.wrap_i64];omega
     go_wp2_with fail
     go_roundw
     case rel=>exact ⟨j+1,xi+1,by omega,by go_num,rfl,by omega,k.out,Q.out⟩
     case measure=>simp [intOf];omega
  ·have A:Hid (res=(decide (0<=next)&&decide (next<=4611686018427387904))):=by
    show _=_
    rw [<- I.out,List.drop_of_length_le (by have:=HN.out;simp;omega)];rfl
   have K:¬ (j:Int)<n:=by omega
   by_cases P:0<=next
   ·have z:Hid (res=decide (next<=4611686018427387904)):=by
     show _=_
     rw [A.out,decide_eq_true P];rfl
    go_wp2_with fail
    go_ret
    exact ⟨by rw [z.out];rfl,f.out⟩
   ·have z:Hid (res=false):=by
     show _=_
     rw [A.out,decide_eq_false P];rfl
    go_wp2_with fail
    go_ret
    exact ⟨by rw [z.out];rfl,f.out⟩
theorem Zp9 (ks:List Jg) (next:Int) (B:Nat) (v:Value) (w:World) (U:B<=w.heap.size) (hk:Jt B w v ks) (a9:-9223372036854775808<=next) (a8:next<=9223372036854775807) :
  Calls Tryz.prog 143 #[v,.func (.func 54) #[] #[],.int .i64 next] w fun e w'=>e=.returned (.bool (Zax next 0 (ks.map Jg.id)))/\Below w.heap.size w w':=by
 obtain ⟨ka,kc,rfl,h1,h2,G⟩:=hk
 have HK:=Zb G
 obtain ⟨n,N⟩:∃ n,ks.length=n:=⟨_,rfl⟩
 have HN:=Zb N
 rw [N] at h1 |-
 obtain ⟨res,c⟩:∃ r,Zax next 0 (ks.map Jg.id)=r:=⟨_,rfl⟩
 have HR:=Zb c
 rw [c]
 clear G N c
 go_enter Tryz.func143,Tryz.ntmps143
 go_wp2_with fail
 go_loopw [13,7] (fun i l wr=>∃ (j:Nat) (s:Int),j<=n/\i=.int .i64 j/\l=.int .i64 s/\0<=s/\Below w.heap.size w wr/\Zax next s ((ks.map Jg.id).drop j)=res) (fun i _ _=>n - (intOf i).toNat)
 case atStart=>exact ⟨0,0,Nat.zero_le _,rfl,rfl,by omega,Below.refl _ _,HR.out⟩
 case round =>
  obtain ⟨j,s,hj,rfl,rfl,a6,p,H⟩:=hrel
  have f:=Zb p
  have I:=Zb H
  have a7:w.heap.size<=wr.heap.size:=p.size
  clear p H
  by_cases hlt:j<n
  ·have K:(j:Int)<n:=by omega
   obtain ⟨⟨xi,fr,tt,ty,Y⟩,D⟩:∃ x,ks[j]?=some x:=⟨_,List.getElem?_eq_getElem (by have:=HN.out;omega)⟩
   have HX:Hid ((ks.map Jg.id)[j]?=some xi):=by
    show _=_
    rw [List.getElem?_map,D];rfl
   obtain ⟨bl,off,rfl,S,hc⟩:=HK.out.resolve_left (by intro e;rw [e] at D;simp at D)
   obtain ⟨pv,⟨c0,c1,c2,c3,c4⟩,_,hp⟩:=(hc j _ D).below (f.out.mono U) S
   simp only at c0 c1 c2 c3 c4 hp
   obtain ⟨L,F,rfl,_,_,_⟩:=hp
   have u:Hid (res=(!decide (xi<s)&&(!decide (next<=xi)&&Zax next (xi+1) ((ks.map Jg.id).drop (j+1))))):=by
    show _=_
    rw [<- I.out,Zsh HX.out]
   clear hc D
   go_upto_region 5 with fail
   generalize q:World.alloc _ _=W2
   have a:=Zl wr #[.int .i64 xi,.int .i64 fr,.int .i64 tt,.string ty,.slice L Y.length F] 49
   rw [q] at a
   have y:Hid (Below wr.heap.size wr W2):=by rw [<- q];exact (Below.refl _ _).alloc (Nat.le_refl _) _
   have k0:=a.cell 0 rfl
   have k1:=a.cell 1 rfl
   have k2:=a.cell 2 rfl
   have k3:=a.cell 3 rfl
   have k4:=a.cell 4 rfl
   clear q a c0 c1 c2 c3 c4
   go_wp2_with fail
   refine (Za1 xi fr tt ty L Y.length F _).mono ?_
   rintro e w3 ⟨rfl,o⟩
   have k:=Zb (Za f.out (Za y.out o))
   clear o k0 k1 k2 k3 k4
   by_cases a1:xi<s
   ·have A:Hid (res=false):=by
     show _=_
     rw [u.out,decide_eq_true a1];rfl
    go_wp2_with fail
    go_ret
    exact ⟨by rw [A.out];rfl,k.out⟩
   ·by_cases a2:next<=xi
    ·have A:Hid (res=false):=by
      show _=_
      rw [u.out,decide_eq_false a1,decide_eq_true a2];rfl
     go_wp2_with fail
     go_ret
     exact ⟨by rw [A.out];rfl,k.out⟩
    ·have Q:Hid (Zax next (xi+1) ((ks.map Jg.id).drop (j+1))=res):=by
      show _=_
      rw [u.out,decide_eq_false a1,decide_eq_false a2];rfl
     have a5:IntKind.i64.wrap (xi+1)=xi+1:=by rw [IntKind.wrap_i64];omega
     go_wp2_with fail
     go_roundw
     case rel=>exact ⟨j+1,xi+1,by omega,by go_num,rfl,by omega,k.out,Q.out⟩
     case measure=>simp [intOf];omega
  ·have A:Hid (res=(decide (0<=next)&&decide (next<=4611686018427387904))):=by
    show _=_
    rw [<- I.out,List.drop_of_length_le (by have:=HN.out;simp;omega)];rfl
   have K:¬ (j:Int)<n:=by omega
   by_cases P:0<=next
   ·have z:Hid (res=decide (next<=4611686018427387904)):=by
     show _=_
     rw [A.out,decide_eq_true P];rfl
    go_wp2_with fail
    go_ret
    exact ⟨by rw [z.out];rfl,f.out⟩
   ·have z:Hid (res=false):=by
     show _=_
     rw [A.out,decide_eq_false P];rfl
    go_wp2_with fail
    go_ret
    exact ⟨by rw [z.out];rfl,f.out⟩
theorem Zqa (g:Zt) (B:Nat) (v:Value) (w:World) (U:B<=w.heap.size) (hg:Zr B w v g) (a3:-9223372036854775808<=g.nn/\g.nn<=9223372036854775807) (a4:-9223372036854775808<=g.nr/\g.nr<=9223372036854775807):Calls Tryz.prog 94 #[v] w fun e w'=>e=.returned (.bool (Zax g.nn 0 (g.nodes.map Zo.id)&&Zax g.nr 0 (g.rels.map Jg.id)))/\Below w.heap.size w w':=by
 obtain ⟨na,nc,ra,rc,rfl,N,M⟩:=hg
 have R:=Zb (fun W (X:Below w.heap.size w W)=>Zp8 g.nodes g.nn B _ W (by have:=X.size;omega) (N.below (X.mono U)) a3.1 a3.2)
 have T:=Zb (fun W (X:Below w.heap.size w W)=>Zp9 g.rels g.nr B _ W (by have:=X.size;omega) (M.below (X.mono U)) a4.1 a4.2)
 obtain ⟨ns,rs,nn,nr⟩:=g
 simp only at R T |-
 obtain ⟨P,a0⟩:∃ b,Zax nn 0 (ns.map Zo.id)=b:=⟨_,rfl⟩
 obtain ⟨b2,t⟩:∃ b,Zax nr 0 (rs.map Jg.id)=b:=⟨_,rfl⟩
 rw [a0] at R |-
 rw [t] at T |-
 generalize ns.length=n at *
 generalize rs.length=m at *
 clear a0 t N M
 go_enter Tryz.func94,Tryz.ntmps94
 go_upto_region 1 with fail
 generalize d:World.alloc _ _=W1
 have E:=Zl w #[.slice na n nc,.slice ra m rc,.int .i64 nn,.int .i64 nr] 25
 rw [d] at E
 have C:Hid (Below w.heap.size w W1):=by rw [<- d];exact (Below.refl _ _).alloc (Nat.le_refl _) _
 have O:=Zb E
 have q0:=E.cell 0 rfl
 have q2:=E.cell 2 rfl
 clear d E
 go_wp2_with fail
 refine (R.out W1 C.out).mono ?_
 rintro e w2 ⟨rfl,t⟩
 have y:=Zb (Za C.out t)
 have k1:=(O.out.below t O.out.lt).cell 1 rfl
 have k3:=(O.out.below t O.out.lt).cell 3 rfl
 clear t q0 q2
 cases P with
 | false =>
  go_wp2_with fail
  go_ret
  exact ⟨rfl,y.out⟩
 | true =>
  go_wp2_with fail
  refine (T.out w2 y.out).mono ?_
  rintro e w3 ⟨rfl,o⟩
  have k:=Zb (Za y.out o)
  clear o k1 k3
  go_wp2_with fail
  go_ret
  exact ⟨rfl,k.out⟩
end
section
open Go.RowKit Go.Shelf
attribute [local go_sem] Oper.semAt_some
theorem Tryz.underlying188'  : Tryz.prog.underlying 188=some (.map 2 173):=by kernel_rfl
def Zfw (d:List Zo):List (Int × Value):=d.map fun n=>(n.id,.agg #[])
def Ze4 (es:List (Int × Value)):List Jg->Bool
 | []=>true
 | r::t=>Zd8 r.fr es&&(Zd8 r.tt es&&Ze4 es t)
theorem Zzf {es:List (Int × Value)} {D:List Jg} {j:Nat} {r:Jg} (h:D[j]?=some r):Ze4 es (D.drop j)=(Zd8 r.fr es&&(Zd8 r.tt es&&Ze4 es (D.drop (j+1)))):=by
 obtain ⟨M,o⟩:=List.getElem?_eq_some_iff.1 h
 rw [List.drop_eq_getElem_cons M,o,Ze4]
theorem Zqm {w:World} {b:Nat} {d:List Zo} (h:MI w b (Zfw d)) (k:Int) (hk:I64 k):(Instr.lookup 188 (.map (some b)) (.int .i64 k) true).run Tryz.prog w=.ok (.tuple #[.agg #[],.bool (Zd8 k (Zfw d))]) w:=by
 obtain ⟨v,hv,he⟩:=Zpb Tryz.underlying188' Jda h k hk (fun p C q hq _=>by
  unfold Zfw at C hq
  obtain ⟨a,_,rfl⟩:=List.mem_map.1 C
  obtain ⟨c,_,rfl⟩:=List.mem_map.1 hq
  rfl)
 have e:v=.agg #[]:=by
  rcases hv with ⟨q,hq,_,rfl⟩ | rfl
  ·unfold Zfw at hq
   obtain ⟨a,_,rfl⟩:=List.mem_map.1 hq
   rfl
  ·rfl
 rw [e] at he
 exact he
structure EnJ (w:World) (cs:Array Value) (es:List (Int × Value)) (wr:World):Prop where
 box:Rec wr w.heap.size cs 25
 map:MI wr (w.heap.size+1) es
 keep:Below w.heap.size w wr
theorem EnJ.below {w wr wz:World} {cs:Array Value} {es:List (Int × Value)} (h:EnJ w cs es wr) (hb:Below wr.heap.size wr wz):EnJ w cs es wz:=⟨h.box.below hb h.box.lt,h.map.below hb (Nat.le_refl _),Za h.keep hb⟩
set_option maxRecDepth 100000 in
set_option maxHeartbeats 4000000 in
theorem Zzg (g:Zt) (B:Nat) (v:Value) (w:World) (hB:B<=w.heap.size) (hg:Zr B w v g) (hd:(g.nodes.map Zo.id).Nodup) (hi:∀ n ∈ g.nodes,I64 n.id) (N:∀ r ∈ g.rels,I64 r.fr/\I64 r.tt):Calls Tryz.prog 98 #[v] w fun e w'=>e=.returned (.bool (Ze4 (Zfw g.nodes) g.rels))/\Below w.heap.size w w':=by
 have b9:∀ W:World,(Instr.makeMap 188 none).run Tryz.prog W=.ok (.map (some W.heap.size)) (W.alloc (.map #[] 0)):=fun W=>rfl
 obtain ⟨V,I,H,L,rfl,U,hr⟩:=hg
 obtain ⟨res,A⟩:∃ r,Ze4 (Zfw g.nodes) g.rels=r:=⟨_,rfl⟩
 have HR:=Zb A
 rw [A]
 clear A
 obtain ⟨d,D,nn,nr⟩:=g
 simp only at U hr hd hi N HR |-
 obtain ⟨a',c',e1,h1,h2,a3⟩:=U
 obtain ⟨rfl,rfl⟩:V=a'/\I=c':=by injection e1 with e1 _ e2;exact ⟨e1,e2⟩
 obtain ⟨a',c',e2,r1,r2,a9⟩:=hr
 obtain ⟨rfl,rfl⟩:H=a'/\L=c':=by injection e2 with e1 _ e2;exact ⟨e1,e2⟩
 have HP:=Zb a3
 have HQ:=Zb a9
 have HD:=Zb hd
 have HI:=Zb hi
 have b8:=Zb N
 obtain ⟨n,U⟩:∃ n,d.length=n:=⟨_,rfl⟩
 have HN:=Zb U
 obtain ⟨m,hm⟩:∃ m,D.length=m:=⟨_,rfl⟩
 have HM:=Zb hm
 rw [U] at h1
 rw [hm] at r1
 rw [U,hm]
 clear a3 a9 U hm e1 e2 hd hi N
 go_enter Tryz.func98,Tryz.ntmps98
 go_upto_region 2 with fail
 generalize b4:World.alloc _ _=W1
 have M:EnJ w #[.slice V n I,.slice H m L,.int .i64 nn,.int .i64 nr] [] W1:=by
  rw [<- b4]
  have a1:=Zl w #[.slice V n I,.slice H m L,.int .i64 nn,.int .i64 nr] 25
  refine ⟨a1.below ((Below.refl _ _).alloc (Nat.le_refl _) _) a1.lt,?_,?_⟩
  ·have:=Zjr (w.alloc (.cells #[.slice V n I,.slice H m L,.int .i64 nn,.int .i64 nr] 25))
   rw [World.size_alloc] at this
   exact this
  ·exact ((Below.refl _ w).alloc (Nat.le_refl _) _).alloc (by simp) _
 have HJ:=Zb M
 have q0:=M.box.cell 0 rfl
 clear b4 M b9
 go_wp2_with fail
 clear q0
 go_loopw [16] (fun i wr=>∃ j:Nat,j<=n/\i=.int .i64 j/\EnJ w #[.slice V n I,.slice H m L,.int .i64 nn,.int .i64 nr] (Zfw (d.take j)) wr) (fun i _=>n - (intOf i).toNat)
 case atStart=>exact ⟨0,Nat.zero_le _,rfl,HJ.out⟩
 case round =>
  obtain ⟨j,M,rfl,l⟩:=hrel
  have y:=Zb l
  have z:=Zb l.keep
  have q1:=l.box.cell 1 rfl
  clear l HJ
  by_cases hlt:j<n
  ·have u:(j:Int)<n:=by omega
   obtain ⟨⟨xi,xl,xp⟩,o⟩:∃ q,d[j]?=some q:=⟨_,List.getElem?_eq_getElem (by have:=HN.out;omega)⟩
   obtain ⟨bl,off,rfl,T,Y⟩:=HP.out.resolve_left (by intro e;rw [e] at o;simp at o)
   obtain ⟨la,lc,pv,⟨c0,c1,c2⟩,_,_,C⟩:=(Y j _ o).below (z.out.mono hB) T
   simp only at c0 c1 c2 C
   obtain ⟨pa,pc,rfl,_,_,_⟩:=C
   have c8:I64 xi:=HI.out _ (List.mem_of_getElem? o)
   have F:∀ p ∈ Zfw (d.take j),p.1≠xi:=by
    intro p C e
    unfold Zfw at C
    obtain ⟨a,ha,rfl⟩:=List.mem_map.1 C
    obtain ⟨i,hi,b6⟩:=List.mem_take_iff_getElem.1 ha
    have c6:=(List.getElem?_eq_some_iff.1 o).1
    have c5:=(List.getElem?_eq_some_iff.1 o).2
    have h0:=List.pairwise_iff_getElem.1 HD.out i j (by simp;omega) (by simpa using c6) (by omega)
    apply h0
    rw [List.getElem_map,List.getElem_map,b6,c5]
    exact e
   have c9:Hid (Zfw (d.take j)++[(xi,.agg #[])]=Zfw (d.take (j+1))):=by
    show _=_
    unfold Zfw
    rw [List.take_add_one,o]
    simp
   clear Y o q1
   go_upto_region 5 with fail
   generalize s:World.alloc _ _=W2
   have f:=Zl wr #[.int .i64 xi,.slice la xl.length lc,.slice pa xp.length pc] 47
   rw [s] at f
   have S:Hid (Below wr.heap.size wr W2):=by rw [<- s];exact (Below.refl _ _).alloc (Nat.le_refl _) _
   have k0:=f.cell 0 rfl
   have x:=Zb (y.out.below S.out)
   obtain ⟨w9,d2,b0,X,G,K⟩:=Zhj Tryz.underlying188' x.out.map xi (.agg #[]) c8 F
   have b7:Hid (EnJ w #[.slice (some ⟨bl,off,none⟩) n I,.slice H m L,.int .i64 nn,.int .i64 nr] (Zfw (d.take (j+1))) w9):=⟨x.out.box.keep (G _ (by omega)),c9.out▸b0,x.out.keep.trans (K.mono (by omega))⟩
   clear s f c0 c1 c2 b0 X G K F
   go_wp2_with fail
   go_roundw
   case rel=>exact ⟨j+1,by omega,by go_num,b7.out⟩
   case measure=>simp [intOf];omega
  ·have u:¬ (j:Int)<n:=by omega
   have a8:Hid (EnJ w #[.slice V n I,.slice H m L,.int .i64 nn,.int .i64 nr] (Zfw d) wr):=by
    have:=y.out
    rwa [List.take_of_length_le (by have:=HN.out;omega)] at this
   go_wp2_with fail
   clear hlt u M z q1 y
   go_loopw [28] (fun i wr=>∃ j:Nat,j<=m/\i=.int .i64 j/\EnJ w #[.slice V n I,.slice H m L,.int .i64 nn,.int .i64 nr] (Zfw d) wr/\Ze4 (Zfw d) (D.drop j)=res) (fun i _=>m - (intOf i).toNat)
   case atStart=>exact ⟨0,Nat.zero_le _,rfl,a8.out,HR.out⟩
   case round =>
    clear a8
    obtain ⟨j,M,rfl,l,a4⟩:=hrel
    have y:=Zb l
    have z:=Zb l.keep
    have a7:=Zb a4
    clear l a4
    by_cases hlt:j<m
    ·have u:(j:Int)<m:=by omega
     obtain ⟨⟨xi,fr,tt,ty,xp⟩,o⟩:∃ q,D[j]?=some q:=⟨_,List.getElem?_eq_getElem (by have:=HM.out;omega)⟩
     obtain ⟨bl,off,rfl,T,Y⟩:=HQ.out.resolve_left (by intro e;rw [e] at o;simp at o)
     obtain ⟨pv,⟨c0,c1,c2,c3,c4⟩,_,C⟩:=(Y j _ o).below (z.out.mono hB) T
     simp only at c0 c1 c2 c3 c4 C
     obtain ⟨pa,pc,rfl,_,_,_⟩:=C
     have E:=b8.out _ (List.mem_of_getElem? o)
     simp only at E
     obtain ⟨b1,P⟩:∃ b,Zd8 fr (Zfw d)=b:=⟨_,rfl⟩
     obtain ⟨b2,Q⟩:∃ b,Zd8 tt (Zfw d)=b:=⟨_,rfl⟩
     have R:Hid (res=(b1&&(b2&&Ze4 (Zfw d) (D.drop (j+1))))):=by
      show _=_
      rw [<- a7.out,Zzf o,<- P,<- Q]
     have d1:Hid (∀ W,MI W (w.heap.size+1) (Zfw d)->(Instr.lookup 188 (.map (some (w.heap.size+1))) (.int .i64 fr) true).run Tryz.prog W=.ok (.tuple #[.agg #[],.bool b1]) W):=fun W h=>by rw [<- P];exact Zqm h fr E.1
     have b5:Hid (∀ W,MI W (w.heap.size+1) (Zfw d)->(Instr.lookup 188 (.map (some (w.heap.size+1))) (.int .i64 tt) true).run Tryz.prog W=.ok (.tuple #[.agg #[],.bool b2]) W):=fun W h=>by rw [<- Q];exact Zqm h tt E.2
     clear Y o P Q E
     go_upto_region 10 with fail
     generalize s:World.alloc _ _=W2
     have f:=Zl wr #[.int .i64 xi,.int .i64 fr,.int .i64 tt,.string ty,.slice pa xp.length pc] 49
     rw [s] at f
     have a5:=Zb f
     have S:Hid (Below wr.heap.size wr W2):=by rw [<- s];exact (Below.refl _ _).alloc (Nat.le_refl _) _
     have x:=Zb (y.out.below S.out)
     have k1:=f.cell 1 rfl
     have l1:=d1.out W2 x.out.map
     clear s f c0 c1 c2 c3 c4
     go_upto_region 11 with fail
     generalize a0:World.alloc _ _=W3
     have b3:Hid (Below W2.heap.size W2 W3):=by rw [<- a0];exact (Below.refl _ _).alloc (Nat.le_refl _) _
     have a6:=Zb (x.out.below b3.out)
     have k2:=(a5.out.below b3.out a5.out.lt).cell 2 rfl
     have l2:=b5.out W3 a6.out.map
     clear a0 k1 l1
     go_upto_region 12 with fail
     generalize a2:World.alloc _ _=W4
     have d0:Hid (Below W3.heap.size W3 W4):=by rw [<- a2];exact (Below.refl _ _).alloc (Nat.le_refl _) _
     have O:=Zb (a6.out.below d0.out)
     clear a2 k2 l2
     cases b1 with
     | false =>
      have HF:Hid (res=false):=R.out
      go_wp2_with fail
      go_ret
      exact ⟨by rw [HF.out];rfl,O.out.keep⟩
     | true =>
      cases b2 with
      | false =>
       have HF:Hid (res=false):=R.out
       go_wp2_with fail
       go_ret
       exact ⟨by rw [HF.out];rfl,O.out.keep⟩
      | true =>
       have c7:Hid (Ze4 (Zfw d) (D.drop (j+1))=res):=R.out.symm
       go_wp2_with fail
       go_roundw
       case rel=>exact ⟨j+1,by omega,by go_num,O.out,c7.out⟩
       case measure=>simp [intOf];omega
    ·have HF:Hid (res=true):=by
      show _=_
      rw [<- a7.out,List.drop_of_length_le (by have:=HM.out;omega)];rfl
     have u:¬ (j:Int)<m:=by omega
     go_wp2_with fail
     go_ret
     exact ⟨by rw [HF.out];rfl,z.out⟩
end
