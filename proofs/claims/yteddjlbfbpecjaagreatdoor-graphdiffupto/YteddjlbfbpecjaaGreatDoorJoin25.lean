import Derived.Test.YteddjlbfbpecjaaGreatDoorJoin24
namespace Go.Proofs.YteddjlbfbpecjaaGreatDoor
set_option maxHeartbeats 4000000
set_option maxRecDepth 100000
set_option linter.all false
section
open Go.RowKit Go.Shelf
attribute [local go_sem] Oper.semAt_some
def Zax (next:Int):Int->List Int->Bool
 | _,[]=>decide (0<=next)&&decide (next<=4611686018427387904)
 | l,x::r=>!decide (x<l)&&(!decide (next<=x)&&Zax next (x+1) r)
theorem Zsh {next l:Int} {ks:List Int} {j:Nat} {x:Int} (h:ks[j]?=some x):Zax next l (ks.drop j)=(!decide (x<l)&&(!decide (next<=x)&&Zax next (x+1) (ks.drop (j+1)))):=by
 obtain ⟨hj,D⟩:=List.getElem?_eq_some_iff.1 h
 rw [List.drop_eq_getElem_cons hj,D,Zax]
theorem Zao (xi:Int) (la:Option Addr) (ll lc:Nat) (G:Option Addr) (pl H:Nat) (w:World):Calls Tryz.prog 56 #[.agg #[.int .i64 xi,.slice la ll lc,.slice G pl H]] w fun e w'=>e=.returned (.int .i64 xi)/\Below w.heap.size w w':=by
 go_enter Tryz.func56,Tryz.ntmps56
 go_upto_region 1 with fail
 generalize d:World.alloc _ _=W1
 have N:=Zl w #[.int .i64 xi,.slice la ll lc,.slice G pl H] 47
 rw [d] at N
 have C:Hid (Below w.heap.size w W1):=by rw [<- d];exact (Below.refl _ _).alloc (Nat.le_refl _) _
 have q0:=N.cell 0 rfl
 clear d N
 go_wp2_with fail
 go_ret
 exact ⟨rfl,C.out⟩
theorem Za1 (xi fr tt:Int) (ty:ByteArray) (G:Option Addr) (pl H:Nat) (w:World):Calls Tryz.prog 54 #[.agg #[.int .i64 xi,.int .i64 fr,.int .i64 tt,.string ty,.slice G pl H]] w fun e w'=>e=.returned (.int .i64 xi)/\Below w.heap.size w w':=by
 go_enter Tryz.func54,Tryz.ntmps54
 go_upto_region 1 with fail
 generalize d:World.alloc _ _=W1
 have N:=Zl w #[.int .i64 xi,.int .i64 fr,.int .i64 tt,.string ty,.slice G pl H] 49
 rw [d] at N
 have C:Hid (Below w.heap.size w W1):=by rw [<- d];exact (Below.refl _ _).alloc (Nat.le_refl _) _
 have q0:=N.cell 0 rfl
 clear d N
 go_wp2_with fail
 go_ret
 exact ⟨rfl,C.out⟩
theorem Zp8 (ks:List Zo) (next:Int) (B:Nat) (v:Value) (w:World) (U:B<=w.heap.size) (hk:Jj B w v ks) (a9:-9223372036854775808<=next) (a8:next<=9223372036854775807) :
  Calls Tryz.prog 142 #[v,.func (.func 56) #[] #[],.int .i64 next] w fun e w'=>e=.returned (.bool (Zax next 0 (ks.map Zo.id)))/\Below w.heap.size w w':=by
 obtain ⟨ka,kc,rfl,h1,h2,F⟩:=hk
 have HK:=Zb F
 obtain ⟨n,M⟩:∃ n,ks.length=n:=⟨_,rfl⟩
 have HN:=Zb M
 rw [M] at h1 |-
 obtain ⟨res,c⟩:∃ r,Zax next 0 (ks.map Zo.id)=r:=⟨_,rfl⟩
 have HR:=Zb c
 rw [c]
 clear F M c
 go_enter Tryz.func142,Tryz.ntmps142
 go_wp2_with fail
 go_loopw [13,7] (fun i l wr=>∃ (j:Nat) (s:Int),j<=n/\i=.int .i64 j/\l=.int .i64 s/\0<=s/\Below w.heap.size w wr/\Zax next s ((ks.map Zo.id).drop j)=res) (fun i _ _=>n - (intOf i).toNat)
 case atStart=>exact ⟨0,0,Nat.zero_le _,rfl,rfl,by omega,Below.refl _ _,HR.out⟩
 case round =>
  obtain ⟨j,s,hj,rfl,rfl,a7,t,K⟩:=hrel
  have k:=Zb t
  have E:=Zb K
  have a5:w.heap.size<=wr.heap.size:=t.size
  clear t K
  by_cases hlt:j<n
  ·have I:(j:Int)<n:=by omega
   obtain ⟨⟨xi,xl,xp⟩,D⟩:∃ x,ks[j]?=some x:=⟨_,List.getElem?_eq_getElem (by have:=HN.out;omega)⟩
   have HX:Hid ((ks.map Zo.id)[j]?=some xi):=by
    show _=_
    rw [List.getElem?_map,D];rfl
   obtain ⟨bl,off,rfl,Q,Y⟩:=HK.out.resolve_left (by intro e;rw [e] at D;simp at D)
   obtain ⟨la,lc,pv,⟨c0,c1,c2⟩,_,_,V⟩:=(Y j _ D).below (k.out.mono U) Q
   simp only at c0 c1 c2 V
   obtain ⟨G,H,rfl,_,_,_⟩:=V
   have q:Hid (res=(!decide (xi<s)&&(!decide (next<=xi)&&Zax next (xi+1) ((ks.map Zo.id).drop (j+1))))):=by
    show _=_
    rw [<- E.out,Zsh HX.out]
   clear Y D
   go_upto_region 5 with fail
   generalize y:World.alloc _ _=W2
   have a:=Zl wr #[.int .i64 xi,.slice la xl.length lc,.slice G xp.length H] 47
   rw [y] at a
   have p:Hid (Below wr.heap.size wr W2):=by rw [<- y];exact (Below.refl _ _).alloc (Nat.le_refl _) _
   have k0:=a.cell 0 rfl
   have k1:=a.cell 1 rfl
   have k2:=a.cell 2 rfl
   clear y a c0 c1 c2
   go_wp2_with fail
   refine (Zao xi la xl.length lc G xp.length H _).mono ?_
   rintro e w3 ⟨rfl,o⟩
   have f:=Zb (Za k.out (Za p.out o))
   clear o k0 k1 k2
   by_cases a1:xi<s
   ·have A:Hid (res=false):=by
     show _=_
     rw [q.out,decide_eq_true a1];rfl
    go_wp2_with fail
    go_ret
    exact ⟨by rw [A.out];rfl,f.out⟩
   ·by_cases a2:next<=xi
    ·have A:Hid (res=false):=by
      show _=_
      rw [q.out,decide_eq_false a1,decide_eq_true a2];rfl
     go_wp2_with fail
     go_ret
     exact ⟨by rw [A.out];rfl,f.out⟩
    ·have P:Hid (Zax next (xi+1) ((ks.map Zo.id).drop (j+1))=res):=by
      show _=_
      rw [q.out,decide_eq_false a1,decide_eq_false a2];rfl
     have a6:IntKind.i64.wrap (xi+1)=xi+1:=by rw [IntKind.wrap_i64];omega
     go_wp2_with fail
     go_roundw
     case rel=>exact ⟨j+1,xi+1,by omega,by go_num,rfl,by omega,f.out,P.out⟩
     case measure=>simp [intOf];omega
  ·have A:Hid (res=(decide (0<=next)&&decide (next<=4611686018427387904))):=by
    show _=_
    rw [<- E.out,List.drop_of_length_le (by have:=HN.out;simp;omega)];rfl
   have I:¬ (j:Int)<n:=by omega
   by_cases T:0<=next
   ·have z:Hid (res=decide (next<=4611686018427387904)):=by
     show _=_
     rw [A.out,decide_eq_true T];rfl
    go_wp2_with fail
    go_ret
    exact ⟨by rw [z.out];rfl,k.out⟩
   ·have z:Hid (res=false):=by
     show _=_
     rw [A.out,decide_eq_false T];rfl
    go_wp2_with fail
    go_ret
    exact ⟨by rw [z.out];rfl,k.out⟩
theorem Zp9 (ks:List Jg) (next:Int) (B:Nat) (v:Value) (w:World) (U:B<=w.heap.size) (hk:Jt B w v ks) (a9:-9223372036854775808<=next) (a8:next<=9223372036854775807) :
  Calls Tryz.prog 143 #[v,.func (.func 54) #[] #[],.int .i64 next] w fun e w'=>e=.returned (.bool (Zax next 0 (ks.map Jg.id)))/\Below w.heap.size w w':=by
 obtain ⟨ka,kc,rfl,h1,h2,F⟩:=hk
 have HK:=Zb F
 obtain ⟨n,M⟩:∃ n,ks.length=n:=⟨_,rfl⟩
 have HN:=Zb M
 rw [M] at h1 |-
 obtain ⟨res,c⟩:∃ r,Zax next 0 (ks.map Jg.id)=r:=⟨_,rfl⟩
 have HR:=Zb c
 rw [c]
 clear F M c
 go_enter Tryz.func143,Tryz.ntmps143
 go_wp2_with fail
 go_loopw [13,7] (fun i l wr=>∃ (j:Nat) (s:Int),j<=n/\i=.int .i64 j/\l=.int .i64 s/\0<=s/\Below w.heap.size w wr/\Zax next s ((ks.map Jg.id).drop j)=res) (fun i _ _=>n - (intOf i).toNat)
 case atStart=>exact ⟨0,0,Nat.zero_le _,rfl,rfl,by omega,Below.refl _ _,HR.out⟩
 case round =>
  obtain ⟨j,s,hj,rfl,rfl,a7,t,K⟩:=hrel
  have k:=Zb t
  have E:=Zb K
  have a5:w.heap.size<=wr.heap.size:=t.size
  clear t K
  by_cases hlt:j<n
  ·have I:(j:Int)<n:=by omega
   obtain ⟨⟨xi,fr,tt,ty,xp⟩,D⟩:∃ x,ks[j]?=some x:=⟨_,List.getElem?_eq_getElem (by have:=HN.out;omega)⟩
   have HX:Hid ((ks.map Jg.id)[j]?=some xi):=by
    show _=_
    rw [List.getElem?_map,D];rfl
   obtain ⟨bl,off,rfl,Q,Y⟩:=HK.out.resolve_left (by intro e;rw [e] at D;simp at D)
   obtain ⟨pv,⟨c0,c1,c2,c3,c4⟩,_,V⟩:=(Y j _ D).below (k.out.mono U) Q
   simp only at c0 c1 c2 c3 c4 V
   obtain ⟨G,H,rfl,_,_,_⟩:=V
   have q:Hid (res=(!decide (xi<s)&&(!decide (next<=xi)&&Zax next (xi+1) ((ks.map Jg.id).drop (j+1))))):=by
    show _=_
    rw [<- E.out,Zsh HX.out]
   clear Y D
   go_upto_region 5 with fail
   generalize y:World.alloc _ _=W2
   have a:=Zl wr #[.int .i64 xi,.int .i64 fr,.int .i64 tt,.string ty,.slice G xp.length H] 49
   rw [y] at a
   have p:Hid (Below wr.heap.size wr W2):=by rw [<- y];exact (Below.refl _ _).alloc (Nat.le_refl _) _
   have k0:=a.cell 0 rfl
   have k1:=a.cell 1 rfl
   have k2:=a.cell 2 rfl
   have k3:=a.cell 3 rfl
   have k4:=a.cell 4 rfl
   clear y a c0 c1 c2 c3 c4
   go_wp2_with fail
   refine (Za1 xi fr tt ty G xp.length H _).mono ?_
   rintro e w3 ⟨rfl,o⟩
   have f:=Zb (Za k.out (Za p.out o))
   clear o k0 k1 k2 k3 k4
   by_cases a1:xi<s
   ·have A:Hid (res=false):=by
     show _=_
     rw [q.out,decide_eq_true a1];rfl
    go_wp2_with fail
    go_ret
    exact ⟨by rw [A.out];rfl,f.out⟩
   ·by_cases a2:next<=xi
    ·have A:Hid (res=false):=by
      show _=_
      rw [q.out,decide_eq_false a1,decide_eq_true a2];rfl
     go_wp2_with fail
     go_ret
     exact ⟨by rw [A.out];rfl,f.out⟩
    ·have P:Hid (Zax next (xi+1) ((ks.map Jg.id).drop (j+1))=res):=by
      show _=_
      rw [q.out,decide_eq_false a1,decide_eq_false a2];rfl
     have a6:IntKind.i64.wrap (xi+1)=xi+1:=by rw [IntKind.wrap_i64];omega
     go_wp2_with fail
     go_roundw
     case rel=>exact ⟨j+1,xi+1,by omega,by go_num,rfl,by omega,f.out,P.out⟩
     case measure=>simp [intOf];omega
  ·have A:Hid (res=(decide (0<=next)&&decide (next<=4611686018427387904))):=by
    show _=_
    rw [<- E.out,List.drop_of_length_le (by have:=HN.out;simp;omega)];rfl
   have I:¬ (j:Int)<n:=by omega
   by_cases T:0<=next
   ·have z:Hid (res=decide (next<=4611686018427387904)):=by
     show _=_
     rw [A.out,decide_eq_true T];rfl
    go_wp2_with fail
    go_ret
    exact ⟨by rw [z.out];rfl,k.out⟩
   ·have z:Hid (res=false):=by
     show _=_
     rw [A.out,decide_eq_false T];rfl
    go_wp2_with fail
    go_ret
    exact ⟨by rw [z.out];rfl,k.out⟩
theorem Zqa (g:Zt) (B:Nat) (v:Value) (w:World) (U:B<=w.heap.size) (hg:Zr B w v g) (a4:-9223372036854775808<=g.nn/\g.nn<=9223372036854775807) (a3:-9223372036854775808<=g.nr/\g.nr<=9223372036854775807):Calls Tryz.prog 94 #[v] w fun e w'=>e=.returned (.bool (Zax g.nn 0 (g.nodes.map Zo.id)&&Zax g.nr 0 (g.rels.map Jg.id)))/\Below w.heap.size w w':=by
 obtain ⟨na,nc,ra,rc,rfl,M,N⟩:=hg
 have R:=Zb (fun W (X:Below w.heap.size w W)=>Zp8 g.nodes g.nn B _ W (by have:=X.size;omega) (M.below (X.mono U)) a4.1 a4.2)
 have S:=Zb (fun W (X:Below w.heap.size w W)=>Zp9 g.rels g.nr B _ W (by have:=X.size;omega) (N.below (X.mono U)) a3.1 a3.2)
 obtain ⟨ns,rs,nn,nr⟩:=g
 simp only at R S |-
 obtain ⟨T,a0⟩:∃ b,Zax nn 0 (ns.map Zo.id)=b:=⟨_,rfl⟩
 obtain ⟨b2,u⟩:∃ b,Zax nr 0 (rs.map Jg.id)=b:=⟨_,rfl⟩
 rw [a0] at R |-
 rw [u] at S |-
 generalize ns.length=n at *
 generalize rs.length=m at *
 clear a0 u M N
 go_enter Tryz.func94,Tryz.ntmps94
 go_upto_region 1 with fail
 generalize d:World.alloc _ _=W1
 have L:=Zl w #[.slice na n nc,.slice ra m rc,.int .i64 nn,.int .i64 nr] 25
 rw [d] at L
 have C:Hid (Below w.heap.size w W1):=by rw [<- d];exact (Below.refl _ _).alloc (Nat.le_refl _) _
 have O:=Zb L
 have q0:=L.cell 0 rfl
 have q2:=L.cell 2 rfl
 clear d L
 go_wp2_with fail
 refine (R.out W1 C.out).mono ?_
 rintro e w2 ⟨rfl,u⟩
 have p:=Zb (Za C.out u)
 have k1:=(O.out.below u O.out.lt).cell 1 rfl
 have k3:=(O.out.below u O.out.lt).cell 3 rfl
 clear u q0 q2
 cases T with
 | false =>
  go_wp2_with fail
  go_ret
  exact ⟨rfl,p.out⟩
 | true =>
  go_wp2_with fail
  refine (S.out w2 p.out).mono ?_
  rintro e w3 ⟨rfl,o⟩
  have f:=Zb (Za p.out o)
  clear o k1 k3
  go_wp2_with fail
  go_ret
  exact ⟨rfl,f.out⟩
end
section
open Go.RowKit Go.Shelf
attribute [local go_sem] Oper.semAt_some
theorem Tryz.underlying188'  : Tryz.prog.underlying 188=some (.map 2 173):=by kernel_rfl
def Zfw (d:List Zo):List (Int × Value):=d.map fun n=>(n.id,.agg #[])
def Ze4 (es:List (Int × Value)):List Jg->Bool
 | []=>true
 | r::t=>Zd8 r.fr es&&(Zd8 r.tt es&&Ze4 es t)
theorem Zzf {es:List (Int × Value)} {E:List Jg} {j:Nat} {r:Jg} (h:E[j]?=some r):Ze4 es (E.drop j)=(Zd8 r.fr es&&(Zd8 r.tt es&&Ze4 es (E.drop (j+1)))):=by
 obtain ⟨K,o⟩:=List.getElem?_eq_some_iff.1 h
 rw [List.drop_eq_getElem_cons K,o,Ze4]
theorem Zqm {w:World} {b:Nat} {d:List Zo} (h:MI w b (Zfw d)) (k:Int) (hk:I64 k):(Instr.lookup 188 (.map (some b)) (.int .i64 k) true).run Tryz.prog w=.ok (.tuple #[.agg #[],.bool (Zd8 k (Zfw d))]) w:=by
 obtain ⟨v,hv,he⟩:=Zpb Tryz.underlying188' Jda h k hk (fun p y q hq _=>by
  unfold Zfw at y hq
  obtain ⟨a,_,rfl⟩:=List.mem_map.1 y
  obtain ⟨c,_,rfl⟩:=List.mem_map.1 hq
  rfl)
 have e:v=.agg #[]:=by
  rcases hv with ⟨q,hq,_,rfl⟩ | rfl
  ·unfold Zfw at hq
   obtain ⟨a,_,rfl⟩:=List.mem_map.1 hq
   rfl
  ·rfl
 rw [e] at he
 exact he
structure EnJ (w:World) (cs:Array Value) (es:List (Int × Value)) (wr:World):Prop where
 box:Rec wr w.heap.size cs 25
 map:MI wr (w.heap.size+1) es
 keep:Below w.heap.size w wr
theorem EnJ.below {w wr wz:World} {cs:Array Value} {es:List (Int × Value)} (h:EnJ w cs es wr) (hb:Below wr.heap.size wr wz):EnJ w cs es wz:=⟨h.box.below hb h.box.lt,h.map.below hb (Nat.le_refl _),Za h.keep hb⟩
set_option maxRecDepth 100000 in
set_option maxHeartbeats 4000000 in
theorem Zzg (g:Zt) (B:Nat) (v:Value) (w:World) (hB:B<=w.heap.size) (hg:Zr B w v g) (hd:(g.nodes.map Zo.id).Nodup) (hi:∀ n ∈ g.nodes,I64 n.id) (N:∀ r ∈ g.rels,I64 r.fr/\I64 r.tt):Calls Tryz.prog 98 #[v] w fun e w'=>e=.returned (.bool (Ze4 (Zfw g.nodes) g.rels))/\Below w.heap.size w w':=by
 have c8:∀ W:World,(Instr.makeMap 188 none).run Tryz.prog W=.ok (.map (some W.heap.size)) (W.alloc (.map #[] 0)):=fun W=>rfl
 obtain ⟨V,M,G,I,rfl,T,hr⟩:=hg
 obtain ⟨res,C⟩:∃ r,Ze4 (Zfw g.nodes) g.rels=r:=⟨_,rfl⟩
 have HR:=Zb C
 rw [C]
 clear C
 obtain ⟨d,E,nn,nr⟩:=g
 simp only at T hr hd hi N HR |-
 obtain ⟨a',c',e1,h1,h2,a3⟩:=T
 obtain ⟨rfl,rfl⟩:V=a'/\M=c':=by injection e1 with e1 _ e2;exact ⟨e1,e2⟩
 obtain ⟨a',c',e2,r1,r2,a1⟩:=hr
 obtain ⟨rfl,rfl⟩:G=a'/\I=c':=by injection e2 with e1 _ e2;exact ⟨e1,e2⟩
 have HP:=Zb a3
 have HQ:=Zb a1
 have HD:=Zb hd
 have HI:=Zb hi
 have c9:=Zb N
 obtain ⟨n,T⟩:∃ n,d.length=n:=⟨_,rfl⟩
 have HN:=Zb T
 obtain ⟨m,hm⟩:∃ m,E.length=m:=⟨_,rfl⟩
 have HM:=Zb hm
 rw [T] at h1
 rw [hm] at r1
 rw [T,hm]
 clear a3 a1 T hm e1 e2 hd hi N
 go_enter Tryz.func98,Tryz.ntmps98
 go_upto_region 2 with fail
 generalize a6:World.alloc _ _=W1
 have K:EnJ w #[.slice V n M,.slice G m I,.int .i64 nn,.int .i64 nr] [] W1:=by
  rw [<- a6]
  have b3:=Zl w #[.slice V n M,.slice G m I,.int .i64 nn,.int .i64 nr] 25
  refine ⟨b3.below ((Below.refl _ _).alloc (Nat.le_refl _) _) b3.lt,?_,?_⟩
  ·have:=Zjr (w.alloc (.cells #[.slice V n M,.slice G m I,.int .i64 nn,.int .i64 nr] 25))
   rw [World.size_alloc] at this
   exact this
  ·exact ((Below.refl _ w).alloc (Nat.le_refl _) _).alloc (by simp) _
 have HJ:=Zb K
 have q0:=K.box.cell 0 rfl
 clear a6 K c8
 go_wp2_with fail
 clear q0
 go_loopw [16] (fun i wr=>∃ j:Nat,j<=n/\i=.int .i64 j/\EnJ w #[.slice V n M,.slice G m I,.int .i64 nn,.int .i64 nr] (Zfw (d.take j)) wr) (fun i _=>n - (intOf i).toNat)
 case atStart=>exact ⟨0,Nat.zero_le _,rfl,HJ.out⟩
 case round =>
  obtain ⟨j,K,rfl,l⟩:=hrel
  have z:=Zb l
  have A:=Zb l.keep
  have q1:=l.box.cell 1 rfl
  clear l HJ
  by_cases hlt:j<n
  ·have u:(j:Int)<n:=by omega
   obtain ⟨⟨xi,xl,xp⟩,o⟩:∃ q,d[j]?=some q:=⟨_,List.getElem?_eq_getElem (by have:=HN.out;omega)⟩
   obtain ⟨bl,off,rfl,Q,hc⟩:=HP.out.resolve_left (by intro e;rw [e] at o;simp at o)
   obtain ⟨la,lc,pv,⟨c0,c1,c2⟩,_,_,y⟩:=(hc j _ o).below (A.out.mono hB) Q
   simp only at c0 c1 c2 y
   obtain ⟨pa,pc,rfl,_,_,_⟩:=y
   have b5:I64 xi:=HI.out _ (List.mem_of_getElem? o)
   have L:∀ p ∈ Zfw (d.take j),p.1≠xi:=by
    intro p y e
    unfold Zfw at y
    obtain ⟨a,ha,rfl⟩:=List.mem_map.1 y
    obtain ⟨i,hi,d0⟩:=List.mem_take_iff_getElem.1 ha
    have b7:=(List.getElem?_eq_some_iff.1 o).1
    have b9:=(List.getElem?_eq_some_iff.1 o).2
    have h0:=List.pairwise_iff_getElem.1 HD.out i j (by simp;omega) (by simpa using b7) (by omega)
    apply h0
    rw [List.getElem_map,List.getElem_map,d0,b9]
    exact e
   have c5:Hid (Zfw (d.take j)++[(xi,.agg #[])]=Zfw (d.take (j+1))):=by
    show _=_
    unfold Zfw
    rw [List.take_add_one,o]
    simp
   clear hc o q1
   go_upto_region 5 with fail
   generalize s:World.alloc _ _=W2
   have f:=Zl wr #[.int .i64 xi,.slice la xl.length lc,.slice pa xp.length pc] 47
   rw [s] at f
   have O:Hid (Below wr.heap.size wr W2):=by rw [<- s];exact (Below.refl _ _).alloc (Nat.le_refl _) _
   have k0:=f.cell 0 rfl
   have x:=Zb (z.out.below O.out)
   obtain ⟨w9,d1,a2,b0,H,F⟩:=Zhj Tryz.underlying188' x.out.map xi (.agg #[]) b5 L
   have b6:Hid (EnJ w #[.slice (some ⟨bl,off,none⟩) n M,.slice G m I,.int .i64 nn,.int .i64 nr] (Zfw (d.take (j+1))) w9):=⟨x.out.box.keep (H _ (by omega)),c5.out▸a2,x.out.keep.trans (F.mono (by omega))⟩
   clear s f c0 c1 c2 a2 b0 H F L
   go_wp2_with fail
   go_roundw
   case rel=>exact ⟨j+1,by omega,by go_num,b6.out⟩
   case measure=>simp [intOf];omega
  ·have u:¬ (j:Int)<n:=by omega
   have Y:Hid (EnJ w #[.slice V n M,.slice G m I,.int .i64 nn,.int .i64 nr] (Zfw d) wr):=by
    have:=z.out
    rwa [List.take_of_length_le (by have:=HN.out;omega)] at this
   go_wp2_with fail
   clear hlt u K A q1 z
   go_loopw [28] (fun i wr=>∃ j:Nat,j<=m/\i=.int .i64 j/\EnJ w #[.slice V n M,.slice G m I,.int .i64 nn,.int .i64 nr] (Zfw d) wr/\Ze4 (Zfw d) (E.drop j)=res) (fun i _=>m - (intOf i).toNat)
   case atStart=>exact ⟨0,Nat.zero_le _,rfl,Y.out,HR.out⟩
   case round =>
    clear Y
    obtain ⟨j,K,rfl,l,a9⟩:=hrel
    have z:=Zb l
    have A:=Zb l.keep
    have a0:=Zb a9
    clear l a9
    by_cases hlt:j<m
    ·have u:(j:Int)<m:=by omega
     obtain ⟨⟨xi,fr,tt,ty,xp⟩,o⟩:∃ q,E[j]?=some q:=⟨_,List.getElem?_eq_getElem (by have:=HM.out;omega)⟩
     obtain ⟨bl,off,rfl,Q,hc⟩:=HQ.out.resolve_left (by intro e;rw [e] at o;simp at o)
     obtain ⟨pv,⟨c0,c1,c2,c3,c4⟩,_,y⟩:=(hc j _ o).below (A.out.mono hB) Q
     simp only at c0 c1 c2 c3 c4 y
     obtain ⟨pa,pc,rfl,_,_,_⟩:=y
     have D:=c9.out _ (List.mem_of_getElem? o)
     simp only at D
     obtain ⟨b1,S⟩:∃ b,Zd8 fr (Zfw d)=b:=⟨_,rfl⟩
     obtain ⟨b2,U⟩:∃ b,Zd8 tt (Zfw d)=b:=⟨_,rfl⟩
     have R:Hid (res=(b1&&(b2&&Ze4 (Zfw d) (E.drop (j+1))))):=by
      show _=_
      rw [<- a0.out,Zzf o,<- S,<- U]
     have b8:Hid (∀ W,MI W (w.heap.size+1) (Zfw d)->(Instr.lookup 188 (.map (some (w.heap.size+1))) (.int .i64 fr) true).run Tryz.prog W=.ok (.tuple #[.agg #[],.bool b1]) W):=fun W h=>by rw [<- S];exact Zqm h fr D.1
     have c6:Hid (∀ W,MI W (w.heap.size+1) (Zfw d)->(Instr.lookup 188 (.map (some (w.heap.size+1))) (.int .i64 tt) true).run Tryz.prog W=.ok (.tuple #[.agg #[],.bool b2]) W):=fun W h=>by rw [<- U];exact Zqm h tt D.2
     clear hc o S U D
     go_upto_region 10 with fail
     generalize s:World.alloc _ _=W2
     have f:=Zl wr #[.int .i64 xi,.int .i64 fr,.int .i64 tt,.string ty,.slice pa xp.length pc] 49
     rw [s] at f
     have a8:=Zb f
     have O:Hid (Below wr.heap.size wr W2):=by rw [<- s];exact (Below.refl _ _).alloc (Nat.le_refl _) _
     have x:=Zb (z.out.below O.out)
     have k1:=f.cell 1 rfl
     have l1:=b8.out W2 x.out.map
     clear s f c0 c1 c2 c3 c4
     go_upto_region 11 with fail
     generalize a5:World.alloc _ _=W3
     have X:Hid (Below W2.heap.size W2 W3):=by rw [<- a5];exact (Below.refl _ _).alloc (Nat.le_refl _) _
     have a7:=Zb (x.out.below X.out)
     have k2:=(a8.out.below X.out a8.out.lt).cell 2 rfl
     have l2:=c6.out W3 a7.out.map
     clear a5 k1 l1
     go_upto_region 12 with fail
     generalize a4:World.alloc _ _=W4
     have c7:Hid (Below W3.heap.size W3 W4):=by rw [<- a4];exact (Below.refl _ _).alloc (Nat.le_refl _) _
     have P:=Zb (a7.out.below c7.out)
     clear a4 k2 l2
     cases b1 with
     | false =>
      have HF:Hid (res=false):=R.out
      go_wp2_with fail
      go_ret
      exact ⟨by rw [HF.out];rfl,P.out.keep⟩
     | true =>
      cases b2 with
      | false =>
       have HF:Hid (res=false):=R.out
       go_wp2_with fail
       go_ret
       exact ⟨by rw [HF.out];rfl,P.out.keep⟩
      | true =>
       have b4:Hid (Ze4 (Zfw d) (E.drop (j+1))=res):=R.out.symm
       go_wp2_with fail
       go_roundw
       case rel=>exact ⟨j+1,by omega,by go_num,P.out,b4.out⟩
       case measure=>simp [intOf];omega
    ·have HF:Hid (res=true):=by
      show _=_
      rw [<- a0.out,List.drop_of_length_le (by have:=HM.out;omega)];rfl
     have u:¬ (j:Int)<m:=by omega
     go_wp2_with fail
     go_ret
     exact ⟨by rw [HF.out];rfl,A.out⟩
end
