/- How great properties are, as the laws measure them (propsSize 41). Is a graph small enough (small 9)? -/
import Derived.Test.YthfilnflgahcjaaGreatDoorJoin17
import Derived.Test.YthfilnflgahcjaaGreatDoorJoin2
import Derived.Test.YthfilnflgahcjaaGreatDoorJoin26
import Derived.Test.YthfilnflgahcjaaGreatDoorJoin18
namespace Go.Proofs.YthfilnflgahcjaaGreatDoor
open Go.RowKit Go.Shelf
set_option linter.all false
attribute [local go_sem] Oper.semAt_some
def Zam:Int->List (ByteArray × Zd)->Int
 | n,[]=>n
 | n,q::r=>if n<=3000 then Zam (n+1+q.1.size+Zkb q.2 3000) r else n
theorem Zb3:∀ (c:List (ByteArray × Zd)) (n:Int),n<=Zam n c
 | [],n=>by simp [Zam]
 | q::r,n=>by
  have L:=Zb3 r (n+1+q.1.size+Zkb q.2 3000)
  have R:=Ziu q.2 3000
  simp only [Zam]
  split<;>omega
theorem Ze8:∀ (c:List (ByteArray × Zd)) (n:Int),(∀ q ∈ c,Zq6 q.2/\q.1.size<=9223372036854775)->n<=10000000000000000->Zam n c<=10000000000000000
 | [],n,_,h=>by simp only [Zam];exact h
 | q::r,n,G,h=>by
  simp only [Zam]
  split
  ·rename_i hn
   have L:=G q List.mem_cons_self
   have R:=Zlw q.2 3000 L.1 (by omega)
   exact Ze8 r _ (fun x z=>G x (List.mem_cons_of_mem _ z)) (by omega)
  ·exact h
theorem Zmv:∀ (a:List (ByteArray × Zd)) (n:Int) (x:ByteArray × Zd),Zam n (a++[x])=if Zam n a<=3000 then Zam n a+1+x.1.size+Zkb x.2 3000 else Zam n a
 | [],n,x=>by simp only [List.nil_append,Zam];rfl
 | k::r,n,x=>by
  simp only [List.cons_append,Zam]
  split
  ·exact Zmv r _ x
  ·rename_i h;simp only [h,if_false]
theorem Zvc {a:List (ByteArray × Zd)} {n:Int} {j:Nat} (h:¬ Zam n (a.take j)<=3000):Zam n a=Zam n (a.take j):=by
 have:∀ (b r:List (ByteArray × Zd)) (n:Int),¬ Zam n b<=3000->Zam n (b++r)=Zam n b:=by
  intro b
  induction b with
  | nil=>intro r n h;cases r with
   | nil=>rfl
   | cons x r=>simp only [Zam] at h;simp [Zam,h]
  | cons k b ih =>
   intro r n h
   simp only [List.cons_append,Zam] at h |-
   split at h
   ·rename_i hn;rw [if_pos hn,if_pos hn];exact ih r _ h
   ·rename_i hn;rw [if_neg hn,if_neg hn]
 have e:=this (a.take j) (a.drop j) n h
 rwa [List.take_append_drop] at e
set_option maxRecDepth 100000 in
set_option maxHeartbeats 8000000 in
theorem Zrs (c:List (ByteArray × Zd)) (B:Nat) (v:Value) (w:World) (hB:B<=w.heap.size) (h:Zbq B w v c) (G:∀ q ∈ c,Zq6 q.2/\q.1.size<=9223372036854775) :
  Calls Tryz.prog 41 #[v] w fun e w'=>e=.returned (.int .i64 (Zam 0 c))/\Below w.heap.size w w':=by
 obtain ⟨pa,pc,rfl,L,R,h3⟩:=h
 have H3:=Za h3
 have HS:=Za G
 obtain ⟨m,hm⟩:∃ n,c.length=n:=⟨_,rfl⟩
 have HM:=Za hm
 rw [hm] at L |-
 clear h3 G hm
 go_enter Tryz.func41,Tryz.ntmps41
 go_wp2_with fail
 go_loopw [4,3] (fun i u wr=>∃ j:Nat,j<=m/\i=.int .i64 j/\u=.int .i64 (Zam 0 (c.take j))/\Below w.heap.size w wr) (fun i _ _=>m - (RowKit.intOf i).toNat)
 case atStart=>exact ⟨0,Nat.zero_le _,rfl,by simp [Zam],Below.refl _ _⟩
 case round =>
  obtain ⟨j,hj,rfl,rfl,s⟩:=hrel
  have l:=Za s
  have a0:=Ze8 (c.take j) 0 (fun q hq=>HS.out q (List.mem_of_mem_take hq)) (by omega)
  have a2:=Zb3 (c.take j) 0
  by_cases hgo:j<m/\Zam 0 (c.take j)<=3000
  ·obtain ⟨t,C⟩:=hgo
   have y:(j:Int)<m:=by omega
   obtain ⟨x,z⟩:∃ q,c[j]?=some q:=⟨_,List.getElem?_eq_getElem (by have:=HM.out;omega)⟩
   obtain ⟨bl,off,rfl,f,X⟩:=H3.out.resolve_left (by intro e;rw [e] at z;simp at z)
   obtain ⟨c0,N,T,U,v2,Q,V,v5,⟨d0,d1,d2,d3,K,M⟩,S⟩:=X j x z
   have d:Below B w wr:=s.mono hB
   have o:=HS.out x (List.mem_of_getElem? z)
   replace c0:=(d.cell (p:=⟨bl,off+j*7,none⟩) f).trans c0
   replace d0:=(d.cell (p:=⟨bl,off+j*7+1,none⟩) f).trans d0
   replace d1:=(d.cell (p:=⟨bl,off+j*7+2,none⟩) f).trans d1
   replace d2:=(d.cell (p:=⟨bl,off+j*7+3,none⟩) f).trans d2
   replace d3:=(d.cell (p:=⟨bl,off+j*7+4,none⟩) f).trans d3
   replace K:=(d.cell (p:=⟨bl,off+j*7+5,none⟩) f).trans K
   replace M:=(d.cell (p:=⟨bl,off+j*7+6,none⟩) f).trans M
   have F:Hid (Zam 0 (c.take (j+1))=Zam 0 (c.take j)+1+x.1.size+Zkb x.2 3000):=by
    show _=_
    rw [List.take_add_one,z]
    exact (Zmv _ _ _).trans (if_pos C)
   have I:=o.2
   have a1:=Zlw x.2 3000 o.1 (by omega)
   have a3:=Ziu x.2 3000
   have O:Hid (∀ W,Below wr.heap.size wr W->Calls Tryz.prog 82 #[.agg #[T,U,v2,Q,V,v5],.int .i64 3000] W fun e w'=>e=.returned (.int .i64 (Zkb x.2 3000))/\Below W.heap.size W w'):=fun W hb =>
    Jep x.2 B _ 3000 W (Nat.le_trans hB (Nat.le_trans l.out.size hb.size)) (S.below (d.trans (hb.mono (Nat.le_trans hB l.out.size)))) o.1 (by omega) (by omega)
   generalize Zkb x.2 3000=vz at *
   generalize Zam 0 (c.take j)=acc at *
   obtain ⟨xk,E⟩:∃ k,x.1=k:=⟨_,rfl⟩
   rw [E] at c0 N I F
   clear z X S d o E s
   go_upto_region 5 with fail
   have D:=Za ((Below.refl wr.heap.size wr).drew)
   have g0:∀ u:Up wr.drew,u.x.cell? ⟨bl,off+j*7,none⟩=some (.string xk):=fun u=>u.cell (show wr.drew.cell? _=_ from c0)
   have e0:∀ u:Up wr.drew,u.x.cell? ⟨bl,off+j*7+1,none⟩=some T:=fun u=>u.cell (show wr.drew.cell? _=_ from d0)
   have e1:∀ u:Up wr.drew,u.x.cell? ⟨bl,off+j*7+2,none⟩=some U:=fun u=>u.cell (show wr.drew.cell? _=_ from d1)
   have e2:∀ u:Up wr.drew,u.x.cell? ⟨bl,off+j*7+3,none⟩=some v2:=fun u=>u.cell (show wr.drew.cell? _=_ from d2)
   have e3:∀ u:Up wr.drew,u.x.cell? ⟨bl,off+j*7+4,none⟩=some Q:=fun u=>u.cell (show wr.drew.cell? _=_ from d3)
   have e4:∀ u:Up wr.drew,u.x.cell? ⟨bl,off+j*7+5,none⟩=some V:=fun u=>u.cell (show wr.drew.cell? _=_ from K)
   have e5:∀ u:Up wr.drew,u.x.cell? ⟨bl,off+j*7+6,none⟩=some v5:=fun u=>u.cell (show wr.drew.cell? _=_ from M)
   have g:Nonempty (Up wr.drew):=⟨⟨wr.drew,Below.refl _ _⟩⟩
   clear c0 d0 d1 d2 d3 K M
   refine Ze9 [([0,1,2,3,4,5,6,7,8,9,10,11,12,13],14)] [15] [16] (by kernel_rfl) (by kernel_rfl) ?_
   simp only [Zb9,Zcp,Zac,Zbn,Zrm]
   repeat (go_big_quiet_step (fail))
   refine wpQuiet_nil ?_
   clear g g0 e0 e1 e2 e3 e4 e5
   go_wp2_with (go_at_call 82;refine (O.out _ D.out).mono ?_;rintro e A ⟨rfl,y0⟩;have H:=Za y0;clear y0)
   have P:Hid (Below w.heap.size w A):=Below.on l.out (Below.on D.out H.out)
   refine ⟨H.out,?_⟩
   have g:Nonempty (Up A):=⟨⟨A,Below.refl _ _⟩⟩
   repeat (go_big_quiet_step (fail))
   refine wpQuiet_nil ?_
   clear g
   go_wp2_with fail
   go_roundw
   case rel=>exact ⟨j+1,by omega,by go_num,by rw [F.out],P.out⟩
   case measure=>simp [RowKit.intOf];omega
  ·have Y:Hid (Zam 0 (c.take j)=Zam 0 c):=by
    show _=_
    by_cases t:j<m
    ·exact (Zvc (fun h=>hgo ⟨t,h⟩)).symm
    ·rw [List.take_of_length_le (by have:=HM.out;omega)]
   generalize Zam 0 (c.take j)=acc at *
   clear s
   by_cases t:j<m
   ·have y:(j:Int)<m:=by omega
    have C:¬ acc<=3000:=fun h=>hgo ⟨t,h⟩
    clear hgo
    go_wp2_with fail
    go_ret
    exact ⟨by rw [Y.out];rfl,l.out⟩
   ·have y:¬ (j:Int)<m:=by omega
    clear hgo
    go_wp2_with fail
    go_ret
    exact ⟨by rw [Y.out];rfl,l.out⟩
end Go.Proofs.YthfilnflgahcjaaGreatDoor

namespace Go.Proofs.YthfilnflgahcjaaGreatDoor
open Go.RowKit Go.Shelf
set_option linter.all false
attribute [local go_sem] Oper.semAt_some
section
variable {α:Type} (f:Int->α->Int)
def gZ:Int->List α->Int
 | n,[]=>n
 | n,x::r=>if n<=3000 then gZ (f n x) r else n
theorem Zn8:∀ (a:List α) (n:Int) (q:α),gZ f n (a++[q])=if gZ f n a<=3000 then f (gZ f n a) q else gZ f n a
 | [],n,q=>by simp only [List.nil_append,gZ];rfl
 | k::r,n,q=>by
  simp only [List.cons_append,gZ]
  split
  ·exact Zn8 r _ q
  ·rename_i h;simp only [h,if_false]
theorem Zru {a:List α} {n:Int} {j:Nat} (h:¬ gZ f n (a.take j)<=3000):gZ f n a=gZ f n (a.take j):=by
 have:∀ (b r:List α) (n:Int),¬ gZ f n b<=3000->gZ f n (b++r)=gZ f n b:=by
  intro b
  induction b with
  | nil=>intro r n h;cases r with
   | nil=>rfl
   | cons x r=>simp only [gZ] at h;simp [gZ,h]
  | cons k b ih =>
   intro r n h
   simp only [List.cons_append,gZ] at h |-
   split at h
   ·rename_i hn;rw [if_pos hn,if_pos hn];exact ih r _ h
   ·rename_i hn;rw [if_neg hn,if_neg hn]
 have e:=this (a.take j) (a.drop j) n h
 rwa [List.take_append_drop] at e
theorem Jaw (M:Int):∀ (xs:List α) (n:Int),(∀ m x,x ∈ xs->0<=m->m<=3000->0<=f m x/\f m x<=M)->0<=n->n<=M->0<=gZ f n xs/\gZ f n xs<=M
 | [],n,_,h0,h=>by simp only [gZ];exact ⟨h0,h⟩
 | x::r,n,hf,h0,h=>by
  simp only [gZ]
  split
  ·rename_i hn
   have:=hf n x (by simp) h0 hn
   exact Jaw M r _ (fun m y G=>hf m y (by simp [G])) this.1 this.2
  ·exact ⟨h0,h⟩
end
def fN (n:Int) (x:Zj):Int:=Zai 3000 n x.labels+Zam 0 x.props
def fR (n:Int) (x:Zbr):Int:=n+1+x.type.size+Zam 0 x.props
def Zao (g:Zx):Bool:=if 60<g.nodes.length+g.rels.length then false else decide (gZ fR (gZ fN 0 g.nodes) g.rels<=3000)
structure Jax (g:Zx):Prop where
 ln:g.nodes.length<=140737488355328
 lr:g.rels.length<=140737488355328
 nl:∀ x ∈ g.nodes,∀ l ∈ x.labels,l.size<=140737488355328
 np:∀ x ∈ g.nodes,∀ q ∈ x.props,Zq6 q.2/\q.1.size<=9223372036854775
 rt:∀ x ∈ g.rels,x.type.size<=140737488355328
 rp:∀ x ∈ g.rels,∀ q ∈ x.props,Zq6 q.2/\q.1.size<=9223372036854775
theorem Jhp {g:Zx} (h:Jax g) (m:Int) (x:Zj) (Y:x ∈ g.nodes) (h0:0<=m) (h1:m<=3000):0<=fN m x/\fN m x<=20000000000000000:=by
 have a:=Zfk 3000 x.labels m
 have b:=Zit 3000 x.labels m 140737488358400 (fun y G=>by have:=h.nl x Y y G;omega) (by omega) (by omega)
 have c:=Zb3 x.props 0
 have d:=Ze8 x.props 0 (h.np x Y) (by omega)
 unfold fN;omega
theorem Jfg {g:Zx} (h:Jax g) (m:Int) (x:Zbr) (Y:x ∈ g.rels) (h0:0<=m) (h1:m<=3000):0<=fR m x/\fR m x<=20000000000000000:=by
 have a:=h.rt x Y
 have c:=Zb3 x.props 0
 have d:=Ze8 x.props 0 (h.rp x Y) (by omega)
 unfold fR;omega
set_option maxRecDepth 100000 in
set_option maxHeartbeats 8000000 in
theorem Zve (g:Zx) (v:Value) (B:Nat) (w:World) (hB:B<=w.heap.size) (h:Zp B w v g) (hs:Jax g) :
  Calls Tryz.prog 9 #[v] w fun e w'=>e=.returned (.bool (Zao g))/\Below w.heap.size w w':=by
 obtain ⟨na,nc,ra,rc,rfl,hr,hn⟩:=h
 obtain ⟨g6,f4,e0,r1,r2,r3⟩:=hr
 obtain ⟨rfl,rfl⟩:na=g6/\nc=f4:=by injection e0 with a b c;exact ⟨a,c⟩
 obtain ⟨g4,g5,e1,t1,t2,t3⟩:=hn
 obtain ⟨rfl,rfl⟩:ra=g4/\rc=g5:=by injection e1 with a b c;exact ⟨a,c⟩
 have f3:=Za r3
 have e6:=Za t3
 have HS:=Za hs
 have f5:=hs.ln
 have f7:=hs.lr
 obtain ⟨m,b0⟩:∃ m,g.nodes.length=m:=⟨_,rfl⟩
 have HM:=Za b0
 obtain ⟨m2,hm2⟩:∃ m,g.rels.length=m:=⟨_,rfl⟩
 have a8:=Za hm2
 have HG:Hid (Zao g=if 60<m+m2 then false else decide (gZ fR (gZ fN 0 g.nodes) g.rels<=3000)):=by show _=_;unfold Zao;rw [b0,hm2]
 rw [b0] at r1 f5 |-
 rw [hm2] at t1 f7 |-
 generalize g.nn=nn at *
 generalize g.nr=nr at *
 clear e0 e1 r3 t3 b0 hm2 hs
 obtain ⟨L,X⟩:∃ L,w.alloc (.cells #[.slice na m nc,.slice ra m2 rc,.int .i64 nn,.int .i64 nr] 25)=L:=⟨_,rfl⟩
 have b1:Hid (Below w.heap.size w L):=X▸(Below.refl _ _).alloc (Nat.le_refl _) _
 have c0:L.cell? ⟨w.heap.size,0,none⟩=some (.slice na m nc):=by rw [<- X];exact Zh _ _ _ _ _ rfl
 have c1:L.cell? ⟨w.heap.size,1,none⟩=some (.slice ra m2 rc):=by rw [<- X];exact Zh _ _ _ _ _ rfl
 have hz:w.heap.size<L.heap.size:=by rw [<- X];simp
 have d5:=Za X
 clear X
 by_cases hbig:60<m+m2
 ·have c9:(60:Int)<(m:Int)+m2:=by omega
  have HF:Hid (Zao g=false):=by show _=_;rw [HG.out,if_pos hbig]
  clear HG hbig
  go_enter Tryz.func9,Tryz.ntmps9
  go_wp2_with (rw [d5.out])
  go_ret
  exact ⟨by rw [HF.out];rfl,b1.out⟩
 have c9:¬ (60:Int)<(m:Int)+m2:=by omega
 have HF:Hid (Zao g=decide (gZ fR (gZ fN 0 g.nodes) g.rels<=3000)):=by show _=_;rw [HG.out,if_neg hbig]
 clear HG
 go_enter Tryz.func9,Tryz.ntmps9
 go_wp2_with (rw [d5.out])
 have HC:=Za (And.intro c0 (And.intro c1 hz))
 clear c0 c1
 go_loopw [4,3] (fun i u wr=>∃ j:Nat,j<=m/\i=.int .i64 j/\u=.int .i64 (gZ fN 0 (g.nodes.take j))/\Below L.heap.size L wr) (fun i _ _=>m - (RowKit.intOf i).toNat)
 case atStart=>exact ⟨0,Nat.zero_le _,rfl,by simp [gZ],Below.refl _ _⟩
 case round =>
  obtain ⟨j,hj,rfl,rfl,a5⟩:=hrel
  have b2:=Za a5
  have e7:Hid (Below w.heap.size w wr):=Below.on b1.out a5
  have g3:=Jaw fN 20000000000000000 (g.nodes.take j) 0 (fun mm y G=>Jhp HS.out mm y (List.mem_of_mem_take G)) (by omega) (by omega)
  have f0:=(a5.cell (p:=⟨w.heap.size,0,none⟩) HC.out.2.2).trans HC.out.1
  by_cases hgo:j<m/\gZ fN 0 (g.nodes.take j)<=3000
  ·obtain ⟨b3,c5⟩:=hgo
   have b4:(j:Int)<m:=by omega
   obtain ⟨x,Y⟩:∃ q,g.nodes[j]?=some q:=⟨_,List.getElem?_eq_getElem (by have:=HM.out;omega)⟩
   obtain ⟨bl,off,rfl,b9,hc⟩:=f3.out.resolve_left (by intro e;rw [e] at Y;simp at Y)
   obtain ⟨la,lc,pv,⟨d0,d1,d2⟩,⟨s1,s2⟩,d7,c8⟩:=hc j x Y
   have C:Below B w wr:=e7.out.mono hB
   have d3:=HS.out.np x (List.mem_of_getElem? Y)
   have b8:=Za (HS.out.nl x (List.mem_of_getElem? Y))
   replace d0:=(C.cell (p:=⟨bl,off+j*3,none⟩) b9).trans d0
   replace d1:=(C.cell (p:=⟨bl,off+j*3+1,none⟩) b9).trans d1
   replace d2:=(C.cell (p:=⟨bl,off+j*3+2,none⟩) b9).trans d2
   have a9:Hid (gZ fN 0 (g.nodes.take (j+1))=Zai 3000 (gZ fN 0 (g.nodes.take j)) x.labels+Zam 0 x.props):=by
    show _=_
    rw [List.take_add_one,Y]
    exact (Zn8 fN _ _ _).trans (if_pos c5)
   have c2:B<=wr.heap.size:=Nat.le_trans hB e7.out.size
   have d8:Hid (∀ W,Below wr.heap.size wr W->Calls Tryz.prog 41 #[pv] W fun e w'=>e=.returned (.int .i64 (Zam 0 x.props))/\Below W.heap.size W w'):=fun W hb =>
    Zrs x.props B pv W (Nat.le_trans c2 hb.size) (c8.below (C.trans (hb.mono c2))) d3
   have d9:Hid (∀ W,Below wr.heap.size wr W->Zbh B W la x.labels):=fun W hb=>d7.below (C.trans (hb.mono c2))
   obtain ⟨pa,pc,f9⟩:∃ pa pc,pv=.slice pa x.props.length pc:=by obtain ⟨pa,pc,e,_⟩:=c8;exact ⟨pa,pc,e⟩
   have e8:=Ze8 x.props 0 d3 (by omega)
   have d4:=Zb3 x.props 0
   generalize Zam 0 x.props=pz at *
   obtain ⟨U,d6⟩:∃ l,x.labels=l:=⟨_,rfl⟩
   rw [d6] at d1 s1 d9 a9 b8
   obtain ⟨n,hn⟩:∃ n,U.length=n:=⟨_,rfl⟩
   have HN:=Za hn
   rw [hn] at d1 s1
   generalize x.id=xi at *
   obtain ⟨K,b7⟩:∃ a,gZ fN 0 (g.nodes.take j)=a:=⟨_,rfl⟩
   rw [b7] at a9 g3 c5 |-
   clear Y hc c8 d6 d7 hn b7 d3
   subst f9
   generalize x.props.length=l3 at *
   go_upto_region 8 with fail
   have k1:(wr.alloc (.cells #[.int .i64 xi,.slice la n lc,.slice pa l3 pc] 73)).cell? ⟨wr.heap.size,1,none⟩=some (.slice la n lc):=Zh _ _ _ _ _ rfl
   have k2:(wr.alloc (.cells #[.int .i64 xi,.slice la n lc,.slice pa l3 pc] 73)).cell? ⟨wr.heap.size,2,none⟩=some (.slice pa l3 pc):=Zh _ _ _ _ _ rfl
   have a4:Hid (Below wr.heap.size wr (wr.alloc (.cells #[.int .i64 xi,.slice la n lc,.slice pa l3 pc] 73))):=(Below.refl _ _).alloc (Nat.le_refl _) _
   generalize wr.alloc (.cells #[.int .i64 xi,.slice la n lc,.slice pa l3 pc] 73)=W2 at *
   clear d0 d1 d2 f0 a5 C
   go_wp2_with fail
   go_loop [6,3] (fun k u=>∃ q:Nat,q<=n/\k=.int .i64 q/\u=.int .i64 (Zai 3000 K (U.take q))) (fun k _=>n - (RowKit.intOf k).toNat)
   case atStart=>exact ⟨0,Nat.zero_le _,rfl,by simp [Zai]⟩
   case round =>
    obtain ⟨q,hq,rfl,rfl⟩:=hrel
    have h2:=Zit 3000 (U.take q) K 140737488358400 (fun y G=>by have:=b8.out y (List.mem_of_mem_take G);omega) (by omega) (by omega)
    have g9:=Zfk 3000 (U.take q) K
    by_cases hgo3:q<n/\Zai 3000 K (U.take q)<=3000
    ·obtain ⟨V,b5⟩:=hgo3
     have a3:(q:Int)<n:=by omega
     have Q:q<U.length:=by have:=HN.out;omega
     obtain ⟨bk,ok,rfl,g8,b6⟩:=(d9.out W2 a4.out).resolve_left (by intro e;rw [e] at Q;simp at Q)
     have kc:=(b6 q Q).1
     have g7:=b8.out (U.getD q ⟨#[]⟩) (by rw [List.getD_eq_getElem?_getD,List.getElem?_eq_getElem Q];exact List.getElem_mem Q)
     have e9:Hid (Zai 3000 K (U.take (q+1))=Zai 3000 K (U.take q)+1+(U.getD q ⟨#[]⟩).size):=by
      show _=_
      rw [List.take_add_one,List.getElem?_eq_getElem Q,List.getD_eq_getElem?_getD,List.getElem?_eq_getElem Q]
      exact (Zjh 3000 _ _ _).trans (if_pos b5)
     generalize U.getD q ⟨#[]⟩=kx at *
     generalize Zai 3000 K (U.take q)=acc3 at *
     clear b6 Q
     go_wp2_with fail
     go_round
     case rel=>exact ⟨q+1,by omega,by go_num,by rw [e9.out]⟩
     case measure=>simp [RowKit.intOf];omega
    ·have e5:Hid (Zai 3000 K (U.take q)=Zai 3000 K U):=by
      show _=_
      by_cases V:q<n
      ·exact (Zne 3000 (fun h=>hgo3 ⟨V,h⟩)).symm
      ·rw [List.take_of_length_le (by have:=HN.out;omega)]
     generalize Zai 3000 K (U.take q)=acc3 at *
     by_cases V:q<n
     ·have a3:(q:Int)<n:=by omega
      have b5:¬ acc3<=3000:=fun h=>hgo3 ⟨V,h⟩
      clear hgo3
      go_wp2_with (go_at_call 41;refine (d8.out _ a4.out).mono ?_;rintro e w3 ⟨rfl,y0⟩;have N:=Za y0;clear y0)
      have c6:Hid (Below L.heap.size L w3):=Below.on b2.out (Below.on a4.out N.out)
      go_roundw
      case rel=>exact ⟨j+1,by omega,by go_num,by rw [a9.out,e5.out],c6.out⟩
      case measure=>simp [RowKit.intOf];omega
     ·have a3:¬ (q:Int)<n:=by omega
      clear hgo3
      go_wp2_with (go_at_call 41;refine (d8.out _ a4.out).mono ?_;rintro e w3 ⟨rfl,y0⟩;have N:=Za y0;clear y0)
      have c6:Hid (Below L.heap.size L w3):=Below.on b2.out (Below.on a4.out N.out)
      go_roundw
      case rel=>exact ⟨j+1,by omega,by go_num,by rw [a9.out,e5.out],c6.out⟩
      case measure=>simp [RowKit.intOf];omega
  ·have f2:Hid (gZ fN 0 (g.nodes.take j)=gZ fN 0 g.nodes):=by
    show _=_
    by_cases b3:j<m
    ·exact (Zru fN (fun h=>hgo ⟨b3,h⟩)).symm
    ·rw [List.take_of_length_le (by have:=HM.out;omega)]
   generalize gZ fN 0 (g.nodes.take j)=n1 at *
   clear a5
   by_cases b3:j<m
   ·have b4:(j:Int)<m:=by omega
    have c5:¬ n1<=3000:=fun h=>hgo ⟨b3,h⟩
    clear hgo
    go_wp2_with fail
    go_loopw [7,3] (fun i u wr=>∃ p:Nat,p<=m2/\i=.int .i64 p/\u=.int .i64 (gZ fR n1 (g.rels.take p))/\Below L.heap.size L wr) (fun i _ _=>m2 - (RowKit.intOf i).toNat)
    case atStart=>exact ⟨0,Nat.zero_le _,rfl,by simp [gZ],b2.out⟩
    case round =>
     obtain ⟨p,hp,rfl,rfl,A⟩:=hrel
     clear f0
     have f8:=Jaw fR 20000000000000000 (g.rels.take p) n1 (fun mm y G=>Jfg HS.out mm y (List.mem_of_mem_take G)) (by omega) (by omega)
     have f1:=(A.cell (p:=⟨w.heap.size,1,none⟩) HC.out.2.2).trans HC.out.2.1
     have o:Hid (Below w.heap.size w wr):=Below.on b1.out A
     have a1:=Za A
     by_cases hgo2:p<m2/\gZ fR n1 (g.rels.take p)<=3000
     ·obtain ⟨E,s⟩:=hgo2
      have H:(p:Int)<m2:=by omega
      obtain ⟨y,G⟩:∃ q,g.rels[p]?=some q:=⟨_,List.getElem?_eq_getElem (by have:=a8.out;omega)⟩
      obtain ⟨I,z,rfl,P,a7⟩:=e6.out.resolve_left (by intro e;rw [e] at G;simp at G)
      obtain ⟨T,⟨e0,e1,e2,e3,e4⟩,c3,O⟩:=a7 p y G
      have C:Below B w wr:=o.out.mono hB
      have R:=HS.out.rp y (List.mem_of_getElem? G)
      have f6:=HS.out.rt y (List.mem_of_getElem? G)
      replace e3:=(C.cell (p:=⟨I,z+p*5+3,none⟩) P).trans e3
      replace e4:=(C.cell (p:=⟨I,z+p*5+4,none⟩) P).trans e4
      have a6:Hid (gZ fR n1 (g.rels.take (p+1))=gZ fR n1 (g.rels.take p)+1+y.type.size+Zam 0 y.props):=by
       show _=_
       rw [List.take_add_one,G]
       exact (Zn8 fR _ _ _).trans (if_pos s)
      have a2:Hid (∀ W,Below wr.heap.size wr W->Calls Tryz.prog 41 #[T] W fun e w'=>e=.returned (.int .i64 (Zam 0 y.props))/\Below W.heap.size W w'):=fun W hb =>
       Zrs y.props B T W (Nat.le_trans hB (Nat.le_trans o.out.size hb.size)) (O.below (C.trans (hb.mono (Nat.le_trans hB o.out.size)))) R
      have e8:=Ze8 y.props 0 R (by omega)
      have d4:=Zb3 y.props 0
      generalize Zam 0 y.props=pz at *
      generalize y.type=ty at *
      generalize gZ fR n1 (g.rels.take p)=acc2 at *
      clear G a7 O R C e0 e1 e2 c3
      go_upto_region 16 with fail
      have a0:=Za ((Below.refl wr.heap.size wr).drew)
      have g0:∀ u:Up wr.drew,u.x.cell? ⟨w.heap.size,1,none⟩=some (.slice (some ⟨I,z,none⟩) m2 rc):=fun u=>u.cell (show wr.drew.cell? _=_ from f1)
      have g1:∀ u:Up wr.drew,u.x.cell? ⟨I,z+p*5+3,none⟩=some (.string ty):=fun u=>u.cell (show wr.drew.cell? _=_ from e3)
      have g2:∀ u:Up wr.drew,u.x.cell? ⟨I,z+p*5+4,none⟩=some T:=fun u=>u.cell (show wr.drew.cell? _=_ from e4)
      have D:Nonempty (Up wr.drew):=⟨⟨wr.drew,Below.refl _ _⟩⟩
      clear f1 e3 e4 A
      refine Ze9 [([0,1,2,3,4,5,6,7,8,9,10,11,12,13,14,15],16)] [17] [18] (by kernel_rfl) (by kernel_rfl) ?_
      simp only [Zb9,Zcp,Zac,Zbn,Zrm]
      repeat (go_big_quiet_step (fail))
      refine wpQuiet_nil ?_
      clear D g0 g1 g2
      go_wp2_with (go_at_call 41;refine (a2.out _ a0.out).mono ?_;rintro e S ⟨rfl,y0⟩;have N:=Za y0;clear y0)
      have c4:Hid (Below L.heap.size L S):=Below.on a1.out (Below.on a0.out N.out)
      refine ⟨N.out,?_⟩
      have D:Nonempty (Up S):=⟨⟨S,Below.refl _ _⟩⟩
      repeat (go_big_quiet_step (fail))
      refine wpQuiet_nil ?_
      clear D
      go_wp2_with fail
      go_roundw
      case rel=>exact ⟨p+1,by omega,by go_num,by rw [a6.out],c4.out⟩
      case measure=>simp [RowKit.intOf];omega
     ·have c7:Hid (gZ fR n1 (g.rels.take p)=gZ fR n1 g.rels):=by
       show _=_
       by_cases E:p<m2
       ·exact (Zru fR (fun h=>hgo2 ⟨E,h⟩)).symm
       ·rw [List.take_of_length_le (by have:=a8.out;omega)]
      have F:Hid (Zao g=decide (gZ fR n1 (g.rels.take p)<=3000)):=by show _=_;rw [HF.out,c7.out,f2.out]
      generalize gZ fR n1 (g.rels.take p)=acc2 at *
      clear A
      by_cases E:p<m2
      ·have H:(p:Int)<m2:=by omega
       have s:¬ acc2<=3000:=fun h=>hgo2 ⟨E,h⟩
       have t:Hid (Zao g=false):=by show _=_;rw [F.out];exact decide_eq_false s
       clear hgo2 F
       go_wp2_with fail
       go_ret
       exact ⟨by rw [t.out];rfl,o.out⟩
      ·have H:¬ (p:Int)<m2:=by omega
       clear hgo2
       by_cases s:acc2<=3000
       ·have t:Hid (Zao g=true):=by show _=_;rw [F.out];exact decide_eq_true s
        clear F
        go_wp2_with fail
        go_ret
        exact ⟨by rw [t.out];rfl,o.out⟩
       ·have t:Hid (Zao g=false):=by show _=_;rw [F.out];exact decide_eq_false s
        clear F
        go_wp2_with fail
        go_ret
        exact ⟨by rw [t.out];rfl,o.out⟩
   ·have b4:¬ (j:Int)<m:=by omega
    clear hgo
    go_wp2_with fail
    go_loopw [7,3] (fun i u wr=>∃ p:Nat,p<=m2/\i=.int .i64 p/\u=.int .i64 (gZ fR n1 (g.rels.take p))/\Below L.heap.size L wr) (fun i _ _=>m2 - (RowKit.intOf i).toNat)
    case atStart=>exact ⟨0,Nat.zero_le _,rfl,by simp [gZ],b2.out⟩
    case round =>
     obtain ⟨p,hp,rfl,rfl,A⟩:=hrel
     clear f0
     have f8:=Jaw fR 20000000000000000 (g.rels.take p) n1 (fun mm y G=>Jfg HS.out mm y (List.mem_of_mem_take G)) (by omega) (by omega)
     have f1:=(A.cell (p:=⟨w.heap.size,1,none⟩) HC.out.2.2).trans HC.out.2.1
     have o:Hid (Below w.heap.size w wr):=Below.on b1.out A
     have a1:=Za A
     by_cases hgo2:p<m2/\gZ fR n1 (g.rels.take p)<=3000
     ·obtain ⟨E,s⟩:=hgo2
      have H:(p:Int)<m2:=by omega
      obtain ⟨y,G⟩:∃ q,g.rels[p]?=some q:=⟨_,List.getElem?_eq_getElem (by have:=a8.out;omega)⟩
      obtain ⟨I,z,rfl,P,a7⟩:=e6.out.resolve_left (by intro e;rw [e] at G;simp at G)
      obtain ⟨T,⟨e0,e1,e2,e3,e4⟩,c3,O⟩:=a7 p y G
      have C:Below B w wr:=o.out.mono hB
      have R:=HS.out.rp y (List.mem_of_getElem? G)
      have f6:=HS.out.rt y (List.mem_of_getElem? G)
      replace e3:=(C.cell (p:=⟨I,z+p*5+3,none⟩) P).trans e3
      replace e4:=(C.cell (p:=⟨I,z+p*5+4,none⟩) P).trans e4
      have a6:Hid (gZ fR n1 (g.rels.take (p+1))=gZ fR n1 (g.rels.take p)+1+y.type.size+Zam 0 y.props):=by
       show _=_
       rw [List.take_add_one,G]
       exact (Zn8 fR _ _ _).trans (if_pos s)
      have a2:Hid (∀ W,Below wr.heap.size wr W->Calls Tryz.prog 41 #[T] W fun e w'=>e=.returned (.int .i64 (Zam 0 y.props))/\Below W.heap.size W w'):=fun W hb =>
       Zrs y.props B T W (Nat.le_trans hB (Nat.le_trans o.out.size hb.size)) (O.below (C.trans (hb.mono (Nat.le_trans hB o.out.size)))) R
      have e8:=Ze8 y.props 0 R (by omega)
      have d4:=Zb3 y.props 0
      generalize Zam 0 y.props=pz at *
      generalize y.type=ty at *
      generalize gZ fR n1 (g.rels.take p)=acc2 at *
      clear G a7 O R C e0 e1 e2 c3
      go_upto_region 16 with fail
      have a0:=Za ((Below.refl wr.heap.size wr).drew)
      have g0:∀ u:Up wr.drew,u.x.cell? ⟨w.heap.size,1,none⟩=some (.slice (some ⟨I,z,none⟩) m2 rc):=fun u=>u.cell (show wr.drew.cell? _=_ from f1)
      have g1:∀ u:Up wr.drew,u.x.cell? ⟨I,z+p*5+3,none⟩=some (.string ty):=fun u=>u.cell (show wr.drew.cell? _=_ from e3)
      have g2:∀ u:Up wr.drew,u.x.cell? ⟨I,z+p*5+4,none⟩=some T:=fun u=>u.cell (show wr.drew.cell? _=_ from e4)
      have D:Nonempty (Up wr.drew):=⟨⟨wr.drew,Below.refl _ _⟩⟩
      clear f1 e3 e4 A
      refine Ze9 [([0,1,2,3,4,5,6,7,8,9,10,11,12,13,14,15],16)] [17] [18] (by kernel_rfl) (by kernel_rfl) ?_
      simp only [Zb9,Zcp,Zac,Zbn,Zrm]
      repeat (go_big_quiet_step (fail))
      refine wpQuiet_nil ?_
      clear D g0 g1 g2
      go_wp2_with (go_at_call 41;refine (a2.out _ a0.out).mono ?_;rintro e S ⟨rfl,y0⟩;have N:=Za y0;clear y0)
      have c4:Hid (Below L.heap.size L S):=Below.on a1.out (Below.on a0.out N.out)
      refine ⟨N.out,?_⟩
      have D:Nonempty (Up S):=⟨⟨S,Below.refl _ _⟩⟩
      repeat (go_big_quiet_step (fail))
      refine wpQuiet_nil ?_
      clear D
      go_wp2_with fail
      go_roundw
      case rel=>exact ⟨p+1,by omega,by go_num,by rw [a6.out],c4.out⟩
      case measure=>simp [RowKit.intOf];omega
     ·have c7:Hid (gZ fR n1 (g.rels.take p)=gZ fR n1 g.rels):=by
       show _=_
       by_cases E:p<m2
       ·exact (Zru fR (fun h=>hgo2 ⟨E,h⟩)).symm
       ·rw [List.take_of_length_le (by have:=a8.out;omega)]
      have F:Hid (Zao g=decide (gZ fR n1 (g.rels.take p)<=3000)):=by show _=_;rw [HF.out,c7.out,f2.out]
      generalize gZ fR n1 (g.rels.take p)=acc2 at *
      clear A
      by_cases E:p<m2
      ·have H:(p:Int)<m2:=by omega
       have s:¬ acc2<=3000:=fun h=>hgo2 ⟨E,h⟩
       have t:Hid (Zao g=false):=by show _=_;rw [F.out];exact decide_eq_false s
       clear hgo2 F
       go_wp2_with fail
       go_ret
       exact ⟨by rw [t.out];rfl,o.out⟩
      ·have H:¬ (p:Int)<m2:=by omega
       clear hgo2
       by_cases s:acc2<=3000
       ·have t:Hid (Zao g=true):=by show _=_;rw [F.out];exact decide_eq_true s
        clear F
        go_wp2_with fail
        go_ret
        exact ⟨by rw [t.out];rfl,o.out⟩
       ·have t:Hid (Zao g=false):=by show _=_;rw [F.out];exact decide_eq_false s
        clear F
        go_wp2_with fail
        go_ret
        exact ⟨by rw [t.out];rfl,o.out⟩
end Go.Proofs.YthfilnflgahcjaaGreatDoor

